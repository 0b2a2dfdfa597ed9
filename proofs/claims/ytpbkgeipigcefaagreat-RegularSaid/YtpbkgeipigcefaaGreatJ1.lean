import Derived.Test.YtpbkgeipigcefaaGreatChecked
import Derived.WalkKit
import Derived.WalkSpells
import Derived.WalkLawsBesides
import Derived.Deep.QuietTactic
import Derived.BigQuiet
import Derived.Deep.LoopGhost
import Derived.Deep.RegionHeld3
import Derived.Deep.AppendLies
set_option linter.unusedVariables false
set_option linter.unusedSimpArgs false
set_option linter.unnecessarySimpa false
namespace Go.Proofs.YtpbkgeipigcefaaGreat
open Go.RowKit

def bs (l : List UInt8) : ByteArray := ⟨l.toArray⟩

theorem bs_size (l : List UInt8) : (bs l).size = l.length := rfl

theorem bs_toList (l : List UInt8) : (bs l).toList = l := by rw [ByteArray.toList_eq]; simp [bs]

theorem bs_of (s : ByteArray) : bs s.data.toList = s := by cases s; simp [bs]

theorem bs_append (a b : List UInt8) : bs a ++ bs b = bs (a ++ b) := by
  apply ByteArray.ext; simp [bs]

theorem bs_extract (l : List UInt8) (a b : Nat) : (bs l).extract a b = bs ((l.take b).drop a) := by
  apply ByteArray.ext; simp [bs, ByteArray.data_extract, List.extract_eq_take_drop, List.take_drop]
  by_cases h : a ≤ b
  · rw [Nat.add_sub_cancel' h]
  · rw [show b - a = 0 by omega, Nat.add_zero, List.drop_eq_nil_of_le (by simp only [List.length_take]; omega), List.drop_eq_nil_of_le (by simp only [List.length_take]; omega)]

theorem bs_get (l : List UInt8) (k : Nat) (h : k < (bs l).size) : (bs l)[k] = l[k]'h := rfl

structure Frm (S : List Nat) (w w' : World) : Prop where
  os : w'.os = w.os
  tape : w'.tape = w.tape
  output : w'.output = w.output
  size : w.heap.size ≤ w'.heap.size
  block : ∀ k, k < w.heap.size → k ∉ S → w'.heap[k]? = w.heap[k]?

theorem Frm.refl (S : List Nat) (w : World) : Frm S w w := ⟨rfl, rfl, rfl, Nat.le_refl _, fun _ _ _ => rfl⟩

theorem Frm.trans {S : List Nat} {a b c : World} (h : Frm S a b) (k : Frm S b c) : Frm S a c :=
  ⟨k.os.trans h.os, k.tape.trans h.tape, k.output.trans h.output, Nat.le_trans h.size k.size,
   fun i hi hS => (k.block i (Nat.lt_of_lt_of_le hi h.size) hS).trans (h.block i hi hS)⟩

theorem Frm.mono {S S' : List Nat} {a b : World} (h : Frm S a b) (hs : ∀ k, k < a.heap.size → k ∈ S → k ∈ S') : Frm S' a b :=
  ⟨h.os, h.tape, h.output, h.size, fun k hk hS => h.block k hk (fun hm => hS (hs k hk hm))⟩

theorem Frm.nil {S : List Nat} {a b : World} (h : Frm [] a b) : Frm S a b := h.mono (by simp)

theorem Frm.drew {S : List Nat} {a w : World} (h : Frm S a w) : Frm S a w.drew := ⟨h.os, h.tape, h.output, h.size, h.block⟩

theorem Frm.drewN {S : List Nat} {a w : World} (n : Nat) (h : Frm S a w) : Frm S a (w.drewN n) := ⟨h.os, h.tape, h.output, h.size, h.block⟩

theorem Frm.setCell {S : List Nat} {a w : World} (h : Frm S a w) {p : Addr} (hp : p.block ∈ S ∨ a.heap.size ≤ p.block) (u : Value) : Frm S a (w.setCell p u) := by
  refine ⟨h.os, h.tape, h.output, ?_, fun k hk hS => ?_⟩
  · have := h.size; simp [World.setCell]; exact this
  · have hne : k ≠ p.block := by
      intro e
      rcases hp with hp | hp
      · exact hS (e ▸ hp)
      · omega
    rw [Below.heap_setCell _ _ _ _ hne]
    exact h.block k hk hS

theorem Frm.alloc {S : List Nat} {a w : World} (h : Frm S a w) (o : Obj) : Frm S a (w.alloc o) := by
  refine ⟨h.os, h.tape, h.output, ?_, fun k hk hS => ?_⟩
  · have := h.size; simp; omega
  · rw [Below.heap_alloc _ _ _ (Nat.lt_of_lt_of_le hk h.size)]; exact h.block k hk hS

theorem Frm.grown {S : List Nat} {a w w' : World} {row : Option Nat} (h : Frm S a w) (hg : w.grownBy w' row) (hr : ∀ k, row = some k → k ∈ S ∨ a.heap.size ≤ k) : Frm S a w' := by
  refine ⟨hg.os.trans h.os, hg.tape.trans h.tape, hg.output.trans h.output, Nat.le_trans h.size hg.size, fun k hk hS => ?_⟩
  rw [hg.block k (Nat.lt_of_lt_of_le hk h.size) (fun e => (hr k e.symm).elim hS (fun h1 => by omega))]
  exact h.block k hk hS

theorem Frm.below {a b : World} (h : Frm [] a b) : Below a.heap.size a b := ⟨h.os, h.tape, h.output, h.size, fun k hk => h.block k hk (by simp)⟩

theorem Frm.cell {S : List Nat} {w w' : World} (h : Frm S w w') {p : Addr} (hp : p.block < w.heap.size) (hS : p.block ∉ S) : w'.cell? p = w.cell? p := World.cell?_of_block (h.block _ hp hS)

theorem Frm.frozen {S : List Nat} {w w' : World} (h : Frm S w w') {p : Addr} (hp : p.block < w.heap.size) (hS : p.block ∉ S) : w'.frozen? p = w.frozen? p := World.frozen?_of_block (h.block _ hp hS)

theorem ret_bool {a b : Bool} (h : a = b) : Ending.returned (.bool a) = .returned (.bool b) := by rw [h]

theorem ret_int {k : IntKind} {a b : Int} (h : a = b) : Ending.returned (.int k a) = .returned (.int k b) := by rw [h]

theorem ret_str {a b : List UInt8} (h : a = b) : Ending.returned (.string (bs a)) = .returned (.string (bs b)) := by rw [h]

theorem hide {p : Prop} (h : p) : Hid p := h

def digB (c : Int) : Bool := decide (48 ≤ c) && decide (c ≤ 57)

def letB (c : Int) : Bool := (decide (97 ≤ c) && decide (c ≤ 122)) || (decide (65 ≤ c) && decide (c ≤ 90))

def nameB (c : Int) : Bool := letB c || digB c || (c == 95)

set_option maxHeartbeats 400000 in
theorem isDigit_any (c : Int) (w : World) :
    Calls Tryz.prog 65 #[.int .u8 c] w fun e w' => e = .returned (.bool (digB c)) ∧ w = w' := by
  go_enter Tryz.func65, Tryz.ntmps65
  go_wp2
  all_goals go_ret
  all_goals exact ⟨ret_bool (by simp [digB, *] <;> omega), rfl⟩

set_option maxHeartbeats 400000 in
theorem isLetter_any (c : Int) (w : World) :
    Calls Tryz.prog 77 #[.int .u8 c] w fun e w' => e = .returned (.bool (letB c)) ∧ w = w' := by
  go_enter Tryz.func77, Tryz.ntmps77
  go_wp2
  all_goals go_ret
  all_goals exact ⟨ret_bool (by simp [letB, *] <;> omega), rfl⟩

set_option maxHeartbeats 400000 in
theorem isNameByte_any (c : Int) (w : World) :
    Calls Tryz.prog 66 #[.int .u8 c] w fun e w' => e = .returned (.bool (nameB c)) ∧ w = w' := by
  cases h1 : letB c <;> cases h2 : digB c
  all_goals
    go_enter Tryz.func66, Tryz.ntmps66
    go_wp2_with (first | (go_at_call 77; refine (isLetter_any _ _).mono ?_; rintro e w' ⟨rfl, rfl⟩) | (go_at_call 65; refine (isDigit_any _ _).mono ?_; rintro e w' ⟨rfl, rfl⟩))
    all_goals go_ret
    all_goals exact ⟨ret_bool (by simp [nameB, *]), rfl⟩

theorem drewN_two (w : World) (a b : Nat) : (w.drewN a).drewN b = w.drewN (a + b) := by simp [World.drewN, Nat.add_assoc]

def hd (l : List UInt8) : Int := ((l.head?.getD 0).toNat : Int)

theorem hd_drop (t : List UInt8) (i : Nat) (h : i < t.length) : hd (t.drop i) = (t[i].toNat : Int) := by
  unfold hd; rw [List.head?_drop, List.getElem?_eq_getElem h]; rfl

def nmB (c : UInt8) : Bool := nameB c.toNat

def dgB (c : UInt8) : Bool := digB c.toNat

def isNameL (n : List UInt8) : Bool := !(n.isEmpty) && decide (n.length ≤ 8) && !(digB (hd n)) && n.all nmB

theorem hd_cons (c : UInt8) (r : List UInt8) : hd (c :: r) = (c.toNat : Int) := rfl

set_option maxHeartbeats 400000 in
theorem IsName_any (n : List UInt8) (w : World) (hn : n.length ≤ 1048576) :
    Calls Tryz.prog 50 #[.string (bs n)] w fun e w' => e = .returned (.bool (isNameL n)) ∧ w = w' := by
  have hsz := bs_size n
  by_cases h0 : n.length = 0
  · have hg : Hid (isNameL n = false) := by
      show isNameL n = false
      rw [List.eq_nil_of_length_eq_zero h0]; rfl
    go_enter Tryz.func50, Tryz.ntmps50
    go_wp2
    go_ret
    exact ⟨ret_bool hg.out.symm, rfl⟩
  by_cases h8 : 8 < n.length
  · have hg : Hid (isNameL n = false) := by
      show isNameL n = false
      unfold isNameL; simp; intros; omega
    have hb : ((n.length : Int) == 0) = false := beq_eq_false_iff_ne.2 (by omega)
    go_enter Tryz.func50, Tryz.ntmps50
    go_wp2
    go_ret
    exact ⟨ret_bool hg.out.symm, rfl⟩
  have hb : ((n.length : Int) == 0) = false := beq_eq_false_iff_ne.2 (by omega)
  have hd8 : decide ((8 : Int) < (n.length : Int)) = false := decide_eq_false (by omega)
  have hd9 : decide (8 < n.length) = false := decide_eq_false (by omega)
  have hh : Hid (hd n = (n[0].toNat : Int)) := hd_drop n 0 (by omega)
  have hbg : (bs n)[0]'(by rw [hsz]; omega) = n[0] := rfl
  generalize hn0 : n[0] = c0 at hbg hh
  have Hn0 : Hid (n[0] = c0) := hn0
  clear hn0
  cases hd0 : digB c0.toNat
  · go_enter Tryz.func50, Tryz.ntmps50
    go_wp2_with (go_at_call 65; refine (isDigit_any _ _).mono ?_; rintro e w' ⟨rfl, rfl⟩)
    go_loopg [3] n.length (fun k i wr => ∃ j, j + k = n.length ∧ i = .int .i64 j ∧ wr = w ∧ (n.take j).all nmB = true)
    case atStart => exact ⟨0, by omega, rfl, rfl, by simp⟩
    case round =>
      obtain ⟨j, hj, rfl, rfl, hal⟩ := hrel
      by_cases hlt : j < n.length
      · have hbg2 : (bs n)[j]'(by rw [hsz]; omega) = n[j] := rfl
        generalize hnj : n[j] = cj at hbg2
        have Hnj : Hid (n[j] = cj) := hnj
        clear hnj
        cases hn2 : nameB cj.toNat
        · have hg : Hid (isNameL n = false) := by
            show isNameL n = false
            have : n.all nmB = false := by
              rw [Bool.eq_false_iff]; intro ha
              have := List.all_eq_true.1 ha (n[j]'hlt) (List.getElem_mem _)
              unfold nmB at this; rw [Hnj.out, hn2] at this; cases this
            unfold isNameL; rw [this]; simp
          have Hal : Hid ((n.take j).all nmB = true) := hal
          clear hal hh
          go_wp2_with (go_at_call 66; refine (isNameByte_any _ _).mono ?_; rintro e w' ⟨rfl, rfl⟩)
          go_ret
          exact ⟨ret_bool hg.out.symm, rfl⟩
        · have Hal : Hid ((n.take (j+1)).all nmB = true) := by
            show (n.take (j+1)).all nmB = true
            rw [List.take_succ_eq_append_getElem hlt, List.all_append, hal]; simp [nmB, hn2, Hnj.out]
          clear hal hh
          go_wp2_with (go_at_call 66; refine (isNameByte_any _ _).mono ?_; rintro e w' ⟨rfl, rfl⟩)
          go_roundg (gk - 1)
          case measure => omega
          case rel => exact ⟨j + 1, by omega, by go_num, rfl, Hal.out⟩
      · have hg : Hid (isNameL n = true) := by
          show isNameL n = true
          unfold isNameL
          have : n.take j = n := List.take_of_length_le (by omega)
          rw [this] at hal
          rw [hal, hh.out, hd0]; simp; exact ⟨by intro e; simp [e] at h0, by omega⟩
        clear hal hh
        go_wp2
        go_ret
        exact ⟨ret_bool hg.out.symm, rfl⟩
  · have hg : Hid (isNameL n = false) := by
      show isNameL n = false
      unfold isNameL; rw [hh.out, hd0]; simp
    go_enter Tryz.func50, Tryz.ntmps50
    go_wp2_with (go_at_call 65; refine (isDigit_any _ _).mono ?_; rintro e w' ⟨rfl, rfl⟩)
    go_ret
    exact ⟨ret_bool hg.out.symm, rfl⟩

theorem own_frm {S : List Nat} {w w' : World} {base : Nat} {e : TypeId} {size : Nat} {v : Value} {n : Nat} {xs : List Value} (h : w.ownsRow base e size v n xs) (f : Frm S w w') (hS : ∀ k, k ∈ S → k < base) : w'.ownsRow base e size v n xs := by
  refine ⟨h.1, ?_⟩
  rcases h.2 with hn | ⟨g, cap, cur, rfl, hb, hgg, rest⟩
  · exact .inl hn
  · refine .inr ⟨g, cap, cur, rfl, hb, ?_, rest⟩
    rw [f.block g (Array.getElem?_eq_some_iff.1 hgg).1 (fun hm => by have := hS g hm; omega)]
    exact hgg

theorem own_some {w : World} {base : Nat} {e : TypeId} {size : Nat} {v : Value} {n : Nat} {xs : List Value} (h : w.ownsRow base e size v n xs) (hn : v ≠ .slice none 0 0) : ∃ g cap, v = .slice (some ⟨g, 0, none⟩) n cap := by
  rcases h.2 with ⟨h1, _⟩ | ⟨g, cap, cur, rfl, _⟩
  · exact absurd h1 hn
  · exact ⟨g, cap, rfl⟩

theorem Frm.of_grown {w w' : World} {g n cap : Nat} (h : w.grownBy w' (Value.ownBlock (.slice (some ⟨g, 0, none⟩) n cap))) : Frm [g] w w' :=
  ⟨h.os, h.tape, h.output, h.size, fun k hk hS => h.block k hk (fun e => hS (by simp [Value.ownBlock] at e; simp [e]))⟩

theorem infoU8 : (Tryz.prog.info? 5).map (fun i => (i.zero, i.size, i.bytes)) = some (some (.int .u8 0), 1, 1) := by kernel_rfl

theorem infoStr : (Tryz.prog.info? 9).map (fun i => (i.zero, i.size, i.bytes)) = some (some (.string ByteArray.empty), 1, 16) := by kernel_rfl

def byt (l : List UInt8) : List Value := l.map fun c => .int .u8 c.toNat

def RS (base : Nat) (w : World) (v : Value) (L : List (List UInt8)) : Prop :=
  ∃ a cap, v = .slice a L.length cap ∧ L.length ≤ 1048576 ∧ L.length ≤ cap ∧ ∀ j (h : j < L.length), ∃ g off, a = some ⟨g, off, none⟩ ∧ base ≤ g ∧ w.cell? ⟨g, off + j, none⟩ = some (.string (bs L[j]))

theorem RS.frm {S : List Nat} {base : Nat} {w w' : World} {v : Value} {L : List (List UInt8)} (h : RS base w v L) (f : Frm S w w') (hS : ∀ k, k ∈ S → k < base) : RS base w' v L := by
  obtain ⟨a, cap, rfl, h1, h2, h3⟩ := h
  refine ⟨a, cap, rfl, h1, h2, fun j hj => ?_⟩
  obtain ⟨g, off, rfl, hb, hc⟩ := h3 j hj
  exact ⟨g, off, rfl, hb, by rw [f.cell (World.block_lt_of_cell? w _ hc) (fun hm => by have := hS g hm; omega)]; exact hc⟩

theorem RS.base {base base' : Nat} {w : World} {v : Value} {L : List (List UInt8)} (h : RS base w v L) (hb : base' ≤ base) : RS base' w v L := by
  obtain ⟨a, cap, rfl, h1, h2, h3⟩ := h
  refine ⟨a, cap, rfl, h1, h2, fun j hj => ?_⟩
  obtain ⟨g, off, rfl, hb, hc⟩ := h3 j hj
  exact ⟨g, off, rfl, by omega, hc⟩

theorem RS.drewN {base : Nat} {w : World} {v : Value} {L : List (List UInt8)} (h : RS base w v L) (n : Nat) : RS base (w.drewN n) v L := h

def sv (L : List (List UInt8)) : List Value := L.map fun s => .string (bs s)

theorem sv_append (L : List (List UInt8)) (s : List UInt8) : sv L ++ [.string (bs s)] = sv (L ++ [s]) := by simp [sv]

def SL (base : Nat) (w : World) (v : Value) (L : List (List UInt8)) : Prop := w.ownsRow base 9 1 v L.length (sv L)

theorem SL.frm {S : List Nat} {base : Nat} {w w' : World} {v : Value} {L : List (List UInt8)} (h : SL base w v L) (f : Frm S w w') (hS : ∀ k, k ∈ S → k < base) : SL base w' v L := own_frm h f hS

theorem SL.rs {base : Nat} {w : World} {v : Value} {L : List (List UInt8)} (h : SL base w v L) (hl : L.length ≤ 1048576) : RS base w v L := by
  rcases h.2 with ⟨rfl, h0⟩ | ⟨g, cap, cur, rfl, hb, hg, hnc, hcm, hcs, htake⟩
  · exact ⟨none, 0, by rw [h0], hl, by omega, fun j hj => by omega⟩
  · refine ⟨_, cap, rfl, hl, hnc, fun j hj => ⟨g, 0, rfl, hb, ?_⟩⟩
    have := h.cells (g := g) rfl j (.string (bs L[j])) (by simp [sv, hj])
    have hadd : (⟨g, 0, none⟩ : Addr).add j = ⟨g, 0 + j, none⟩ := by unfold Addr.add; split <;> simp_all
    rw [hadd] at this
    exact this

theorem add0 (b j : Nat) : (⟨b, 0, none⟩ : Addr).add j = ⟨b, j, none⟩ := by unfold Addr.add; split <;> simp_all

theorem wp_appS {ops : Array Oper} {rest : List Oper} {o : Oper} {a : Act} {Q : Exit → Act → World → Prop} (w : World) (hgd : o.guard = none) (s x : Operand)
    (ho : o.op = .call { callee := .builtin .append, args := #[s, x], argTypes := #[37, 37] })
    (base : Nat) (v : Value) (L : List (List UInt8)) (n : List UInt8) (b1 : Nat) (hs : a.eval s = v) (hown : SL base w v L) (hx : a.eval x = .slice (some ⟨b1, 0, none⟩) 1 1)
    (hc : w.cell? ⟨b1, 0, none⟩ = some (.string (bs n))) (hlen : L.length ≤ 1048576) (hbase : base ≤ w.heap.size)
    (h : ∀ g cap w', SL base w' (.slice (some ⟨g, 0, none⟩) (L.length + 1) cap) (L ++ [n]) → w.grownBy w' v.ownBlock → base ≤ g → wpList Tryz.prog ops Q rest (a.put o.dst (.slice (some ⟨g, 0, none⟩) (L.length + 1) cap)) w') :
    wpList Tryz.prog ops Q (o :: rest) a w := by
  obtain ⟨i0, hi, hz0, hz1, hz2⟩ := info_parts infoStr
  refine wpList_append_own w hgd s x 37 ho base 9 i0 (.string ByteArray.empty) 1 16 Tryz.underlying37 hi hz0 hz1 hz2 rfl (by decide) v L.length (sv L) hs hown ⟨b1, 0, none⟩ 1 1 [.string (bs n)] hx rfl ?_ (fun x hx => by simp at hx; subst hx; rfl) (by unfold maxLen; omega) (by omega) hbase ?_
  · intro j u hj
    have : j = 0 := by
      cases j with
      | zero => rfl
      | succ j => simp at hj
    subst this
    rw [add0]
    simp at hj
    rw [← hj]; exact hc
  · intro v' w' h1 h2 h3
    obtain ⟨g, cap, rfl⟩ := own_some h1 (fun e => by have := h3.1 e; simp at this)
    have h1' : SL base w' (.slice (some ⟨g, 0, none⟩) (L.length + 1) cap) (L ++ [n]) := by
      unfold SL; rw [← sv_append]; simpa using h1
    exact h g cap w' h1' h2 (h1.lt g rfl).1

theorem Frm.grown1 {a w w' : World} {v : Value} {base : Nat} (h : Frm [] a w) (hg : w.grownBy w' v.ownBlock) (hv : ∀ k, v.ownBlock = some k → a.heap.size ≤ k) : Frm [] a w' :=
  h.grown hg (fun k hk => Or.inr (hv k hk))

theorem SL.base {base base' : Nat} {w : World} {v : Value} {L : List (List UInt8)} (h : SL base w v L) (hb : base' ≤ base) : SL base' w v L := by
  refine ⟨h.1, ?_⟩
  rcases h.2 with hn | ⟨g, cap, cur, rfl, hg, rest⟩
  · exact .inl hn
  · exact .inr ⟨g, cap, cur, rfl, by omega, rest⟩

theorem SL.nil (base : Nat) (w : World) : SL base w (.slice none 0 0) [] := World.ownsRow_nil w base _ 1

theorem own_shape {w : World} {base : Nat} {e : TypeId} {size : Nat} {v : Value} {n : Nat} {xs : List Value} (h : w.ownsRow base e size v n xs) : ∃ a cap, v = .slice a n cap := by
  rcases h.2 with ⟨e, h0⟩ | ⟨g, cap, cur, e, _⟩
  · exact ⟨none, 0, by rw [e, h0]⟩
  · exact ⟨_, _, e⟩

theorem SL.shape {base : Nat} {w : World} {v : Value} {L : List (List UInt8)} (h : SL base w v L) : ∃ a cap, v = .slice a L.length cap := own_shape h

theorem own_frmT {S : List Nat} {w w' : World} {base : Nat} {e : TypeId} {size : Nat} {v : Value} {n : Nat} {xs : List Value} (h : w.ownsRow base e size v n xs) (f : Frm S w w')
    (hS : ∀ k, k ∈ S → k < base ∨ ∃ cur e' fz, w.heap[k]? = some (.cells cur e' fz) ∧ e' ≠ e) : w'.ownsRow base e size v n xs := by
  refine ⟨h.1, ?_⟩
  rcases h.2 with hn | ⟨g, cap, cur, rfl, hb, hgg, rest⟩
  · exact .inl hn
  · refine .inr ⟨g, cap, cur, rfl, hb, ?_, rest⟩
    rw [f.block g (Array.getElem?_eq_some_iff.1 hgg).1 (fun hm => by
      rcases hS g hm with h1 | ⟨cur', e', fz, h1, h2⟩
      · omega
      · rw [hgg] at h1; simp at h1; exact h2 h1.2.1.symm)]
    exact hgg

theorem own_lt {w : World} {base : Nat} {e : TypeId} {size : Nat} {v : Value} {n : Nat} {xs : List Value} (h : w.ownsRow base e size v n xs) (k : Nat) (hk : v.ownBlock = some k) : k < w.heap.size := (h.lt k hk).2

end Go.Proofs.YtpbkgeipigcefaaGreat

namespace Go.Proofs.YtpbkgeipigcefaaGreat
open Go.RowKit

def nv (k : IntKind) (L : List Nat) : List Value := L.map fun (n : Nat) => .int k n

theorem infoInt : (Tryz.prog.info? 3).map (fun i => (i.zero, i.size, i.bytes)) = some (some (.int .i64 0), 1, 8) := by kernel_rfl

theorem heap1 (w : World) (a : Obj) : (w.alloc a).heap[w.heap.size]? = some a := heap_alloc_new w a

def AB (w : World) (ab : Nat) (n : Int) (cl : List Nat) (va vn : Value) : Prop :=
  w.heap[ab]? = some (.cells (.int .i64 n :: (nv .u8 cl ++ [va, vn])).toArray 133 (0, 0)) ∧ cl.length = 256

theorem AB.lt {w : World} {ab : Nat} {n : Int} {cl : List Nat} {va vn : Value} (h : AB w ab n cl va vn) : ab < w.heap.size := (Array.getElem?_eq_some_iff.1 h.1).1

theorem AB.fz {w : World} {ab : Nat} {n : Int} {cl : List Nat} {va vn : Value} (h : AB w ab n cl va vn) (o : Nat) : w.frozen? ⟨ab, o, none⟩ = false := by simp [World.frozen?, h.1]

theorem AB.frm {S : List Nat} {w w' : World} {ab : Nat} {n : Int} {cl : List Nat} {va vn : Value} (h : AB w ab n cl va vn) (f : Frm S w w') (hS : ab ∉ S) : AB w' ab n cl va vn := ⟨(f.block ab h.lt hS).trans h.1, h.2⟩

theorem AB.c0 {w : World} {ab : Nat} {n : Int} {cl : List Nat} {va vn : Value} (h : AB w ab n cl va vn) : w.cell? ⟨ab, 0, none⟩ = some (.int .i64 n) := by
  simp [World.cell?, h.1]

theorem AB.cell {w : World} {ab : Nat} {n : Int} {cl : List Nat} {va vn : Value} (h : AB w ab n cl va vn) (c : Nat) (hc : c < 256) : w.cell? ⟨ab, 1 + c, none⟩ = some (.int .u8 (cl.getD c 0)) := by
  have hl : c < cl.length := by rw [h.2]; exact hc
  have e : (.int .i64 n :: (nv .u8 cl ++ [va, vn]))[1 + c]? = some (.int .u8 (cl.getD c 0)) := by
    rw [Nat.add_comm, List.getElem?_cons_succ, List.getElem?_append_left (by simp [nv]; exact hl)]
    simp [nv, hl]
  simp [World.cell?, h.1]
  simpa using e

theorem AB.set {w : World} {ab : Nat} {n : Int} {cl : List Nat} {va vn : Value} (h : AB w ab n cl va vn) (c m : Nat) (hc : c < 256) : AB (w.setCell ⟨ab, 1 + c, none⟩ (.int .u8 m)) ab n (cl.set c m) va vn := by
  refine ⟨?_, by rw [List.length_set]; exact h.2⟩
  have hl : c < cl.length := by rw [h.2]; exact hc
  have e : (.int .i64 n :: (nv .u8 cl ++ [va, vn])).set (1 + c) (.int .u8 m) = .int .i64 n :: (nv .u8 (cl.set c m) ++ [va, vn]) := by
    rw [Nat.add_comm, List.set_cons_succ, List.set_append_left _ _ (by simp [nv]; exact hl)]
    simp [nv, List.map_set]
  have h1 := h.1
  simp only [World.setCell, Array.getElem?_modify, h1, if_true, Option.map_some]
  rw [← e]
  simp

theorem AB.set0 {w : World} {ab : Nat} {n : Int} {cl : List Nat} {va vn : Value} (h : AB w ab n cl va vn) (m : Int) : AB (w.setCell ⟨ab, 0, none⟩ (.int .i64 m)) ab m cl va vn := by
  refine ⟨?_, h.2⟩
  have h1 := h.1
  simp only [World.setCell, Array.getElem?_modify, h1, if_true, Option.map_some]
  simp

theorem AB.setN {w : World} {ab : Nat} {n : Int} {cl : List Nat} {va vn : Value} (h : AB w ab n cl va vn) (v : Value) : AB (w.setCell ⟨ab, 258, none⟩ v) ab n cl va v := by
  refine ⟨?_, h.2⟩
  have e : (.int .i64 n :: (nv .u8 cl ++ [va, vn])).set 258 v = .int .i64 n :: (nv .u8 cl ++ [va, v]) := by
    rw [List.set_cons_succ, List.set_append_right _ _ (by simp [nv, h.2])]
    simp [nv, h.2]
  have h1 := h.1
  simp only [World.setCell, Array.getElem?_modify, h1, if_true, Option.map_some]
  rw [← e]
  simp

theorem AB.setA {w : World} {ab : Nat} {n : Int} {cl : List Nat} {va vn : Value} (h : AB w ab n cl va vn) (v : Value) : AB (w.setCell ⟨ab, 257, none⟩ v) ab n cl v vn := by
  refine ⟨?_, h.2⟩
  have e : (.int .i64 n :: (nv .u8 cl ++ [va, vn])).set 257 v = .int .i64 n :: (nv .u8 cl ++ [v, vn]) := by
    rw [List.set_cons_succ, List.set_append_right _ _ (by simp [nv, h.2])]
    simp [nv, h.2]
  have h1 := h.1
  simp only [World.setCell, Array.getElem?_modify, h1, if_true, Option.map_some]
  rw [← e]
  simp

theorem AB.cN {w : World} {ab : Nat} {n : Int} {cl : List Nat} {va vn : Value} (h : AB w ab n cl va vn) : w.cell? ⟨ab, 257, none⟩ = some va ∧ w.cell? ⟨ab, 258, none⟩ = some vn := by
  have e1 : (.int .i64 n :: (nv .u8 cl ++ [va, vn]))[257]? = some va := by
    rw [List.getElem?_cons_succ, List.getElem?_append_right (by simp [nv, h.2])]; simp [nv, h.2]
  have e2 : (.int .i64 n :: (nv .u8 cl ++ [va, vn]))[258]? = some vn := by
    rw [List.getElem?_cons_succ, List.getElem?_append_right (by simp [nv, h.2])]; simp [nv, h.2]
  simp only [World.cell?, h.1]
  exact ⟨by simpa using e1, by simpa using e2⟩

theorem autoInfoX : (Tryz.prog.info? 133).map (·.size) = some 259 := by kernel_rfl

theorem autoZeroX : Tryz.zeroCells133 = (Value.int .i64 0 :: (nv .u8 (List.replicate 256 0) ++ [.slice none 0 0, .slice none 0 0])).toArray := by kernel_rfl

theorem autoZero9 : Tryz.zeroCells133.size = 259 := by kernel_rfl

theorem autoAll : Tryz.zeroCells133.all (·.oneCell') = true := by kernel_rfl

theorem AB.new (w : World) : AB (w.alloc (Obj.cells Tryz.zeroCells133 133)) w.heap.size 0 (List.replicate 256 0) (.slice none 0 0) (.slice none 0 0) := by
  refine ⟨?_, List.length_replicate⟩
  rw [autoZeroX]
  exact heap1 _ _

theorem results_cell_tmpA {fn : Func} {p u : Tmp} {ty : TypeId} (h : fn.results = #[.cell p ty, .tmp u]) (tmps : Array Value) (w : World) (g : Nat) (cs : Array Value)
    (hp : tmps.getD p undef = .pointer (some ⟨g, 0, none⟩)) (hl : (loadVar ty ⟨g, 0, none⟩).run Tryz.prog w = .ok (.agg cs) w) :
    (results fn tmps).run Tryz.prog w = .ok (.tuple #[.agg cs, tmps.getD u undef]) w := by
  have hp' : tmps[p]?.getD undef = .pointer (some ⟨g, 0, none⟩) := by simpa using hp
  simp [results, h, hp', asAddr, hl]

theorem autoLoad {w : World} {g : Nat} {t : TypeId} {cs : Array Value} {fr : Nat × Nat} (hg : w.heap[g]? = some (.cells cs t fr)) (hs : cs.size = 259) : (loadVar 133 ⟨g, 0, none⟩).run Tryz.prog w = .ok (.agg cs) w :=
  run_loadVar_row w g t 133 cs fr _ hg Tryz.underlying133 rfl (by rw [hs]; exact autoInfoX)

theorem Frm.setRow (w : World) (g : Nat) (cs : Array Value) : Frm [g] w (w.setRow g cs) := by
  refine ⟨rfl, rfl, rfl, by simp [World.setRow], fun k hk hS => ?_⟩
  simp at hS
  simp only [World.setRow, Array.getElem?_modify]
  rw [if_neg (fun e => hS e.symm)]

theorem setRow_at {w : World} {g : Nat} {old cs : Array Value} {t : TypeId} (h : w.heap[g]? = some (.cells old t (0, 0))) : (w.setRow g cs).heap[g]? = some (.cells cs t (0, 0)) := by
  simp only [World.setRow, Array.getElem?_modify, h, if_true, Option.map_some]

theorem store_row {w : World} {g : Nat} {old cs : Array Value} {t : TypeId} (h : w.heap[g]? = some (.cells old t (0, 0))) (hs : cs.size = old.size) (h1 : cs.all (·.oneCell') = true) : (storeCells ⟨g, 0, none⟩ cs.toList).run Tryz.prog w = .ok () (w.setRow g cs) := by
  have := run_storeCells_from (P := Tryz.prog) g t cs.toList 0 old w h (by simp; omega) (fun v hv => (Array.all_eq_true_iff_forall_mem.1 h1) v (by simpa using hv))
  simpa using this

theorem infoBool : (Tryz.prog.info? 4).map (fun i => (i.zero, i.size, i.bytes)) = some (some (.bool false), 1, 1) := by kernel_rfl

theorem wp_autoLoad {o : Oper} {a : Act} {w : World} {K : Act → World → Prop} {Q : Exit → Act → World → Prop} (x : Operand) (ho : o.op = .load 133 x) (g : Nat) (hx : a.eval x = .pointer (some ⟨g, 0, none⟩)) (cs : Array Value) (hl : (loadVar 133 ⟨g, 0, none⟩).run Tryz.prog w = .ok (.agg cs) w) (h : K (a.put o.dst (.agg cs)) w) : o.wp Tryz.prog a w K Q := by
  unfold Oper.wp execOp
  simp only [ho, hx, Instr.loadAt, Instr.sureAddr, Sem.run_bind, Sem.run_pure, Result.andThen_ok, hl]
  exact h

end Go.Proofs.YtpbkgeipigcefaaGreat

namespace Go.Proofs.YtpbkgeipigcefaaGreat
open Go.RowKit

def SC (w : World) (b : Nat) (t : List UInt8) (i : Nat) : Prop :=
  w.heap[b]? = some (.cells #[.string (bs t), .int .i64 i] 147 (0, 0)) ∧ i ≤ t.length ∧ t.length ≤ 1048576
theorem SC.c0 {w : World} {b : Nat} {t : List UInt8} {i : Nat} (h : SC w b t i) : w.cell? ⟨b, 0, none⟩ = some (.string (bs t)) := by
  simp [World.cell?, h.1]
theorem SC.c1 {w : World} {b : Nat} {t : List UInt8} {i : Nat} (h : SC w b t i) : w.cell? ⟨b, 1, none⟩ = some (.int .i64 i) := by
  simp [World.cell?, h.1]
theorem SC.fz {w : World} {b : Nat} {t : List UInt8} {i : Nat} (h : SC w b t i) (o : Nat) : w.frozen? ⟨b, o, none⟩ = false := by
  simp [World.frozen?, h.1]
theorem SC.lt {w : World} {b : Nat} {t : List UInt8} {i : Nat} (h : SC w b t i) : b < w.heap.size :=
  (Array.getElem?_eq_some_iff.1 h.1).1
theorem SC.frm {S : List Nat} {w w' : World} {b : Nat} {t : List UInt8} {i : Nat} (h : SC w b t i) (f : Frm S w w') (hS : b ∉ S) : SC w' b t i :=
  ⟨(f.block b h.lt hS).trans h.1, h.2⟩
theorem SC.drew {w : World} {b : Nat} {t : List UInt8} {i : Nat} (h : SC w b t i) : SC w.drew b t i := h
theorem SC.drewN {w : World} {b : Nat} {t : List UInt8} {i : Nat} (n : Nat) (h : SC w b t i) : SC (w.drewN n) b t i := h
theorem SC.set {w : World} {b : Nat} {t : List UInt8} {i : Nat} (h : SC w b t i) (j : Nat) (hj : j ≤ t.length) : SC (w.setCell ⟨b, 1, none⟩ (.int .i64 j)) b t j := by
  refine ⟨?_, hj, h.2.2⟩
  simp [World.setCell, Array.getElem?_modify, h.1]
def At (w : World) (b : Nat) (t l : List UInt8) : Prop := ∃ i, SC w b t i ∧ t.drop i = l
theorem At.frm {S : List Nat} {w w' : World} {b : Nat} {t l : List UInt8} (h : At w b t l) (f : Frm S w w') (hS : b ∉ S) : At w' b t l := by
  obtain ⟨i, h1, h2⟩ := h; exact ⟨i, h1.frm f hS, h2⟩
theorem At.lt {w : World} {b : Nat} {t l : List UInt8} (h : At w b t l) : b < w.heap.size := by
  obtain ⟨i, h1, _⟩ := h; exact h1.lt

end Go.Proofs.YtpbkgeipigcefaaGreat

namespace Go.Proofs.YtpbkgeipigcefaaGreat
open Go.RowKit

def plainB (c : Int) : Bool := decide (32 ≤ c) && decide (c ≤ 126)

set_option maxHeartbeats 400000 in
theorem isPlain_any (c : Int) (w : World) :
    Calls Tryz.prog 115 #[.int .u8 c] w fun e w' => e = .returned (.bool (plainB c)) ∧ w = w' := by
  go_enter Tryz.func115, Tryz.ntmps115
  go_wp2
  all_goals go_ret
  all_goals exact ⟨ret_bool (by simp [plainB, *] <;> omega), rfl⟩

set_option maxHeartbeats 400000 in
theorem peek_any (b : Nat) (t l : List UInt8) (w : World) (h : At w b t l) :
    Calls Tryz.prog 86 #[.pointer (some ⟨b, 0, none⟩)] w fun e w' => e = .returned (.int .u8 (hd l)) ∧ ∃ n, w' = w.drewN n := by
  obtain ⟨i, h1, h2⟩ := h
  have c0 := h1.c0
  have c1 := h1.c1
  have hi := h1.2.1
  have ht := h1.2.2
  have hsz := bs_size t
  by_cases hlt : i < t.length
  · have hg : Hid (hd l = (t[i].toNat : Int)) := by rw [← h2]; exact hd_drop t i hlt
    have hbg := bs_get t i (by rw [hsz]; exact hlt)
    clear h2 h1
    go_enter Tryz.func86, Tryz.ntmps86
    go_wp2
    go_quiet (fail)
    go_wp2
    go_quiet (fail)
    go_wp2
    go_ret
    exact ⟨ret_int hg.out.symm, _, drewN_two _ _ _⟩
  · have hg : Hid (hd l = 0) := by rw [← h2, List.drop_eq_nil_of_le (by omega)]; rfl
    clear h2 h1
    go_enter Tryz.func86, Tryz.ntmps86
    go_wp2
    go_quiet (fail)
    go_wp2
    go_ret
    exact ⟨ret_int hg.out.symm, _, rfl⟩

set_option maxHeartbeats 400000 in
theorem atEnd_any (b : Nat) (t l : List UInt8) (w : World) (h : At w b t l) :
    Calls Tryz.prog 80 #[.pointer (some ⟨b, 0, none⟩)] w fun e w' => e = .returned (.bool l.isEmpty) ∧ ∃ n, w' = w.drewN n := by
  obtain ⟨i, h1, h2⟩ := h
  have c0 := h1.c0
  have c1 := h1.c1
  have hi := h1.2.1
  have ht := h1.2.2
  have hsz := bs_size t
  have hg : Hid (l.isEmpty = decide (t.length ≤ i)) := by
    show l.isEmpty = decide (t.length ≤ i)
    rw [← h2, Bool.eq_iff_iff]; simp
  clear h2 h1
  go_enter Tryz.func80, Tryz.ntmps80
  go_wp2
  go_quiet (fail)
  go_wp2
  go_ret
  exact ⟨ret_bool hg.out.symm, _, rfl⟩

def sTake (wd l : List UInt8) : Bool := wd.isPrefixOf l
def sRest (wd l : List UInt8) : List UInt8 := if wd.isPrefixOf l then l.drop wd.length else l

theorem cut_prefix (t wd : List UInt8) (i : Nat) (h : i + wd.length ≤ t.length) : (List.drop i (List.take (i + wd.length) t) == wd) = wd.isPrefixOf (t.drop i) := by
  rw [Bool.eq_iff_iff, List.isPrefixOf_iff_prefix, beq_iff_eq, List.prefix_iff_eq_take, List.drop_take, Nat.add_sub_cancel_left]
  exact eq_comm

set_option maxHeartbeats 400000 in
theorem take_any (b : Nat) (t l wd : List UInt8) (w : World) (h : At w b t l) (hw : wd.length ≤ 1048576) :
    Calls Tryz.prog 78 #[.pointer (some ⟨b, 0, none⟩), .string (bs wd)] w fun e w' => e = .returned (.bool (sTake wd l)) ∧ At w' b t (sRest wd l) ∧ Frm [b] w w' := by
  obtain ⟨i, h1, h2⟩ := h
  have c0 := h1.c0
  have c1 := h1.c1
  have hf := h1.fz 1
  have hi := h1.2.1
  have ht := h1.2.2
  have hsz := bs_size t
  have hsw := bs_size wd
  have hx := bs_extract t
  have hl := bs_toList
  have H1 : Hid (SC w b t i) := h1
  have H2 : Hid (List.drop i t = l) := h2
  clear h1 h2
  by_cases hlt : i + wd.length ≤ t.length
  · have hd1 : decide ((t.length : Int) < (i : Int) + (wd.length : Int)) = false := by simp; omega
    have hd2 : decide (t.length < i + wd.length) = false := by simp; omega
    cases hp : wd.isPrefixOf l
    · have he : (List.drop i (List.take (i + wd.length) t) == wd) = false := by rw [cut_prefix t wd i hlt, H2.out, hp]
      have Hp : Hid (wd.isPrefixOf l = false) := hp
      clear hp
      go_enter Tryz.func78, Tryz.ntmps78
      go_wp2
      go_quiet (fail)
      go_wp2
      go_ret
      exact ⟨ret_bool (by simp [sTake, Hp.out]), ⟨i, H1.out.drewN _, by simp [sRest, Hp.out, H2.out]⟩, (Frm.refl _ _).drewN _⟩
    · have he : (List.drop i (List.take (i + wd.length) t) == wd) = true := by rw [cut_prefix t wd i hlt, H2.out, hp]
      have Hp : Hid (wd.isPrefixOf l = true) := hp
      clear hp
      go_enter Tryz.func78, Tryz.ntmps78
      go_wp2
      go_quiet (fail)
      go_wp2
      go_ret
      refine ⟨ret_bool (by simp [sTake, Hp.out]), ⟨i + wd.length, ?_, by unfold sRest; rw [if_pos Hp.out, ← H2.out, List.drop_drop]⟩, ?_⟩
      · exact (H1.out.drewN _).set _ hlt
      · exact ((Frm.refl _ _).drewN _).setCell (by simp) _
  · have hd1 : decide ((t.length : Int) < (i : Int) + (wd.length : Int)) = true := by simp; omega
    have hd2 : decide (t.length < i + wd.length) = true := by simp; omega
    have Hp : Hid (wd.isPrefixOf l = false) := by
      show wd.isPrefixOf l = false
      rw [Bool.eq_false_iff]
      intro h
      have := (List.isPrefixOf_iff_prefix.1 h).length_le
      rw [← H2.out, List.length_drop] at this
      omega
    go_enter Tryz.func78, Tryz.ntmps78
    go_wp2
    go_quiet (fail)
    go_wp2
    go_ret
    exact ⟨ret_bool (by simp [sTake, Hp.out]), ⟨i, H1.out.drewN _, by simp [sRest, Hp.out, H2.out]⟩, (Frm.refl _ _).drewN _⟩

end Go.Proofs.YtpbkgeipigcefaaGreat

namespace Go.Proofs.YtpbkgeipigcefaaGreat
open Go.RowKit

end Go.Proofs.YtpbkgeipigcefaaGreat

