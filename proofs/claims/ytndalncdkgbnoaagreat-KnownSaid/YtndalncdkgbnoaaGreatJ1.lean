import Derived.Test.YtndalncdkgbnoaaGreatChecked
import Derived.WalkKit
import Derived.WalkSpells
import Derived.WalkLawsBesides
import Derived.Deep.QuietTactic
import Derived.BigQuiet
import Derived.Deep.LoopGhost
import Derived.Deep.RegionHeld3
import Derived.Deep.AppendLies
set_option linter.unusedVariables false
set_option linter.unusedSimpArgs false
set_option linter.unnecessarySimpa false
namespace Go.Proofs.YtndalncdkgbnoaaGreat
open Go.RowKit

def bs (l : List UInt8) : ByteArray := ⟨l.toArray⟩

theorem bs_size (l : List UInt8) : (bs l).size = l.length := rfl

theorem bs_toList (l : List UInt8) : (bs l).toList = l := by rw [ByteArray.toList_eq]; simp [bs]

theorem bs_append (a b : List UInt8) : bs a ++ bs b = bs (a ++ b) := by
  apply ByteArray.ext; simp [bs]

theorem bs_extract (l : List UInt8) (a b : Nat) : (bs l).extract a b = bs ((l.take b).drop a) := by
  apply ByteArray.ext; simp [bs, ByteArray.data_extract, List.extract_eq_take_drop, List.take_drop]
  by_cases h : a ≤ b
  · rw [Nat.add_sub_cancel' h]
  · rw [show b - a = 0 by omega, Nat.add_zero, List.drop_eq_nil_of_le (by simp only [List.length_take]; omega), List.drop_eq_nil_of_le (by simp only [List.length_take]; omega)]

theorem bs_get (l : List UInt8) (k : Nat) (h : k < (bs l).size) : (bs l)[k] = l[k]'h := rfl

structure Frm (S : List Nat) (w w' : World) : Prop where
  os : w'.os = w.os
  tape : w'.tape = w.tape
  output : w'.output = w.output
  size : w.heap.size ≤ w'.heap.size
  block : ∀ k, k < w.heap.size → k ∉ S → w'.heap[k]? = w.heap[k]?

theorem Frm.refl (S : List Nat) (w : World) : Frm S w w := ⟨rfl, rfl, rfl, Nat.le_refl _, fun _ _ _ => rfl⟩

theorem Frm.trans {S : List Nat} {a b c : World} (h : Frm S a b) (k : Frm S b c) : Frm S a c :=
  ⟨k.os.trans h.os, k.tape.trans h.tape, k.output.trans h.output, Nat.le_trans h.size k.size,
   fun i hi hS => (k.block i (Nat.lt_of_lt_of_le hi h.size) hS).trans (h.block i hi hS)⟩

theorem Frm.mono {S S' : List Nat} {a b : World} (h : Frm S a b) (hs : ∀ k, k < a.heap.size → k ∈ S → k ∈ S') : Frm S' a b :=
  ⟨h.os, h.tape, h.output, h.size, fun k hk hS => h.block k hk (fun hm => hS (hs k hk hm))⟩

theorem Frm.nil {S : List Nat} {a b : World} (h : Frm [] a b) : Frm S a b := h.mono (by simp)

theorem Frm.drew {S : List Nat} {a w : World} (h : Frm S a w) : Frm S a w.drew := ⟨h.os, h.tape, h.output, h.size, h.block⟩

theorem Frm.drewN {S : List Nat} {a w : World} (n : Nat) (h : Frm S a w) : Frm S a (w.drewN n) := ⟨h.os, h.tape, h.output, h.size, h.block⟩

theorem Frm.setCell {S : List Nat} {a w : World} (h : Frm S a w) {p : Addr} (hp : p.block ∈ S ∨ a.heap.size ≤ p.block) (u : Value) : Frm S a (w.setCell p u) := by
  refine ⟨h.os, h.tape, h.output, ?_, fun k hk hS => ?_⟩
  · have := h.size; simp [World.setCell]; exact this
  · have hne : k ≠ p.block := by
      intro e
      rcases hp with hp | hp
      · exact hS (e ▸ hp)
      · omega
    rw [Below.heap_setCell _ _ _ _ hne]
    exact h.block k hk hS

theorem Frm.alloc {S : List Nat} {a w : World} (h : Frm S a w) (o : Obj) : Frm S a (w.alloc o) := by
  refine ⟨h.os, h.tape, h.output, ?_, fun k hk hS => ?_⟩
  · have := h.size; simp; omega
  · rw [Below.heap_alloc _ _ _ (Nat.lt_of_lt_of_le hk h.size)]; exact h.block k hk hS

theorem Frm.grown {S : List Nat} {a w w' : World} {row : Option Nat} (h : Frm S a w) (hg : w.grownBy w' row) (hr : ∀ k, row = some k → k ∈ S ∨ a.heap.size ≤ k) : Frm S a w' := by
  refine ⟨hg.os.trans h.os, hg.tape.trans h.tape, hg.output.trans h.output, Nat.le_trans h.size hg.size, fun k hk hS => ?_⟩
  rw [hg.block k (Nat.lt_of_lt_of_le hk h.size) (fun e => (hr k e.symm).elim hS (fun h1 => by omega))]
  exact h.block k hk hS

theorem Frm.below {a b : World} (h : Frm [] a b) : Below a.heap.size a b := ⟨h.os, h.tape, h.output, h.size, fun k hk => h.block k hk (by simp)⟩

theorem Frm.cell {S : List Nat} {w w' : World} (h : Frm S w w') {p : Addr} (hp : p.block < w.heap.size) (hS : p.block ∉ S) : w'.cell? p = w.cell? p := World.cell?_of_block (h.block _ hp hS)

theorem Frm.frozen {S : List Nat} {w w' : World} (h : Frm S w w') {p : Addr} (hp : p.block < w.heap.size) (hS : p.block ∉ S) : w'.frozen? p = w.frozen? p := World.frozen?_of_block (h.block _ hp hS)

theorem ret_bool {a b : Bool} (h : a = b) : Ending.returned (.bool a) = .returned (.bool b) := by rw [h]

theorem ret_int {k : IntKind} {a b : Int} (h : a = b) : Ending.returned (.int k a) = .returned (.int k b) := by rw [h]

theorem hide {p : Prop} (h : p) : Hid p := h

def digB (c : Int) : Bool := decide (48 ≤ c) && decide (c ≤ 57)

def letB (c : Int) : Bool := (decide (97 ≤ c) && decide (c ≤ 122)) || (decide (65 ≤ c) && decide (c ≤ 90))

def nameB (c : Int) : Bool := letB c || digB c || (c == 95)

set_option maxHeartbeats 400000 in
theorem isDigit_any (c : Int) (w : World) :
    Calls Tryz.prog 38 #[.int .u8 c] w fun e w' => e = .returned (.bool (digB c)) ∧ w = w' := by
  go_enter Tryz.func38, Tryz.ntmps38
  go_wp2
  all_goals go_ret
  all_goals exact ⟨ret_bool (by simp [digB, *] <;> omega), rfl⟩

set_option maxHeartbeats 400000 in
theorem isLetter_any (c : Int) (w : World) :
    Calls Tryz.prog 50 #[.int .u8 c] w fun e w' => e = .returned (.bool (letB c)) ∧ w = w' := by
  go_enter Tryz.func50, Tryz.ntmps50
  go_wp2
  all_goals go_ret
  all_goals exact ⟨ret_bool (by simp [letB, *] <;> omega), rfl⟩

set_option maxHeartbeats 400000 in
theorem isNameByte_any (c : Int) (w : World) :
    Calls Tryz.prog 39 #[.int .u8 c] w fun e w' => e = .returned (.bool (nameB c)) ∧ w = w' := by
  cases h1 : letB c <;> cases h2 : digB c
  all_goals
    go_enter Tryz.func39, Tryz.ntmps39
    go_wp2_with (first | (go_at_call 50; refine (isLetter_any _ _).mono ?_; rintro e w' ⟨rfl, rfl⟩) | (go_at_call 38; refine (isDigit_any _ _).mono ?_; rintro e w' ⟨rfl, rfl⟩))
    all_goals go_ret
    all_goals exact ⟨ret_bool (by simp [nameB, *]), rfl⟩

theorem drewN_two (w : World) (a b : Nat) : (w.drewN a).drewN b = w.drewN (a + b) := by simp [World.drewN, Nat.add_assoc]

def hd (l : List UInt8) : Int := ((l.head?.getD 0).toNat : Int)

theorem hd_drop (t : List UInt8) (i : Nat) (h : i < t.length) : hd (t.drop i) = (t[i].toNat : Int) := by
  unfold hd; rw [List.head?_drop, List.getElem?_eq_getElem h]; rfl

def nmB (c : UInt8) : Bool := nameB c.toNat

def dgB (c : UInt8) : Bool := digB c.toNat

def isNameL (n : List UInt8) : Bool := !(n.isEmpty) && decide (n.length ≤ 8) && !(digB (hd n)) && n.all nmB

theorem hd_cons (c : UInt8) (r : List UInt8) : hd (c :: r) = (c.toNat : Int) := rfl

set_option maxHeartbeats 400000 in
theorem IsName_any (n : List UInt8) (w : World) (hn : n.length ≤ 1048576) :
    Calls Tryz.prog 23 #[.string (bs n)] w fun e w' => e = .returned (.bool (isNameL n)) ∧ w = w' := by
  have hsz := bs_size n
  by_cases h0 : n.length = 0
  · have hg : Hid (isNameL n = false) := by
      show isNameL n = false
      rw [List.eq_nil_of_length_eq_zero h0]; rfl
    go_enter Tryz.func23, Tryz.ntmps23
    go_wp2
    go_ret
    exact ⟨ret_bool hg.out.symm, rfl⟩
  by_cases h8 : 8 < n.length
  · have hg : Hid (isNameL n = false) := by
      show isNameL n = false
      unfold isNameL; simp; intros; omega
    have hb : ((n.length : Int) == 0) = false := beq_eq_false_iff_ne.2 (by omega)
    go_enter Tryz.func23, Tryz.ntmps23
    go_wp2
    go_ret
    exact ⟨ret_bool hg.out.symm, rfl⟩
  have hb : ((n.length : Int) == 0) = false := beq_eq_false_iff_ne.2 (by omega)
  have hd8 : decide ((8 : Int) < (n.length : Int)) = false := decide_eq_false (by omega)
  have hd9 : decide (8 < n.length) = false := decide_eq_false (by omega)
  have hh : Hid (hd n = (n[0].toNat : Int)) := hd_drop n 0 (by omega)
  have hbg : (bs n)[0]'(by rw [hsz]; omega) = n[0] := rfl
  generalize hn0 : n[0] = c0 at hbg hh
  have Hn0 : Hid (n[0] = c0) := hn0
  clear hn0
  cases hd0 : digB c0.toNat
  · go_enter Tryz.func23, Tryz.ntmps23
    go_wp2_with (go_at_call 38; refine (isDigit_any _ _).mono ?_; rintro e w' ⟨rfl, rfl⟩)
    go_loopg [3] n.length (fun k i wr => ∃ j, j + k = n.length ∧ i = .int .i64 j ∧ wr = w ∧ (n.take j).all nmB = true)
    case atStart => exact ⟨0, by omega, rfl, rfl, by simp⟩
    case round =>
      obtain ⟨j, hj, rfl, rfl, hal⟩ := hrel
      by_cases hlt : j < n.length
      · have hbg2 : (bs n)[j]'(by rw [hsz]; omega) = n[j] := rfl
        generalize hnj : n[j] = cj at hbg2
        have Hnj : Hid (n[j] = cj) := hnj
        clear hnj
        cases hn2 : nameB cj.toNat
        · have hg : Hid (isNameL n = false) := by
            show isNameL n = false
            have : n.all nmB = false := by
              rw [Bool.eq_false_iff]; intro ha
              have := List.all_eq_true.1 ha (n[j]'hlt) (List.getElem_mem _)
              unfold nmB at this; rw [Hnj.out, hn2] at this; cases this
            unfold isNameL; rw [this]; simp
          have Hal : Hid ((n.take j).all nmB = true) := hal
          clear hal hh
          go_wp2_with (go_at_call 39; refine (isNameByte_any _ _).mono ?_; rintro e w' ⟨rfl, rfl⟩)
          go_ret
          exact ⟨ret_bool hg.out.symm, rfl⟩
        · have Hal : Hid ((n.take (j+1)).all nmB = true) := by
            show (n.take (j+1)).all nmB = true
            rw [List.take_succ_eq_append_getElem hlt, List.all_append, hal]; simp [nmB, hn2, Hnj.out]
          clear hal hh
          go_wp2_with (go_at_call 39; refine (isNameByte_any _ _).mono ?_; rintro e w' ⟨rfl, rfl⟩)
          go_roundg (gk - 1)
          case measure => omega
          case rel => exact ⟨j + 1, by omega, by go_num, rfl, Hal.out⟩
      · have hg : Hid (isNameL n = true) := by
          show isNameL n = true
          unfold isNameL
          have : n.take j = n := List.take_of_length_le (by omega)
          rw [this] at hal
          rw [hal, hh.out, hd0]; simp; exact ⟨by intro e; simp [e] at h0, by omega⟩
        clear hal hh
        go_wp2
        go_ret
        exact ⟨ret_bool hg.out.symm, rfl⟩
  · have hg : Hid (isNameL n = false) := by
      show isNameL n = false
      unfold isNameL; rw [hh.out, hd0]; simp
    go_enter Tryz.func23, Tryz.ntmps23
    go_wp2_with (go_at_call 38; refine (isDigit_any _ _).mono ?_; rintro e w' ⟨rfl, rfl⟩)
    go_ret
    exact ⟨ret_bool hg.out.symm, rfl⟩

theorem own_frm {S : List Nat} {w w' : World} {base : Nat} {e : TypeId} {size : Nat} {v : Value} {n : Nat} {xs : List Value} (h : w.ownsRow base e size v n xs) (f : Frm S w w') (hS : ∀ k, k ∈ S → k < base) : w'.ownsRow base e size v n xs := by
  refine ⟨h.1, ?_⟩
  rcases h.2 with hn | ⟨g, cap, cur, rfl, hb, hgg, rest⟩
  · exact .inl hn
  · refine .inr ⟨g, cap, cur, rfl, hb, ?_, rest⟩
    rw [f.block g (Array.getElem?_eq_some_iff.1 hgg).1 (fun hm => by have := hS g hm; omega)]
    exact hgg

theorem own_some {w : World} {base : Nat} {e : TypeId} {size : Nat} {v : Value} {n : Nat} {xs : List Value} (h : w.ownsRow base e size v n xs) (hn : v ≠ .slice none 0 0) : ∃ g cap, v = .slice (some ⟨g, 0, none⟩) n cap := by
  rcases h.2 with ⟨h1, _⟩ | ⟨g, cap, cur, rfl, _⟩
  · exact absurd h1 hn
  · exact ⟨g, cap, rfl⟩

theorem Frm.of_grown {w w' : World} {g n cap : Nat} (h : w.grownBy w' (Value.ownBlock (.slice (some ⟨g, 0, none⟩) n cap))) : Frm [g] w w' :=
  ⟨h.os, h.tape, h.output, h.size, fun k hk hS => h.block k hk (fun e => hS (by simp [Value.ownBlock] at e; simp [e]))⟩

theorem infoU8 : (Tryz.prog.info? 5).map (fun i => (i.zero, i.size, i.bytes)) = some (some (.int .u8 0), 1, 1) := by kernel_rfl

theorem infoStr : (Tryz.prog.info? 9).map (fun i => (i.zero, i.size, i.bytes)) = some (some (.string ByteArray.empty), 1, 16) := by kernel_rfl

def byt (l : List UInt8) : List Value := l.map fun c => .int .u8 c.toNat

def RS (base : Nat) (w : World) (v : Value) (L : List (List UInt8)) : Prop :=
  ∃ a cap, v = .slice a L.length cap ∧ L.length ≤ 1048576 ∧ L.length ≤ cap ∧ ∀ j (h : j < L.length), ∃ g off, a = some ⟨g, off, none⟩ ∧ base ≤ g ∧ w.cell? ⟨g, off + j, none⟩ = some (.string (bs L[j]))

theorem RS.frm {S : List Nat} {base : Nat} {w w' : World} {v : Value} {L : List (List UInt8)} (h : RS base w v L) (f : Frm S w w') (hS : ∀ k, k ∈ S → k < base) : RS base w' v L := by
  obtain ⟨a, cap, rfl, h1, h2, h3⟩ := h
  refine ⟨a, cap, rfl, h1, h2, fun j hj => ?_⟩
  obtain ⟨g, off, rfl, hb, hc⟩ := h3 j hj
  exact ⟨g, off, rfl, hb, by rw [f.cell (World.block_lt_of_cell? w _ hc) (fun hm => by have := hS g hm; omega)]; exact hc⟩

theorem RS.base {base base' : Nat} {w : World} {v : Value} {L : List (List UInt8)} (h : RS base w v L) (hb : base' ≤ base) : RS base' w v L := by
  obtain ⟨a, cap, rfl, h1, h2, h3⟩ := h
  refine ⟨a, cap, rfl, h1, h2, fun j hj => ?_⟩
  obtain ⟨g, off, rfl, hb, hc⟩ := h3 j hj
  exact ⟨g, off, rfl, by omega, hc⟩

theorem RS.drewN {base : Nat} {w : World} {v : Value} {L : List (List UInt8)} (h : RS base w v L) (n : Nat) : RS base (w.drewN n) v L := h

def sv (L : List (List UInt8)) : List Value := L.map fun s => .string (bs s)

theorem sv_append (L : List (List UInt8)) (s : List UInt8) : sv L ++ [.string (bs s)] = sv (L ++ [s]) := by simp [sv]

def SL (base : Nat) (w : World) (v : Value) (L : List (List UInt8)) : Prop := w.ownsRow base 9 1 v L.length (sv L)

theorem SL.frm {S : List Nat} {base : Nat} {w w' : World} {v : Value} {L : List (List UInt8)} (h : SL base w v L) (f : Frm S w w') (hS : ∀ k, k ∈ S → k < base) : SL base w' v L := own_frm h f hS

theorem SL.rs {base : Nat} {w : World} {v : Value} {L : List (List UInt8)} (h : SL base w v L) (hl : L.length ≤ 1048576) : RS base w v L := by
  rcases h.2 with ⟨rfl, h0⟩ | ⟨g, cap, cur, rfl, hb, hg, hnc, hcm, hcs, htake⟩
  · exact ⟨none, 0, by rw [h0], hl, by omega, fun j hj => by omega⟩
  · refine ⟨_, cap, rfl, hl, hnc, fun j hj => ⟨g, 0, rfl, hb, ?_⟩⟩
    have := h.cells (g := g) rfl j (.string (bs L[j])) (by simp [sv, hj])
    have hadd : (⟨g, 0, none⟩ : Addr).add j = ⟨g, 0 + j, none⟩ := by unfold Addr.add; split <;> simp_all
    rw [hadd] at this
    exact this

theorem add0 (b j : Nat) : (⟨b, 0, none⟩ : Addr).add j = ⟨b, j, none⟩ := by unfold Addr.add; split <;> simp_all

theorem wp_appS {ops : Array Oper} {rest : List Oper} {o : Oper} {a : Act} {Q : Exit → Act → World → Prop} (w : World) (hgd : o.guard = none) (s x : Operand)
    (ho : o.op = .call { callee := .builtin .append, args := #[s, x], argTypes := #[43, 43] })
    (base : Nat) (v : Value) (L : List (List UInt8)) (n : List UInt8) (b1 : Nat) (hs : a.eval s = v) (hown : SL base w v L) (hx : a.eval x = .slice (some ⟨b1, 0, none⟩) 1 1)
    (hc : w.cell? ⟨b1, 0, none⟩ = some (.string (bs n))) (hlen : L.length ≤ 1048576) (hbase : base ≤ w.heap.size)
    (h : ∀ g cap w', SL base w' (.slice (some ⟨g, 0, none⟩) (L.length + 1) cap) (L ++ [n]) → w.grownBy w' v.ownBlock → base ≤ g → wpList Tryz.prog ops Q rest (a.put o.dst (.slice (some ⟨g, 0, none⟩) (L.length + 1) cap)) w') :
    wpList Tryz.prog ops Q (o :: rest) a w := by
  obtain ⟨i0, hi, hz0, hz1, hz2⟩ := info_parts infoStr
  refine wpList_append_own w hgd s x 43 ho base 9 i0 (.string ByteArray.empty) 1 16 Tryz.underlying43 hi hz0 hz1 hz2 rfl (by decide) v L.length (sv L) hs hown ⟨b1, 0, none⟩ 1 1 [.string (bs n)] hx rfl ?_ (fun x hx => by simp at hx; subst hx; rfl) (by unfold maxLen; omega) (by omega) hbase ?_
  · intro j u hj
    have : j = 0 := by
      cases j with
      | zero => rfl
      | succ j => simp at hj
    subst this
    rw [add0]
    simp at hj
    rw [← hj]; exact hc
  · intro v' w' h1 h2 h3
    obtain ⟨g, cap, rfl⟩ := own_some h1 (fun e => by have := h3.1 e; simp at this)
    have h1' : SL base w' (.slice (some ⟨g, 0, none⟩) (L.length + 1) cap) (L ++ [n]) := by
      unfold SL; rw [← sv_append]; simpa using h1
    exact h g cap w' h1' h2 (h1.lt g rfl).1

theorem Frm.grown1 {a w w' : World} {v : Value} {base : Nat} (h : Frm [] a w) (hg : w.grownBy w' v.ownBlock) (hv : ∀ k, v.ownBlock = some k → a.heap.size ≤ k) : Frm [] a w' :=
  h.grown hg (fun k hk => Or.inr (hv k hk))

theorem SL.base {base base' : Nat} {w : World} {v : Value} {L : List (List UInt8)} (h : SL base w v L) (hb : base' ≤ base) : SL base' w v L := by
  refine ⟨h.1, ?_⟩
  rcases h.2 with hn | ⟨g, cap, cur, rfl, hg, rest⟩
  · exact .inl hn
  · exact .inr ⟨g, cap, cur, rfl, by omega, rest⟩

theorem SL.nil (base : Nat) (w : World) : SL base w (.slice none 0 0) [] := World.ownsRow_nil w base _ 1

theorem own_shape {w : World} {base : Nat} {e : TypeId} {size : Nat} {v : Value} {n : Nat} {xs : List Value} (h : w.ownsRow base e size v n xs) : ∃ a cap, v = .slice a n cap := by
  rcases h.2 with ⟨e, h0⟩ | ⟨g, cap, cur, e, _⟩
  · exact ⟨none, 0, by rw [e, h0]⟩
  · exact ⟨_, _, e⟩

theorem SL.shape {base : Nat} {w : World} {v : Value} {L : List (List UInt8)} (h : SL base w v L) : ∃ a cap, v = .slice a L.length cap := own_shape h

theorem own_frmT {S : List Nat} {w w' : World} {base : Nat} {e : TypeId} {size : Nat} {v : Value} {n : Nat} {xs : List Value} (h : w.ownsRow base e size v n xs) (f : Frm S w w')
    (hS : ∀ k, k ∈ S → k < base ∨ ∃ cur e' fz, w.heap[k]? = some (.cells cur e' fz) ∧ e' ≠ e) : w'.ownsRow base e size v n xs := by
  refine ⟨h.1, ?_⟩
  rcases h.2 with hn | ⟨g, cap, cur, rfl, hb, hgg, rest⟩
  · exact .inl hn
  · refine .inr ⟨g, cap, cur, rfl, hb, ?_, rest⟩
    rw [f.block g (Array.getElem?_eq_some_iff.1 hgg).1 (fun hm => by
      rcases hS g hm with h1 | ⟨cur', e', fz, h1, h2⟩
      · omega
      · rw [hgg] at h1; simp at h1; exact h2 h1.2.1.symm)]
    exact hgg

theorem own_lt {w : World} {base : Nat} {e : TypeId} {size : Nat} {v : Value} {n : Nat} {xs : List Value} (h : w.ownsRow base e size v n xs) (k : Nat) (hk : v.ownBlock = some k) : k < w.heap.size := (h.lt k hk).2

end Go.Proofs.YtndalncdkgbnoaaGreat

namespace Go.Proofs.YtndalncdkgbnoaaGreat
open Go.RowKit

abbrev LBL : Type := List UInt8 × List UInt8
def LR (w : World) (v : Value) (L : List LBL) : Prop :=
  ∃ a cap, v = .slice a L.length cap ∧ L.length ≤ 1048576 ∧ ∀ (j : Nat) (h : j < L.length), ∃ g off, a = some ⟨g, off, none⟩ ∧ g < w.heap.size ∧ w.cell? ⟨g, off + j * 2, none⟩ = some (.string (bs L[j].1)) ∧ w.cell? ⟨g, off + j * 2 + 1, none⟩ = some (.string (bs L[j].2))
theorem LR.frm {S : List Nat} {w w' : World} {v : Value} {L : List LBL} (h : LR w v L) (f : Frm S w w') (hS : ∀ a n c, v = .slice (some a) n c → a.block ∉ S) : LR w' v L := by
  obtain ⟨a, cap, rfl, h0, h1⟩ := h
  refine ⟨a, cap, rfl, h0, ?_⟩
  intro j hj
  obtain ⟨g, off, rfl, h2, h3, h4⟩ := h1 j hj
  have hg := hS ⟨g, off, none⟩ _ _ rfl
  exact ⟨g, off, rfl, Nat.lt_of_lt_of_le h2 f.size, (f.cell (p := ⟨g, off + j * 2, none⟩) h2 hg).trans h3, (f.cell (p := ⟨g, off + j * 2 + 1, none⟩) h2 hg).trans h4⟩
def lblV (L : List LBL) (n : List UInt8) : List UInt8 := match L.find? (fun x => x.1 == n) with | some x => x.2 | none => []
def labsB : List LBL → List LBL → Bool
  | _, [] => true
  | P, x :: r => isNameL x.1 && decide (x.2.length ≤ 40) && !(P.any fun y => y.1 == x.1) && labsB (P ++ [x]) r
def labsOK (L : List LBL) : Bool := decide (L.length ≤ 12) && labsB [] L
theorem labsB_at (L : List LBL) (j : Nat) (hj : j < L.length) : labsB (L.take j) (L.drop j) = (isNameL L[j].1 && decide (L[j].2.length ≤ 40) && !((L.take j).any fun y => y.1 == L[j].1) && labsB (L.take (j + 1)) (L.drop (j + 1))) := by
  have e : L.take (j + 1) = L.take j ++ [L[j]] := by rw [List.take_add_one, List.getElem?_eq_getElem hj]; rfl
  rw [List.drop_eq_getElem_cons hj, labsB, e]
end Go.Proofs.YtndalncdkgbnoaaGreat

namespace Go.Proofs.YtndalncdkgbnoaaGreat
open Go.RowKit

def knT0 : List UInt8 := [114, 101, 99, 101, 105, 118, 101, 114, 115, 32, 114, 32, 97, 32, 98, 32, 99, 32, 100, 10, 114, 111, 117, 116, 101, 32, 114, 10, 32, 114, 111, 117, 116, 101, 32, 97, 32, 105, 102, 32, 120, 61, 34, 49, 34, 10, 32, 32, 114, 111, 117, 116, 101, 32, 98, 32, 105, 102, 32, 121, 61, 34, 49, 34, 32, 99, 111, 110, 116, 105, 110, 117, 101, 10, 32, 32, 114, 111, 117, 116, 101, 32, 99, 32, 105, 102, 32, 121, 61, 126, 34, 49, 124, 50, 34, 10, 32, 114, 111, 117, 116, 101, 32, 100, 32, 105, 102, 32, 120, 33, 61, 34, 34, 32, 99, 111, 110, 116, 105, 110, 117, 101, 10, 32, 114, 111, 117, 116, 101, 32, 45, 32, 119, 97, 105, 116, 32, 49, 32, 105, 102, 32, 120, 61, 126, 34, 91, 49, 51, 93, 34, 10]
def knT1 : List UInt8 := [114, 101, 99, 101, 105, 118, 101, 114, 115, 32, 114, 32, 97, 10, 114, 111, 117, 116, 101, 32, 114, 32, 98, 121, 32, 108, 32, 119, 97, 105, 116, 32, 49, 10, 32, 114, 111, 117, 116, 101, 32, 45, 32, 119, 97, 105, 116, 32, 50, 10, 32, 32, 114, 111, 117, 116, 101, 32, 97, 32, 98, 121, 32, 45, 32, 101, 118, 101, 114, 121, 32, 51, 10, 32, 32, 32, 114, 111, 117, 116, 101, 32, 45, 32, 114, 101, 112, 101, 97, 116, 32, 52, 32, 105, 102, 32, 107, 61, 34, 34, 10]
def knT2 : List UInt8 := [114, 101, 99, 101, 105, 118, 101, 114, 115, 32, 114, 32, 97, 10, 114, 111, 117, 116, 101, 32, 114, 32, 98, 121, 32, 108, 10, 32, 114, 111, 117, 116, 101, 32, 97, 32, 105, 102, 32, 115, 61, 126, 34, 40, 97, 124, 98, 41, 42, 97, 98, 98, 34, 10]
def knT3 : List UInt8 := [114, 101, 99, 101, 105, 118, 101, 114, 115, 32, 114, 32, 97, 10, 114, 111, 117, 116, 101, 32, 114, 10, 32, 114, 111, 117, 116, 101, 32, 97, 32, 105, 102, 32, 115, 61, 126, 34, 92, 92, 46, 91, 94, 120, 45, 122, 93, 123, 50, 44, 51, 125, 92, 120, 48, 48, 63, 34, 10]
def knT4 : List UInt8 := [114, 101, 99, 101, 105, 118, 101, 114, 115, 32, 114, 32, 97, 10, 114, 111, 117, 116, 101, 32, 114, 10, 32, 114, 111, 117, 116, 101, 32, 97, 32, 105, 102, 32, 115, 61, 126, 34, 46, 46, 34, 10]
def knT5 : List UInt8 := [114, 101, 99, 101, 105, 118, 101, 114, 115, 32, 114, 32, 97, 32, 98, 10, 114, 111, 117, 116, 101, 32, 114, 10, 32, 114, 111, 117, 116, 101, 32, 45, 10, 32, 32, 114, 111, 117, 116, 101, 32, 45, 10, 32, 32, 32, 114, 111, 117, 116, 101, 32, 97, 10, 32, 32, 32, 114, 111, 117, 116, 101, 32, 98, 10, 32, 32, 114, 111, 117, 116, 101, 32, 98, 10]
def knT6 : List UInt8 := [114, 101, 99, 101, 105, 118, 101, 114, 115, 32, 114, 32, 97, 32, 98, 10, 114, 111, 117, 116, 101, 32, 114, 10, 32, 114, 111, 117, 116, 101, 32, 45, 10, 32, 32, 114, 111, 117, 116, 101, 32, 45, 32, 99, 111, 110, 116, 105, 110, 117, 101, 10, 32, 32, 32, 114, 111, 117, 116, 101, 32, 97, 32, 99, 111, 110, 116, 105, 110, 117, 101, 10, 32, 32, 32, 32, 114, 111, 117, 116, 101, 32, 45, 10, 32, 32, 32, 114, 111, 117, 116, 101, 32, 98, 10, 32, 32, 114, 111, 117, 116, 101, 32, 98, 10]
def knT7 : List UInt8 := [114, 101, 99, 101, 105, 118, 101, 114, 115, 32, 114, 32, 97, 10, 114, 111, 117, 116, 101, 32, 114, 10, 32, 114, 111, 117, 116, 101, 32, 97, 32, 105, 102, 32, 115, 33, 126, 34, 34, 32, 105, 102, 32, 115, 33, 61, 34, 113, 34, 10]
def knD : List (List UInt8 × List LBL × List UInt8) := [
  (knT0, [], [114, 32, 51, 48, 32, 51, 48, 48, 32, 49, 52, 52, 48, 48, 59]),
  (knT0, [([120], [49])], [97, 32, 51, 48, 32, 51, 48, 48, 32, 49, 52, 52, 48, 48, 59]),
  (knT0, [([120], [49]), ([121], [49])], [98, 32, 51, 48, 32, 51, 48, 48, 32, 49, 52, 52, 48, 48, 59, 99, 32, 51, 48, 32, 51, 48, 48, 32, 49, 52, 52, 48, 48, 59]),
  (knT0, [([121], [50]), ([120], [49])], [99, 32, 51, 48, 32, 51, 48, 48, 32, 49, 52, 52, 48, 48, 59]),
  (knT0, [([120], [50])], [100, 32, 51, 48, 32, 51, 48, 48, 32, 49, 52, 52, 48, 48, 59]),
  (knT0, [([120], [51])], [100, 32, 51, 48, 32, 51, 48, 48, 32, 49, 52, 52, 48, 48, 59, 114, 32, 49, 32, 51, 48, 48, 32, 49, 52, 52, 48, 48, 59]),
  (knT0, [([121], [49])], [114, 32, 51, 48, 32, 51, 48, 48, 32, 49, 52, 52, 48, 48, 59]),
  (knT1, [], [97, 32, 50, 32, 51, 32, 52, 59]),
  (knT1, [([107], [118])], [97, 32, 50, 32, 51, 32, 49, 52, 52, 48, 48, 59]),
  (knT2, [([115], [97, 98, 97, 98, 98])], [97, 32, 108, 32, 51, 48, 32, 51, 48, 48, 32, 49, 52, 52, 48, 48, 59]),
  (knT2, [([115], [97, 98, 98, 97])], [114, 32, 108, 32, 51, 48, 32, 51, 48, 48, 32, 49, 52, 52, 48, 48, 59]),
  (knT3, [([115], [46, 97, 98, 0])], [97, 32, 51, 48, 32, 51, 48, 48, 32, 49, 52, 52, 48, 48, 59]),
  (knT4, [([115], [10, 255])], [97, 32, 51, 48, 32, 51, 48, 48, 32, 49, 52, 52, 48, 48, 59]),
  (knT5, [], [97, 32, 51, 48, 32, 51, 48, 48, 32, 49, 52, 52, 48, 48, 59]),
  (knT6, [], [97, 32, 51, 48, 32, 51, 48, 48, 32, 49, 52, 52, 48, 48, 59, 98, 32, 51, 48, 32, 51, 48, 48, 32, 49, 52, 52, 48, 48, 59, 98, 32, 51, 48, 32, 51, 48, 48, 32, 49, 52, 52, 48, 48, 59]),
  (knT7, [([115], [113])], [114, 32, 51, 48, 32, 51, 48, 48, 32, 49, 52, 52, 48, 48, 59])]
theorem allocs_at : ∀ (os : List Obj) (w : World) (i : Nat) (o : Obj), os[i]? = some o → (os.foldl World.alloc w).heap[w.heap.size + i]? = some o
  | [], _, i, o, h => by simp at h
  | x :: r, w, 0, o, h => by
    simp only [List.getElem?_cons_zero, Option.some.injEq] at h
    subst h
    have keep : ∀ (os : List Obj) (w : World) (k : Nat) (o : Obj), w.heap[k]? = some o → (os.foldl World.alloc w).heap[k]? = some o := by
      intro os
      induction os with
      | nil => intro w k o h; exact h
      | cons y s ih =>
        intro w k o h
        refine ih _ k o ?_
        rw [((Frm.refl [] w).alloc y).block k (Array.getElem?_eq_some_iff.1 h).1 (by simp)]
        exact h
    exact keep r _ _ _ (heap_alloc_new w x)
  | x :: r, w, i + 1, o, h => by
    have := allocs_at r (w.alloc x) i o (by simpa using h)
    rw [show (w.alloc x).heap.size = w.heap.size + 1 by simp] at this
    rw [show w.heap.size + (i + 1) = w.heap.size + 1 + i by omega]
    exact this
theorem allocs_frm : ∀ (os : List Obj) (w : World), Frm [] w (os.foldl World.alloc w)
  | [], w => Frm.refl _ _
  | x :: r, w => ((Frm.refl [] w).alloc x).trans (allocs_frm r (w.alloc x))
def KN (w : World) (g : Nat) : Prop := ∀ k x, knD[k]? = some x → ∃ a cap, w.cell? ⟨g, k * 3, none⟩ = some (.string (bs x.1)) ∧ w.cell? ⟨g, k * 3 + 1, none⟩ = some (.slice a x.2.1.length cap) ∧ LR w (.slice a x.2.1.length cap) x.2.1 ∧ x.2.1.length ≤ cap ∧ w.cell? ⟨g, k * 3 + 2, none⟩ = some (.string (bs x.2.2))

def knOs (b : Nat) : List Obj := [
  .cells #[.string (bs [120]), .string (bs [49])] 42,
  .cells #[.string (bs [120]), .string (bs [49]), .string (bs [121]), .string (bs [49])] 42,
  .cells #[.string (bs [121]), .string (bs [50]), .string (bs [120]), .string (bs [49])] 42,
  .cells #[.string (bs [120]), .string (bs [50])] 42,
  .cells #[.string (bs [120]), .string (bs [51])] 42,
  .cells #[.string (bs [121]), .string (bs [49])] 42,
  .cells #[.string (bs [107]), .string (bs [118])] 42,
  .cells #[.string (bs [115]), .string (bs [97, 98, 97, 98, 98])] 42,
  .cells #[.string (bs [115]), .string (bs [97, 98, 98, 97])] 42,
  .cells #[.string (bs [115]), .string (bs [46, 97, 98, 0])] 42,
  .cells #[.string (bs [115]), .string (bs [10, 255])] 42,
  .cells #[.string (bs [115]), .string (bs [113])] 42,
  .cells #[.string (bs knT0), .slice none 0 0, .string (bs [114, 32, 51, 48, 32, 51, 48, 48, 32, 49, 52, 52, 48, 48, 59]),
    .string (bs knT0), .slice (some ⟨b + 0, 0, none⟩) 1 1, .string (bs [97, 32, 51, 48, 32, 51, 48, 48, 32, 49, 52, 52, 48, 48, 59]),
    .string (bs knT0), .slice (some ⟨b + 1, 0, none⟩) 2 2, .string (bs [98, 32, 51, 48, 32, 51, 48, 48, 32, 49, 52, 52, 48, 48, 59, 99, 32, 51, 48, 32, 51, 48, 48, 32, 49, 52, 52, 48, 48, 59]),
    .string (bs knT0), .slice (some ⟨b + 2, 0, none⟩) 2 2, .string (bs [99, 32, 51, 48, 32, 51, 48, 48, 32, 49, 52, 52, 48, 48, 59]),
    .string (bs knT0), .slice (some ⟨b + 3, 0, none⟩) 1 1, .string (bs [100, 32, 51, 48, 32, 51, 48, 48, 32, 49, 52, 52, 48, 48, 59]),
    .string (bs knT0), .slice (some ⟨b + 4, 0, none⟩) 1 1, .string (bs [100, 32, 51, 48, 32, 51, 48, 48, 32, 49, 52, 52, 48, 48, 59, 114, 32, 49, 32, 51, 48, 48, 32, 49, 52, 52, 48, 48, 59]),
    .string (bs knT0), .slice (some ⟨b + 5, 0, none⟩) 1 1, .string (bs [114, 32, 51, 48, 32, 51, 48, 48, 32, 49, 52, 52, 48, 48, 59]),
    .string (bs knT1), .slice none 0 0, .string (bs [97, 32, 50, 32, 51, 32, 52, 59]),
    .string (bs knT1), .slice (some ⟨b + 6, 0, none⟩) 1 1, .string (bs [97, 32, 50, 32, 51, 32, 49, 52, 52, 48, 48, 59]),
    .string (bs knT2), .slice (some ⟨b + 7, 0, none⟩) 1 1, .string (bs [97, 32, 108, 32, 51, 48, 32, 51, 48, 48, 32, 49, 52, 52, 48, 48, 59]),
    .string (bs knT2), .slice (some ⟨b + 8, 0, none⟩) 1 1, .string (bs [114, 32, 108, 32, 51, 48, 32, 51, 48, 48, 32, 49, 52, 52, 48, 48, 59]),
    .string (bs knT3), .slice (some ⟨b + 9, 0, none⟩) 1 1, .string (bs [97, 32, 51, 48, 32, 51, 48, 48, 32, 49, 52, 52, 48, 48, 59]),
    .string (bs knT4), .slice (some ⟨b + 10, 0, none⟩) 1 1, .string (bs [97, 32, 51, 48, 32, 51, 48, 48, 32, 49, 52, 52, 48, 48, 59]),
    .string (bs knT5), .slice none 0 0, .string (bs [97, 32, 51, 48, 32, 51, 48, 48, 32, 49, 52, 52, 48, 48, 59]),
    .string (bs knT6), .slice none 0 0, .string (bs [97, 32, 51, 48, 32, 51, 48, 48, 32, 49, 52, 52, 48, 48, 59, 98, 32, 51, 48, 32, 51, 48, 48, 32, 49, 52, 52, 48, 48, 59, 98, 32, 51, 48, 32, 51, 48, 48, 32, 49, 52, 52, 48, 48, 59]),
    .string (bs knT7), .slice (some ⟨b + 11, 0, none⟩) 1 1, .string (bs [114, 32, 51, 48, 32, 51, 48, 48, 32, 49, 52, 52, 48, 48, 59])] 34]
set_option maxRecDepth 100000 in
set_option maxHeartbeats 8000000 in
theorem knowns_raw (w : World) :
    Calls Tryz.prog 5 #[] w fun e w' => w' = (knOs w.heap.size).foldl World.alloc w ∧ e = .returned (.slice (some ⟨w.heap.size + 12, 0, none⟩) 16 16) := by
  go_enter Tryz.func5, Tryz.ntmps5
  go_wp2
  go_ret
  exact ⟨rfl, rfl⟩

theorem kn_lr {w : World} {b : Nat} {L : List LBL} {ty : TypeId} (h : w.heap[b]? = some (.cells (L.flatMap fun x => [.string (bs x.1), .string (bs x.2)]).toArray ty (0, 0))) (hL : L.length ≤ 1048576) : LR w (.slice (some ⟨b, 0, none⟩) L.length L.length) L := by
  refine ⟨_, L.length, rfl, hL, fun j hj => ⟨b, 0, rfl, (Array.getElem?_eq_some_iff.1 h).1, ?_, ?_⟩⟩
  · have : ∀ (L : List LBL) (j : Nat) (hj : j < L.length), (L.flatMap fun x => [Value.string (bs x.1), .string (bs x.2)])[j * 2]? = some (.string (bs L[j].1)) := by
      intro L
      induction L with
      | nil => intro j hj; simp at hj
      | cons x r ih =>
        intro j hj
        cases j with
        | zero => rfl
        | succ j =>
          rw [show (j + 1) * 2 = j * 2 + 1 + 1 by omega]
          simpa using ih j (by simpa using hj)
    simp [World.cell?, h, this L j hj]
  · have : ∀ (L : List LBL) (j : Nat) (hj : j < L.length), (L.flatMap fun x => [Value.string (bs x.1), .string (bs x.2)])[j * 2 + 1]? = some (.string (bs L[j].2)) := by
      intro L
      induction L with
      | nil => intro j hj; simp at hj
      | cons x r ih =>
        intro j hj
        cases j with
        | zero => rfl
        | succ j =>
          rw [show (j + 1) * 2 + 1 = (j * 2 + 1) + 1 + 1 by omega]
          simpa using ih j (by simpa using hj)
    simp [World.cell?, h, this L j hj]
theorem knowns_any (w : World) :
    Calls Tryz.prog 5 #[] w fun e w' => Frm [] w w' ∧ ∃ g, e = .returned (.slice (some ⟨g, 0, none⟩) 16 16) ∧ g < w'.heap.size ∧ KN w' g := by
  refine (knowns_raw w).mono ?_
  rintro e w' ⟨rfl, rfl⟩
  have at' := fun i o h => allocs_at (knOs w.heap.size) w i o h
  refine ⟨allocs_frm _ _, _, rfl, ?_, ?_⟩
  · exact (Array.getElem?_eq_some_iff.1 (at' 12 _ rfl)).1
  · have hB := at' 12 _ rfl
    have h0 := at' 0 _ rfl
    have h1 := at' 1 _ rfl
    have h2 := at' 2 _ rfl
    have h3 := at' 3 _ rfl
    have h4 := at' 4 _ rfl
    have h5 := at' 5 _ rfl
    have h6 := at' 6 _ rfl
    have h7 := at' 7 _ rfl
    have h8 := at' 8 _ rfl
    have h9 := at' 9 _ rfl
    have h10 := at' 10 _ rfl
    have h11 := at' 11 _ rfl
    generalize (knOs w.heap.size).foldl World.alloc w = W at *
    intro k x hk
    match k, hk with
    | 0, hk => cases hk; exact ⟨none, 0, by simp [World.cell?, hB], by simp [World.cell?, hB], ⟨none, 0, rfl, by simp, fun j hj => absurd hj (by simp)⟩, Nat.le_refl _, by simp [World.cell?, hB]⟩
    | 1, hk => cases hk; exact ⟨_, 1, by simp [World.cell?, hB], by simp [World.cell?, hB], kn_lr h0 (by simp), Nat.le_refl _, by simp [World.cell?, hB]⟩
    | 2, hk => cases hk; exact ⟨_, 2, by simp [World.cell?, hB], by simp [World.cell?, hB], kn_lr h1 (by simp), Nat.le_refl _, by simp [World.cell?, hB]⟩
    | 3, hk => cases hk; exact ⟨_, 2, by simp [World.cell?, hB], by simp [World.cell?, hB], kn_lr h2 (by simp), Nat.le_refl _, by simp [World.cell?, hB]⟩
    | 4, hk => cases hk; exact ⟨_, 1, by simp [World.cell?, hB], by simp [World.cell?, hB], kn_lr h3 (by simp), Nat.le_refl _, by simp [World.cell?, hB]⟩
    | 5, hk => cases hk; exact ⟨_, 1, by simp [World.cell?, hB], by simp [World.cell?, hB], kn_lr h4 (by simp), Nat.le_refl _, by simp [World.cell?, hB]⟩
    | 6, hk => cases hk; exact ⟨_, 1, by simp [World.cell?, hB], by simp [World.cell?, hB], kn_lr h5 (by simp), Nat.le_refl _, by simp [World.cell?, hB]⟩
    | 7, hk => cases hk; exact ⟨none, 0, by simp [World.cell?, hB], by simp [World.cell?, hB], ⟨none, 0, rfl, by simp, fun j hj => absurd hj (by simp)⟩, Nat.le_refl _, by simp [World.cell?, hB]⟩
    | 8, hk => cases hk; exact ⟨_, 1, by simp [World.cell?, hB], by simp [World.cell?, hB], kn_lr h6 (by simp), Nat.le_refl _, by simp [World.cell?, hB]⟩
    | 9, hk => cases hk; exact ⟨_, 1, by simp [World.cell?, hB], by simp [World.cell?, hB], kn_lr h7 (by simp), Nat.le_refl _, by simp [World.cell?, hB]⟩
    | 10, hk => cases hk; exact ⟨_, 1, by simp [World.cell?, hB], by simp [World.cell?, hB], kn_lr h8 (by simp), Nat.le_refl _, by simp [World.cell?, hB]⟩
    | 11, hk => cases hk; exact ⟨_, 1, by simp [World.cell?, hB], by simp [World.cell?, hB], kn_lr h9 (by simp), Nat.le_refl _, by simp [World.cell?, hB]⟩
    | 12, hk => cases hk; exact ⟨_, 1, by simp [World.cell?, hB], by simp [World.cell?, hB], kn_lr h10 (by simp), Nat.le_refl _, by simp [World.cell?, hB]⟩
    | 13, hk => cases hk; exact ⟨none, 0, by simp [World.cell?, hB], by simp [World.cell?, hB], ⟨none, 0, rfl, by simp, fun j hj => absurd hj (by simp)⟩, Nat.le_refl _, by simp [World.cell?, hB]⟩
    | 14, hk => cases hk; exact ⟨none, 0, by simp [World.cell?, hB], by simp [World.cell?, hB], ⟨none, 0, rfl, by simp, fun j hj => absurd hj (by simp)⟩, Nat.le_refl _, by simp [World.cell?, hB]⟩
    | 15, hk => cases hk; exact ⟨_, 1, by simp [World.cell?, hB], by simp [World.cell?, hB], kn_lr h11 (by simp), Nat.le_refl _, by simp [World.cell?, hB]⟩
    | k + 16, hk => simp [knD] at hk
end Go.Proofs.YtndalncdkgbnoaaGreat

