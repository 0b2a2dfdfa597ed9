import Derived.Test.YthlemieldfbbfabM12
import Derived.Lib.AppendStr
import Derived.Lib.SlBytesConst
namespace Go.Proofs.Ythlemieldfbbfab
open Go.RowKit
set_option linter.unusedVariables false
set_option linter.unusedSimpArgs false
set_option linter.unnecessarySimpa false

def yc (L : List UInt8) : List (List Value) := L.map fun c => [.int .u8 c.toNat]
theorem yc_len (L : List UInt8) : (yc L).length = L.length := by simp [yc]
theorem yc_snoc (L : List UInt8) (c : UInt8) : yc L ++ [[.int .u8 c.toNat]] = yc (L ++ [c]) := by simp [yc]
theorem yc_flat (L : List UInt8) : (yc L).flatten = byt L := by
  induction L with
  | nil => rfl
  | cons c L ih => simp only [yc, byt, List.map_cons, List.flatten_cons] at ih ⊢; rw [ih]; rfl
/-- Bytes that are gathered: a row of the call's own, or the mark as it was made. -/
def YB (base : Nat) (w : World) (v : Value) (L : List UInt8) : Prop :=
  OW 5 1 base w v (yc L) ∨ (∃ g, v = .slice (some ⟨g, 0, none⟩) 3 3 ∧ base ≤ g ∧ L = markL ∧ w.heap[g]? = some (.cells #[.int .u8 79, .int .u8 66, .int .u8 49] 5 (3, 4)))
/-- What gathering bytes keeps: all but the saver, and rows of bytes that the call has made. -/
structure KP (base sb : Nat) (w w' : World) : Prop where
  os : w'.os = w.os
  tape : w'.tape = w.tape
  output : w'.output = w.output
  size : w.heap.size ≤ w'.heap.size
  block : ∀ k, k < w.heap.size → k ≠ sb → (k < base ∨ ∀ cur fz, w.heap[k]? ≠ some (.cells cur 5 fz)) → w'.heap[k]? = w.heap[k]?
theorem KP.refl (base sb : Nat) (w : World) : KP base sb w w := ⟨rfl, rfl, rfl, Nat.le_refl _, fun _ _ _ _ => rfl⟩
theorem KP.trans {base sb : Nat} {a b c : World} (h : KP base sb a b) (k : KP base sb b c) : KP base sb a c := by
  refine ⟨k.os.trans h.os, k.tape.trans h.tape, k.output.trans h.output, Nat.le_trans h.size k.size, fun i hi hs hc => ?_⟩
  have e := h.block i hi hs hc
  rw [k.block i (Nat.lt_of_lt_of_le hi h.size) hs (hc.imp id (fun h2 cur fz => by rw [e]; exact h2 cur fz))]
  exact e
theorem KP.of_frm {base sb : Nat} {w w' : World} (f : Frm [sb] w w') : KP base sb w w' := ⟨f.os, f.tape, f.output, f.size, fun k hk hs _ => f.block k hk (by simpa using hs)⟩
theorem YB.u8 {base : Nat} {w : World} {v : Value} {L : List UInt8} (h : YB base w v L) {r : Nat} (hr : v.ownBlock = some r) : base ≤ r ∧ ∃ cur fz, w.heap[r]? = some (.cells cur 5 fz) := by
  rcases h with h | ⟨g, rfl, hb, _, hg⟩
  · refine ⟨(h.lt hr).1, ?_⟩
    rcases h.1.2 with ⟨rfl, _⟩ | ⟨g, cap, cur, rfl, _, hgg, _⟩
    · simp [Value.ownBlock] at hr
    · simp [Value.ownBlock] at hr
      subst hr
      exact ⟨cur, _, hgg⟩
  · simp [Value.ownBlock] at hr
    subst hr
    exact ⟨hb, _, _, hg⟩
theorem KP.grown {base sb : Nat} {w w' : World} {v : Value} {L : List UInt8} (h : YB base w v L) (hg : w.grownBy w' v.ownBlock) : KP base sb w w' := by
  refine ⟨hg.os, hg.tape, hg.output, hg.size, fun k hk _ hc => hg.block k hk (fun e => ?_)⟩
  obtain ⟨h1, cur, fz, h2⟩ := h.u8 e.symm
  rcases hc with hc | hc
  · omega
  · exact hc cur fz h2
/-- The saver in memory. -/
def SAV (base : Nat) (w : World) (sb : Nat) (v : Value) (L : List UInt8) : Prop := w.heap[sb]? = some (.cells #[v] 96 (0, 0)) ∧ base ≤ sb ∧ YB base w v L
theorem SAV.c0 {base : Nat} {w : World} {sb : Nat} {v : Value} {L : List UInt8} (h : SAV base w sb v L) : w.cell? ⟨sb, 0, none⟩ = some v := by simp [World.cell?, h.1]
theorem SAV.fz {base : Nat} {w : World} {sb : Nat} {v : Value} {L : List UInt8} (h : SAV base w sb v L) (o : Nat) : w.frozen? ⟨sb, o, none⟩ = false := by simp [World.frozen?, h.1]
theorem SAV.lt {base : Nat} {w : World} {sb : Nat} {v : Value} {L : List UInt8} (h : SAV base w sb v L) : sb < w.heap.size := (Array.getElem?_eq_some_iff.1 h.1).1
theorem YB.alloc {base : Nat} {w : World} {v : Value} {L : List UInt8} (h : YB base w v L) (o : Obj) : YB base (w.alloc o) v L := by
  rcases h with h | ⟨g, h1, h2, h3, h4⟩
  · exact .inl (h.frm (S := []) ((Frm.refl [] _).alloc _) (by simp))
  · exact .inr ⟨g, h1, h2, h3, (((Frm.refl [] w).alloc o).block g (Array.getElem?_eq_some_iff.1 h4).1 (by simp)).trans h4⟩
theorem YB.shape {base : Nat} {w : World} {v : Value} {L : List UInt8} (h : YB base w v L) : ∃ a c, v = .slice a L.length c := by
  rcases h with h | ⟨g, h1, h2, h3, h4⟩
  · obtain ⟨a, c, e⟩ := h.shape; rw [yc_len] at e; exact ⟨a, c, e⟩
  · exact ⟨_, 3, by rw [h1, h3]; rfl⟩

/-- Append of one byte. -/
theorem wp_appY {ops : Array Oper} {rest : List Oper} {o : Oper} {a : Act} {Q : Exit → Act → World → Prop} (w : World) (hgd : o.guard = none) (s x : Operand)
    (ho : o.op = .call { callee := .builtin .append, args := #[s, x], argTypes := #[94, 94] })
    (base : Nat) (v : Value) (L : List UInt8) (b1 : Nat) (y : UInt8) (hs : a.eval s = v) (hown : YB base w v L) (hx : a.eval x = .slice (some ⟨b1, 0, none⟩) 1 1)
    (hc : w.cell? ⟨b1, 0, none⟩ = some (.int .u8 y.toNat)) (hlen : L.length ≤ 1000000000) (hbase : base ≤ w.heap.size)
    (h : ∀ g cap w', OW 5 1 base w' (.slice (some ⟨g, 0, none⟩) (L.length + 1) cap) (yc (L ++ [y])) → w.grownBy w' v.ownBlock → wpList Try.prog ops Q rest (a.put o.dst (.slice (some ⟨g, 0, none⟩) (L.length + 1) cap)) w') :
    wpList Try.prog ops Q (o :: rest) a w := by
  have hl := yc_len L
  have hcc : ∀ j u, ([.int .u8 y.toNat] : List Value)[j]? = some u → w.cell? ⟨b1, j, none⟩ = some u := by
    intro j u hj
    cases j with
    | zero => simp only [List.getElem?_cons_zero, Option.some.injEq] at hj; rw [← hj]; exact hc
    | succ j => simp at hj
  rcases hown with hown | ⟨g, rfl, hb, rfl, hg⟩
  · refine wp_appG w hgd s x 94 5 (.int .u8 0) 1 1 infoU8 Try.underlying94 rfl (by decide) ho base v (yc L) b1 [.int .u8 y.toNat] hs hown hx rfl hcc ?_ (by omega) (by omega) hbase ?_
    · intro u hu
      simp only [List.mem_singleton] at hu; subst hu; rfl
    · rw [hl, yc_snoc]
      intro g cap w' h1 h2 _ _
      exact h g cap w' h1 h2
  · obtain ⟨i0, hi, hz0, hz1, hz2⟩ := info_parts2 infoU8
    refine wpList_append_grows w hgd s x 94 ho 5 i0 _ 1 1 Try.underlying94 hi hz0 hz1 hz2 rfl (by decide) (some ⟨g, 0, none⟩) 3 3 [.int .u8 79, .int .u8 66, .int .u8 49] hs (fun e => by cases e) rfl ?_ ⟨b1, 0, none⟩ 1 1 [.int .u8 y.toNat] hx rfl (fun j u hj => by rw [add0]; exact hcc j u hj) ?_ (by omega) (by unfold maxLen; omega) (by omega) ?_
    · intro b e j u hj
      cases e
      rw [add0, cell_of_row w g j _ _ _ hg]
      simpa using hj
    · intro u hu
      simp only [List.mem_singleton] at hu; subst hu; rfl
    · intro v' w' h1 h2
      obtain ⟨g2, cap, e, _, _⟩ := h1.form (by omega)
      subst e
      have ho2 : OW 5 1 base w' (.slice (some ⟨g2, 0, none⟩) (3 + 1) cap) (yc (markL ++ [y])) := by
        refine (OW.base (base := w.heap.size) ⟨?_, ?_⟩ hbase)
        · have : (yc (markL ++ [y])).flatten = [.int .u8 79, .int .u8 66, .int .u8 49] ++ [.int .u8 y.toNat] := rfl
          rw [this, yc_len]
          exact h1
        · intro z hz
          unfold yc at hz
          obtain ⟨c, _, rfl⟩ := List.mem_map.1 hz
          rfl
      refine h g2 cap w' ho2 ⟨h2.os, h2.tape, h2.output, h2.size, fun k hk _ => h2.block k hk (by simp)⟩

/-- What adding x to the bytes leaves. -/
def AD (base : Nat) (w : World) (sb : Nat) (L x : List UInt8) (w' : World) : Prop := ∃ v', SAV base w' sb v' (L ++ x) ∧ KP base sb w w' ∧ OW 5 1 base w' v' (yc (L ++ x))

theorem YB.ne {base : Nat} {w : World} {v : Value} {L : List UInt8} (h : YB base w v L) {sb : Nat} {u : Value} (hs : w.heap[sb]? = some (.cells #[u] 96 (0, 0))) : v.ownBlock ≠ some sb := by
  intro e
  obtain ⟨_, cur, fz, h2⟩ := h.u8 e
  rw [hs] at h2
  simp at h2

set_option maxRecDepth 100000 in
set_option maxHeartbeats 4000000 in
theorem addNumber_any : ∀ (k : Nat) (base sb : Nat) (v : Value) (L : List UInt8) (n : Nat) (sz : Int) (w : World), 1 ≤ k → k ≤ 3 → sz = (k : Int) → SAV base w sb v L → L.length ≤ 900000000 → base ≤ w.heap.size → n < 16777216 →
    Calls Try.prog 46 #[.pointer (some ⟨sb, 0, none⟩), .int .i64 sz, .int .i64 (n : Nat)] w fun e w' => e = .returned (.tuple #[]) ∧ AD base w sb L (nb k n) w' := by
  intro k
  induction k with
  | zero => intro base sb v L n sz w h1; omega
  | succ k ih =>
    intro base sb v L n sz w h1 h3 hsz hs hL hb hn
    subst hsz
    have hx : (UInt8.ofNat (n % 256)).toNat = n % 256 := by rw [UInt8.toNat_ofNat']; exact Nat.mod_eq_of_lt (Nat.mod_lt _ (by omega))
    by_cases hk : k = 0
    · subst hk
      have S := hide hs
      obtain ⟨a, c, rfl⟩ := hs.2.2.shape
      have c0 := hs.c0
      have z := hs.fz 0
      have hsb := hs.lt
      have hbs := hs.2.1
      have YBB := hide hs.2.2
      clear hs ih
      go_enter Try.func46, Try.ntmps46
      have hcell : ∀ o, o = Obj.cells #[Value.int .u8 ((n : Int) % 256)] 5 → (w.alloc o).cell? ⟨w.heap.size, 0, none⟩ = some (.int .u8 ((UInt8.ofNat (n % 256)).toNat : Nat)) := by
        intro o ho
        subst ho
        rw [hx]
        simp
      go_wp2_with (first | (at_builtin; refine wp_appY _ rfl _ _ rfl base (.slice a L.length c) L w.heap.size (UInt8.ofNat (n % 256)) rfl (YBB.out.alloc _) rfl (hcell _ rfl) (by omega) (by simp; omega) ?_; intro g2 cap2 w6 hs6 hg6; have O6 := hide hs6; have G6 := hide hg6; have c6 := (hg6.cell_far ⟨sb, 0, none⟩ (by simp; omega) (fun e => YBB.out.ne S.out.1 e.symm)); have f6 := (hg6.frozen_far ⟨sb, 0, none⟩ (by simp; omega) (fun e => YBB.out.ne S.out.1 e.symm)); clear hs6 hg6))
      go_end0
      have h6 : w6.heap[sb]? = some (.cells #[.slice a L.length c] 96 (0, 0)) := (G6.out.block sb (by simp; omega) (fun e => YBB.out.ne S.out.1 e.symm)).trans ((((Frm.refl [] w).alloc _).block sb hsb (by simp)).trans S.out.1)
      have FS : ∀ u, Frm [sb] w6 (w6.setCell ⟨sb, 0, none⟩ u) := fun u => (Frm.refl [sb] w6).setCell (p := ⟨sb, 0, none⟩) (.inl (by simp)) u
      have O7 : ∀ u, OW 5 1 base (w6.setCell ⟨sb, 0, none⟩ u) (.slice (some ⟨g2, 0, none⟩) (L.length + 1) cap2) (yc (L ++ [UInt8.ofNat (n % 256)])) := fun u => O6.out.keep (FS u) (fun r hr hm => by simp at hm; subst hm; exact YB.ne (.inl O6.out) h6 hr)
      have K7 : ∀ u, KP base sb w (w6.setCell ⟨sb, 0, none⟩ u) := fun u => ((KP.of_frm (((Frm.refl [sb] w).alloc _))).trans (KP.grown (YBB.out.alloc _) G6.out)).trans (KP.of_frm (FS u))
      refine ⟨rfl, .slice (some ⟨g2, 0, none⟩) (L.length + 1) cap2, ⟨?_, hbs, .inl (O7 _)⟩, K7 _, O7 _⟩
      simp [World.setCell, Array.getElem?_modify, h6]
    · have hcast : ((k : Int) + 1) - 1 = (k : Int) := by omega
      have hd1 : decide ((1 : Int) < (k : Int) + 1) = true := decide_eq_true (by omega)
      have hcast2 : (((k + 1 : Nat) : Int)) = (k : Int) + 1 := by omega
      have hdv : ((n / 256 : Nat) : Int) = (n : Int) / 256 := by omega
      have N1 := hide (ih base sb v L (n / 256) (k : Int) w (by omega) (by omega) rfl hs hL hb (by omega))
      rw [hdv] at N1
      clear hs ih
      go_enter Try.func46, Try.ntmps46
      go_wp2_with fail
      refine (N1.out).mono ?_
      rintro e w1 ⟨rfl, v1, hS1, hK1, hO1⟩
      have S := hide hS1
      have K1 := hide hK1
      have hz1 := hK1.size
      obtain ⟨a, c, rfl⟩ := hS1.2.2.shape
      have c0 := hS1.c0
      have z := hS1.fz 0
      have hsb := hS1.lt
      have hbs := hS1.2.1
      have YBB := hide hS1.2.2
      have hLL : (L ++ nb k (n / 256)).length ≤ 900000010 := by rw [List.length_append, nb_len]; omega
      have HN : Hid (nb (k + 1) n = nb k (n / 256) ++ [UInt8.ofNat (n % 256)]) := rfl
      generalize hLLe : L ++ nb k (n / 256) = LL at *
      have HLL := hide hLLe
      clear hS1 hK1 hO1 N1 hLLe
      have hcell : ∀ o, o = Obj.cells #[Value.int .u8 ((n : Int) % 256)] 5 → (w1.alloc o).cell? ⟨w1.heap.size, 0, none⟩ = some (.int .u8 ((UInt8.ofNat (n % 256)).toNat : Nat)) := by
        intro o ho
        subst ho
        rw [hx]
        simp
      go_wp2_with (first | (at_builtin; refine wp_appY _ rfl _ _ rfl base (.slice a LL.length c) LL w1.heap.size (UInt8.ofNat (n % 256)) rfl (YBB.out.alloc _) rfl (hcell _ rfl) (by omega) (by simp; omega) ?_; intro g2 cap2 w6 hs6 hg6; have O6 := hide hs6; have G6 := hide hg6; have c6 := (hg6.cell_far ⟨sb, 0, none⟩ (by simp; omega) (fun e => YBB.out.ne S.out.1 e.symm)); have f6 := (hg6.frozen_far ⟨sb, 0, none⟩ (by simp; omega) (fun e => YBB.out.ne S.out.1 e.symm)); clear hs6 hg6))
      go_end0
      have h6 : w6.heap[sb]? = some (.cells #[.slice a LL.length c] 96 (0, 0)) := (G6.out.block sb (by simp; omega) (fun e => YBB.out.ne S.out.1 e.symm)).trans ((((Frm.refl [] w1).alloc _).block sb hsb (by simp)).trans S.out.1)
      have FS : ∀ u, Frm [sb] w6 (w6.setCell ⟨sb, 0, none⟩ u) := fun u => (Frm.refl [sb] w6).setCell (p := ⟨sb, 0, none⟩) (.inl (by simp)) u
      have O7 : ∀ u, OW 5 1 base (w6.setCell ⟨sb, 0, none⟩ u) (.slice (some ⟨g2, 0, none⟩) (LL.length + 1) cap2) (yc (LL ++ [UInt8.ofNat (n % 256)])) := fun u => O6.out.keep (FS u) (fun r hr hm => by simp at hm; subst hm; exact YB.ne (.inl O6.out) h6 hr)
      have K7 : ∀ u, KP base sb w1 (w6.setCell ⟨sb, 0, none⟩ u) := fun u => ((KP.of_frm (((Frm.refl [sb] w1).alloc _))).trans (KP.grown (YBB.out.alloc _) G6.out)).trans (KP.of_frm (FS u))
      have e : L ++ nb (k + 1) n = LL ++ [UInt8.ofNat (n % 256)] := by rw [HN.out, ← List.append_assoc, HLL.out]
      refine ⟨rfl, .slice (some ⟨g2, 0, none⟩) (LL.length + 1) cap2, ⟨?_, hbs, .inl ?_⟩, K1.out.trans (K7 _), ?_⟩
      · simp [World.setCell, Array.getElem?_modify, h6]
      · rw [e]; exact O7 _
      · rw [e]; exact O7 _
end Go.Proofs.Ythlemieldfbbfab
