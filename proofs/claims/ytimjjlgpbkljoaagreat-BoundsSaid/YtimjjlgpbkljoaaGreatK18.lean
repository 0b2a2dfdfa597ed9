import Derived.Test.YtimjjlgpbkljoaaGreatK17
import Derived.Test.YtimjjlgpbkljoaaGreatK11
import Derived.Test.YtimjjlgpbkljoaaGreatK13
namespace Go.Proofs.YtimjjlgpbkljoaaGreat
open Go.RowKit
set_option linter.unusedVariables false
set_option linter.unusedSimpArgs false
set_option linter.unnecessarySimpa false

theorem pmat_cb {re : List UInt8 → Nat} {aut : List UInt8 → AutM} : ∀ (M : List CM) (s : CS) (acc : List (Nat × Bool)) (k : Nat) {l : List (Nat × Bool)} {s1 : CS}, CSB s k → pmat re aut s acc M = .ok (l, s1) → CSB s1 (k + M.length) ∧ s1.q = s.q ∧ l.length = acc.length + M.length
  | [], s, acc, k, l, s1, h, e => by
    rw [pmat] at e
    cases e
    exact ⟨h, rfl, rfl⟩
  | m :: r, s, acc, k, l, s1, h, e => by
    rw [pmat] at e
    split at e
    · cases e
    · rename_i t s2 ht
      obtain ⟨h1, _, h3⟩ := ptest_cb h ht
      obtain ⟨g1, g2, g3⟩ := pmat_cb r _ _ (k + 1) h1 e
      refine ⟨?_, g2.trans h3, by simp at g3 ⊢; omega⟩
      rw [List.length_cons, show k + (r.length + 1) = k + 1 + r.length by omega]
      exact g1
theorem RTS.avoid {A B : List Nat} {w : World} {v : Value} {C : List CR} (h : RTS A w v C) (hB : ∀ g ∈ B, g ∈ A ∨ w.heap.size ≤ g) : RTS B w v C := by
  obtain ⟨css, h1, h2⟩ := h
  exact ⟨css, h1.avoid hB, h2.avoid hB⟩
theorem results3 {fn : Func} {p u t : Tmp} {ty : TypeId} (h : fn.results = #[.cell p ty, .tmp u, .tmp t]) (tmps : Array Value) (w : World) (g : Nat) (cs : Array Value) (a b : Value)
    (hp : tmps.getD p undef = .pointer (some ⟨g, 0, none⟩)) (hu : tmps.getD u undef = a) (ht : tmps.getD t undef = b) (hl : (loadVar ty ⟨g, 0, none⟩).run Tryz.prog w = .ok (.agg cs) w) :
    (results fn tmps).run Tryz.prog w = .ok (.tuple #[.agg cs, a, b]) w := by
  have hp' : tmps[p]?.getD undef = .pointer (some ⟨g, 0, none⟩) := by simpa using hp
  have hu' : tmps[u]?.getD undef = a := by simpa using hu
  have ht' : tmps[t]?.getD undef = b := by simpa using ht
  simp [results, h, hp', hu', ht', asAddr, hl]
abbrev vz : V6 := ⟨.slice none 0 0, .slice none 0 0, .slice none 0 0, .slice none 0 0, .slice none 0 0, .slice none 0 0⟩
/-- A compiler that has read nothing yet. -/
theorem KS.start (Z : List Nat) {w0 : World} {kb : Nat} {rt : Value} (hr : KR w0 kb vz ⟨rt, .slice none 0 0, .slice none 0 0, .slice none 0 0⟩) : KS Z w0 kb w0 vz ⟨rt, .slice none 0 0, .slice none 0 0, .slice none 0 0⟩ cs0 := by
  refine ⟨hr, [], [], Frm.refl _ _, hr.lt, ⟨?_, ?_⟩, RowI.nil _ _ _, RowI.nil _ _ _⟩
  · intro i r hi
    match i, hi with
    | 0, hi => cases hi; exact OW.nil _ _ _ _
    | 1, hi => cases hi; exact OW.nil _ _ _ _
    | 2, hi => cases hi; exact OW.nil _ _ _ _
    | 3, hi => cases hi; exact OW.nil _ _ _ _
    | 4, hi => cases hi; exact OW.nil _ _ _ _
    | 5, hi => cases hi; exact OW.nil _ _ _ _
    | i + 6, hi => simp at hi
  · intro i j r s _ hi _ g hg
    match i, hi with
    | 0, hi => cases hi; cases hg
    | 1, hi => cases hi; cases hg
    | 2, hi => cases hi; cases hg
    | 3, hi => cases hi; cases hg
    | 4, hi => cases hi; cases hg
    | 5, hi => cases hi; cases hg
    | i + 6, hi => simp at hi
end Go.Proofs.YtimjjlgpbkljoaaGreat
