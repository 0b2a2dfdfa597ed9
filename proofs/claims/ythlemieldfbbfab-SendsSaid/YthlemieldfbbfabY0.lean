import Derived.Test.YthlemieldfbbfabM1
namespace Go.Proofs.Ythlemieldfbbfab
open Go.RowKit
set_option linter.unusedVariables false
set_option linter.unusedSimpArgs false
set_option linter.unnecessarySimpa false

/-- What is sent, by the routes' numbers. -/
def hitsM (m : Mach) (l : List Nat) : List HitM := l.map fun i => m.routes.getD i ⟨[], [], 0, 0, 0⟩
theorem hitsM_snoc (m : Mach) (l : List Nat) (i : Nat) (hi : i < m.routes.length) : hitsM m (l ++ [i]) = hitsM m l ++ [m.routes[i]] := by simp [hitsM, List.getD, hi]
theorem ins_cases {m : Mach} (ok : MOK m) (V : List UInt8 → List UInt8) {k : Nat} (hk : k < m.code.length) (n : Nat) :
    (m.code[k].op = 0 ∧ runM m V (n + 1) k = []) ∨
    (m.code[k].op = 1 ∧ m.code[k].x < m.routes.length ∧ k < m.code[k].a ∧ m.code[k].a < m.code.length ∧ runM m V (n + 1) k = m.code[k].x :: runM m V n m.code[k].a) ∨
    (m.code[k].op = 2 ∧ k < m.code[k].a ∧ m.code[k].a < m.code.length ∧ k < m.code[k].b ∧ m.code[k].b < m.code.length ∧ ∃ hx : m.code[k].x < m.tests.length, TstOK m.names.length m.consts.length m.autos.length m.tests[m.code[k].x] ∧
      runM m V (n + 1) k = runM m V n (if tstM m (V (m.names.getD m.tests[m.code[k].x].n [])) m.tests[m.code[k].x] then m.code[k].a else m.code[k].b)) := by
  have h := ok.code.2.2 k hk
  have hs := h.s
  have ho := h.op
  have hc : m.code[k]? = some m.code[k] := List.getElem?_eq_getElem hk
  generalize m.code[k] = c at *
  obtain ⟨op, x, a, b⟩ := c
  simp only at ho ⊢
  match op, ho with
  | 0, _ => exact .inl ⟨rfl, by rw [runM, hc]; rfl⟩
  | 1, _ =>
    simp [stands] at hs
    exact .inr (.inl ⟨rfl, hs.1.1, hs.1.2.1, hs.1.2.2, by rw [runM, hc]; rfl⟩)
  | 2, _ =>
    simp [stands] at hs
    refine .inr (.inr ⟨rfl, hs.1.2.1, hs.1.2.2, hs.2.1, hs.2.2, hs.1.1, ok.tests.2 _ (List.getElem_mem _), ?_⟩)
    rw [runM, hc]
    simp only [List.getElem?_eq_getElem hs.1.1]
end Go.Proofs.Ythlemieldfbbfab
