import Derived.Test.YtimjjlgpbkljoaaGreatK20
namespace Go.Proofs.YtimjjlgpbkljoaaGreat
open Go.RowKit
set_option linter.unusedVariables false
set_option linter.unusedSimpArgs false
set_option linter.unnecessarySimpa false

theorem treeGo_ok : ∀ (C : List CR) (i : Nat) (da : Int), i ≤ 16 → treeGo C i da = 0 → (∀ c ∈ C, c.d ≤ 5) ∧ C.length + i ≤ 16
  | [], i, da, hi, _ => ⟨by simp, by simpa using hi⟩
  | c :: r, i, da, hi, h => by
    unfold treeGo at h
    cases hb : (!(if (i == 0) = true then rootOk c else followOk c.d da) || decide (16 ≤ i))
    · rw [hb] at h
      simp only [Bool.false_eq_true, if_false] at h
      have hb1 : (if (i == 0) = true then rootOk c else followOk c.d da) = true ∧ ¬ 16 ≤ i := by
        cases hx : (if (i == 0) = true then rootOk c else followOk c.d da)
        · rw [hx] at hb; simp at hb
        · rw [hx] at hb; simp at hb; exact ⟨rfl, by omega⟩
      obtain ⟨h1, h2⟩ := treeGo_ok r (i + 1) c.d (by omega) h
      refine ⟨fun x hx => ?_, by simp; omega⟩
      rcases List.mem_cons.1 hx with rfl | hx
      · have h3 := hb1.1
        by_cases h0 : (i == 0) = true
        · rw [if_pos h0] at h3; simp [rootOk] at h3; omega
        · rw [if_neg h0] at h3; simp [followOk] at h3; omega
      · exact h1 x hx
    · rw [hb] at h
      simp at h
theorem cRead_tree {t : List UInt8} {L : List (List UInt8)} {C : List CR} (h : cRead t = .ok (L, C)) : cRead1 t = .ok (L, C) ∧ 0 < C.length ∧ C.length ≤ 16 ∧ ∀ c ∈ C, c.d ≤ 5 := by
  unfold cRead at h
  split at h
  · cases h
  · split at h
    · cases h
    · rename_i L' C' h1
      split at h
      · cases h
      · rename_i ht
        split at h
        · cases h
        · simp only [Except.ok.injEq, Prod.mk.injEq] at h
          obtain ⟨rfl, rfl⟩ := h
          have ht0 : treeF C' = 0 := by omega
          unfold treeF at ht0
          split at ht0
          · cases ht0
          · rename_i hne
            obtain ⟨h3, h4⟩ := treeGo_ok C' 0 0 (by omega) ht0
            refine ⟨h1, ?_, by omega, h3⟩
            cases C' with
            | nil => simp at hne
            | cons a b => simp
end Go.Proofs.YtimjjlgpbkljoaaGreat
