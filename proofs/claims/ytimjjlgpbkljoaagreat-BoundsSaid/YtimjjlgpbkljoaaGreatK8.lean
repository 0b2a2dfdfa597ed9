import Derived.Test.YtimjjlgpbkljoaaGreatK7
namespace Go.Proofs.YtimjjlgpbkljoaaGreat
open Go.RowKit
set_option linter.unusedVariables false
set_option linter.unusedSimpArgs false
set_option linter.unnecessarySimpa false

theorem RTS.co {A : List Nat} {w : World} {v : Value} {C : List CR} (h : RTS A w v C) : ∃ a cap, v = .slice a C.length cap ∧ ∀ (j : Nat) (hj : j < C.length), ∃ g off, a = some ⟨g, off, none⟩ ∧ g ∉ A ∧ g < w.heap.size ∧ w.cell? ⟨g, off + j * 9 + 8, none⟩ = some (.bool C[j].co) := by
  obtain ⟨css, h1, h2⟩ := h
  obtain ⟨a, cap, e, r⟩ := row_at h1 h2
  refine ⟨a, cap, e, fun j hj => ?_⟩
  obtain ⟨g, off, cs, e2, h3, h4, ⟨vby, vif, rfl, _⟩, k1⟩ := r j hj
  exact ⟨g, off, e2, h4, h3, k1 8 _ rfl⟩
theorem OW.nums {base : Nat} {w : World} {v : Value} {L : List Nat} (h : OW 3 1 base w v (ic L)) : ∃ a cap, v = .slice a L.length cap ∧ ∀ (j : Nat) (hj : j < L.length), ∃ g, a = some ⟨g, 0, none⟩ ∧ v.ownBlock = some g ∧ g < w.heap.size ∧ w.cell? ⟨g, j, none⟩ = some (.int .i64 (L[j] : Nat)) := by
  obtain ⟨a, cap, e⟩ := h.shape
  rw [ic_len] at e
  subst e
  refine ⟨a, cap, rfl, fun j hj => ?_⟩
  obtain ⟨a', cap', e', hr⟩ := (h.rw (A := []) (by simp)).num
  simp only [Value.slice.injEq, true_and] at e'
  obtain ⟨rfl, rfl⟩ := e'
  obtain ⟨g, off, rfl, hg, hc⟩ := hr j hj
  have hsh := h.1.2
  rcases hsh with hn | ⟨g', cap', cur, e', _⟩
  · rw [ic_len] at hn
    have := hn.2
    omega
  · simp only [Value.slice.injEq, Option.some.injEq, Addr.mk.injEq] at e'
    obtain ⟨⟨rfl, rfl, _⟩, _⟩ := e'
    rw [Nat.zero_add] at hc
    exact ⟨_, rfl, rfl, hg, hc⟩
end Go.Proofs.YtimjjlgpbkljoaaGreat
