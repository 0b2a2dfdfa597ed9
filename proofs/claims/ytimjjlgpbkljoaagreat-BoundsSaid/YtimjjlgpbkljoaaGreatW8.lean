import Derived.Test.YtimjjlgpbkljoaaGreatW7
namespace Go.Proofs.YtimjjlgpbkljoaaGreat
open Go.RowKit
set_option linter.unusedVariables false
set_option linter.unusedSimpArgs false
set_option linter.unnecessarySimpa false

set_option maxRecDepth 100000 in
set_option maxHeartbeats 1000000 in
theorem has_any (v : Value) (L : List (List UInt8)) (n : List UInt8) (w : World) (h : RS 0 w v L) :
    Calls Tryz.prog 20 #[v, .string (bs n)] w fun e w' => e = .returned (.bool (L.contains n)) ∧ w = w' := by
  obtain ⟨a, cap, rfl, h1, h2, h3⟩ := h
  have H3 : Hid (∀ j (h : j < L.length), ∃ g off, a = some ⟨g, off, none⟩ ∧ 0 ≤ g ∧ w.cell? ⟨g, off + j, none⟩ = some (.string (bs L[j]))) := h3
  clear h3
  have hl := bs_toList
  go_enter Tryz.func20, Tryz.ntmps20
  go_wp2
  go_loopg [9] L.length (fun k i wr => ∃ j, j + k = L.length ∧ i = .int .i64 j ∧ wr = w ∧ (L.take j).contains n = false)
  case atStart => exact ⟨0, by omega, rfl, rfl, by simp⟩
  case round =>
    obtain ⟨j, hj, rfl, hw, hal⟩ := hrel
    subst hw
    have Hal : Hid ((L.take j).contains n = false) := hal
    clear hal
    by_cases hlt : j < L.length
    · obtain ⟨g, off, rfl, _, hc⟩ := H3.out j hlt
      cases he : (L[j] == n)
      · have Hal2 : Hid ((L.take (j + 1)).contains n = false) := by
          show (L.take (j + 1)).contains n = false
          have hal := Hal.out
          rw [List.take_succ_eq_append_getElem hlt]
          simp only [List.contains_eq_mem, decide_eq_false_iff_not, List.mem_append, List.mem_singleton] at hal ⊢
          intro h; rcases h with h | h
          · exact hal h
          · rw [h] at he; simp at he
        go_wp2
        go_roundg (gk - 1)
        case measure => omega
        case rel => exact ⟨j + 1, by omega, by go_num, rfl, Hal2.out⟩
      · have hg : Hid (L.contains n = true) := by
          show L.contains n = true
          rw [List.contains_eq_mem, decide_eq_true_iff, ← beq_iff_eq.1 he]
          exact List.getElem_mem _
        go_wp2
        go_ret
        exact ⟨ret_bool hg.out.symm, rfl⟩
    · have hg : Hid (L.contains n = false) := by
        have := Hal.out; rw [List.take_of_length_le (by omega)] at this; exact this
      go_wp2
      go_ret
      exact ⟨ret_bool hg.out.symm, rfl⟩

end Go.Proofs.YtimjjlgpbkljoaaGreat
