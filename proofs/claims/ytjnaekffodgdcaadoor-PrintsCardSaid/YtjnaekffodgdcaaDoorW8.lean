import Derived.Test.YtjnaekffodgdcaaDoorW7
namespace Go.Proofs.YtjnaekffodgdcaaDoor
open Go.RowKit
set_option linter.unusedVariables false
set_option linter.unusedSimpArgs false
set_option linter.unnecessarySimpa false

/-- A list of texts that can be read, its cells in blocks from 'base' on. -/
def RS (base : Nat) (w : World) (v : Value) (L : List (List UInt8)) : Prop :=
  ∃ a cap, v = .slice a L.length cap ∧ L.length ≤ 1048576 ∧ L.length ≤ cap ∧ ∀ j (h : j < L.length), ∃ g off, a = some ⟨g, off, none⟩ ∧ base ≤ g ∧ w.cell? ⟨g, off + j, none⟩ = some (.string (bs L[j]))

theorem RS.frm {S : List Nat} {base : Nat} {w w' : World} {v : Value} {L : List (List UInt8)} (h : RS base w v L) (f : Frm S w w') (hS : ∀ k, k ∈ S → k < base) : RS base w' v L := by
  obtain ⟨a, cap, rfl, h1, h2, h3⟩ := h
  refine ⟨a, cap, rfl, h1, h2, fun j hj => ?_⟩
  obtain ⟨g, off, rfl, hb, hc⟩ := h3 j hj
  exact ⟨g, off, rfl, hb, by rw [f.cell (World.block_lt_of_cell? w _ hc) (fun hm => by have := hS g hm; omega)]; exact hc⟩
theorem RS.base {base base' : Nat} {w : World} {v : Value} {L : List (List UInt8)} (h : RS base w v L) (hb : base' ≤ base) : RS base' w v L := by
  obtain ⟨a, cap, rfl, h1, h2, h3⟩ := h
  refine ⟨a, cap, rfl, h1, h2, fun j hj => ?_⟩
  obtain ⟨g, off, rfl, hb, hc⟩ := h3 j hj
  exact ⟨g, off, rfl, by omega, hc⟩
theorem RS.drewN {base : Nat} {w : World} {v : Value} {L : List (List UInt8)} (h : RS base w v L) (n : Nat) : RS base (w.drewN n) v L := h

def sv (L : List (List UInt8)) : List Value := L.map fun s => .string (bs s)
theorem sv_len (L : List (List UInt8)) : (sv L).length = L.length := by simp [sv]
theorem sv_append (L : List (List UInt8)) (s : List UInt8) : sv L ++ [.string (bs s)] = sv (L ++ [s]) := by simp [sv]

/-- A list of texts that the call has made by append. -/
def SL (base : Nat) (w : World) (v : Value) (L : List (List UInt8)) : Prop := w.ownsRow base 9 1 v L.length (sv L)
theorem SL.frm {S : List Nat} {base : Nat} {w w' : World} {v : Value} {L : List (List UInt8)} (h : SL base w v L) (f : Frm S w w') (hS : ∀ k, k ∈ S → k < base) : SL base w' v L := own_frm h f hS
theorem SL.rs {base : Nat} {w : World} {v : Value} {L : List (List UInt8)} (h : SL base w v L) (hl : L.length ≤ 1048576) : RS base w v L := by
  rcases h.2 with ⟨rfl, h0⟩ | ⟨g, cap, cur, rfl, hb, hg, hnc, hcm, hcs, htake⟩
  · exact ⟨none, 0, by rw [h0], hl, by omega, fun j hj => by omega⟩
  · refine ⟨_, cap, rfl, hl, hnc, fun j hj => ⟨g, 0, rfl, hb, ?_⟩⟩
    have := h.cells (g := g) rfl j (.string (bs L[j])) (by simp [sv, hj])
    have hadd : (⟨g, 0, none⟩ : Addr).add j = ⟨g, 0 + j, none⟩ := by unfold Addr.add; split <;> simp_all
    rw [hadd] at this
    exact this

set_option maxRecDepth 100000 in
set_option maxHeartbeats 1000000 in
theorem has_any (v : Value) (L : List (List UInt8)) (n : List UInt8) (w : World) (h : RS 0 w v L) :
    Calls Tryd.prog 29 #[v, .string (bs n)] w fun e w' => e = .returned (.bool (L.contains n)) ∧ w = w' := by
  obtain ⟨a, cap, rfl, h1, h2, h3⟩ := h
  have H3 : Hid (∀ j (h : j < L.length), ∃ g off, a = some ⟨g, off, none⟩ ∧ 0 ≤ g ∧ w.cell? ⟨g, off + j, none⟩ = some (.string (bs L[j]))) := h3
  clear h3
  have hl := bs_toList
  go_enter Tryd.func29, Tryd.ntmps29
  go_wp2
  go_loopg [9] L.length (fun k i wr => ∃ j, j + k = L.length ∧ i = .int .i64 j ∧ wr = w ∧ (L.take j).contains n = false)
  case atStart => exact ⟨0, by omega, rfl, rfl, by simp⟩
  case round =>
    obtain ⟨j, hj, rfl, hw, hal⟩ := hrel
    subst hw
    have Hal : Hid ((L.take j).contains n = false) := hal
    clear hal
    by_cases hlt : j < L.length
    · obtain ⟨g, off, rfl, _, hc⟩ := H3.out j hlt
      cases he : (L[j] == n)
      · have Hal2 : Hid ((L.take (j + 1)).contains n = false) := by
          show (L.take (j + 1)).contains n = false
          have hal := Hal.out
          rw [List.take_succ_eq_append_getElem hlt]
          simp only [List.contains_eq_mem, decide_eq_false_iff_not, List.mem_append, List.mem_singleton] at hal ⊢
          intro h; rcases h with h | h
          · exact hal h
          · rw [h] at he; simp at he
        go_wp2
        go_roundg (gk - 1)
        case measure => omega
        case rel => exact ⟨j + 1, by omega, by go_num, rfl, Hal2.out⟩
      · have hg : Hid (L.contains n = true) := by
          show L.contains n = true
          rw [List.contains_eq_mem, decide_eq_true_iff, ← beq_iff_eq.1 he]
          exact List.getElem_mem _
        go_wp2
        go_ret
        exact ⟨ret_bool hg.out.symm, rfl⟩
    · have hg : Hid (L.contains n = false) := by
        have := Hal.out; rw [List.take_of_length_le (by omega)] at this; exact this
      go_wp2
      go_ret
      exact ⟨ret_bool hg.out.symm, rfl⟩

end Go.Proofs.YtjnaekffodgdcaaDoor
