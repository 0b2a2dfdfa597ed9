import Derived.Test.YthlemieldfbbfabL1
namespace Go.Proofs.Ythlemieldfbbfab
open Go.RowKit
set_option linter.unusedVariables false
set_option linter.unusedSimpArgs false
set_option linter.unnecessarySimpa false

theorem LR.take {w : World} {a : Option Addr} {n cap : Nat} {L : List LBL} (h : LR w (.slice a n cap) L) (j : Nat) (hj : j ≤ L.length) : LR w (.slice a j cap) (L.take j) := by
  obtain ⟨a', c', e, h0, h1⟩ := h
  simp at e
  obtain ⟨rfl, rfl, rfl⟩ := e
  have hl : (L.take j).length = j := by simp; omega
  refine ⟨a, cap, by rw [hl], by omega, ?_⟩
  intro i hi
  rw [hl] at hi
  obtain ⟨g, off, rfl, h2, h3, h4⟩ := h1 i (by omega)
  exact ⟨g, off, rfl, h2, by rw [List.getElem_take]; exact h3, by rw [List.getElem_take]; exact h4⟩


set_option maxRecDepth 100000 in
set_option maxHeartbeats 1000000 in
theorem valueOf_any (v : Value) (L : List LBL) (n : List UInt8) (w : World) (h : LR w v L) :
    Calls Try.prog 69 #[v, .string (bs n)] w fun e w' => e = .returned (.string (bs (lblV L n))) ∧ Frm [] w w' := by
  obtain ⟨a, cap, rfl, h0, h1⟩ := h
  have H1 := hide h1
  have hl := bs_toList
  clear h1
  go_enter Try.func69, Try.ntmps69
  go_wp2_with fail
  go_loopg [9] L.length (fun k vi wr => ∃ j : Nat, j + k = L.length ∧ vi = .int .i64 j ∧ Frm [] w wr ∧ Hid ((L.drop j).find? (fun x => x.1 == n) = L.find? (fun x => x.1 == n)))
  case atStart => exact ⟨0, by omega, rfl, Frm.refl _ _, by show _ = _; simp⟩
  case round =>
    obtain ⟨j, hj, rfl, hfr, HF⟩ := hrel
    have F := hide hfr
    clear hfr
    by_cases hlt : j < L.length
    · obtain ⟨g, off, rfl, hg, hc1, hc2⟩ := H1.out j hlt
      have hf := HF.out
      rw [List.drop_eq_getElem_cons hlt, List.find?_cons] at hf
      have q1 := (F.out.cell (p := ⟨g, off + j * 2, none⟩) hg (by simp)).trans hc1
      have q2 := (F.out.cell (p := ⟨g, off + j * 2 + 1, none⟩) hg (by simp)).trans hc2
      clear hc1 hc2
      generalize L[j] = x at *
      obtain ⟨nm, vl⟩ := x
      simp only at q1 q2 hf
      cases he : (nm == n)
      · rw [he] at hf
        have HF2 := hide hf
        clear hf HF
        go_wp2
        go_roundg (gk - 1)
        case measure => omega
        case rel => exact ⟨j + 1, by omega, by go_num, F.out.alloc _, HF2⟩
      · rw [he] at hf
        have HV : Hid (lblV L n = vl) := by show _ = _; unfold lblV; rw [← hf]
        clear hf HF
        go_wp2
        go_ret
        rw [HV.out]
        exact ⟨rfl, F.out.alloc _⟩
    · have HV : Hid (lblV L n = []) := by
        show _ = _
        unfold lblV
        rw [← HF.out, List.drop_eq_nil_of_le (by omega)]
        rfl
      clear HF
      go_wp2
      go_ret
      rw [HV.out]
      exact ⟨rfl, F.out⟩

set_option maxRecDepth 100000 in
set_option maxHeartbeats 1000000 in
theorem isNamed_any (v : Value) (L : List LBL) (n : List UInt8) (w : World) (h : LR w v L) :
    Calls Try.prog 50 #[v, .string (bs n)] w fun e w' => e = .returned (.bool (L.any fun x => x.1 == n)) ∧ Frm [] w w' := by
  obtain ⟨a, cap, rfl, h0, h1⟩ := h
  have H1 := hide h1
  have hl := bs_toList
  clear h1
  go_enter Try.func50, Try.ntmps50
  go_wp2_with fail
  go_loopg [9] L.length (fun k vi wr => ∃ j : Nat, j + k = L.length ∧ vi = .int .i64 j ∧ Frm [] w wr ∧ Hid (((L.drop j).any fun x => x.1 == n) = L.any fun x => x.1 == n))
  case atStart => exact ⟨0, by omega, rfl, Frm.refl _ _, by show _ = _; simp⟩
  case round =>
    obtain ⟨j, hj, rfl, hfr, HF⟩ := hrel
    have F := hide hfr
    clear hfr
    by_cases hlt : j < L.length
    · obtain ⟨g, off, rfl, hg, hc1, hc2⟩ := H1.out j hlt
      have hf := HF.out
      rw [List.drop_eq_getElem_cons hlt, List.any_cons] at hf
      have q1 := (F.out.cell (p := ⟨g, off + j * 2, none⟩) hg (by simp)).trans hc1
      have q2 := (F.out.cell (p := ⟨g, off + j * 2 + 1, none⟩) hg (by simp)).trans hc2
      clear hc1 hc2
      generalize L[j] = x at *
      obtain ⟨nm, vl⟩ := x
      simp only at q1 q2 hf
      cases he : (nm == n)
      · rw [he, Bool.false_or] at hf
        have HF2 := hide hf
        clear hf HF
        go_wp2
        go_roundg (gk - 1)
        case measure => omega
        case rel => exact ⟨j + 1, by omega, by go_num, F.out.alloc _, HF2⟩
      · rw [he, Bool.true_or] at hf
        have HV := hide hf
        clear hf HF
        go_wp2
        go_ret
        rw [← HV.out]
        exact ⟨rfl, F.out.alloc _⟩
    · have HV : Hid ((L.any fun x => x.1 == n) = false) := by
        show _ = _
        rw [← HF.out, List.drop_eq_nil_of_le (by omega)]
        rfl
      clear HF
      go_wp2
      go_ret
      rw [HV.out]
      exact ⟨rfl, F.out⟩
end Go.Proofs.Ythlemieldfbbfab
