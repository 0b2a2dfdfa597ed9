import Derived.Test.YthlemieldfbbfabS5
namespace Go.Proofs.Ythlemieldfbbfab
open Go.RowKit
set_option linter.unusedVariables false
set_option linter.unusedSimpArgs false
set_option linter.unnecessarySimpa false

set_option maxRecDepth 100000 in
set_option maxHeartbeats 4000000 in
theorem aSave_any (A : List Nat) (pb : Nat) (V : V6) (m : Mach) (w : World) (h : PR A w pb V m) (hM : MOK m) (hL : (eM m).length ≤ 300000000) :
    Calls Try.prog 11 #[.pointer (some ⟨pb, 0, none⟩)] w fun e w' => e = .returned (.string (bs (eM m))) ∧ Frm [] w w' := by
  have N1 := hide (pSave_any (pb :: A) pb V m w (by
    intro j hj
    simp only [World.cell?, h.row]
    rw [Array.getElem?_eq_getElem (by simp [V6.cells]; exact hj)]
    rfl) h.pg hM hL)
  obtain ⟨a6, c6, e6⟩ := h.pg.i.shape
  rw [icl_len] at e6
  have k5 : w.cell? ⟨pb, 5, none⟩ = some (.slice a6 m.code.length c6) := by
    simp only [World.cell?, h.row]
    rw [← e6]; rfl
  have hpos := hM.code.1
  have hb : ((m.code.length : Int) == 0) = false := by rw [beq_eq_false_iff_ne]; omega
  clear h hM
  go_enter Try.func11, Try.ntmps11
  go_wp2_with fail
  refine (N1.out).mono ?_
  rintro e w1 ⟨rfl, hF⟩
  have F := hide hF
  clear hF N1
  go_wp2
  go_ret
  exact ⟨rfl, F.out⟩
end Go.Proofs.Ythlemieldfbbfab
