import Derived.Test.YtjnaekffodgdcaaDoorW24
namespace Go.Proofs.YtjnaekffodgdcaaDoor
open Go.RowKit
set_option linter.unusedVariables false
set_option linter.unusedSimpArgs false
set_option linter.unnecessarySimpa false

/-- What Print answers: the text, the fault, the line. -/
def pRes (t : List UInt8) : List UInt8 × Nat × Nat :=
  match cRead t with
  | .error (n, l) => ([], n, l)
  | .ok (L, C) => (cfgT L C, 0, 0)

theorem cRead_ok (t : List UInt8) (L : List (List UInt8)) (C : List CR) (h : cRead t = .ok (L, C)) : cRead1 t = .ok (L, C) := by
  unfold cRead at h
  split at h
  · cases h
  · split at h
    · cases h
    · split at h
      · cases h
      · split at h
        · cases h
        · rename_i L' C' h1 _ _; simp only [Except.ok.injEq, Prod.mk.injEq] at h; rw [h1, h.1, h.2]

set_option maxRecDepth 100000 in
set_option maxHeartbeats 4000000 in
theorem aPrint_any (t : List UInt8) (w : World) (hT : Tab w) (ht : t.length ≤ 1048576) :
    Calls Tryd.prog 5 #[.string (bs t)] w fun e w' => e = .returned (.tuple #[.string (bs (pRes t).1), .int .i64 (pRes t).2.1, .int .i64 (pRes t).2.2]) ∧ Frm [] w w' := by
  have HT : Hid (Tab w) := hT
  clear hT
  go_enter Tryd.func5, Tryd.ntmps5
  go_wp2_with fail
  refine (cfgRead_any t w ht).mono ?_
  rintro e w1 ⟨hf1, vr, vt, er, ln, rfl, hrep⟩
  have KF := hide hf1
  clear hf1
  cases hr : cRead t with
  | error nl =>
    obtain ⟨n, l⟩ := nl
    have Hx : Hid (pRes t = ([], n, l)) := by show _ = _; unfold pRes; rw [hr]
    rw [hr] at hrep
    obtain ⟨rfl, rfl, rfl, rfl, hn⟩ := hrep
    have hne : ((n : Int) != 0) = true := by rw [bne_iff_ne]; omega
    go_wp2
    go_ret3
    rw [Hx.out]
    exact ⟨rfl, KF.out.alloc _⟩
  | ok LC =>
    obtain ⟨L, C⟩ := LC
    have Hx : Hid (pRes t = (cfgT L C, 0, 0)) := by show _ = _; unfold pRes; rw [hr]
    have hgood := cRead1_good t L C ht (cRead_ok t L C hr)
    rw [hr] at hrep
    obtain ⟨rfl, rfl, hs, rvs, hrl, hrp, hrn⟩ := hrep
    obtain ⟨a0, n0, rfl⟩ := hs.shape
    obtain ⟨a1, n1, rfl⟩ := own_shape hrl
    have pr := fun o => cfgPrint_any w.heap.size (.slice a0 L.length n0) (.slice a1 rvs.length n1) L rvs C (w1.alloc o) (HT.out.frm (KF.out.alloc o) (by simp)) (hs.frm (S := []) ((Frm.refl _ _).alloc _) (by simp)) (hrl.frm (S := []) ((Frm.refl _ _).alloc _) (by simp)) (hrp.frm (S := []) ((Frm.refl _ _).alloc _) (by intro k hk; simp at hk)) hrn hgood
    have PR := hide pr
    clear pr hs hrl hrp hrn hgood hr
    go_wp2_with fail
    refine (PR.out _).mono ?_
    rintro e w2 ⟨rfl, hf⟩
    have KF2 := hide ((KF.out.alloc _).trans hf)
    clear hf
    go_wp2
    go_ret3
    rw [Hx.out]
    exact ⟨rfl, KF2.out⟩

end Go.Proofs.YtjnaekffodgdcaaDoor
