import Derived.Test.YtoiknmdkepepjaaV1
namespace Go.Proofs.Ytoiknmdkepepjaa
open Go.RowKit
set_option linter.unusedVariables false
set_option linter.unusedSimpArgs false
set_option linter.unnecessarySimpa false

/-- What Compile answers: the fault, the line. -/
def cRes (re : List UInt8 → Nat) (t : List UInt8) : Nat × Nat :=
  match cRead t with
  | .error (n, l) => (n, l)
  | .ok (_, C) => xF re C 0

theorem xF_zero (re : List UInt8 → Nat) : ∀ (C : List CR) (i : Nat), (xF re C i).1 = 0 → (xF re C i).2 = 0
  | [], _, _ => rfl
  | c :: r, i, h => by
    unfold xF at h ⊢
    split
    · rename_i hc; rw [if_pos hc] at h; simp at hc; exact absurd h hc
    · rename_i hc; rw [if_neg hc] at h; exact xF_zero re r (i + 1) h

theorem cRead_ok' (t : List UInt8) (L : List (List UInt8)) (C : List CR) (h : cRead t = .ok (L, C)) : cRead1 t = .ok (L, C) := by
  unfold cRead at h
  split at h
  · cases h
  · split at h
    · cases h
    · split at h
      · cases h
      · split at h
        · cases h
        · rename_i L' C' h1 _ _; simp only [Except.ok.injEq, Prod.mk.injEq] at h; rw [h1, h.1, h.2]

set_option maxRecDepth 100000 in
set_option maxHeartbeats 4000000 in
theorem aCompile_any (re : List UInt8 → Nat) (t : List UInt8) (w : World) (ht : t.length ≤ 1048576) (hc : ∀ L C, cRead t = .ok (L, C) → RCs re C) :
    Calls Try.prog 9 #[.string (bs t)] w fun e w' => Frm [] w w' ∧ ∃ x, e = .returned (.tuple #[.pointer x, .int .i64 (cRes re t).1, .int .i64 (cRes re t).2]) ∧ (x = none ↔ (cRes re t).1 ≠ 0) := by
  go_enter Try.func9, Try.ntmps9
  go_wp2_with fail
  refine (cfgRead_any t w ht).mono ?_
  rintro e w1 ⟨hf1, vr, vt, er, ln, rfl, hrep⟩
  have KF := hide hf1
  clear hf1
  cases hr : cRead t with
  | error nl =>
    obtain ⟨n, l⟩ := nl
    have Hx : Hid (cRes re t = (n, l)) := by show _ = _; unfold cRes; rw [hr]
    rw [hr] at hrep
    obtain ⟨rfl, rfl, rfl, rfl, hn⟩ := hrep
    have hne : ((n : Int) != 0) = true := by rw [bne_iff_ne]; omega
    go_wp2
    go_ret3
    rw [Hx.out]
    refine ⟨KF.out.alloc _, none, rfl, ?_⟩
    simp; omega
  | ok LC =>
    obtain ⟨L, C⟩ := LC
    have Hx : Hid (cRes re t = xF re C 0) := by show _ = _; unfold cRes; rw [hr]
    have hcc := hc L C hr
    have hgood := (cRead1_good t L C ht (cRead_ok' t L C hr)).2.2
    rw [hr] at hrep
    obtain ⟨rfl, rfl, hs, rvs, hrl, hrp, hrn⟩ := hrep
    obtain ⟨a0, n0, rfl⟩ := hs.shape
    obtain ⟨a1, n1, rfl⟩ := own_shape hrl
    have pr := fun o => expressionFault_any re w.heap.size (.slice a1 rvs.length n1) rvs C (w1.alloc o) (hrl.frm (S := []) ((Frm.refl _ _).alloc _) (by simp)) (hrp.frm (S := []) ((Frm.refl _ _).alloc _) (by intro k hk; simp at hk)) hrn hcc hgood
    have PR := hide pr
    clear pr hs hrl hrp hrn hr hc hcc hgood
    have hzl := xF_zero re C 0
    generalize xF re C 0 = y at *
    obtain ⟨n, l⟩ := y
    simp only at hzl
    go_wp2_with fail
    refine (PR.out _).mono ?_
    rintro e w2 ⟨rfl, hf⟩
    have KF2 := hide ((KF.out.alloc _).trans hf)
    clear hf
    by_cases hn : n = 0
    · have hl := hzl hn
      subst hn hl
      go_wp2
      go_ret3
      rw [Hx.out]
      refine ⟨KF2.out.alloc _, _, rfl, ?_⟩
      simp
    · have hne : ((n : Int) != 0) = true := by rw [bne_iff_ne]; omega
      go_wp2
      go_ret3
      rw [Hx.out]
      refine ⟨KF2.out, none, rfl, ?_⟩
      simp [hn]

end Go.Proofs.Ytoiknmdkepepjaa
