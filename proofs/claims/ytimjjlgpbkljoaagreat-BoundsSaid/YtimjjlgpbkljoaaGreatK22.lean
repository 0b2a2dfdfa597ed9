import Derived.Test.YtimjjlgpbkljoaaGreatK21
namespace Go.Proofs.YtimjjlgpbkljoaaGreat
open Go.RowKit
set_option linter.unusedVariables false
set_option linter.unusedSimpArgs false
set_option linter.unnecessarySimpa false

/-- What Compile answers: the fault, the line. -/
def cRes (re : List UInt8 → Nat) (t : List UInt8) : Nat × Nat :=
  match cRead t with
  | .error (n, l) => (n, l)
  | .ok (_, C) => xF re C 0
def ACQ (re : List UInt8 → Nat) (aut : List UInt8 → AutM) (t : List UInt8) (w : World) (e : Ending) (w' : World) : Prop :=
  Frm [] w w' ∧ (((cRes re t).1 ≠ 0 ∧ e = .returned (.tuple #[.pointer none, .int .i64 ((cRes re t).1 : Nat), .int .i64 ((cRes re t).2 : Nat)])) ∨
  (∃ L C s V pb, cRes re t = (0, 0) ∧ cRead t = .ok (L, C) ∧ pread re aut cs0 0 C = .ok s ∧ e = .returned (.tuple #[.pointer (some ⟨pb, 0, none⟩), .int .i64 0, .int .i64 0]) ∧ w'.heap[pb]? = some (.cells V.cells 44 (0, 0)) ∧ PG [pb] w' V (compM C s) ∧ w.heap.size ≤ pb))

set_option maxRecDepth 100000 in
set_option maxHeartbeats 4000000 in
theorem aCompile_any (re : List UInt8 → Nat) (aut : List UInt8 → AutM) (t : List UInt8) (w : World) (ht : t.length ≤ 1048576) (hre : ∀ L C, cRead t = .ok (L, C) → ∀ c ∈ C, ∀ m ∈ c.ifs, (m.2.1 = 2 ∨ m.2.1 = 3) → RCP re aut m.2.2) :
    Calls Tryz.prog 7 #[.string (bs t)] w (ACQ re aut t w) := by
  have HRE := hide hre
  clear hre
  go_enter Tryz.func7, Tryz.ntmps7
  go_wp2_with fail
  refine (cfgRead_any t w ht).mono ?_
  rintro e w1 ⟨hf1, vr, vt, er, ln, rfl, hrep⟩
  have KF := hide hf1
  clear hf1
  cases hr : cRead t with
  | error nl =>
    obtain ⟨n, l⟩ := nl
    have Hx : Hid (cRes re t = (n, l)) := by show _ = _; unfold cRes; rw [hr]
    rw [hr] at hrep
    obtain ⟨rfl, rfl, rfl, rfl, hn⟩ := hrep
    have hne : ((n : Int) != 0) = true := by rw [bne_iff_ne]; omega
    go_wp2
    go_ret3
    refine ⟨KF.out.alloc _, .inl ?_⟩
    rw [Hx.out]
    exact ⟨by simp only; omega, rfl⟩
  | ok LC =>
    obtain ⟨L, C⟩ := LC
    have Hx : Hid (cRes re t = xF re C 0) := by show _ = _; unfold cRes; rw [hr]
    obtain ⟨h1, h2, h3, h4⟩ := cRead_tree hr
    have hgood := (cRead1_good t L C ht h1).2.2
    rw [hr] at hrep
    obtain ⟨rfl, rfl, hs, rvs, hrl, hrp, hrn⟩ := hrep
    obtain ⟨a0, n0, rfl⟩ := hs.shape
    have hrts := rts_of hrl hrp
    obtain ⟨at', capt, ert⟩ : ∃ a cap, vt = .slice a C.length cap := by
      obtain ⟨css, q1, q2⟩ := hrts
      obtain ⟨a, cap, e, _⟩ := row_at q1 q2
      exact ⟨a, cap, e⟩
    subst ert
    have N2 := hide (pCompile_any re aut (.slice a0 L.length n0) (.slice at' C.length capt) C (w1.alloc (Obj.cells #[.slice a0 L.length n0, .slice at' C.length capt] 32)) (hrts.frm (S := []) ((Frm.refl [] _).alloc _) (by simp)) h2 h3 (fun c hm => by
      have g := hgood c hm
      exact ⟨h4 c hm, g.byl, g.wt.1, g.ev.1, g.rp.1, g.ifl, fun m hm2 => ⟨(g.ifs m hm2).kind, fun hk => HRE.out L C hr c hm m hm2 hk⟩⟩) ⟨_, _, _, rfl⟩)
    have HR := hide hr
    have HPF := hide (pread_fault (re := re) (aut := aut) C cs0 0 (by simp [cs0]))
    clear hrts hrl hrp hs hgood h1 hr
    go_wp2_with fail
    refine (N2.out).mono ?_
    clear N2
    rintro e w2 ⟨hF2, hq⟩
    have F2 := hide ((KF.out.alloc _).trans hF2)
    clear hF2
    rcases hq with ⟨n, ln, e1, rfl⟩ | ⟨s, V, e1, rfl, hPG⟩
    · have hx : xF re C 0 = (n, ln) ∧ n ≠ 0 := by
        rcases HPF.out with ⟨e, f1, f2, f3⟩ | ⟨s1, f1, _⟩
        · rw [e1] at f1; cases f1; exact ⟨f2, f3⟩
        · rw [e1] at f1; cases f1
      have HX := hide hx
      have hne : ((n : Int) != 0) = true := by rw [bne_iff_ne]; have := hx.2; omega
      clear hx e1
      simp only [V6.cells]
      go_wp2
      go_ret3
      refine ⟨F2.out.alloc _, .inl ?_⟩
      rw [Hx.out, HX.out.1]
      exact ⟨HX.out.2, rfl⟩
    · have hx : xF re C 0 = (0, 0) := by
        rcases HPF.out with ⟨e, f1, _⟩ | ⟨s1, f1, f2, _⟩
        · rw [e1] at f1; cases f1
        · exact f2
      have HX := hide hx
      have HE := hide e1
      obtain ⟨vn, vc, va, vt, vr', vi⟩ := V
      obtain ⟨an, cn, en, _⟩ := hPG.n
      obtain ⟨ac, cc', ec, _⟩ := hPG.c
      obtain ⟨ca, hca, _⟩ := id hPG.a
      obtain ⟨aa, caa, ea, _⟩ := hca
      obtain ⟨atx, ctx, et, _⟩ := hPG.t
      obtain ⟨cr, hcr, _⟩ := id hPG.r
      obtain ⟨ar, car, er, _⟩ := hcr
      obtain ⟨ai, cai, ei, _⟩ := hPG.i
      simp only at en ec ea et er ei
      subst en ec ea et er ei
      have HPG := hide hPG
      clear hx e1 hPG
      simp only [V6.cells]
      go_wp2
      go_ret3
      refine ⟨(F2.out.alloc _).alloc _, .inr ⟨L, C, s, ⟨.slice an (sc (compM C s).names).length cn, .slice ac (sc (compM C s).consts).length cc', .slice aa (lst ca).length caa, .slice atx (tc (compM C s).tests).length ctx, .slice ar (lst cr).length car, .slice ai (icl (compM C s).code).length cai⟩, w2.heap.size + 1, by rw [Hx.out, HX.out], HR.out, HE.out, rfl, heap_b _ _ _, ?_, by have := F2.out.size; omega⟩⟩
      exact (HPG.out.avoid (B := [w2.heap.size + 1]) (by simp)).frm (S := []) (((Frm.refl [] _).alloc _).alloc _) (by simp)
/-- Compile, as to its fault alone. -/
theorem aCompile_fault (re : List UInt8 → Nat) (aut : List UInt8 → AutM) (t : List UInt8) (w : World) (ht : t.length ≤ 1048576) (hre : ∀ L C, cRead t = .ok (L, C) → ∀ c ∈ C, ∀ m ∈ c.ifs, (m.2.1 = 2 ∨ m.2.1 = 3) → RCP re aut m.2.2) :
    Calls Tryz.prog 7 #[.string (bs t)] w fun e w' => Frm [] w w' ∧ ∃ x, e = .returned (.tuple #[.pointer x, .int .i64 (cRes re t).1, .int .i64 (cRes re t).2]) ∧ (x = none ↔ (cRes re t).1 ≠ 0) := by
  refine (aCompile_any re aut t w ht hre).mono ?_
  rintro e w' ⟨hF, ⟨h1, rfl⟩ | ⟨L, C, s, V, pb, h1, _, _, rfl, _⟩⟩
  · exact ⟨hF, none, rfl, by simp [h1]⟩
  · refine ⟨hF, some ⟨pb, 0, none⟩, ?_, by rw [h1]; simp⟩
    rw [h1]; rfl
end Go.Proofs.YtimjjlgpbkljoaaGreat
