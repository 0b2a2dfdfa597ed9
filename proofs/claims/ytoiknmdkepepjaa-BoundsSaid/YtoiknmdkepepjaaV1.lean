import Derived.Test.YtoiknmdkepepjaaW19
import Derived.Deep.WholeRow
namespace Go.Proofs.Ytoiknmdkepepjaa
open Go.RowKit
set_option linter.unusedVariables false
set_option linter.unusedSimpArgs false
set_option linter.unnecessarySimpa false

/-- The first fault of matchers' expressions; 0: none. -/
def mF (re : List UInt8 → Nat) : List CM → Nat
  | [] => 0
  | m :: r => if (m.2.1 == 2 || m.2.1 == 3) && !(re m.2.2 == 0) then re m.2.2 else mF re r
/-- The first fault of routes' expressions, and its line. -/
def xF (re : List UInt8 → Nat) : List CR → Nat → Nat × Nat
  | [], _ => (0, 0)
  | c :: r, i => if !(mF re c.ifs == 0) then (mF re c.ifs, i + 2) else xF re r (i + 1)

/-- What compiling a value answers, of the values that C's expressions have. -/
def RC (re : List UInt8 → Nat) (v : List UInt8) : Prop :=
  ∀ w : World, Calls Try.prog 21 #[.string (bs v)] w fun e w' => Frm [] w w' ∧ ∃ cs : Array Value, cs.size = 259 ∧ cs.all (·.oneCell') = true ∧ e = .returned (.tuple #[.agg cs, .int .i64 (re v)])
def RCs (re : List UInt8 → Nat) (C : List CR) : Prop := ∀ c ∈ C, ∀ m ∈ c.ifs, (m.2.1 = 2 ∨ m.2.1 = 3) → RC re m.2.2

theorem ML.cell' {base : Nat} {w : World} {M : List CM} {g n cap : Nat} (h : ML base w (.slice (some ⟨g, 0, none⟩) n cap) M) {j : Nat} {m : CM} (hj : M[j]? = some m) (k : Nat) (hk : k < 3) : w.cell? ⟨g, j * 3 + k, none⟩ = (mcells m)[k]? := by
  have h1 := flat_get mcells 3 (fun a => rfl) M j k m hj hk
  have h3 := World.ownsRow.cells h (g := g) rfl (j * 3 + k)
  have hlt : k < (mcells m).length := hk
  rw [List.getElem?_eq_getElem hlt] at h1 ⊢
  have := h3 _ h1
  rw [add0] at this; exact this

theorem autoInfo : (Try.prog.info? 72).map (·.size) = some 259 := by kernel_rfl
theorem autoZero : Try.zeroCells72.size = 259 := by kernel_rfl

set_option maxRecDepth 100000 in
set_option maxHeartbeats 4000000 in
theorem expressionFault_any (re : List UInt8 → Nat) (base : Nat) (v : Value) (R : List RV) (C : List CR) (w : World) (hr : RL base w v R) (hp : Reps base w R C) (hR : R.length ≤ 1048576) (hc : RCs re C) (hg : ∀ c ∈ C, GoodCR c) :
    Calls Try.prog 17 #[v] w fun e w' => e = .returned (.tuple #[.int .i64 (xF re C 0).1, .int .i64 (xF re C 0).2]) ∧ Frm [] w w' := by
  obtain ⟨a, cap, rfl⟩ := own_shape hr
  have HCL : Hid (R.length = C.length) := hp.1
  have HR : Hid (RL base w (.slice a R.length cap) R) := hr
  have HP : Hid (Reps base w R C) := hp
  have HC : Hid (RCs re C) := hc
  have HG : Hid (∀ c ∈ C, GoodCR c) := hg
  clear hr hp hc hg
  go_enter Try.func17, Try.ntmps17
  go_wp2_with fail
  go_loopg [12] R.length (fun k vi wr => ∃ (j : Nat), j + k = R.length ∧ vi = .int .i64 j ∧ xF re (C.drop j) j = xF re C 0 ∧ Frm [] w wr)
  case atStart => exact ⟨0, by omega, rfl, rfl, Frm.refl _ _⟩
  case round =>
    obtain ⟨j, hj, rfl, hgo, hfr⟩ := hrel
    have KG : Hid (xF re (C.drop j) j = xF re C 0) := hgo
    have KF : Hid (Frm [] w wr) := hfr
    clear hgo hfr
    by_cases hlt : j < R.length
    · have hcl := HCL.out
      have hjR : R[j]? = some R[j] := List.getElem?_eq_getElem hlt
      have hjC : C[j]? = some (C[j]'(by omega)) := List.getElem?_eq_getElem (by omega)
      have hrep := HP.out.2 j _ _ hjR hjC
      have hcc := HC.out _ (List.getElem_mem (l := C) (n := j) (by omega))
      have hil := (HG.out _ (List.getElem_mem (l := C) (n := j) (by omega))).ifl
      have Hd : Hid (C.drop j = (C[j]'(by omega)) :: C.drop (j + 1)) := List.drop_eq_getElem_cons (by omega)
      generalize (C[j]'(by omega)) = c at *
      have hr1 : RL base wr (.slice a R.length cap) R := own_frm HR.out KF.out (by simp)
      obtain ⟨g, hg⟩ : ∃ g, a = some ⟨g, 0, none⟩ := by
        rcases hr1.2 with ⟨e, h⟩ | ⟨g, c, cur, e, _⟩
        · omega
        · simp at e; exact ⟨g, e.1⟩
      subst hg
      have hcell := fun k hk => hr1.cell hjR k hk
      generalize R[j] = rv at *
      obtain ⟨d, rc, tb, vby, wt, ev, rp, vif, co⟩ := rv
      have q0 : wr.cell? ⟨g, j * 9, none⟩ = some (.int .i64 d) := hcell 0 (by omega)
      have q1 : wr.cell? ⟨g, j * 9 + 1, none⟩ = some (.string (bs rc)) := hcell 1 (by omega)
      have q2 : wr.cell? ⟨g, j * 9 + 2, none⟩ = some (.bool tb) := hcell 2 (by omega)
      have q3 : wr.cell? ⟨g, j * 9 + 3, none⟩ = some vby := hcell 3 (by omega)
      have q4 : wr.cell? ⟨g, j * 9 + 4, none⟩ = some (.int .i64 wt) := hcell 4 (by omega)
      have q5 : wr.cell? ⟨g, j * 9 + 5, none⟩ = some (.int .i64 ev) := hcell 5 (by omega)
      have q6 : wr.cell? ⟨g, j * 9 + 6, none⟩ = some (.int .i64 rp) := hcell 6 (by omega)
      have q7 : wr.cell? ⟨g, j * 9 + 7, none⟩ = some vif := hcell 7 (by omega)
      have q8 : wr.cell? ⟨g, j * 9 + 8, none⟩ = some (.bool co) := hcell 8 (by omega)
      obtain ⟨ab, cb, eb⟩ := hrep.by_.shape
      obtain ⟨ai, ci, ei⟩ := own_shape hrep.ifs
      have HM : Hid (ML base w vif c.ifs) := hrep.ifs
      simp only at eb ei
      subst eb ei
      have HCC : Hid (∀ m ∈ c.ifs, (m.2.1 = 2 ∨ m.2.1 = 3) → RC re m.2.2) := hcc
      have Hst : Hid (xF re C 0 = if !(mF re c.ifs == 0) then (mF re c.ifs, j + 2) else xF re (C.drop (j + 1)) (j + 1)) := by
        show _ = _; rw [← KG.out, Hd.out]; rfl
      clear hcell hr1 hrep hcc hjR hjC hcl KG Hd
      go_wp2_with fail
      go_loopg [20] c.ifs.length (fun k vi wq => ∃ (i : Nat), i + k = c.ifs.length ∧ vi = .int .i64 i ∧ mF re (c.ifs.drop i) = mF re c.ifs ∧ Frm [] w wq)
      case atStart => exact ⟨0, by omega, rfl, rfl, KF.out.alloc _⟩
      case round =>
        clear KF q0 q1 q2 q3 q4 q5 q6 q7 q8
        obtain ⟨i, hi, rfl, hgo, hfr⟩ := hrel
        have KG : Hid (mF re (c.ifs.drop i) = mF re c.ifs) := hgo
        have KF : Hid (Frm [] w wr) := hfr
        clear hgo hfr
        by_cases hlti : i < c.ifs.length
        · have hm1 : ML base wr (.slice ai c.ifs.length ci) c.ifs := HM.out.frm KF.out (by simp)
          obtain ⟨g2, hg2⟩ : ∃ g, ai = some ⟨g, 0, none⟩ := by
            rcases hm1.2 with ⟨e, h⟩ | ⟨g, c, cur, e, _⟩
            · omega
            · simp at e; exact ⟨g, e.1⟩
          subst hg2
          have hji : c.ifs[i]? = some c.ifs[i] := List.getElem?_eq_getElem hlti
          have hcell := fun k hk => hm1.cell' hji k hk
          have hmm := HCC.out _ (List.getElem_mem hlti)
          have Hd : Hid (c.ifs.drop i = c.ifs[i] :: c.ifs.drop (i + 1)) := List.drop_eq_getElem_cons hlti
          generalize c.ifs[i] = m at *
          obtain ⟨nm, kd, vl⟩ := m
          have q0 : wr.cell? ⟨g2, i * 3, none⟩ = some (.string (bs nm)) := hcell 0 (by omega)
          have q1 : wr.cell? ⟨g2, i * 3 + 1, none⟩ = some (.int .i64 kd) := hcell 1 (by omega)
          have q2 : wr.cell? ⟨g2, i * 3 + 2, none⟩ = some (.string (bs vl)) := hcell 2 (by omega)
          have Hst2 : Hid (mF re c.ifs = if (kd == 2 || kd == 3) && !(re vl == 0) then re vl else mF re (c.ifs.drop (i + 1))) := by
            show _ = _; rw [← KG.out, Hd.out]; rfl
          have HMM : Hid ((kd = 2 ∨ kd = 3) → RC re vl) := hmm
          clear hcell hm1 hmm hji KG Hd
          by_cases hk : kd = 2 ∨ kd = 3
          · have PR := hide (HMM.out hk)
            have hkk : (kd == 2 || kd == 3) = true := by simp; exact hk
            have Hst3 : Hid (mF re c.ifs = if !(re vl == 0) then re vl else mF re (c.ifs.drop (i + 1))) := by
              show _ = _; rw [Hst2.out, hkk]; rfl
            have fin : ∀ (T : World), Frm [] w T → True := fun _ _ => trivial
            rcases hk with rfl | rfl
            · go_wp2_with fail
              refine (PR.out _).mono ?_
              rintro e w3 ⟨hf, cs, hc1, hc2, rfl⟩
              have KF3 := hide ((KF.out.alloc _).trans hf)
              have hsto := run_storeCells_new (P := Try.prog) w3 72 Try.zeroCells72 cs (by rw [hc1]; exact autoInfo) (by rw [hc1]; exact autoZero) hc2
              clear hf hc2
              by_cases hz : re vl = 0
              · have Hs3 : Hid (mF re (c.ifs.drop (i + 1)) = mF re c.ifs) := by
                  show _ = _; rw [Hst3.out, hz]; rfl
                rw [hz]
                go_wp2
                go_roundg (gk - 1)
                case measure => omega
                case rel => exact ⟨i + 1, by omega, by go_num, Hs3.out, KF3.out.alloc _⟩
              · have hne : ((re vl : Int) != 0) = true := by rw [bne_iff_ne]; omega
                have Hz : Hid (mF re c.ifs = re vl) := by
                  show _ = _; rw [Hst3.out, if_pos]; simp [hz]
                have Hn : Hid (xF re C 0 = (re vl, j + 2)) := by
                  show _ = _; rw [Hst.out, Hz.out, if_pos]; simp [hz]
                go_wp2_with (go_at_call 22; refine (LineOf_any _ _ (by omega) (by omega)).mono ?_; rintro e w' ⟨rfl, rfl⟩)
                go_ret2
                rw [Hn.out]
                exact ⟨rfl, KF3.out.alloc _⟩
            · go_wp2_with fail
              refine (PR.out _).mono ?_
              rintro e w3 ⟨hf, cs, hc1, hc2, rfl⟩
              have KF3 := hide ((KF.out.alloc _).trans hf)
              have hsto := run_storeCells_new (P := Try.prog) w3 72 Try.zeroCells72 cs (by rw [hc1]; exact autoInfo) (by rw [hc1]; exact autoZero) hc2
              clear hf hc2
              by_cases hz : re vl = 0
              · have Hs3 : Hid (mF re (c.ifs.drop (i + 1)) = mF re c.ifs) := by
                  show _ = _; rw [Hst3.out, hz]; rfl
                rw [hz]
                go_wp2
                go_roundg (gk - 1)
                case measure => omega
                case rel => exact ⟨i + 1, by omega, by go_num, Hs3.out, KF3.out.alloc _⟩
              · have hne : ((re vl : Int) != 0) = true := by rw [bne_iff_ne]; omega
                have Hz : Hid (mF re c.ifs = re vl) := by
                  show _ = _; rw [Hst3.out, if_pos]; simp [hz]
                have Hn : Hid (xF re C 0 = (re vl, j + 2)) := by
                  show _ = _; rw [Hst.out, Hz.out, if_pos]; simp [hz]
                go_wp2_with (go_at_call 22; refine (LineOf_any _ _ (by omega) (by omega)).mono ?_; rintro e w' ⟨rfl, rfl⟩)
                go_ret2
                rw [Hn.out]
                exact ⟨rfl, KF3.out.alloc _⟩
          · have hk2 : ((kd : Int) != 2) = true := by rw [bne_iff_ne]; omega
            have hk3 : ((kd : Int) != 3) = true := by rw [bne_iff_ne]; omega
            have Hs3 : Hid (mF re (c.ifs.drop (i + 1)) = mF re c.ifs) := by
              show _ = _; rw [Hst2.out, if_neg]; simp; omega
            go_wp2
            go_roundg (gk - 1)
            case measure => omega
            case rel => exact ⟨i + 1, by omega, by go_num, Hs3.out, KF.out.alloc _⟩
        · have Hz : Hid (mF re c.ifs = 0) := by
            show _ = _; rw [← KG.out, List.drop_eq_nil_of_le (by omega)]; rfl
          have Hn : Hid (xF re (C.drop (j + 1)) (j + 1) = xF re C 0) := by
            show _ = _; rw [Hst.out, Hz.out]; rfl
          go_wp2
          go_roundg (R.length - (j + 1))
          case measure => omega
          case rel => exact ⟨j + 1, by omega, by go_num, Hn.out, KF.out⟩
    · have hdr : C.drop j = [] := List.drop_eq_nil_of_le (by have := HCL.out; omega)
      have Hz : Hid (xF re C 0 = (0, 0)) := by show _ = _; rw [← KG.out, hdr]; rfl
      clear hdr KG
      go_wp2
      go_ret2
      rw [Hz.out]
      exact ⟨rfl, KF.out⟩

end Go.Proofs.Ytoiknmdkepepjaa
