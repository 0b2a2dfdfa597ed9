import Derived.Test.YtjnaekffodgdcaaDoorW17
namespace Go.Proofs.YtjnaekffodgdcaaDoor
open Go.RowKit
set_option linter.unusedVariables false
set_option linter.unusedSimpArgs false
set_option linter.unnecessarySimpa false

def dupGo : List (List UInt8) → List (List UInt8) → Bool
  | _, [] => false
  | pre, x :: r => if pre.contains x then true else dupGo (pre ++ [x]) r
def nameGo (L : List (List UInt8)) : List CR → Nat → Nat
  | [], _ => 0
  | c :: r, i => if !(c.rc == [45]) && !(L.contains c.rc) then i + 2 else nameGo L r (i + 1)
def nameF (L : List (List UInt8)) (C : List CR) : Nat := if dupGo [] L then 1 else nameGo L C 0

theorem RS.take {base : Nat} {w : World} {a : Option Addr} {n cap : Nat} {L : List (List UInt8)} (h : RS base w (.slice a n cap) L) (k : Nat) (hk : k ≤ L.length) : RS base w (.slice a k cap) (L.take k) := by
  obtain ⟨a', cap', e, h1, h2, h3⟩ := h
  simp at e
  obtain ⟨rfl, rfl, rfl⟩ := e
  refine ⟨a, cap, by simp; omega, by simp; omega, by simp; omega, fun j hj => ?_⟩
  simp at hj
  obtain ⟨g, off, h4, h5, h6⟩ := h3 j (by omega)
  exact ⟨g, off, h4, h5, by simpa using h6⟩

set_option maxRecDepth 100000 in
set_option maxHeartbeats 2000000 in
theorem nameFault_any (base : Nat) (vr vt : Value) (L : List (List UInt8)) (R : List RV) (C : List CR) (w : World) (hs : SL base w vr L) (hr : RL base w vt R) (hp : Reps base w R C) (hR : R.length ≤ 1048576) (hL : L.length ≤ 1048576) :
    Calls Tryd.prog 18 #[.agg #[vr, vt]] w fun e w' => e = .returned (.int .i64 (nameF L C)) ∧ Frm [] w w' := by
  obtain ⟨a, cap, rfl⟩ := own_shape hr
  obtain ⟨a0, cap0, rfl⟩ := hs.shape
  have HCL : Hid (R.length = C.length) := hp.1
  have HR : Hid (RL base w (.slice a R.length cap) R) := hr
  have HS : Hid (RS 0 w (.slice a0 L.length cap0) L) := (hs.rs hL).base (Nat.zero_le _)
  have HP : Hid (Reps base w R C) := hp
  clear hr hp hs
  have hl := bs_toList
  have hk45 : ({ data := #[45] } : ByteArray).toList = [45] := bs_toList [45]
  have hb0 := heap1 w (Obj.cells #[.slice a0 L.length cap0, .slice a R.length cap] 35)
  have HB0 : Hid (CB (w.alloc (Obj.cells #[.slice a0 L.length cap0, .slice a R.length cap] 35)) w.heap.size (.slice a0 L.length cap0) (.slice a R.length cap)) := hb0
  clear hb0
  go_enter Tryd.func18, Tryd.ntmps18
  go_wp2_with fail
  go_loopg [10] L.length (fun k vi wr => ∃ (j : Nat), j + k = L.length ∧ vi = .int .i64 j ∧ dupGo (L.take j) (L.drop j) = dupGo [] L ∧ CB wr w.heap.size (.slice a0 L.length cap0) (.slice a R.length cap) ∧ Frm [] w wr)
  case atStart => exact ⟨0, by omega, rfl, rfl, HB0.out, (Frm.refl _ _).alloc _⟩
  case round =>
    obtain ⟨j, hj, rfl, hdu, hcb, hfr⟩ := hrel
    have KD : Hid (dupGo (L.take j) (L.drop j) = dupGo [] L) := hdu
    have KC : Hid (CB wr w.heap.size (.slice a0 L.length cap0) (.slice a R.length cap)) := hcb
    have KF : Hid (Frm [] w wr) := hfr
    have d0 := hcb.c0
    have d1 := hcb.c1
    clear hdu hcb hfr
    by_cases hlt : j < L.length
    · have hrs : RS 0 wr (.slice a0 L.length cap0) L := HS.out.frm KF.out (by simp)
      have Hrs : Hid (RS 0 wr (.slice a0 L.length cap0) L) := hrs
      obtain ⟨a', cap', e, h1, h2, h3⟩ := hrs
      simp at e
      obtain ⟨e1, e2⟩ := e
      subst e1 e2
      obtain ⟨g, off, h4, h5, h6⟩ := h3 j hlt
      subst h4
      clear h3
      have Hd : Hid (L.drop j = L[j] :: L.drop (j + 1)) := List.drop_eq_getElem_cons hlt
      have Ht : Hid (L.take (j + 1) = L.take j ++ [L[j]]) := List.take_succ_eq_append_getElem hlt
      generalize L[j] = x at *
      go_wp2_with fail
      refine (has_any _ (L.take j) x _ (Hrs.out.take j (by omega))).mono ?_
      rintro e w' ⟨rfl, rfl⟩
      cases hcn : (L.take j).contains x
      · have KD2 : Hid (dupGo (L.take (j + 1)) (L.drop (j + 1)) = dupGo [] L) := by
          show _ = _; rw [← KD.out, Hd.out, Ht.out]; conv => rhs; unfold dupGo
          rw [hcn]; rfl
        go_wp2
        go_roundg (gk - 1)
        case measure => omega
        case rel => exact ⟨j + 1, by omega, by go_num, KD2.out, KC.out, KF.out⟩
      · have Hx : Hid (nameF L C = 1) := by
          show _ = _; unfold nameF; rw [← KD.out, Hd.out]; unfold dupGo; rw [hcn]; rfl
        go_wp2
        go_ret
        exact ⟨ret_int (by rw [Hx.out]; rfl), KF.out⟩
    · have Hx0 : Hid (nameF L C = nameGo L C 0) := by
        show _ = _; unfold nameF; rw [← KD.out, List.drop_eq_nil_of_le (by omega)]; rfl
      clear KD
      go_wp2_with fail
      go_loopg [25] R.length (fun k vi wr => ∃ (j : Nat), j + k = R.length ∧ vi = .int .i64 j ∧ nameGo L (C.drop j) j = nameF L C ∧ CB wr w.heap.size (.slice a0 L.length cap0) (.slice a R.length cap) ∧ Frm [] w wr)
      case atStart => exact ⟨0, by omega, rfl, Hx0.out.symm, KC.out, KF.out⟩
      case round =>
        clear d0 d1 KC KF hlt hj
        obtain ⟨j, hj, rfl, hgo, hcb, hfr⟩ := hrel
        have KG : Hid (nameGo L (C.drop j) j = nameF L C) := hgo
        have KC : Hid (CB wr w.heap.size (.slice a0 L.length cap0) (.slice a R.length cap)) := hcb
        have KF : Hid (Frm [] w wr) := hfr
        have d0 := hcb.c0
        have d1 := hcb.c1
        have hcs := hcb.lt
        clear hgo hcb hfr
        by_cases hlt : j < R.length
        · have hcl := HCL.out
          have hjR : R[j]? = some R[j] := List.getElem?_eq_getElem hlt
          have hjC : C[j]? = some (C[j]'(by omega)) := List.getElem?_eq_getElem (by omega)
          have hrep := HP.out.2 j _ _ hjR hjC
          have Hd : Hid (C.drop j = (C[j]'(by omega)) :: C.drop (j + 1)) := List.drop_eq_getElem_cons (by omega)
          generalize (C[j]'(by omega)) = c at *
          have hr1 : RL base wr (.slice a R.length cap) R := own_frm HR.out KF.out (by simp)
          obtain ⟨g, hg⟩ : ∃ g, a = some ⟨g, 0, none⟩ := by
            rcases hr1.2 with ⟨e, h⟩ | ⟨g, c, cur, e, _⟩
            · omega
            · simp at e; exact ⟨g, e.1⟩
          subst hg
          have hcell := fun k hk => hr1.cell hjR k hk
          generalize R[j] = rv at *
          obtain ⟨d, rc, tb, vby, wt, ev, rp, vif, co⟩ := rv
          have q0 : wr.cell? ⟨g, j * 9, none⟩ = some (.int .i64 d) := hcell 0 (by omega)
          have q1 : wr.cell? ⟨g, j * 9 + 1, none⟩ = some (.string (bs rc)) := hcell 1 (by omega)
          have q2 : wr.cell? ⟨g, j * 9 + 2, none⟩ = some (.bool tb) := hcell 2 (by omega)
          have q3 : wr.cell? ⟨g, j * 9 + 3, none⟩ = some vby := hcell 3 (by omega)
          have q4 : wr.cell? ⟨g, j * 9 + 4, none⟩ = some (.int .i64 wt) := hcell 4 (by omega)
          have q5 : wr.cell? ⟨g, j * 9 + 5, none⟩ = some (.int .i64 ev) := hcell 5 (by omega)
          have q6 : wr.cell? ⟨g, j * 9 + 6, none⟩ = some (.int .i64 rp) := hcell 6 (by omega)
          have q7 : wr.cell? ⟨g, j * 9 + 7, none⟩ = some vif := hcell 7 (by omega)
          have q8 : wr.cell? ⟨g, j * 9 + 8, none⟩ = some (.bool co) := hcell 8 (by omega)
          obtain ⟨ab, cb, eb⟩ := hrep.by_.shape
          obtain ⟨ai, ci, ei⟩ := own_shape hrep.ifs
          have hrc := hrep.rc
          simp only at eb ei hrc
          subst eb ei hrc
          clear hcell hr1 hrep hjR hjC hcl
          have Hst : Hid (nameF L C = if !(c.rc == [45]) && !(L.contains c.rc) then j + 2 else nameGo L (C.drop (j + 1)) (j + 1)) := by
            show _ = _; rw [← KG.out, Hd.out]; rfl
          have hrs : ∀ o, RS 0 (wr.alloc o) (.slice a0 L.length cap0) L := fun o => HS.out.frm (KF.out.alloc o) (by simp)
          have Hrs := hide hrs
          clear KG Hd hrs
          cases h45 : (c.rc == [45])
          · go_wp2_with fail
            refine (has_any _ L c.rc _ (Hrs.out _)).mono ?_
            rintro e w' ⟨rfl, rfl⟩
            cases hcn : L.contains c.rc
            · have Hx : Hid (nameF L C = j + 2) := by show _ = _; rw [Hst.out, h45, hcn]; rfl
              go_wp2_with (go_at_call 26; refine (LineOf_any _ _ (by omega) (by omega)).mono ?_; rintro e w' ⟨rfl, rfl⟩)
              go_ret
              exact ⟨ret_int (by rw [Hx.out]; simp), KF.out.alloc _⟩
            · have Hx : Hid (nameGo L (C.drop (j + 1)) (j + 1) = nameF L C) := by show _ = _; rw [Hst.out, h45, hcn]; rfl
              go_wp2
              go_roundg (gk - 1)
              case measure => omega
              case rel => exact ⟨j + 1, by omega, by go_num, Hx.out, KC.out.frm (S := []) ((Frm.refl _ _).alloc _) (by simp), KF.out.alloc _⟩
          · have Hx : Hid (nameGo L (C.drop (j + 1)) (j + 1) = nameF L C) := by show _ = _; rw [Hst.out, h45]; rfl
            go_wp2
            go_roundg (gk - 1)
            case measure => omega
            case rel => exact ⟨j + 1, by omega, by go_num, Hx.out, KC.out.frm (S := []) ((Frm.refl _ _).alloc _) (by simp), KF.out.alloc _⟩
        · have hgz : Hid (nameF L C = 0) := by
            show _ = _; rw [← KG.out, List.drop_eq_nil_of_le (by have := HCL.out; omega)]; rfl
          go_wp2
          go_ret
          exact ⟨ret_int (by rw [hgz.out]; rfl), KF.out⟩

end Go.Proofs.YtjnaekffodgdcaaDoor
