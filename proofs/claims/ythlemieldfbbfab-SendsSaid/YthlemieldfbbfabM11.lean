import Derived.Test.YthlemieldfbbfabM10
import Derived.Deep.RegionLaw
namespace Go.Proofs.Ythlemieldfbbfab
open Go.RowKit
set_option linter.unusedVariables false
set_option linter.unusedSimpArgs false
set_option linter.unnecessarySimpa false

theorem hcell_one (x : HitM) (a : Option Addr) (n c : Nat) : (hcell x (.slice a n c)).all (·.oneCell') = true := by simp [hcell, Value.oneCell']
def HitsQ (A : List Nat) (w : World) (b : Nat) (t : List UInt8) (i : Nat) (V : V6) (e : Ending) (w' : World) : Prop :=
  ∃ (i' : Nat) (ok : Bool) (v : Value) (x : List HitM) (css : List (Array Value)), e = .returned (.bool ok) ∧ LD w' b t i' { V with r := v } ∧ Frm [b] w w' ∧ PO ok pHs (t.drop i) x (t.drop i') ∧ OW 75 5 w.heap.size w' v (lst css) ∧ RowI hitI ((b :: A) ++ v.ownBlock.toList) w' css x

set_option maxRecDepth 100000 in
set_option maxHeartbeats 4000000 in
theorem takeRoutes_any (b : Nat) (t : List UInt8) (i : Nat) (V : V6) (w : World) (h : LD w b t i V) (hV : V.r = .slice none 0 0) (A : List Nat) (hA : ∀ g ∈ A, g < w.heap.size) :
    Calls Try.prog 41 #[.pointer (some ⟨b, 0, none⟩)] w (HitsQ A w b t i V) := by
  have N1 := hide (takeNumber_any b t i V 1 0 17 1 0 16 w h (by omega) (by omega) (by omega) rfl rfl rfl)
  have hb := h.lt
  have HV := hide hV
  clear h hV
  go_enter Try.func41, Try.ntmps41
  go_wp2_with fail
  refine (N1.out).mono ?_
  rintro e w1 ⟨i1, v, ok, rfl, hL1, hF1, hP1, hv⟩
  have L1 := hide hL1
  have F1 := hide hF1
  have P1 := hide hP1
  clear hL1 hF1 hP1 N1
  have hz1 := F1.out.size
  go_wp2_with fail
  go_loopg [4, 5] v (fun k v4 v5 wr => ∃ (j i' : Nat) (acc : List HitM) (css : List (Array Value)) (vr : Value) (okb : Bool), j + k = v ∧ v5 = .int .i64 j ∧ v4 = .bool okb ∧ OW 75 5 w.heap.size wr vr (lst css) ∧ LD wr b t i' { V with r := vr } ∧ Frm [b] w wr ∧ css.length ≤ j ∧ RowI hitI ((b :: A) ++ vr.ownBlock.toList) wr css acc ∧
      Hid ((okb = true ∧ v < 17 ∧ pR (fun _ => pH) (v - j) acc (t.drop i') = pHs (t.drop i)) ∨ (okb = false ∧ pHs (t.drop i) = none)))
  case atStart =>
    refine ⟨0, i1, [], [], .slice none 0 0, ok, by omega, rfl, rfl, OW.nil _ _ _ _, ?_, F1.out, by simp, RowI.nil _ _ _, ?_⟩
    · have := L1.out; rw [← HV.out]; exact this
    rcases P1.out with ⟨h1, h2⟩ | ⟨h1, h2⟩
    · exact .inl ⟨h1, (pN_some h2).2.2, by unfold pHs; rw [h2]; rfl⟩
    · exact .inr ⟨h1, by unfold pHs; rw [h2]; rfl⟩
  case round =>
    obtain ⟨j, i2, acc, css, vr, okb, hjk, rfl, rfl, hO, hL, hF, hal, hI, HR⟩ := hrel
    obtain ⟨ao, co, he⟩ := hO.shape
    rw [lst_len] at he
    subst he
    have O := hide hO
    have L := hide hL
    have F := hide hF
    have hz := hF.size
    have I := hide hI
    clear hO hL hF hI
    cases okb with
    | false =>
      have HP : Hid (pHs (t.drop i) = none) := by
        rcases HR.out with ⟨h, _⟩ | ⟨_, h⟩
        · cases h
        · exact h
      clear HR
      go_wp2
      go_ret
      exact ⟨i2, false, _, acc, css, rfl, L.out, F.out, .inr ⟨rfl, HP.out⟩, O.out, I.out⟩
    | true =>
      have HP : Hid (v < 17 ∧ pR (fun _ => pH) (v - j) acc (t.drop i2) = pHs (t.drop i)) := by
        rcases HR.out with ⟨_, h⟩ | ⟨h, _⟩
        · exact h
        · cases h
      clear HR
      by_cases hlt : j < v
      · have hd1 : decide ((j : Int) < (v : Int)) = true := decide_eq_true (by omega)
        have N2 := hide (takeHit_any b t i2 _ wr L.out)
        go_wp2_with fail
        refine (N2.out).mono ?_
        rintro e w2 ⟨i3, ok2, x, ab, cb, rfl, hL2, hF2, hP2, hrw⟩
        have L2 := hide hL2
        have F2 := hide hF2
        have O2 := hide (O.out.frm (hF2) (by intro g hg; simp at hg; omega))
        have HP2 : Hid ((ok2 = true ∧ v < 17 ∧ pR (fun _ => pH) (v - (j + 1)) (acc ++ [x]) (t.drop i3) = pHs (t.drop i)) ∨ (ok2 = false ∧ pHs (t.drop i) = none)) := by
          have h := HP.out
          rw [show v - j = (v - (j + 1)) + 1 by omega] at h
          rcases hP2 with ⟨h1, h2⟩ | ⟨h1, h2⟩
          · refine .inl ⟨h1, h.1, ?_⟩
            rw [← h.2, pR_succ, h2]; rfl
          · refine .inr ⟨h1, ?_⟩
            rw [← h.2, pR_succ, h2]; rfl
        have hz2 := hF2.size
        have hvh := HP.out.1
        have c := hL2.cr
        have z := hL2.fz 6
        have hb2 := hL2.lt
        have hob : ∀ r, Value.ownBlock (.slice ao css.length co) = some r → w.heap.size ≤ r := fun r hr => (O2.out.lt hr).1
        have HOB := hide hob
        have HTC := hide (lst_len css)
        have I2 : Hid (RowI hitI ((b :: A) ++ (Value.ownBlock (.slice ao css.length co)).toList) w2 (css ++ [hcell x (.slice ab x.bl.length cb)]) (acc ++ [x])) := by
          refine RowI.snoc (I.out.frm hF2 (by simp)) ⟨_, rfl, hrw.rw ?_⟩
          intro g hg hm
          have h1 := (hrw.lt hg).1
          simp at hm
          rcases hm with hm | hm | hm
          · omega
          · have := hA g hm; omega
          · have := (O.out.lt hm).2; omega
        have HV2 : Hid (hcell x (.slice ab x.bl.length cb) = #[.string (bs x.rc), .slice ab x.bl.length cb, .int .i64 (x.wt : Nat), .int .i64 (x.ev : Nat), .int .i64 (x.rp : Nat)]) := rfl
        have g2 : ∀ o o' : Obj, ((w2.alloc o).alloc o').drew.frozen? ⟨b, 6, none⟩ = false := fun o o' => (((((Frm.refl [] w2).alloc o).alloc o').drew).frozen hb2 (by simp)).trans z
        have g1 : ∀ o : Obj, (w2.alloc o).drew.frozen? ⟨b, 6, none⟩ = false := fun o => ((((Frm.refl [] w2).alloc o).drew).frozen hb2 (by simp)).trans z
        have ag : Value.ownBlock (.slice ao css.length co) ≠ some b := fun e => by have := HOB.out _ e; omega
        clear hL2 hF2 hP2 HP N2 L O hob hrw I
        obtain ⟨x1, x2, x3, x4, x5⟩ := x
        simp only [hcell]
        go_wp2_with fail
        go_region_law ((refine step_appG _ (by rfl) _ _ 34 75 _ 5 64 infoHit Try.underlying34 (by rfl) (by omega) (by rfl) w.heap.size (.slice ao css.length co) (lst css) (w2.heap.size + 1) (hcell ⟨x1, x2, x3, x4, x5⟩ (.slice ab x2.length cb)) (0, 0) (by rfl) (O2.out.frm (S := []) ((((Frm.refl [] _).alloc _).alloc _).drew) (by simp)) (by rfl) (by rfl) (by exact heap_new2d _ _ _) (hcell_one _ _ _ _) (by rw [HTC.out]; omega) (by rw [HTC.out]; omega) (by simp; omega) (w2.heap.size + 2) (by simp) ?_; intro gg cap2 w4 hown4 hgrow hat hlt4; have c4 := (hgrow.cell_far ⟨b, 6, none⟩ (by simp; omega) (Ne.symm ag)); have f4 := (hgrow.frozen_far ⟨b, 6, none⟩ (by simp; omega) (Ne.symm ag)); have f5 := f4.trans (g2 _ _); rw [HTC.out] at hown4 ⊢))
        all_goals
          have G4 := hide hgrow
          have O4 := hide hown4
          clear hgrow hown4
          go_wp2
          go_roundg (gk - 1)
          case measure => omega
          case rel =>
            have F3 : Frm [] w2 ((w2.alloc (Obj.cells (hcell ⟨x1, x2, x3, x4, x5⟩ (.slice ab x2.length cb)) 75)).alloc (Obj.cells (hcell ⟨x1, x2, x3, x4, x5⟩ (.slice ab x2.length cb)) 75)).drew := (((Frm.refl [] _).alloc _).alloc _).drew
            have L4 := (L2.out.frm F3 (by simp)).grown G4.out (fun r hr => by have := HOB.out r hr; omega)
            have O5 := O4.out
            rw [lst_snoc] at O5
            have FB : ∀ u, Frm [b] w4 (w4.setCell ⟨b, 6, none⟩ u) := fun u => (Frm.refl [b] _).setCell (p := ⟨b, 6, none⟩) (.inl (by simp)) u
            have R3 := I2.out.frm F3 (by simp)
            have R4 := R3.app (g := gg) G4.out (hat.imp id (fun h => by rw [h]; simp))
            exact ⟨j + 1, i3, acc ++ [(⟨x1, x2, x3, x4, x5⟩ : HitM)], css ++ [hcell ⟨x1, x2, x3, x4, x5⟩ (.slice ab x2.length cb)], _, ok2, by omega, by go_num, rfl, O5.frm (FB _) (by simp; omega), L4.setR _, ((((F.out.trans F2.out).trans (F3.mono (by simp)))).grown G4.out (fun r hr => .inr (HOB.out r hr))).trans (FB _), by simp; omega, R4.frm (FB _) (by simp), HP2⟩
      · have hjv : j = v := by omega
        have hd1 : decide ((j : Int) < (v : Int)) = false := decide_eq_false (by omega)
        have HP2 : Hid (pHs (t.drop i) = some (acc, t.drop i2)) := by
          have h := HP.out.2
          rw [hjv, Nat.sub_self] at h
          exact h.symm
        clear HP
        subst hjv
        go_wp2
        go_ret
        exact ⟨i2, true, _, acc, css, rfl, L.out, F.out, .inl ⟨rfl, HP2.out⟩, O.out, I.out⟩
end Go.Proofs.Ythlemieldfbbfab
