import Derived.Test.YthlemieldfbbfabM7
import Derived.Deep.RegionLaw
namespace Go.Proofs.Ythlemieldfbbfab
open Go.RowKit
set_option linter.unusedVariables false
set_option linter.unusedSimpArgs false
set_option linter.unnecessarySimpa false

theorem heap_new2d (w : World) (a b : Obj) : ((w.alloc a).alloc b).drew.heap[w.heap.size + 1]? = some b := by
  have := heap_alloc_new (w.alloc a) b
  rw [← this]; simp; rfl

set_option maxRecDepth 100000 in
set_option maxHeartbeats 4000000 in
theorem takeTests_any (b : Nat) (t : List UInt8) (i : Nat) (V : V6) (nn nc na : Nat) (w : World) (h : LD w b t i V) (hn : ∃ a c, V.n = .slice a nn c) (hc : ∃ a c, V.c = .slice a nc c) (ha : ∃ a c, V.a = .slice a na c) (hnn : nn ≤ 1000) (hnc : nc ≤ 1000) (hna : na ≤ 1000) (hV : V.t = .slice none 0 0) :
    Calls Try.prog 40 #[.pointer (some ⟨b, 0, none⟩)] w fun e w' => ∃ (i' : Nat) (ok : Bool) (v : Value) (x : List TstM), e = .returned (.bool ok) ∧ LD w' b t i' { V with t := v } ∧ Frm [b] w w' ∧ PO ok (pTss nn nc na) (t.drop i) x (t.drop i') ∧ OW 106 3 w.heap.size w' v (tc x) := by
  have N1 := hide (takeNumber_any b t i V 1 0 256 1 0 255 w h (by omega) (by omega) (by omega) rfl rfl rfl)
  have hb := h.lt
  have HV := hide hV
  clear h hV
  go_enter Try.func40, Try.ntmps40
  go_wp2_with fail
  refine (N1.out).mono ?_
  rintro e w1 ⟨i1, v, ok, rfl, hL1, hF1, hP1, hv⟩
  have L1 := hide hL1
  have F1 := hide hF1
  have P1 := hide hP1
  clear hL1 hF1 hP1 N1
  have hz1 := F1.out.size
  go_wp2_with fail
  go_loopg [4, 5] v (fun k v4 v5 wr => ∃ (j i' : Nat) (acc : List TstM) (vr : Value) (okb : Bool), j + k = v ∧ v5 = .int .i64 j ∧ v4 = .bool okb ∧ OW 106 3 w.heap.size wr vr (tc acc) ∧ LD wr b t i' { V with t := vr } ∧ Frm [b] w wr ∧ acc.length ≤ j ∧
      Hid ((okb = true ∧ v < 256 ∧ pR (fun _ => pTs nn nc na) (v - j) acc (t.drop i') = pTss nn nc na (t.drop i)) ∨ (okb = false ∧ pTss nn nc na (t.drop i) = none)))
  case atStart =>
    refine ⟨0, i1, [], .slice none 0 0, ok, by omega, rfl, rfl, OW.nil _ _ _ _, ?_, F1.out, by simp, ?_⟩
    · have := L1.out; rw [← HV.out]; exact this
    rcases P1.out with ⟨h1, h2⟩ | ⟨h1, h2⟩
    · exact .inl ⟨h1, (pN_some h2).2.2, by unfold pTss; rw [h2]; rfl⟩
    · exact .inr ⟨h1, by unfold pTss; rw [h2]; rfl⟩
  case round =>
    obtain ⟨j, i2, acc, vr, okb, hjk, rfl, rfl, hO, hL, hF, hal, HR⟩ := hrel
    obtain ⟨ao, co, he⟩ := hO.shape
    rw [tc_len] at he
    subst he
    have O := hide hO
    have L := hide hL
    have F := hide hF
    have hz := hF.size
    clear hO hL hF
    cases okb with
    | false =>
      have HP : Hid (pTss nn nc na (t.drop i) = none) := by
        rcases HR.out with ⟨h, _⟩ | ⟨_, h⟩
        · cases h
        · exact h
      clear HR
      go_wp2
      go_ret
      exact ⟨i2, false, _, acc, rfl, L.out, F.out, .inr ⟨rfl, HP.out⟩, O.out⟩
    | true =>
      have HP : Hid (v < 256 ∧ pR (fun _ => pTs nn nc na) (v - j) acc (t.drop i2) = pTss nn nc na (t.drop i)) := by
        rcases HR.out with ⟨_, h⟩ | ⟨h, _⟩
        · exact h
        · cases h
      clear HR
      by_cases hlt : j < v
      · have hd1 : decide ((j : Int) < (v : Int)) = true := decide_eq_true (by omega)
        have N2 := hide (takeTest_any b t i2 _ nn nc na wr L.out hn hc ha hnn hnc hna)
        go_wp2_with fail
        refine (N2.out).mono ?_
        rintro e w2 ⟨i3, ok2, x, rfl, hL2, hF2, hP2⟩
        have L2 := hide hL2
        have F2 := hide hF2
        have O2 := hide (O.out.frm (hF2) (by intro g hg; simp at hg; omega))
        have HP2 : Hid ((ok2 = true ∧ v < 256 ∧ pR (fun _ => pTs nn nc na) (v - (j + 1)) (acc ++ [x]) (t.drop i3) = pTss nn nc na (t.drop i)) ∨ (ok2 = false ∧ pTss nn nc na (t.drop i) = none)) := by
          have h := HP.out
          rw [show v - j = (v - (j + 1)) + 1 by omega] at h
          rcases hP2 with ⟨h1, h2⟩ | ⟨h1, h2⟩
          · refine .inl ⟨h1, h.1, ?_⟩
            rw [← h.2, pR_succ, h2]; rfl
          · refine .inr ⟨h1, ?_⟩
            rw [← h.2, pR_succ, h2]; rfl
        have hz2 := hF2.size
        have hvh := HP.out.1
        have c := hL2.ct
        have z := hL2.fz 5
        have hb2 := hL2.lt
        have hob : ∀ r, Value.ownBlock (.slice ao acc.length co) = some r → w.heap.size ≤ r := fun r hr => (O2.out.lt hr).1
        have HOB := hide hob
        have hl := tc_len acc
        have HTC := hide (tc_len acc)
        have g2 : ∀ o o' : Obj, ((w2.alloc o).alloc o').drew.frozen? ⟨b, 5, none⟩ = false := fun o o' => (((((Frm.refl [] w2).alloc o).alloc o').drew).frozen hb2 (by simp)).trans z
        have g1 : ∀ o : Obj, (w2.alloc o).drew.frozen? ⟨b, 5, none⟩ = false := fun o => ((((Frm.refl [] w2).alloc o).drew).frozen hb2 (by simp)).trans z
        have ag : Value.ownBlock (.slice ao acc.length co) ≠ some b := fun e => by have := HOB.out _ e; omega
        clear hL2 hF2 hP2 HP N2 L O hob hl
        obtain ⟨x1, x2, x3⟩ := x
        simp only [tcell]
        go_wp2_with fail
        go_region_law ((refine step_appG _ (by rfl) _ _ 53 106 _ 3 24 infoTest Try.underlying53 (by rfl) (by omega) (by rfl) w.heap.size (.slice ao acc.length co) (tc acc) (w2.heap.size + 1) (tcell ⟨x1, x2, x3⟩) (0, 0) (by rfl) (O2.out.frm (S := []) ((((Frm.refl [] _).alloc _).alloc _).drew) (by simp)) (by rfl) (by rfl) (by exact heap_new2d _ _ _) (tcell_one _) (by rw [HTC.out]; omega) (by rw [HTC.out]; omega) (by simp; omega) (w2.heap.size + 2) (by simp) ?_; intro gg cap2 w4 hown4 hgrow hat hlt4; have c4 := (hgrow.cell_far ⟨b, 5, none⟩ (by simp; omega) (Ne.symm ag)); have f4 := (hgrow.frozen_far ⟨b, 5, none⟩ (by simp; omega) (Ne.symm ag)); have f5 := f4.trans (g2 _ _); rw [HTC.out] at hown4 ⊢))
        all_goals
          have G4 := hide hgrow
          have O4 := hide hown4
          clear hgrow hown4
          go_wp2
          go_roundg (gk - 1)
          case measure => omega
          case rel =>
            have L4 := (L2.out.frm (S := []) ((((Frm.refl [] _).alloc _).alloc _).drew) (by simp)).grown G4.out (fun r hr => by have := HOB.out r hr; omega)
            have O5 := O4.out
            rw [tc_snoc] at O5
            refine ⟨j + 1, i3, acc ++ [(⟨x1, x2, x3⟩ : TstM)], _, ok2, by omega, by go_num, rfl, O5.frm (S := [b]) ((Frm.refl [b] _).setCell (p := ⟨b, 5, none⟩) (.inl (by simp)) _) (by simp; omega), L4.setT _, (((((F.out.trans F2.out).alloc _).alloc _).drew).grown G4.out (fun r hr => .inr (HOB.out r hr))).setCell (p := ⟨b, 5, none⟩) (.inl (by simp)) _, by simp; omega, HP2⟩
      · have hjv : j = v := by omega
        have hd1 : decide ((j : Int) < (v : Int)) = false := decide_eq_false (by omega)
        have HP2 : Hid (pTss nn nc na (t.drop i) = some (acc, t.drop i2)) := by
          have h := HP.out.2
          rw [hjv, Nat.sub_self] at h
          exact h.symm
        clear HP
        subst hjv
        go_wp2
        go_ret
        exact ⟨i2, true, _, acc, rfl, L.out, F.out, .inl ⟨rfl, HP2.out⟩, O.out⟩
end Go.Proofs.Ythlemieldfbbfab
