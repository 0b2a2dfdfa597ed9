import Derived.Test.YthlemieldfbbfabMS
namespace Go.Proofs.Ythlemieldfbbfab
open Go.RowKit
set_option linter.unusedVariables false
set_option linter.unusedSimpArgs false
set_option linter.unnecessarySimpa false

def InssQ (nr nt : Nat) (w : World) (b : Nat) (t : List UInt8) (i : Nat) (V : V6) (e : Ending) (w' : World) : Prop :=
  ∃ (i' : Nat) (ok : Bool) (v : Value) (x : List InM), e = .returned (.bool ok) ∧ LD w' b t i' { V with i := v } ∧ Frm [b] w w' ∧ PO ok (pIs nr nt) (t.drop i) x (t.drop i') ∧ OW 109 4 w.heap.size w' v (icl x)

set_option maxRecDepth 100000 in
set_option maxHeartbeats 4000000 in
theorem takeInstructions_any (b : Nat) (t : List UInt8) (i : Nat) (V : V6) (nr nt : Nat) (w : World) (h : LD w b t i V) (hr : ∃ a c, V.r = .slice a nr c) (ht : ∃ a c, V.t = .slice a nt c) (hV : V.i = .slice none 0 0) :
    Calls Try.prog 42 #[.pointer (some ⟨b, 0, none⟩)] w (InssQ nr nt w b t i V) := by
  have N1 := hide (takeNumber_any b t i V 2 1 65536 2 1 65535 w h (by omega) (by omega) (by omega) rfl rfl rfl)
  have hb := h.lt
  have HV := hide hV
  clear h hV
  go_enter Try.func42, Try.ntmps42
  go_wp2_with fail
  refine (N1.out).mono ?_
  rintro e w1 ⟨i1, v, ok, rfl, hL1, hF1, hP1, hv⟩
  have L1 := hide hL1
  have F1 := hide hF1
  have P1 := hide hP1
  clear hL1 hF1 hP1 N1
  have hz1 := F1.out.size
  go_wp2_with fail
  go_loopg [4, 5] v (fun k v4 v5 wr => ∃ (j i' : Nat) (acc : List InM) (vr : Value) (okb : Bool), j + k = v ∧ v5 = .int .i64 j ∧ v4 = .bool okb ∧ OW 109 4 w.heap.size wr vr (icl acc) ∧ LD wr b t i' { V with i := vr } ∧ Frm [b] w wr ∧ acc.length = j ∧
      Hid ((okb = true ∧ v < 65536 ∧ pR (pI nr nt v) (v - j) acc (t.drop i') = pIs nr nt (t.drop i)) ∨ (okb = false ∧ pIs nr nt (t.drop i) = none)))
  case atStart =>
    refine ⟨0, i1, [], .slice none 0 0, ok, by omega, rfl, rfl, OW.nil _ _ _ _, ?_, F1.out, rfl, ?_⟩
    · have := L1.out; rw [← HV.out]; exact this
    rcases P1.out with ⟨h1, h2⟩ | ⟨h1, h2⟩
    · exact .inl ⟨h1, (pN_some h2).2.2, by unfold pIs; rw [h2]; rfl⟩
    · exact .inr ⟨h1, by unfold pIs; rw [h2]; rfl⟩
  case round =>
    obtain ⟨j, i2, acc, vr, okb, hjk, rfl, rfl, hO, hL, hF, hal, HR⟩ := hrel
    obtain ⟨ao, co, he⟩ := hO.shape
    rw [icl_len] at he
    subst he
    have O := hide hO
    have L := hide hL
    have F := hide hF
    have hz := hF.size
    have HAL := hide hal
    have hal2 : acc.length ≤ 16777216 := by omega
    clear hO hL hF hal
    cases okb with
    | false =>
      have HP : Hid (pIs nr nt (t.drop i) = none) := by
        rcases HR.out with ⟨h, _⟩ | ⟨_, h⟩
        · cases h
        · exact h
      clear HR
      go_wp2
      go_ret
      exact ⟨i2, false, _, acc, rfl, L.out, F.out, .inr ⟨rfl, HP.out⟩, O.out⟩
    | true =>
      have HP : Hid (v < 65536 ∧ pR (pI nr nt v) (v - j) acc (t.drop i2) = pIs nr nt (t.drop i)) := by
        rcases HR.out with ⟨_, h⟩ | ⟨h, _⟩
        · exact h
        · cases h
      clear HR
      by_cases hlt : j < v
      · have hd1 : decide ((j : Int) < (v : Int)) = true := decide_eq_true (by omega)
        have N2 := hide (takeInstruction_any b t i2 _ wr L.out)
        go_wp2_with fail
        refine (N2.out).mono ?_
        rintro e w2 ⟨i3, ok2, x, rfl, hL2, hF2, hP2, hx1, hx2, hx3, hx4⟩
        have L2 := hide hL2
        have F2 := hide hF2
        have O2 := hide (O.out.frm (hF2) (by intro g hg; simp at hg; omega))
        have HP2 : Hid (((ok2 && stands nr nt v j x) = true ∧ v < 65536 ∧ pR (pI nr nt v) (v - (j + 1)) (acc ++ [x]) (t.drop i3) = pIs nr nt (t.drop i)) ∨ ((ok2 && stands nr nt v j x) = false ∧ pIs nr nt (t.drop i) = none)) := by
          have h := HP.out
          rw [show v - j = (v - (j + 1)) + 1 by omega] at h
          rcases hP2 with ⟨h1, h2⟩ | ⟨h1, h2⟩
          · cases hs : stands nr nt v j x with
            | true =>
              refine .inl ⟨by rw [h1]; rfl, h.1, ?_⟩
              rw [← h.2, pR_succ, HAL.out, pI_eq, h2]; simp [hs]
            | false =>
              refine .inr ⟨by rw [h1]; rfl, ?_⟩
              rw [← h.2, pR_succ, HAL.out, pI_eq, h2]; simp [hs]
          · refine .inr ⟨by rw [h1]; rfl, ?_⟩
            rw [← h.2, pR_succ, HAL.out, pI_eq, h2]; rfl
        have hz2 := hF2.size
        have hvh := HP.out.1
        have c := hL2.ci
        have z := hL2.fz 7
        have hb2 := hL2.lt
        have hob : ∀ r, Value.ownBlock (.slice ao acc.length co) = some r → w.heap.size ≤ r := fun r hr => (O2.out.lt hr).1
        have HOB := hide hob
        have HTC := hide (icl_len acc)
        have L2b := hL2
        have ct := hL2.ct
        have cr := hL2.cr
        have g2 : ∀ o o' : Obj, ((w2.alloc o).alloc o').drew.frozen? ⟨b, 7, none⟩ = false := fun o o' => (((((Frm.refl [] w2).alloc o).alloc o').drew).frozen hb2 (by simp)).trans z
        have g1 : ∀ o : Obj, (w2.alloc o).drew.frozen? ⟨b, 7, none⟩ = false := fun o => ((((Frm.refl [] w2).alloc o).drew).frozen hb2 (by simp)).trans z
        have ag : Value.ownBlock (.slice ao acc.length co) ≠ some b := fun e => by have := HOB.out _ e; omega
        clear hL2 hF2 hP2 HP N2 L O hob L2b
        obtain ⟨x1, x2, x3, x4⟩ := x
        simp only [icell]
        go_wp2_with fail
        go_region_law ((refine step_appG _ (by rfl) _ _ 54 109 _ 4 32 infoIns Try.underlying54 (by rfl) (by omega) (by rfl) w.heap.size (.slice ao acc.length co) (icl acc) (w2.heap.size + 1) (icell ⟨x1, x2, x3, x4⟩) (0, 0) (by rfl) (O2.out.frm (S := []) ((((Frm.refl [] _).alloc _).alloc _).drew) (by simp)) (by rfl) (by rfl) (by exact heap_new2d _ _ _) (icell_one _) (by rw [HTC.out]; omega) (by rw [HTC.out]; omega) (by simp; omega) (w2.heap.size + 2) (by simp) ?_; intro gg cap2 w4 hown4 hgrow hat hlt4; have c4 := (hgrow.cell_far ⟨b, 7, none⟩ (by simp; omega) (Ne.symm ag)); have f4 := (hgrow.frozen_far ⟨b, 7, none⟩ (by simp; omega) (Ne.symm ag)); have f5 := f4.trans (g2 _ _); rw [HTC.out] at hown4 ⊢))
        all_goals
          have F3 : Frm [] w2 ((w2.alloc (Obj.cells (icell ⟨x1, x2, x3, x4⟩) 109)).alloc (Obj.cells (icell ⟨x1, x2, x3, x4⟩) 109)).drew := (((Frm.refl [] _).alloc _).alloc _).drew
          have G4 := hide hgrow
          have L4 := hide ((L2.out.frm F3 (by simp)).grown G4.out (fun r hr => by have := HOB.out r hr; omega))
          have hO5 := hown4
          rw [icl_snoc] at hO5
          have O5 := hide hO5
          have F4 : Hid (Frm [b] w w4) := ((((F.out.trans F2.out).trans (F3.mono (by simp)))).grown G4.out (fun r hr => .inr (HOB.out r hr)))
          have hne : Value.ownBlock (.slice ao acc.length co) ≠ some w2.heap.size := fun e => by have := (O2.out.lt e).2; omega
          have hloc : Hid (w4.heap[w2.heap.size]? = some (.cells (icell ⟨x1, x2, x3, x4⟩) 109 (0, 0))) := by
            refine (G4.out.block w2.heap.size (by simp; omega) (fun e => hne e.symm)).trans ?_
            refine (((Frm.refl [] (w2.alloc (Obj.cells (icell ⟨x1, x2, x3, x4⟩) 109))).alloc _).block w2.heap.size (by simp) (by simp)).trans ?_
            exact heap1 _ _
          have hz4 := F4.out.size
          clear hgrow hown4 hO5
          obtain ⟨W5, hW5⟩ : ∃ W5, W5 = w4.setCell ⟨b, 7, none⟩ (.slice (some ⟨gg, 0, none⟩) (acc.length + 1) cap2) := ⟨_, rfl⟩
          have L5 : Hid (LD W5 b t i3 { V with i := .slice (some ⟨gg, 0, none⟩) (acc.length + 1) cap2 }) := by rw [hW5]; exact L4.out.setI _
          have FB : Frm [b] w4 W5 := by rw [hW5]; exact (Frm.refl [b] _).setCell (p := ⟨b, 7, none⟩) (.inl (by simp)) _
          have F5 := hide (F4.out.trans FB)
          have O6 := hide (O5.out.frm FB (by simp; omega))
          have hl5 : Hid (W5.heap[w2.heap.size]? = some (.cells (icell ⟨x1, x2, x3, x4⟩) 109 (0, 0))) := (FB.block w2.heap.size (Array.getElem?_eq_some_iff.1 hloc.out).1 (by simp; omega)).trans hloc.out
          rw [← hW5]
          clear hW5 L4 O5 F4 hloc FB G4 c4 f4 f5
          have e0 : W5.cell? ⟨w2.heap.size, 0, none⟩ = some (.int .i64 (x1 : Nat)) := by simp [World.cell?, hl5.out, icell]
          have e1 : W5.cell? ⟨w2.heap.size, 1, none⟩ = some (.int .i64 (x2 : Nat)) := by simp [World.cell?, hl5.out, icell]
          have e2 : W5.cell? ⟨w2.heap.size, 2, none⟩ = some (.int .i64 (x3 : Nat)) := by simp [World.cell?, hl5.out, icell]
          have e3 : W5.cell? ⟨w2.heap.size, 3, none⟩ = some (.int .i64 (x4 : Nat)) := by simp [World.cell?, hl5.out, icell]
          have M : Hid (Calls Try.prog 65 #[.pointer (some ⟨b, 2, none⟩), .agg #[.int .i64 (x1 : Nat), .int .i64 (x2 : Nat), .int .i64 (x3 : Nat), .int .i64 (x4 : Nat)], .int .i64 (j : Nat), .int .i64 (v : Nat)] W5.drew fun e w' => e = .returned (.bool (stands nr nt v j ⟨x1, x2, x3, x4⟩)) ∧ Frm [] W5.drew w') := by
            obtain ⟨ar, cr2, er⟩ := hr
            obtain ⟨at2, ct2, et⟩ := ht
            have h3 := L5.out.ct
            have h4 := L5.out.cr
            exact mayStand_any b 2 nr nt v j ⟨x1, x2, x3, x4⟩ W5.drew at2 ar ct2 cr2 (by rw [← et]; exact h3) (by rw [← er]; exact h4)
          cases ok2 with
          | false =>
            go_wp2_with fail
            go_quiet (fail)
            go_wp2
            go_roundg (gk - 1)
            case measure => omega
            case rel => exact ⟨j + 1, i3, acc ++ [(⟨x1, x2, x3, x4⟩ : InM)], _, false, by omega, by go_num, rfl, O6.out.frm (S := []) ((Frm.refl [] _).drewN _) (by simp), L5.out.drewN _, F5.out.drewN _, by simp [HAL.out], HP2⟩
          | true =>
            go_wp2_with fail
            go_region_with (go_at_call 65; refine (M.out).mono ?_; rintro e w7 ⟨rfl, hF7⟩)
            all_goals
              have O7 := hide (O6.out.frm (S := []) (((Frm.refl [] W5).drew).trans hF7) (by simp))
              have L7 := hide (L5.out.frm (S := []) (((Frm.refl [] W5).drew).trans hF7) (by simp))
              have F7 := hide (F5.out.trans ((((Frm.refl [] W5).drew).trans hF7).mono (by simp)))
              clear hF7 M
              go_wp2
              go_roundg (gk - 1)
              case measure => omega
              case rel => exact ⟨j + 1, i3, acc ++ [(⟨x1, x2, x3, x4⟩ : InM)], _, stands nr nt v j ⟨x1, x2, x3, x4⟩, by omega, by go_num, rfl, O7.out, L7.out, F7.out, by simp [HAL.out], HP2⟩
      · have hjv : j = v := by omega
        have hd1 : decide ((j : Int) < (v : Int)) = false := decide_eq_false (by omega)
        have HP2 : Hid (pIs nr nt (t.drop i) = some (acc, t.drop i2)) := by
          have h := HP.out.2
          rw [hjv, Nat.sub_self] at h
          exact h.symm
        clear HP
        subst hjv
        go_wp2
        go_ret
        exact ⟨i2, true, _, acc, rfl, L.out, F.out, .inl ⟨rfl, HP2.out⟩, O.out⟩
end Go.Proofs.Ythlemieldfbbfab
