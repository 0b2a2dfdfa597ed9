import Derived.Test.YthlemieldfbbfabL2
namespace Go.Proofs.Ythlemieldfbbfab
open Go.RowKit
set_option linter.unusedVariables false
set_option linter.unusedSimpArgs false
set_option linter.unnecessarySimpa false

set_option maxRecDepth 100000 in
set_option maxHeartbeats 4000000 in
theorem areLabels_any (v : Value) (L : List LBL) (w : World) (h : LR w v L) (hn : ∀ x ∈ L, x.1.length ≤ 1048576 ∧ x.2.length ≤ 1048576) (hcap : ∀ a n c, v = .slice a n c → L.length ≤ c) :
    Calls Try.prog 30 #[v] w fun e w' => e = .returned (.bool (labsOK L)) ∧ Frm [] w w' := by
  have HLR := hide h
  obtain ⟨a, cap, rfl, h0, h1⟩ := h
  have hc := hcap a _ cap rfl
  have H1 := hide h1
  have HN := hide hn
  have hl := bs_toList
  have hsz := bs_size
  clear h1 hn hcap
  by_cases hL : 12 < L.length
  · have HV : Hid (labsOK L = false) := by show _ = _; unfold labsOK; rw [decide_eq_false (by omega)]; rfl
    have hd : decide ((12 : Int) < (L.length : Int)) = true := decide_eq_true (by omega)
    have hd' : decide (12 < L.length) = true := decide_eq_true hL
    go_enter Try.func30, Try.ntmps30
    go_wp2
    go_ret
    rw [HV.out]
    exact ⟨rfl, Frm.refl _ _⟩
  · have HO : Hid (labsOK L = labsB [] L) := by show _ = _; unfold labsOK; rw [decide_eq_true (by omega)]; rfl
    have hd : decide ((12 : Int) < (L.length : Int)) = false := decide_eq_false (by omega)
    have hd' : decide (12 < L.length) = false := decide_eq_false hL
    go_enter Try.func30, Try.ntmps30
    go_wp2_with fail
    go_loopg [10] L.length (fun k v10 wr => ∃ j : Nat, j + k = L.length ∧ v10 = .int .i64 j ∧ Frm [] w wr ∧ Hid (labsB (L.take j) (L.drop j) = labsOK L))
    case atStart => exact ⟨0, by omega, rfl, Frm.refl _ _, by show _ = _; rw [HO.out]; simp⟩
    case round =>
      obtain ⟨j, hjk, rfl, hfr, HF⟩ := hrel
      have F := hide hfr
      have hzr := hfr.size
      clear hfr
      by_cases hlt : j < L.length
      · have hd1 : decide ((j : Int) < (L.length : Int)) = true := decide_eq_true (by omega)
        obtain ⟨g, off, rfl, hg, hc1, hc2⟩ := H1.out j hlt
        have hx := HN.out L[j] (List.getElem_mem hlt)
        have q1 := (F.out.cell (p := ⟨g, off + j * 2, none⟩) hg (by simp)).trans hc1
        have q2 := (F.out.cell (p := ⟨g, off + j * 2 + 1, none⟩) hg (by simp)).trans hc2
        have HA : Hid (labsOK L = (isNameL L[j].1 && decide (L[j].2.length ≤ 40) && !((L.take j).any fun y => y.1 == L[j].1) && labsB (L.take (j + 1)) (L.drop (j + 1)))) := by
          show _ = _; rw [← HF.out]; exact labsB_at L j hlt
        clear HF hc1 hc2
        generalize hLj : L[j] = x at *
        clear hLj
        obtain ⟨nm, vl⟩ := x
        simp only at q1 q2 hx HA
        by_cases hvl : 40 < vl.length
        · have hd2 : decide ((40 : Int) < (vl.length : Int)) = true := decide_eq_true (by omega)
          have hd2' : decide (40 < vl.length) = true := decide_eq_true hvl
          have HV : Hid (labsOK L = false) := by show _ = _; rw [HA.out, decide_eq_false (by omega)]; simp
          go_wp2_with fail
          go_quiet (fail)
          go_wp2
          go_ret
          rw [HV.out]
          exact ⟨rfl, (F.out.alloc _).drewN _⟩
        · have hd2 : decide ((40 : Int) < (vl.length : Int)) = false := decide_eq_false (by omega)
          have hd2' : decide (40 < vl.length) = false := decide_eq_false hvl
          cases hin : isNameL nm
          · have HV : Hid (labsOK L = false) := by show _ = _; rw [HA.out, hin]; rfl
            have NA : Hid (∀ W, Calls Try.prog 49 #[.string (bs nm)] W fun e w' => e = .returned (.bool false) ∧ w' = W) := fun W => by have := IsName_any nm W hx.1; rw [hin] at this; exact this.mono (fun e w' h => ⟨h.1, h.2.symm⟩)
            go_wp2_with fail
            go_quiet ((go_at_call 49; exact Calls.quiet_of_same (NA.out _)))
            go_wp2
            go_ret
            rw [HV.out]
            exact ⟨rfl, (F.out.alloc _).drewN _⟩
          · have NA : Hid (∀ W, Calls Try.prog 49 #[.string (bs nm)] W fun e w' => e = .returned (.bool true) ∧ W = w') := fun W => by have := IsName_any nm W hx.1; rw [hin] at this; exact this
            have HA2 : Hid (labsOK L = (!((L.take j).any fun y => y.1 == nm) && labsB (L.take (j + 1)) (L.drop (j + 1)))) := by
              show _ = _; rw [HA.out, hin, decide_eq_true (by omega)]; rfl
            have LT : Hid (∀ W, Frm [] w W → Calls Try.prog 50 #[.slice (some ⟨g, off, none⟩) j cap, .string (bs nm)] W fun e w' => e = .returned (.bool ((L.take j).any fun x => x.1 == nm)) ∧ Frm [] W w') := fun W hW => isNamed_any _ (L.take j) nm W ((HLR.out.frm hW (by simp)).take j (by omega))
            have hjc : j ≤ cap := by omega
            clear HA
            have FN : Hid (Frm [] w (wr.alloc (Obj.cells #[.string (bs nm), .string (bs vl)] 79)).drew) := (F.out.alloc _).drew
            cases han : ((L.take j).any fun x => x.1 == nm)
            · rw [han] at LT
              have HF2 : Hid (labsB (L.take (j + 1)) (L.drop (j + 1)) = labsOK L) := by show _ = _; rw [HA2.out, han]; rfl
              go_wp2_with fail
              go_region_with (first | (go_at_call 49; refine (NA.out _).mono ?_; rintro e w' ⟨rfl, rfl⟩) | (go_at_call 50; refine (LT.out _ FN.out).mono ?_; rintro e w' ⟨rfl, hF'⟩))
              all_goals
                have F2 := hide (FN.out.trans hF')
                clear hF'
                go_wp2
                go_roundg (gk - 1)
                case measure => omega
                case rel => exact ⟨j + 1, by omega, by go_num, F2.out, HF2⟩
            · rw [han] at LT
              have HV : Hid (labsOK L = false) := by show _ = _; rw [HA2.out, han]; rfl
              go_wp2_with fail
              go_region_with (first | (go_at_call 49; refine (NA.out _).mono ?_; rintro e w' ⟨rfl, rfl⟩) | (go_at_call 50; refine (LT.out _ FN.out).mono ?_; rintro e w' ⟨rfl, hF'⟩))
              all_goals
                have F2 := hide (FN.out.trans hF')
                clear hF'
                go_wp2
                go_ret
                rw [HV.out]
                exact ⟨rfl, F2.out⟩
      · have hd1 : decide ((j : Int) < (L.length : Int)) = false := decide_eq_false (by omega)
        have HV : Hid (labsOK L = true) := by
          show _ = _
          rw [← HF.out, List.drop_eq_nil_of_le (by omega)]; rfl
        clear HF
        go_wp2
        go_ret
        rw [HV.out]
        exact ⟨rfl, F.out⟩
end Go.Proofs.Ythlemieldfbbfab
