import Derived.Test.YthlemieldfbbfabM4
import Derived.Test.YthlemieldfbbfabMB
namespace Go.Proofs.Ythlemieldfbbfab
open Go.RowKit
set_option linter.unusedVariables false
set_option linter.unusedSimpArgs false
set_option linter.unnecessarySimpa false

set_option maxRecDepth 100000 in
set_option maxHeartbeats 2000000 in
theorem takeMark_any (b : Nat) (t : List UInt8) (i : Nat) (V : V6) (w : World) (h : LD w b t i V) :
    Calls Try.prog 36 #[.pointer (some ⟨b, 0, none⟩)] w fun e w' => ∃ (i' : Nat) (ok : Bool), e = .returned (.bool ok) ∧ LD w' b t i' V ∧ Frm [b] w w' ∧ ((ok = true ∧ t.take 3 = markL ∧ i' = 3) ∨ (ok = false ∧ t.take 3 ≠ markL)) := by
  have H := hide h
  have c0 := h.c0
  have z := h.fz 1
  have c1 := h.c1
  have hsz := bs_size t
  have hl := bs_toList
  have ht := h.2.2
  have hm : (ByteArray.mk #[79, 66, 49]).toList = markL := by rw [ByteArray.toList_eq]; rfl
  clear h
  by_cases h3 : t.length < 3
  · have hd : decide ((t.length : Int) < 3) = true := decide_eq_true (by omega)
    have HN : Hid (t.take 3 ≠ markL) := by
      show _ ≠ _
      intro e
      have := congrArg List.length e
      simp [markL] at this
      omega
    go_enter Try.func36, Try.ntmps36
    go_wp2
    go_ret
    exact ⟨i, false, rfl, H.out, Frm.refl _ _, .inr ⟨rfl, HN.out⟩⟩
  · have hd : decide ((t.length : Int) < 3) = false := decide_eq_false (by omega)
    have hbe : (bs t).extract 0 3 = bs (t.take 3) := bs_extract t 0 3
    cases he : (t.take 3 == markL)
    · go_enter Try.func36, Try.ntmps36
      go_wp2
      go_ret
      exact ⟨i, false, rfl, H.out, Frm.refl _ _, .inr ⟨rfl, fun e => by rw [e] at he; simp at he⟩⟩
    · go_enter Try.func36, Try.ntmps36
      go_wp2
      go_ret
      exact ⟨3, true, rfl, H.out.at_ 3 (by omega), (Frm.refl _ _).setCell (p := ⟨b, 1, none⟩) (.inl (by simp)) _, .inl ⟨rfl, by simpa using he, rfl⟩⟩

set_option maxRecDepth 100000 in
set_option maxHeartbeats 2000000 in
theorem takeNames_any (b : Nat) (t : List UInt8) (i : Nat) (V : V6) (w : World) (h : LD w b t i V) :
    Calls Try.prog 37 #[.pointer (some ⟨b, 0, none⟩)] w fun e w' => ∃ (i' : Nat) (ok : Bool) (v : Value) (x : List (List UInt8)), e = .returned (.bool ok) ∧ LD w' b t i' { V with n := v } ∧ Frm [b] w w' ∧ PO ok (pL 256) (t.drop i) x (t.drop i') ∧ OW 9 1 w.heap.size w' v (sc x) := by
  have N1 := hide (takeNameList_any b t i V 256 255 w h (by omega) rfl)
  have hb := h.lt
  clear h
  go_enter Try.func37, Try.ntmps37
  go_wp2_with fail
  refine (N1.out).mono ?_
  rintro e w1 ⟨i1, v, x, ok, rfl, hL1, hF1, hP1, hO1, hx⟩
  obtain ⟨ao, co, rfl⟩ := hO1.shape
  have L1 := hide hL1
  have F1 := hide hF1
  have P1 := hide hP1
  have O1 := hide hO1
  have c := hL1.cn
  have z := hL1.fz 2
  clear hL1 hF1 hP1 hO1 N1
  go_wp2
  go_ret
  exact ⟨i1, ok, _, x, rfl, L1.out.setN _, F1.out.setCell (p := ⟨b, 2, none⟩) (.inl (by simp)) _, P1.out, O1.out.frm (S := [b]) ((Frm.refl [b] _).setCell (p := ⟨b, 2, none⟩) (.inl (by simp)) _) (by simp; omega)⟩

set_option maxRecDepth 100000 in
set_option maxHeartbeats 2000000 in
theorem takeConstants_any (b : Nat) (t : List UInt8) (i : Nat) (V : V6) (w : World) (h : LD w b t i V) (hV : V.c = .slice none 0 0) :
    Calls Try.prog 38 #[.pointer (some ⟨b, 0, none⟩)] w fun e w' => ∃ (i' : Nat) (ok : Bool) (v : Value) (x : List (List UInt8)), e = .returned (.bool ok) ∧ LD w' b t i' { V with c := v } ∧ Frm [b] w w' ∧ PO ok pCs (t.drop i) x (t.drop i') ∧ OW 9 1 w.heap.size w' v (sc x) := by
  have N1 := hide (takeNumber_any b t i V 1 0 256 1 0 255 w h (by omega) (by omega) (by omega) rfl rfl rfl)
  have hb := h.lt
  have HV := hide hV
  clear h hV
  go_enter Try.func38, Try.ntmps38
  go_wp2_with fail
  refine (N1.out).mono ?_
  rintro e w1 ⟨i1, v, ok, rfl, hL1, hF1, hP1, hv⟩
  have L1 := hide hL1
  have F1 := hide hF1
  have P1 := hide hP1
  clear hL1 hF1 hP1 N1
  have hz1 := F1.out.size
  go_wp2_with fail
  go_loopg [4, 5] v (fun k v4 v5 wr => ∃ (j i' : Nat) (acc : List (List UInt8)) (vr : Value) (okb : Bool), j + k = v ∧ v5 = .int .i64 j ∧ v4 = .bool okb ∧ OW 9 1 w.heap.size wr vr (sc acc) ∧ LD wr b t i' { V with c := vr } ∧ Frm [b] w wr ∧ acc.length ≤ j ∧
      Hid ((okb = true ∧ v < 256 ∧ pR (fun _ => pT 41) (v - j) acc (t.drop i') = pCs (t.drop i)) ∨ (okb = false ∧ pCs (t.drop i) = none)))
  case atStart =>
    refine ⟨0, i1, [], .slice none 0 0, ok, by omega, rfl, rfl, OW.nil _ _ _ _, ?_, F1.out, by simp, ?_⟩
    · have := L1.out; rw [← HV.out]; exact this
    rcases P1.out with ⟨h1, h2⟩ | ⟨h1, h2⟩
    · exact .inl ⟨h1, (pN_some h2).2.2, by unfold pCs; rw [h2]; rfl⟩
    · exact .inr ⟨h1, by unfold pCs; rw [h2]; rfl⟩
  case round =>
    obtain ⟨j, i2, acc, vr, okb, hjk, rfl, rfl, hO, hL, hF, hal, HR⟩ := hrel
    obtain ⟨ao, co, he⟩ := hO.shape
    rw [sc_len] at he
    subst he
    have O := hide hO
    have L := hide hL
    have F := hide hF
    have hz := hF.size
    clear hO hL hF
    cases okb with
    | false =>
      have HP : Hid (pCs (t.drop i) = none) := by
        rcases HR.out with ⟨h, _⟩ | ⟨_, h⟩
        · cases h
        · exact h
      clear HR
      go_wp2
      go_ret
      exact ⟨i2, false, _, acc, rfl, L.out, F.out, .inr ⟨rfl, HP.out⟩, O.out⟩
    | true =>
      have HP : Hid (v < 256 ∧ pR (fun _ => pT 41) (v - j) acc (t.drop i2) = pCs (t.drop i)) := by
        rcases HR.out with ⟨_, h⟩ | ⟨h, _⟩
        · exact h
        · cases h
      clear HR
      by_cases hlt : j < v
      · have hd1 : decide ((j : Int) < (v : Int)) = true := decide_eq_true (by omega)
        have N2 := hide (takeText_any b t i2 _ 41 40 wr L.out (by omega) rfl)
        go_wp2_with fail
        refine (N2.out).mono ?_
        rintro e w2 ⟨i3, x, ok2, rfl, hL2, hF2, hP2, hx⟩
        have L2 := hide hL2
        have F2 := hide hF2
        have O2 := hide (O.out.frm (hF2) (by intro g hg; simp at hg; omega))
        have HP2 : Hid ((ok2 = true ∧ v < 256 ∧ pR (fun _ => pT 41) (v - (j + 1)) (acc ++ [x]) (t.drop i3) = pCs (t.drop i)) ∨ (ok2 = false ∧ pCs (t.drop i) = none)) := by
          have h := HP.out
          rw [show v - j = (v - (j + 1)) + 1 by omega] at h
          rcases hP2 with ⟨h1, h2⟩ | ⟨h1, h2⟩
          · refine .inl ⟨h1, h.1, ?_⟩
            rw [← h.2, pR_succ, h2]; rfl
          · refine .inr ⟨h1, ?_⟩
            rw [← h.2, pR_succ, h2]; rfl
        have hz2 := hF2.size
        have hvh := HP.out.1
        have c := hL2.cc
        have z := hL2.fz 3
        have hb2 := hL2.lt
        have hob : ∀ r, Value.ownBlock (.slice ao acc.length co) = some r → w.heap.size ≤ r := fun r hr => (O2.out.lt hr).1
        have HOB := hide hob
        clear hL2 hF2 hP2 HP N2 L O hob
        go_wp2_with (first | (at_builtin; refine wp_appSc _ rfl _ _ rfl w.heap.size (.slice ao acc.length co) acc w2.heap.size x rfl (O2.out.frm (S := []) ((Frm.refl [] _).alloc _) (by simp)) rfl (by simp) (by omega) (by simp; omega) ?_; intro g2 cap2 w3 hs3 hg3 hor3 hlt3; have O3 := hide hs3; have G3 := hide hg3; have L3 := hide ((L2.out.frm (S := []) ((Frm.refl [] _).alloc _) (by simp)).grown G3.out (fun r hr => by have := HOB.out r hr; omega)); have c3 := L3.out.cc; have z3 := L3.out.fz 3; clear hs3 hg3 hor3))
        go_roundg (gk - 1)
        case measure => omega
        case rel =>
          refine ⟨j + 1, i3, acc ++ [x], _, ok2, by omega, by go_num, rfl, O3.out.frm (S := [b]) ((Frm.refl [b] _).setCell (p := ⟨b, 3, none⟩) (.inl (by simp)) _) (by simp; omega), L3.out.setC _, (((F.out.trans F2.out).alloc _).grown G3.out (fun r hr => .inr (HOB.out r hr))).setCell (p := ⟨b, 3, none⟩) (.inl (by simp)) _, by simp; omega, HP2.out⟩
      · have hjv : j = v := by omega
        have hd1 : decide ((j : Int) < (v : Int)) = false := decide_eq_false (by omega)
        have HP2 : Hid (pCs (t.drop i) = some (acc, t.drop i2)) := by
          have h := HP.out.2
          rw [hjv, Nat.sub_self] at h
          exact h.symm
        clear HP
        subst hjv
        go_wp2
        go_ret
        exact ⟨i2, true, _, acc, rfl, L.out, F.out, .inl ⟨rfl, HP2.out⟩, O.out⟩
end Go.Proofs.Ythlemieldfbbfab
