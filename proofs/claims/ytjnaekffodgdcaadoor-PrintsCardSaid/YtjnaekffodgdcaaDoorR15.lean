import Derived.Test.YtjnaekffodgdcaaDoorR10
import Derived.Test.YtjnaekffodgdcaaDoorR13
import Derived.Test.YtjnaekffodgdcaaDoorR14
namespace Go.Proofs.YtjnaekffodgdcaaDoor
open Go.RowKit
set_option linter.unusedVariables false
set_option linter.unusedSimpArgs false
set_option linter.unnecessarySimpa false

theorem rtR_d (l : List UInt8) (r : RR) (h : rtR l = some r) : r.d ≤ l.length := by
  have hd := sDepth_len l
  unfold rtR rtW at h
  split at h
  · cases h
  · split at h
    · cases h
    · split at h
      · cases h
      · split at h
        · cases h
        · split at h
          · simp at h; subst h; exact hd
          · cases h
theorem CBR.set0 {w : World} {b : Nat} {x y z : Value} (h : CBR w b x y z) (v : Value) : CBR (w.setCell ⟨b, 0, none⟩ v) b v y z := by
  unfold CBR at *; simp [World.setCell, Array.getElem?_modify, h]
theorem CBR.set2 {w : World} {b : Nat} {x y z : Value} (h : CBR w b x y z) (v : Value) : CBR (w.setCell ⟨b, 2, none⟩ v) b x y v := by
  unfold CBR at *; simp [World.setCell, Array.getElem?_modify, h]
theorem rRead_err (t : List UInt8) (n : Nat) (hl : ¬ 1200 < t.length) (h : rdGo (cutL false 10 t) 0 [] [] = .error n) : rRead t = .error (2, n) := by
  unfold rRead; rw [if_neg hl, h]
theorem rRead_ok (t : List UInt8) (L : List (List UInt8)) (R : List RR) (hl : ¬ 1200 < t.length) (h : rdGo (cutL false 10 t) 0 [] [] = .ok (L, R)) : rRead t = if (grF L R).1 = 0 then .ok (L, R) else .error (grF L R) := by
  unfold rRead; rw [if_neg hl, h]
theorem grF_fst (L : List (List UInt8)) (R : List RR) (h : (grF L R).1 = 0) : grF L R = (0, 0) := by
  unfold grF at *
  by_cases h1 : treeFR R ≠ 0
  · rw [if_pos h1] at h; simp at h
  · rw [if_neg h1] at h ⊢
    by_cases h2 : dupGo [] L = true
    · rw [if_pos h2] at h; simp at h
    · rw [if_neg h2] at h ⊢
      by_cases h3 : nameGoR L R 0 ≠ 0
      · rw [if_pos h3] at h; simp at h
      · rw [if_neg h3]

set_option maxRecDepth 100000 in
set_option maxHeartbeats 8000000 in
theorem read_any (t : List UInt8) (w : World) (ht : t.length ≤ 1048576) :
    Calls Tryd.prog 6 #[.string (bs t)] w fun e w' => RdPost e w' (rRead t) ∧ Frm [] w w' := by
  have hsz := bs_size
  have htl := bs_toList
  have k0 : ({ data := #[] } : ByteArray).toList = [] := bs_toList _
  have kR : ({ data := #[114, 101, 99, 101, 105, 118, 101, 114, 115] } : ByteArray).toList = kRecv := bs_toList _
  go_enter Tryd.func6, Tryd.ntmps6
  by_cases hl : 1200 < t.length
  · have Hp : Hid (rRead t = .error (1, 0)) := by show _ = _; unfold rRead; rw [if_pos hl]
    go_wp2
    go_ret3
    rw [Hp.out]
    exact ⟨rfl, Frm.refl _ _⟩
  have hl' : t.length ≤ 1200 := by omega
  have Hl := hide hl
  clear hl
  go_wp2_with fail
  refine (cut_any t 10 false w (by omega)).mono ?_
  rintro e w1 ⟨v, rfl, hs, hf⟩
  obtain ⟨hWx, hWl, hW1⟩ := cutL_bd false 10 t
  have HE : Hid (∀ n, rdGo (cutL false 10 t) 0 [] [] = .error n → rRead t = .error (2, n)) := fun n h => rRead_err t n Hl.out h
  have HK : Hid (∀ L R, rdGo (cutL false 10 t) 0 [] [] = .ok (L, R) → rRead t = if (grF L R).1 = 0 then .ok (L, R) else .error (grF L R)) := fun L R h => rRead_ok t L R Hl.out h
  generalize cutL false 10 t = W at *
  generalize hRES : rdGo W 0 [] [] = RES at *
  have HRES := hide hRES
  clear hRES
  obtain ⟨aw, cw, rfl⟩ := hs.shape
  obtain ⟨n, hWn⟩ : ∃ n, W.length = n + 1 := ⟨W.length - 1, by omega⟩
  obtain ⟨gw, haw, hgw, hgw1, hwc⟩ : ∃ g, aw = some ⟨g, 0, none⟩ ∧ w.heap.size ≤ g ∧ g < w1.heap.size ∧ W.length ≤ cw := by
    rcases hs.2 with ⟨_, e⟩ | ⟨g, c, cur, e, hb, hh, h3, _⟩
    · omega
    · simp at e
      obtain ⟨rfl, rfl⟩ := e
      exact ⟨g, rfl, hb, (Array.getElem?_eq_some_iff.1 hh).1, h3⟩
  subst haw
  have Hwx : Hid (∀ x ∈ W, x.length ≤ 9000) := fun x hx => by have := hWx x hx; omega
  have Hs := hide hs
  have Hf := hide hf
  have hz1 := hf.size
  have hnl : n ≤ 1200 := by omega
  have hnm : ((n : Int) + 1) - 1 = (n : Int) := by omega
  clear hs hf hWx hWl hW1
  have Hc0 : Hid (CBR (w1.alloc (.cells #[.slice none 0 0, .pointer none, .slice none 0 0] 43)) w1.heap.size (.slice none 0 0) (.pointer none) (.slice none 0 0)) := heap1 _ _
  go_wp2_with fail
  go_loopg [8] n (fun k vi wr => ∃ (i : Nat) (vr vl : Value) (L : List (List UInt8)) (X : List (Nat × RRV × RR)), i + k = n ∧ vi = .int .i64 i ∧ QI wr w1.heap.size vr vl L X ∧ CBR wr w1.heap.size vr (.pointer none) vl ∧ (i = 0 → vr = .slice none 0 0 ∧ vl = .slice none 0 0 ∧ X = []) ∧ (0 < i → X.length + 1 = i) ∧ L.length ≤ 9000 ∧ (∀ x ∈ X, x.2.2.d ≤ 9000) ∧ rdGo (W.drop i) i L (X.map (·.2.2)) = RES ∧ Frm [] w1 wr)
  case atStart => exact ⟨0, _, _, [], [], by omega, rfl, QI.nil _ _, Hc0.out, fun _ => ⟨rfl, rfl, rfl⟩, fun h => by omega, by simp, by simp, HRES.out, (Frm.refl _ _).alloc _⟩
  case round =>
  obtain ⟨i, vr, vl, L, X, hik, hvi, hqi, hcb, h0, h1, hL, hXd, hgo, hfr⟩ := hrel
  subst hvi
  have Hqi := hide hqi
  have Hcb := hide hcb
  have H0 := hide h0
  have H1 := hide h1
  have HXd := hide hXd
  have Hgo := hide hgo
  have Hfr := hide hfr
  have Hfw := hide (Hf.out.trans hfr)
  have hzr := hfr.size
  have hcw := hcb.lt
  have hsl : SL w.heap.size wr (.slice (some ⟨gw, 0, none⟩) W.length cw) W := Hs.out.frm hfr (by simp)
  have Hsl := hide hsl
  by_cases hlt : i < n
  · obtain ⟨m, rfl⟩ : ∃ m, gk = m + 1 := ⟨gk - 1, by omega⟩
    have hd1 : decide ((i : Int) < (n : Int)) = true := decide_eq_true (by omega)
    have ci : wr.cell? ⟨gw, i, none⟩ = some (.string (bs (W.getD i []))) := hsl.cell i (by omega)
    have hxm : W.getD i [] ∈ W := by
      rw [List.getD_eq_getElem?_getD, List.getElem?_eq_getElem (by omega)]; exact List.getElem_mem _
    have hx := Hwx.out _ hxm
    have Hdr : Hid (W.drop i = W.getD i [] :: W.getD (i + 1) [] :: W.drop (i + 2)) := by
      show _ = _
      rw [List.drop_eq_getElem_cons (by omega : i < W.length), List.drop_eq_getElem_cons (by omega : i + 1 < W.length)]
      simp [List.getD_eq_getElem?_getD, List.getElem?_eq_getElem (by omega : i < W.length), List.getElem?_eq_getElem (by omega : i + 1 < W.length)]
    have Hdr1 : Hid (W.drop (i + 1) = W.getD (i + 1) [] :: W.drop (i + 2)) := by
      show _ = _
      rw [List.drop_eq_getElem_cons (by omega : i + 1 < W.length)]
      simp [List.getD_eq_getElem?_getD, List.getElem?_eq_getElem (by omega : i + 1 < W.length)]
    generalize W.getD i [] = x at *
    clear hqi hcb h0 h1 hXd hgo hfr hsl hxm
    by_cases hi0 : i = 0
    · -- the first line
      obtain ⟨hvr, hvl, hXe⟩ := H0.out hi0
      subst hvr hvl hXe
      have e0 : ((i : Int) == 0) = true := by simp [hi0]
      have hL0 : L = [] := by
        obtain ⟨a, c, e, _⟩ := Hqi.out.rs
        simp at e
        exact List.eq_nil_of_length_eq_zero e.2.1.symm
      subst hL0
      have Hst : Hid (RES = match recR x with | none => .error 1 | some L' => rdGo (W.drop 1) 1 L' []) := by
        show _ = _
        rw [← Hgo.out, Hdr.out, show (1 : Nat) = i + 1 by omega, Hdr1.out]
        conv => lhs; unfold rdGo
        rw [hi0]; rfl
      have Hi0 := hide hi0
      have hic : (i : Int) = 0 := by omega
      have c0i : wr.cell? ⟨gw, 0, none⟩ = some (.string (bs x)) := by rw [← hi0]; exact ci
      clear Hgo Hdr Hdr1 hi0 ci
      go_wp2_with fail
      refine (cut_any x 32 false wr (by omega)).mono ?_
      rintro e w3 ⟨v0, rfl, hs3, hf3⟩
      obtain ⟨-, hVl, hV1⟩ := cutL_bd false 32 x
      have HrecN : Hid (((((cutL false 32 x).getD 0 [] == kRecv) && decide (1 < (cutL false 32 x).length) && decide ((cutL false 32 x).length ≤ 9)) && ((cutL false 32 x).drop 1).all isNameL) = false → RES = .error 1) := by
        intro h; rw [Hst.out]; unfold recR; rw [h]; rfl
      have HrecS : Hid (((((cutL false 32 x).getD 0 [] == kRecv) && decide (1 < (cutL false 32 x).length) && decide ((cutL false 32 x).length ≤ 9)) && ((cutL false 32 x).drop 1).all isNameL) = true → rdGo (W.drop 1) 1 ((cutL false 32 x).drop 1) [] = RES) := by
        intro h; rw [Hst.out]; unfold recR; rw [h]; rfl
      clear Hst
      have HVn : Hid (∀ y ∈ cutL false 32 x, y.length ≤ 9000) := fun y hy => by have := (cutL_bd false 32 x).1 y hy; omega
      generalize cutL false 32 x = V at *
      obtain ⟨av, cap, rfl⟩ := hs3.shape
      obtain ⟨g, hav, hg, hg1, hcap⟩ : ∃ g, av = some ⟨g, 0, none⟩ ∧ wr.heap.size ≤ g ∧ g < w3.heap.size ∧ V.length ≤ cap := by
        rcases hs3.2 with ⟨_, e⟩ | ⟨g, c, cur, e, hb, hh, h3, _⟩
        · omega
        · simp at e
          obtain ⟨rfl, rfl⟩ := e
          exact ⟨g, rfl, hb, (Array.getElem?_eq_some_iff.1 hh).1, h3⟩
      subst hav
      have HRS := hide (hs3.rs (by omega))
      have cv0 : w3.cell? ⟨g, 0, none⟩ = some (.string (bs (V.getD 0 []))) := hs3.cell 0 (by omega)
      have Hcb3 := hide (Hcb.out.frm hf3 (by simp))
      have c0 : w3.cell? ⟨w1.heap.size, 0, none⟩ = some (.slice none 0 0) := Hcb3.out.cell 0
      have f0 := Hcb3.out.fz 0
      have Hf3 := hide hf3
      have hz3 := hf3.size
      have hgc : g ≠ w1.heap.size := by omega
      have hgc' : w1.heap.size ≠ g := by omega
      obtain ⟨q, hq⟩ : ∃ q, V.length = q + 1 := ⟨V.length - 1, by omega⟩
      have hq1 : (V.drop 1).length = q := by rw [List.length_drop]; omega
      have HVd : Hid (∀ y ∈ V.drop 1, y.length ≤ 9000) := fun y hy => HVn.out y (List.mem_of_mem_drop hy)
      have HRd : Hid (RS (wr.heap.size) w3 (.slice (some ⟨g, 1, none⟩) q (cap - 1)) (V.drop 1)) := by
        have := HRS.out.drop2 1 (by omega)
        rw [hq] at this; exact this
      clear hs3 hf3 HVn
      generalize V.drop 1 = V1 at *
      generalize V.getD 0 [] = v00 at *
      cases b1 : (v00 == kRecv)
      · by_cases hc1 : cap = 1
        · subst hc1
          have hq0 : q = 0 := by omega
          subst hq0
          have HR5 : Hid (RS wr.heap.size ((w3.setCell ⟨w1.heap.size, 0, none⟩ (.slice (some ⟨g, 0, none⟩) 1 1)).setCell ⟨w1.heap.size, 0, none⟩ (.slice (some ⟨g, 0, none⟩) 0 0)) (.slice (some ⟨g, 0, none⟩) 0 0) V1) := by
            have f5 : Frm [w1.heap.size] w3 ((w3.setCell ⟨w1.heap.size, 0, none⟩ (.slice (some ⟨g, 0, none⟩) 1 1)).setCell ⟨w1.heap.size, 0, none⟩ (.slice (some ⟨g, 0, none⟩) 0 0)) := ((Frm.refl _ _).setCell (by simp) _).setCell (by simp) _
            exact RS.frm (⟨some ⟨g, 0, none⟩, 0, by simp; omega, by omega, by omega, fun j hj => by omega⟩) f5 (by simp; omega)
          have Hc5 : Hid (CBR ((w3.setCell ⟨w1.heap.size, 0, none⟩ (.slice (some ⟨g, 0, none⟩) 1 1)).setCell ⟨w1.heap.size, 0, none⟩ (.slice (some ⟨g, 0, none⟩) 0 0)) w1.heap.size (.slice (some ⟨g, 0, none⟩) 0 0) (.pointer none) (.slice none 0 0)) := (Hcb3.out.set0 _).set0 _
          have F5 : Hid (Frm [] w1 ((w3.setCell ⟨w1.heap.size, 0, none⟩ (.slice (some ⟨g, 0, none⟩) 1 1)).setCell ⟨w1.heap.size, 0, none⟩ (.slice (some ⟨g, 0, none⟩) 0 0))) := ((Hfr.out.trans Hf3.out).setCell (.inr (Nat.le_refl _)) _).setCell (.inr (Nat.le_refl _)) _
          have hz5 : g < ((w3.setCell ⟨w1.heap.size, 0, none⟩ (.slice (some ⟨g, 0, none⟩) 1 1)).setCell ⟨w1.heap.size, 0, none⟩ (.slice (some ⟨g, 0, none⟩) 0 0)).heap.size := by rw [set_size, set_size]; exact hg1
          go_wp2_with fail
          generalize ((w3.setCell ⟨w1.heap.size, 0, none⟩ (.slice (some ⟨g, 0, none⟩) 1 1)).setCell ⟨w1.heap.size, 0, none⟩ (.slice (some ⟨g, 0, none⟩) 0 0)) = w5 at *
          go_loopg [9, 10] 0 (fun k vok vk wq => ∃ (j : Nat), j + k = 0 ∧ vk = .int .i64 j ∧ vok = .bool (false && (V1.take j).all isNameL) ∧ Frm [] w5 wq)
          case atStart => exact ⟨0, by omega, rfl, by first | rfl | (simp; done) | (simp; omega), Frm.refl _ _⟩
          case round =>
          obtain ⟨j, hjk, hvk, hvok, hfq⟩ := hrel
          subst hvk hvok
          have Hfq := hide hfq
          have Hcq := hide (Hc5.out.frm hfq (by simp))
          have HRq := hide (HR5.out.frm hfq (by simp))
          have cq : wr.cell? ⟨w1.heap.size, 0, none⟩ = some (.slice (some ⟨g, 0, none⟩) 0 0) := Hcq.out.cell 0
          clear hfq
          by_cases hj : j < 0
          · omega
          have hjq : j = 0 := by omega
          have hdj : decide ((j : Int) < (0 : Int)) = false := decide_eq_false (by omega)
          have Htk : Hid ((V1.take j).all isNameL = V1.all isNameL) := by
            show _ = _; rw [List.take_of_length_le (by omega)]
          have Hn : Hid (rRead t = .error (2, 1)) := HE.out _ (HrecN.out (by rw [b1]; rfl))
          go_wp2
          go_ret3
          rw [Hn.out]
          exact ⟨by simp [RdPost], Hf.out.trans (F5.out.trans Hfq.out)⟩
        · have hc2 : 2 ≤ cap := by omega
          have HR5 : Hid (RS wr.heap.size ((w3.setCell ⟨w1.heap.size, 0, none⟩ (.slice (some ⟨g, 0, none⟩) (q + 1) cap)).setCell ⟨w1.heap.size, 0, none⟩ (.slice (some ⟨g, 1, none⟩) q (cap - 1))) (.slice (some ⟨g, 1, none⟩) q (cap - 1)) V1) := by
            have f5 : Frm [w1.heap.size] w3 ((w3.setCell ⟨w1.heap.size, 0, none⟩ (.slice (some ⟨g, 0, none⟩) (q + 1) cap)).setCell ⟨w1.heap.size, 0, none⟩ (.slice (some ⟨g, 1, none⟩) q (cap - 1))) := ((Frm.refl _ _).setCell (by simp) _).setCell (by simp) _
            exact RS.frm (HRd.out) f5 (by simp; omega)
          have Hc5 : Hid (CBR ((w3.setCell ⟨w1.heap.size, 0, none⟩ (.slice (some ⟨g, 0, none⟩) (q + 1) cap)).setCell ⟨w1.heap.size, 0, none⟩ (.slice (some ⟨g, 1, none⟩) q (cap - 1))) w1.heap.size (.slice (some ⟨g, 1, none⟩) q (cap - 1)) (.pointer none) (.slice none 0 0)) := (Hcb3.out.set0 _).set0 _
          have F5 : Hid (Frm [] w1 ((w3.setCell ⟨w1.heap.size, 0, none⟩ (.slice (some ⟨g, 0, none⟩) (q + 1) cap)).setCell ⟨w1.heap.size, 0, none⟩ (.slice (some ⟨g, 1, none⟩) q (cap - 1)))) := ((Hfr.out.trans Hf3.out).setCell (.inr (Nat.le_refl _)) _).setCell (.inr (Nat.le_refl _)) _
          have hz5 : g < ((w3.setCell ⟨w1.heap.size, 0, none⟩ (.slice (some ⟨g, 0, none⟩) (q + 1) cap)).setCell ⟨w1.heap.size, 0, none⟩ (.slice (some ⟨g, 1, none⟩) q (cap - 1))).heap.size := by rw [set_size, set_size]; exact hg1
          go_wp2_with fail
          generalize ((w3.setCell ⟨w1.heap.size, 0, none⟩ (.slice (some ⟨g, 0, none⟩) (q + 1) cap)).setCell ⟨w1.heap.size, 0, none⟩ (.slice (some ⟨g, 1, none⟩) q (cap - 1))) = w5 at *
          go_loopg [9, 10] q (fun k vok vk wq => ∃ (j : Nat), j + k = q ∧ vk = .int .i64 j ∧ vok = .bool (false && (V1.take j).all isNameL) ∧ Frm [] w5 wq)
          case atStart => exact ⟨0, by omega, rfl, by first | rfl | (simp; done) | (simp; omega), Frm.refl _ _⟩
          case round =>
          obtain ⟨j, hjk, hvk, hvok, hfq⟩ := hrel
          subst hvk hvok
          have Hfq := hide hfq
          have Hcq := hide (Hc5.out.frm hfq (by simp))
          have HRq := hide (HR5.out.frm hfq (by simp))
          have cq : wr.cell? ⟨w1.heap.size, 0, none⟩ = some (.slice (some ⟨g, 1, none⟩) q (cap - 1)) := Hcq.out.cell 0
          clear hfq
          by_cases hj : j < q
          · obtain ⟨m2, rfl⟩ : ∃ m2, gk = m2 + 1 := ⟨gk - 1, by omega⟩
            have hdj : decide ((j : Int) < (q : Int)) = true := decide_eq_true (by omega)
            obtain ⟨g', o', hgo', -, -, -, hcell⟩ := HRq.out.at' (by omega)
            simp only [Option.some.injEq, Addr.mk.injEq, and_true] at hgo'
            obtain ⟨rfl, rfl⟩ := hgo'
            have cj := hcell j (by omega)
            have hnm' : (V1.getD j []).length ≤ 9000 := HVd.out _ (by rw [List.getD_eq_getElem?_getD, List.getElem?_eq_getElem (by omega)]; exact List.getElem_mem _)
            have Htk : Hid ((V1.take (j + 1)).all isNameL = ((V1.take j).all isNameL && isNameL (V1.getD j []))) := by
              show _ = _
              rw [List.take_succ_eq_append_getElem (by omega : j < V1.length), List.all_append, List.getD_eq_getElem?_getD, List.getElem?_eq_getElem (by omega : j < V1.length)]; simp
            clear hcell
            generalize V1.getD j [] = nn at *
            generalize (V1.take j).all isNameL = okb at *
            cases okb
            all_goals
              go_wp2_with (first | (go_at_call 11; refine (rName_any nn _ (by omega)).mono ?_; rintro e w' ⟨rfl, rfl⟩))
              go_roundg m2
              case measure => omega
              case rel => exact ⟨j + 1, by omega, by go_num, by rw [Htk.out]; simp, Hfq.out⟩
          have hjq : j = q := by omega
          have hdj : decide ((j : Int) < (q : Int)) = false := decide_eq_false (by omega)
          have Htk : Hid ((V1.take j).all isNameL = V1.all isNameL) := by
            show _ = _; rw [List.take_of_length_le (by omega)]
          have Hn : Hid (rRead t = .error (2, 1)) := HE.out _ (HrecN.out (by rw [b1]; rfl))
          go_wp2
          go_ret3
          rw [Hn.out]
          exact ⟨by simp [RdPost], Hf.out.trans (F5.out.trans Hfq.out)⟩
      by_cases hq2 : 0 < q
      · have hc2 : 2 ≤ cap := by omega
        by_cases hq9 : q + 1 ≤ 9
        · have b2 : decide ((1 : Int) < (V.length : Int)) = true := decide_eq_true (by omega)
          have HR5 : Hid (RS wr.heap.size ((w3.setCell ⟨w1.heap.size, 0, none⟩ (.slice (some ⟨g, 0, none⟩) (q + 1) cap)).setCell ⟨w1.heap.size, 0, none⟩ (.slice (some ⟨g, 1, none⟩) q (cap - 1))) (.slice (some ⟨g, 1, none⟩) q (cap - 1)) V1) := by
            have f5 : Frm [w1.heap.size] w3 ((w3.setCell ⟨w1.heap.size, 0, none⟩ (.slice (some ⟨g, 0, none⟩) (q + 1) cap)).setCell ⟨w1.heap.size, 0, none⟩ (.slice (some ⟨g, 1, none⟩) q (cap - 1))) := ((Frm.refl _ _).setCell (by simp) _).setCell (by simp) _
            exact RS.frm (HRd.out) f5 (by simp; omega)
          have Hc5 : Hid (CBR ((w3.setCell ⟨w1.heap.size, 0, none⟩ (.slice (some ⟨g, 0, none⟩) (q + 1) cap)).setCell ⟨w1.heap.size, 0, none⟩ (.slice (some ⟨g, 1, none⟩) q (cap - 1))) w1.heap.size (.slice (some ⟨g, 1, none⟩) q (cap - 1)) (.pointer none) (.slice none 0 0)) := (Hcb3.out.set0 _).set0 _
          have F5 : Hid (Frm [] w1 ((w3.setCell ⟨w1.heap.size, 0, none⟩ (.slice (some ⟨g, 0, none⟩) (q + 1) cap)).setCell ⟨w1.heap.size, 0, none⟩ (.slice (some ⟨g, 1, none⟩) q (cap - 1)))) := ((Hfr.out.trans Hf3.out).setCell (.inr (Nat.le_refl _)) _).setCell (.inr (Nat.le_refl _)) _
          have hz5 : g < ((w3.setCell ⟨w1.heap.size, 0, none⟩ (.slice (some ⟨g, 0, none⟩) (q + 1) cap)).setCell ⟨w1.heap.size, 0, none⟩ (.slice (some ⟨g, 1, none⟩) q (cap - 1))).heap.size := by rw [set_size, set_size]; exact hg1
          go_wp2_with fail
          generalize ((w3.setCell ⟨w1.heap.size, 0, none⟩ (.slice (some ⟨g, 0, none⟩) (q + 1) cap)).setCell ⟨w1.heap.size, 0, none⟩ (.slice (some ⟨g, 1, none⟩) q (cap - 1))) = w5 at *
          go_loopg [9, 10] q (fun k vok vk wq => ∃ (j : Nat), j + k = q ∧ vk = .int .i64 j ∧ vok = .bool (true && (V1.take j).all isNameL) ∧ Frm [] w5 wq)
          case atStart => exact ⟨0, by omega, rfl, by first | rfl | (simp; done) | (simp; omega), Frm.refl _ _⟩
          case round =>
          obtain ⟨j, hjk, hvk, hvok, hfq⟩ := hrel
          subst hvk hvok
          have Hfq := hide hfq
          have Hcq := hide (Hc5.out.frm hfq (by simp))
          have HRq := hide (HR5.out.frm hfq (by simp))
          have cq : wr.cell? ⟨w1.heap.size, 0, none⟩ = some (.slice (some ⟨g, 1, none⟩) q (cap - 1)) := Hcq.out.cell 0
          clear hfq
          by_cases hj : j < q
          · obtain ⟨m2, rfl⟩ : ∃ m2, gk = m2 + 1 := ⟨gk - 1, by omega⟩
            have hdj : decide ((j : Int) < (q : Int)) = true := decide_eq_true (by omega)
            obtain ⟨g', o', hgo', -, -, -, hcell⟩ := HRq.out.at' (by omega)
            simp only [Option.some.injEq, Addr.mk.injEq, and_true] at hgo'
            obtain ⟨rfl, rfl⟩ := hgo'
            have cj := hcell j (by omega)
            have hnm' : (V1.getD j []).length ≤ 9000 := HVd.out _ (by rw [List.getD_eq_getElem?_getD, List.getElem?_eq_getElem (by omega)]; exact List.getElem_mem _)
            have Htk : Hid ((V1.take (j + 1)).all isNameL = ((V1.take j).all isNameL && isNameL (V1.getD j []))) := by
              show _ = _
              rw [List.take_succ_eq_append_getElem (by omega : j < V1.length), List.all_append, List.getD_eq_getElem?_getD, List.getElem?_eq_getElem (by omega : j < V1.length)]; simp
            clear hcell
            generalize V1.getD j [] = nn at *
            generalize (V1.take j).all isNameL = okb at *
            cases okb
            all_goals
              go_wp2_with (first | (go_at_call 11; refine (rName_any nn _ (by omega)).mono ?_; rintro e w' ⟨rfl, rfl⟩))
              go_roundg m2
              case measure => omega
              case rel => exact ⟨j + 1, by omega, by go_num, by rw [Htk.out]; simp, Hfq.out⟩
          have hjq : j = q := by omega
          have hdj : decide ((j : Int) < (q : Int)) = false := decide_eq_false (by omega)
          have Htk : Hid ((V1.take j).all isNameL = V1.all isNameL) := by
            show _ = _; rw [List.take_of_length_le (by omega)]
          rw [Htk.out]
          clear Htk
          cases hall : V1.all isNameL
          · have Hn : Hid (rRead t = .error (2, 1)) := HE.out _ (HrecN.out (by simp [hall]))
            go_wp2
            go_ret3
            rw [Hn.out]
            exact ⟨by simp [RdPost], Hf.out.trans (F5.out.trans Hfq.out)⟩
          · have Hn : Hid (rdGo (W.drop 1) 1 V1 [] = RES) := HrecS.out (by rw [b1, decide_eq_true (by omega : 1 < V.length), decide_eq_true (by omega : V.length ≤ 9), hall]; rfl)
            go_wp2
            go_roundg m
            case measure => omega
            case rel =>
              refine ⟨1, _, _, V1, [], by have := Hi0.out; omega, by go_num, ?_, Hcq.out, fun h => by omega, fun _ => rfl, by omega, by simp, Hn.out, F5.out.trans Hfq.out⟩
              have hzq := Hfq.out.size
              exact ⟨HRq.out.base (by omega), World.ownsRow_nil _ _ _ _, by simp, by simp, by simp, by simp, by simp, by simp, by simp [Value.ownBlock]; omega, by simp [Value.ownBlock], by simp, by simp [Value.ownBlock]; omega⟩
        · have hq9' : 9 < q + 1 := by omega
          have HR5 : Hid (RS wr.heap.size ((w3.setCell ⟨w1.heap.size, 0, none⟩ (.slice (some ⟨g, 0, none⟩) (q + 1) cap)).setCell ⟨w1.heap.size, 0, none⟩ (.slice (some ⟨g, 1, none⟩) q (cap - 1))) (.slice (some ⟨g, 1, none⟩) q (cap - 1)) V1) := by
            have f5 : Frm [w1.heap.size] w3 ((w3.setCell ⟨w1.heap.size, 0, none⟩ (.slice (some ⟨g, 0, none⟩) (q + 1) cap)).setCell ⟨w1.heap.size, 0, none⟩ (.slice (some ⟨g, 1, none⟩) q (cap - 1))) := ((Frm.refl _ _).setCell (by simp) _).setCell (by simp) _
            exact RS.frm (HRd.out) f5 (by simp; omega)
          have Hc5 : Hid (CBR ((w3.setCell ⟨w1.heap.size, 0, none⟩ (.slice (some ⟨g, 0, none⟩) (q + 1) cap)).setCell ⟨w1.heap.size, 0, none⟩ (.slice (some ⟨g, 1, none⟩) q (cap - 1))) w1.heap.size (.slice (some ⟨g, 1, none⟩) q (cap - 1)) (.pointer none) (.slice none 0 0)) := (Hcb3.out.set0 _).set0 _
          have F5 : Hid (Frm [] w1 ((w3.setCell ⟨w1.heap.size, 0, none⟩ (.slice (some ⟨g, 0, none⟩) (q + 1) cap)).setCell ⟨w1.heap.size, 0, none⟩ (.slice (some ⟨g, 1, none⟩) q (cap - 1)))) := ((Hfr.out.trans Hf3.out).setCell (.inr (Nat.le_refl _)) _).setCell (.inr (Nat.le_refl _)) _
          have hz5 : g < ((w3.setCell ⟨w1.heap.size, 0, none⟩ (.slice (some ⟨g, 0, none⟩) (q + 1) cap)).setCell ⟨w1.heap.size, 0, none⟩ (.slice (some ⟨g, 1, none⟩) q (cap - 1))).heap.size := by rw [set_size, set_size]; exact hg1
          go_wp2_with fail
          generalize ((w3.setCell ⟨w1.heap.size, 0, none⟩ (.slice (some ⟨g, 0, none⟩) (q + 1) cap)).setCell ⟨w1.heap.size, 0, none⟩ (.slice (some ⟨g, 1, none⟩) q (cap - 1))) = w5 at *
          go_loopg [9, 10] q (fun k vok vk wq => ∃ (j : Nat), j + k = q ∧ vk = .int .i64 j ∧ vok = .bool (false && (V1.take j).all isNameL) ∧ Frm [] w5 wq)
          case atStart => exact ⟨0, by omega, rfl, by first | rfl | (simp; done) | (simp; omega), Frm.refl _ _⟩
          case round =>
          obtain ⟨j, hjk, hvk, hvok, hfq⟩ := hrel
          subst hvk hvok
          have Hfq := hide hfq
          have Hcq := hide (Hc5.out.frm hfq (by simp))
          have HRq := hide (HR5.out.frm hfq (by simp))
          have cq : wr.cell? ⟨w1.heap.size, 0, none⟩ = some (.slice (some ⟨g, 1, none⟩) q (cap - 1)) := Hcq.out.cell 0
          clear hfq
          by_cases hj : j < q
          · obtain ⟨m2, rfl⟩ : ∃ m2, gk = m2 + 1 := ⟨gk - 1, by omega⟩
            have hdj : decide ((j : Int) < (q : Int)) = true := decide_eq_true (by omega)
            obtain ⟨g', o', hgo', -, -, -, hcell⟩ := HRq.out.at' (by omega)
            simp only [Option.some.injEq, Addr.mk.injEq, and_true] at hgo'
            obtain ⟨rfl, rfl⟩ := hgo'
            have cj := hcell j (by omega)
            have hnm' : (V1.getD j []).length ≤ 9000 := HVd.out _ (by rw [List.getD_eq_getElem?_getD, List.getElem?_eq_getElem (by omega)]; exact List.getElem_mem _)
            have Htk : Hid ((V1.take (j + 1)).all isNameL = ((V1.take j).all isNameL && isNameL (V1.getD j []))) := by
              show _ = _
              rw [List.take_succ_eq_append_getElem (by omega : j < V1.length), List.all_append, List.getD_eq_getElem?_getD, List.getElem?_eq_getElem (by omega : j < V1.length)]; simp
            clear hcell
            generalize V1.getD j [] = nn at *
            generalize (V1.take j).all isNameL = okb at *
            cases okb
            all_goals
              go_wp2_with (first | (go_at_call 11; refine (rName_any nn _ (by omega)).mono ?_; rintro e w' ⟨rfl, rfl⟩))
              go_roundg m2
              case measure => omega
              case rel => exact ⟨j + 1, by omega, by go_num, by rw [Htk.out]; simp, Hfq.out⟩
          have hjq : j = q := by omega
          have hdj : decide ((j : Int) < (q : Int)) = false := decide_eq_false (by omega)
          have Htk : Hid ((V1.take j).all isNameL = V1.all isNameL) := by
            show _ = _; rw [List.take_of_length_le (by omega)]
          have Hn : Hid (rRead t = .error (2, 1)) := HE.out _ (HrecN.out (by rw [decide_eq_false (by omega : ¬ V.length ≤ 9)]; simp))
          go_wp2
          go_ret3
          rw [Hn.out]
          exact ⟨by simp [RdPost], Hf.out.trans (F5.out.trans Hfq.out)⟩
      have hq0 : q = 0 := by omega
      subst hq0
      by_cases hc1 : cap = 1
      · subst hc1
        have HR5 : Hid (RS wr.heap.size ((w3.setCell ⟨w1.heap.size, 0, none⟩ (.slice (some ⟨g, 0, none⟩) 1 1)).setCell ⟨w1.heap.size, 0, none⟩ (.slice (some ⟨g, 0, none⟩) 0 0)) (.slice (some ⟨g, 0, none⟩) 0 0) V1) := by
          have f5 : Frm [w1.heap.size] w3 ((w3.setCell ⟨w1.heap.size, 0, none⟩ (.slice (some ⟨g, 0, none⟩) 1 1)).setCell ⟨w1.heap.size, 0, none⟩ (.slice (some ⟨g, 0, none⟩) 0 0)) := ((Frm.refl _ _).setCell (by simp) _).setCell (by simp) _
          exact RS.frm (⟨some ⟨g, 0, none⟩, 0, by simp; omega, by omega, by omega, fun j hj => by omega⟩) f5 (by simp; omega)
        have Hc5 : Hid (CBR ((w3.setCell ⟨w1.heap.size, 0, none⟩ (.slice (some ⟨g, 0, none⟩) 1 1)).setCell ⟨w1.heap.size, 0, none⟩ (.slice (some ⟨g, 0, none⟩) 0 0)) w1.heap.size (.slice (some ⟨g, 0, none⟩) 0 0) (.pointer none) (.slice none 0 0)) := (Hcb3.out.set0 _).set0 _
        have F5 : Hid (Frm [] w1 ((w3.setCell ⟨w1.heap.size, 0, none⟩ (.slice (some ⟨g, 0, none⟩) 1 1)).setCell ⟨w1.heap.size, 0, none⟩ (.slice (some ⟨g, 0, none⟩) 0 0))) := ((Hfr.out.trans Hf3.out).setCell (.inr (Nat.le_refl _)) _).setCell (.inr (Nat.le_refl _)) _
        have hz5 : g < ((w3.setCell ⟨w1.heap.size, 0, none⟩ (.slice (some ⟨g, 0, none⟩) 1 1)).setCell ⟨w1.heap.size, 0, none⟩ (.slice (some ⟨g, 0, none⟩) 0 0)).heap.size := by rw [set_size, set_size]; exact hg1
        go_wp2_with fail
        generalize ((w3.setCell ⟨w1.heap.size, 0, none⟩ (.slice (some ⟨g, 0, none⟩) 1 1)).setCell ⟨w1.heap.size, 0, none⟩ (.slice (some ⟨g, 0, none⟩) 0 0)) = w5 at *
        go_loopg [9, 10] 0 (fun k vok vk wq => ∃ (j : Nat), j + k = 0 ∧ vk = .int .i64 j ∧ vok = .bool (false && (V1.take j).all isNameL) ∧ Frm [] w5 wq)
        case atStart => exact ⟨0, by omega, rfl, by first | rfl | (simp; done) | (simp; omega), Frm.refl _ _⟩
        case round =>
        obtain ⟨j, hjk, hvk, hvok, hfq⟩ := hrel
        subst hvk hvok
        have Hfq := hide hfq
        have Hcq := hide (Hc5.out.frm hfq (by simp))
        have HRq := hide (HR5.out.frm hfq (by simp))
        have cq : wr.cell? ⟨w1.heap.size, 0, none⟩ = some (.slice (some ⟨g, 0, none⟩) 0 0) := Hcq.out.cell 0
        clear hfq
        by_cases hj : j < 0
        · omega
        have hjq : j = 0 := by omega
        have hdj : decide ((j : Int) < (0 : Int)) = false := decide_eq_false (by omega)
        have Htk : Hid ((V1.take j).all isNameL = V1.all isNameL) := by
          show _ = _; rw [List.take_of_length_le (by omega)]
        have Hn : Hid (rRead t = .error (2, 1)) := HE.out _ (HrecN.out (by rw [decide_eq_false (by omega : ¬ 1 < V.length)]; simp))
        go_wp2
        go_ret3
        rw [Hn.out]
        exact ⟨by simp [RdPost], Hf.out.trans (F5.out.trans Hfq.out)⟩
      · have hc2 : 2 ≤ cap := by omega
        have HR5 : Hid (RS wr.heap.size ((w3.setCell ⟨w1.heap.size, 0, none⟩ (.slice (some ⟨g, 0, none⟩) 1 cap)).setCell ⟨w1.heap.size, 0, none⟩ (.slice (some ⟨g, 1, none⟩) 0 (cap - 1))) (.slice (some ⟨g, 1, none⟩) 0 (cap - 1)) V1) := by
          have f5 : Frm [w1.heap.size] w3 ((w3.setCell ⟨w1.heap.size, 0, none⟩ (.slice (some ⟨g, 0, none⟩) 1 cap)).setCell ⟨w1.heap.size, 0, none⟩ (.slice (some ⟨g, 1, none⟩) 0 (cap - 1))) := ((Frm.refl _ _).setCell (by simp) _).setCell (by simp) _
          exact RS.frm (HRd.out) f5 (by simp; omega)
        have Hc5 : Hid (CBR ((w3.setCell ⟨w1.heap.size, 0, none⟩ (.slice (some ⟨g, 0, none⟩) 1 cap)).setCell ⟨w1.heap.size, 0, none⟩ (.slice (some ⟨g, 1, none⟩) 0 (cap - 1))) w1.heap.size (.slice (some ⟨g, 1, none⟩) 0 (cap - 1)) (.pointer none) (.slice none 0 0)) := (Hcb3.out.set0 _).set0 _
        have F5 : Hid (Frm [] w1 ((w3.setCell ⟨w1.heap.size, 0, none⟩ (.slice (some ⟨g, 0, none⟩) 1 cap)).setCell ⟨w1.heap.size, 0, none⟩ (.slice (some ⟨g, 1, none⟩) 0 (cap - 1)))) := ((Hfr.out.trans Hf3.out).setCell (.inr (Nat.le_refl _)) _).setCell (.inr (Nat.le_refl _)) _
        have hz5 : g < ((w3.setCell ⟨w1.heap.size, 0, none⟩ (.slice (some ⟨g, 0, none⟩) 1 cap)).setCell ⟨w1.heap.size, 0, none⟩ (.slice (some ⟨g, 1, none⟩) 0 (cap - 1))).heap.size := by rw [set_size, set_size]; exact hg1
        go_wp2_with fail
        generalize ((w3.setCell ⟨w1.heap.size, 0, none⟩ (.slice (some ⟨g, 0, none⟩) 1 cap)).setCell ⟨w1.heap.size, 0, none⟩ (.slice (some ⟨g, 1, none⟩) 0 (cap - 1))) = w5 at *
        go_loopg [9, 10] 0 (fun k vok vk wq => ∃ (j : Nat), j + k = 0 ∧ vk = .int .i64 j ∧ vok = .bool (false && (V1.take j).all isNameL) ∧ Frm [] w5 wq)
        case atStart => exact ⟨0, by omega, rfl, by first | rfl | (simp; done) | (simp; omega), Frm.refl _ _⟩
        case round =>
        obtain ⟨j, hjk, hvk, hvok, hfq⟩ := hrel
        subst hvk hvok
        have Hfq := hide hfq
        have Hcq := hide (Hc5.out.frm hfq (by simp))
        have HRq := hide (HR5.out.frm hfq (by simp))
        have cq : wr.cell? ⟨w1.heap.size, 0, none⟩ = some (.slice (some ⟨g, 1, none⟩) 0 (cap - 1)) := Hcq.out.cell 0
        clear hfq
        by_cases hj : j < 0
        · omega
        have hjq : j = 0 := by omega
        have hdj : decide ((j : Int) < (0 : Int)) = false := decide_eq_false (by omega)
        have Htk : Hid ((V1.take j).all isNameL = V1.all isNameL) := by
          show _ = _; rw [List.take_of_length_le (by omega)]
        have Hn : Hid (rRead t = .error (2, 1)) := HE.out _ (HrecN.out (by rw [decide_eq_false (by omega : ¬ 1 < V.length)]; simp))
        go_wp2
        go_ret3
        rw [Hn.out]
        exact ⟨by simp [RdPost], Hf.out.trans (F5.out.trans Hfq.out)⟩
    · -- a route
      have hi1 : ((i : Int) == 0) = false := beq_eq_false_iff_ne.2 (by omega)
      have hi2 : (i == 0) = false := beq_eq_false_iff_ne.2 hi0
      have hX : X.length + 1 = i := H1.out (by omega)
      have Hst : Hid (RES = match rtR x with | none => .error (i + 1) | some r => rdGo (W.drop (i + 1)) (i + 1) L (X.map (·.2.2) ++ [r])) := by
        show _ = _
        rw [← Hgo.out, Hdr.out, Hdr1.out]
        conv => lhs; unfold rdGo
        rw [hi2]; rfl
      clear Hgo Hdr Hdr1
      obtain ⟨al, cl, hvl⟩ := own_shape Hqi.out.lp
      rw [List.length_map] at hvl
      subst hvl
      rcases hr : rtR x with _ | r
      · have Hn : Hid (rRead t = .error (2, i + 1)) := HE.out _ (by rw [Hst.out, hr])
        have Hr := hide hr
        clear Hst hr hi2
        go_wp2_with fail
        refine (route_any x wr (by omega)).mono ?_
        rintro e w2 ⟨hp, hf2⟩
        rw [Hr.out] at hp
        obtain ⟨p, rfl⟩ := hp
        have Hf2 := hide hf2
        clear hf2
        go_wp2
        go_ret3
        rw [Hn.out]
        exact ⟨by simp [RdPost], Hfw.out.trans Hf2.out⟩
      · have Hn : Hid (rdGo (W.drop (i + 1)) (i + 1) L (X.map (·.2.2) ++ [r]) = RES) := by show _ = _; rw [Hst.out, hr]
        have Hr := hide hr
        clear Hst hr hi2
        go_wp2_with fail
        refine (route_any x wr (by omega)).mono ?_
        rintro e w2 ⟨hp, hf2⟩
        rw [Hr.out] at hp
        obtain ⟨b, ⟨vrc, vby, vt0, vt1, vt2, vif, von, vk, vd, vrow⟩, hbz, rfl, hrep⟩ := hp
        have Hrep := hide hrep
        have Hf2 := hide hf2
        have hz2 := hf2.size
        have hb2 := hrep.at_.lt
        have d9 : w2.cell? ⟨b, 9, none⟩ = some (.int .i64 vrow) := hrep.at_.cell 9
        have z9 := hrep.at_.fz 9
        have Hcb2 := hide (Hcb.out.frm hf2 (by simp))
        have c2 : w2.cell? ⟨w1.heap.size, 2, none⟩ = some (.slice al X.length cl) := Hcb2.out.cell 2
        have f2 := Hcb2.out.fz 2
        have hne : b ≠ w1.heap.size := by omega
        have hne' : w1.heap.size ≠ b := by omega
        have ag : Value.ownBlock (.slice al X.length cl) ≠ some w1.heap.size := fun e => by have := Hqi.out.lp.lt _ e; omega
        have HF2 : ∀ u o, Hid (Frm [] wr ((w2.setCell ⟨b, 9, none⟩ u).alloc o)) := fun u o => (Hf2.out.setCell (.inr hbz) _).alloc _
        have g2 : ∀ u o, ((w2.setCell ⟨b, 9, none⟩ u).alloc o).cell? ⟨w1.heap.size, 2, none⟩ = some (.slice al X.length cl) := fun u o => ((((Frm.refl [b] w2).setCell (p := ⟨b, 9, none⟩) (by simp) u).alloc o).cell (p := ⟨w1.heap.size, 2, none⟩) (by simp; omega) (by simp; omega)).trans c2
        have g3 : ∀ u o, ((w2.setCell ⟨b, 9, none⟩ u).alloc o).frozen? ⟨w1.heap.size, 2, none⟩ = false := fun u o => ((((Frm.refl [b] w2).setCell (p := ⟨b, 9, none⟩) (by simp) u).alloc o).frozen (p := ⟨w1.heap.size, 2, none⟩) (by simp; omega) (by simp; omega)).trans f2
        clear hrep hf2
        go_wp2_with (first | (at_builtin; refine wp_appP _ rfl _ _ rfl (w1.heap.size + 1) (.slice al X.length cl) (X.map (·.1)) b w2.heap.size rfl ((Hqi.out.frm0 (HF2 _ _).out).lp) rfl (cell_new1 _ _ _ _ (set_size _ _ _)) (by simp; omega) (by simp; omega) ?_; intro g4 cap4 w4 hs4 hg4 hb4; have c4 := (hg4.cell_far ⟨w1.heap.size, 2, none⟩ (by simp; omega) (Ne.symm ag)).trans (g2 _ _); have z4 := (hg4.frozen_far ⟨w1.heap.size, 2, none⟩ (by simp; omega) (Ne.symm ag)).trans (g3 _ _); have Hs4 := hide hs4; have Hg4 := hide hg4; have Hb4 := hide hb4; clear hs4 hg4 hb4))
        go_roundg m
        case measure => omega
        case rel =>
          have hRB : RB (w2.setCell ⟨b, 9, none⟩ (.int .i64 ((i : Int) + 1))) b ⟨vrc, vby, vt0, vt1, vt2, vif, von, vk, vd, (i : Int) + 1⟩ := Hrep.out.at_.set 9 _ _ rfl
          have fset : Frm [b] w2 (w2.setCell ⟨b, 9, none⟩ (.int .i64 ((i : Int) + 1))) := (Frm.refl _ _).setCell (by simp) _
          have hRQ : RQ (w1.heap.size + 1) ((w2.setCell ⟨b, 9, none⟩ (.int .i64 ((i : Int) + 1))).alloc (.cells #[.pointer (some ⟨b, 0, none⟩)] 40)) b ⟨vrc, vby, vt0, vt1, vt2, vif, von, vk, vd, (i : Int) + 1⟩ r := by
            have q := Hrep.out
            refine RQ.frm (S := []) (RQ.base (base := wr.heap.size) ⟨hRB, q.rc, own_frmT q.by_ fset ?_, q.t0, q.t1, q.t2, own_frmT q.ifs fset ?_, q.on, q.d⟩ (by omega)) ((Frm.refl _ _).alloc _) (by simp) (by simp)
            · intro k hk; simp at hk; subst hk; exact .inr ⟨_, _, _, q.at_, by decide⟩
            · intro k hk; simp at hk; subst hk; exact .inr ⟨_, _, _, q.at_, by decide⟩
          have Q4 := QI.snoc (Hqi.out.frm0 (HF2 (.int .i64 ((i : Int) + 1)) (.cells #[.pointer (some ⟨b, 0, none⟩)] 40)).out) (x := (b, ⟨vrc, vby, vt0, vt1, vt2, vif, von, vk, vd, (i : Int) + 1⟩, r)) hRQ Hrep.out.vk (by simp; omega) (fun y hy => by have := Hqi.out.lt y hy; simp; omega) (by simp; omega) (fun e => by have := Hqi.out.vrt _ e; simp at this; omega) (fun e => by have := Hqi.out.lp.lt _ e; simp at this; omega) Hg4.out Hs4.out Hb4.out
          rw [List.length_map, hX] at Q4
          refine ⟨i + 1, vr, .slice (some ⟨g4, 0, none⟩) i cap4, L, _, by omega, by go_num, Q4.setC 2 _, ?_, fun h => by omega, fun _ => by simp; omega, hL, ?_, ?_, ?_⟩
          · exact CBR.set2 ((Hcb.out.frm (HF2 _ _).out (by simp)).frm (Frm.of_grow Hg4.out) (by rw [Option.mem_toList]; exact ag)) _
          · intro y hy
            rw [List.mem_append, List.mem_singleton] at hy
            rcases hy with hy | rfl
            · exact HXd.out y hy
            · have := rtR_d _ _ Hr.out; simp; omega
          · rw [List.map_append]; exact Hn.out
          · exact ((Hfr.out.trans (HF2 _ _).out).grown Hg4.out (fun k hk => .inr (by have := Hqi.out.lp.lt _ hk; omega))).setCell (.inr (Nat.le_refl _)) _
  · -- the end
    have hin : i = n := by omega
    subst hin
    have hd1 : decide ((i : Int) < (i : Int)) = false := decide_eq_false (by omega)
    have ci : wr.cell? ⟨gw, i, none⟩ = some (.string (bs (W.getD i []))) := hsl.cell i (by omega)
    have Hst : Hid (RES = if !((W.getD i []).isEmpty) || i == 0 then .error (i + 1) else .ok (L, X.map (·.2.2))) := by
      show _ = _
      rw [← Hgo.out, List.drop_eq_getElem_cons (by omega : i < W.length), List.drop_eq_nil_of_le (by omega), List.getD_eq_getElem?_getD, List.getElem?_eq_getElem (by omega : i < W.length)]
      unfold rdGo; rfl
    generalize W.getD i [] = x at *
    obtain ⟨ar, cr, hvr⟩ : ∃ a c, vr = .slice a L.length c := by
      obtain ⟨a, c, e, _⟩ := hqi.rs; exact ⟨a, c, e⟩
    obtain ⟨al, cl, hvl⟩ := own_shape hqi.lp
    rw [List.length_map] at hvl
    subst hvr hvl
    clear hqi hcb h0 h1 hXd hgo hfr hsl Hgo
    cases hx : (x == [])
    · have Hn : Hid (rRead t = .error (2, i + 1)) := HE.out _ (by
        rw [Hst.out]
        have : x.isEmpty = false := by
          cases x with
          | nil => simp at hx
          | cons => rfl
        rw [this]; rfl)
      clear Hst
      go_wp2
      go_ret3
      rw [Hn.out]
      exact ⟨by simp [RdPost], Hfw.out⟩
    · by_cases hi0 : i = 0
      · have e0 : ((i : Int) == 0) = true := by simp [hi0]
        have Hn : Hid (rRead t = .error (2, i + 1)) := HE.out _ (by rw [Hst.out, hi0]; simp)
        have hi0' : i ≤ 0 := by omega
        clear Hst hi0
        go_wp2
        go_ret3
        rw [Hn.out]
        exact ⟨by simp [RdPost], Hfw.out⟩
      · have e0 : ((i : Int) == 0) = false := beq_eq_false_iff_ne.2 (by omega)
        have hxe : x = [] := by simpa using hx
        have Hn : Hid (rRead t = if (grF L (X.map (·.2.2))).1 = 0 then .ok (L, X.map (·.2.2)) else .error (grF L (X.map (·.2.2)))) := HK.out _ _ (by rw [Hst.out, hxe]; simp [hi0])
        have hX : X.length + 1 = i := H1.out (by omega)
        clear Hst hxe
        go_wp2_with fail
        refine (grown_any w1.heap.size (w1.heap.size + 1) (.slice ar L.length cr) (.slice al X.length cl) L X wr Hcb.out (fun w' f => Hqi.out.kept f) (fun x hx => ⟨Hqi.out.rq x hx, Hqi.out.vk x hx⟩) Hqi.out.row (fun x hx => by have := Hqi.out.gt x hx; omega) Hqi.out.nd hL (by omega) HXd.out).mono ?_
        rintro e w2 ⟨rfl, ⟨vt, hc2⟩, hrb, hf2⟩
        have Hc2 := hide hc2
        have Hrb := hide hrb
        have Hf2 := hide hf2
        clear hc2 hrb hf2
        have Hfw2 : Hid (Frm [] w w2) := by
          refine Hf.out.trans ((Hfr.out.nil (S := w1.heap.size :: X.map (·.1))).trans Hf2.out |>.mono ?_)
          intro k hk hm
          rw [List.mem_cons, List.mem_map] at hm
          rcases hm with rfl | ⟨x, hx, rfl⟩
          · omega
          · have := Hqi.out.gt x hx; omega
        unfold grE
        generalize hg : grF L (X.map (·.2.2)) = f at *
        have Hg := hide hg
        clear hg
        obtain ⟨f1, f2⟩ := f
        by_cases hf1 : f1 = 0
        · subst hf1
          have e2 := grF_fst _ _ (by rw [Hg.out])
          rw [Hg.out] at e2
          simp at e2
          subst e2
          go_wp2
          go_ret3
          rw [Hn.out]
          obtain ⟨K, hK⟩ := Hrb.out
          refine ⟨⟨w1.heap.size, w1.heap.size + 1, _, vt, _, X.map (fun x => (x.1, { x.2.1 with vk := K x.1 }, x.2.2)), rfl, Hc2.out, (Hqi.out.kept Hf2.out).1, ?_, ?_, ?_⟩, Hfw2.out⟩
          · have := (Hqi.out.kept Hf2.out).2
            simpa [Function.comp_def] using this
          · intro y hy
            rw [List.mem_map] at hy
            obtain ⟨x, hx, rfl⟩ := hy
            exact Hqi.out.rqs Hf2.out hK x hx
          · simp [Function.comp_def]
        · simp only [hf1, if_false]
          go_wp2
          go_ret3
          rw [Hn.out]
          simp only [hf1, if_false]
          exact ⟨rfl, Hfw2.out⟩
end Go.Proofs.YtjnaekffodgdcaaDoor
