import Derived.Test.YtjnaekffodgdcaaDoorD1
namespace Go.Proofs.YtjnaekffodgdcaaDoor
open Go.RowKit
set_option linter.unusedVariables false
set_option linter.unusedSimpArgs false
set_option linter.unnecessarySimpa false

set_option maxRecDepth 100000 in
set_option maxHeartbeats 8000000 in
theorem text_any (cb base : Nat) (vr vt vl : Value) (L : List (List UInt8)) (X : List (Nat × RRV × RR)) (w : World) (hc : CBR w cb vr vt vl) (hr : RS 0 w vr L) (hl : LP base w vl (X.map (·.1)))
    (hx : ∀ x ∈ X, RQ base w x.1 x.2.1 x.2.2) (hL : L.length ≤ 9000) (hn : ∀ n ∈ L, n.length ≤ 8) (hX : X.length ≤ 9000) (hg : ∀ x ∈ X, GoodRR x.2.2) :
    Calls Tryd.prog 7 #[.pointer (some ⟨cb, 0, none⟩)] w fun e w' => e = .returned (.string (bs (txR L (X.map (·.2.2))))) ∧ Frm [] w w' := by
  obtain ⟨al, capl, rfl⟩ := own_shape hl
  have HC := hide hc
  have HL := hide hl
  have HX := hide hx
  have HG := hide hg
  have HN := hide hn
  obtain ⟨ar, capr, er, hr1, hr2, hr3⟩ := hr
  subst er
  have HR3 := hide hr3
  clear hc hl hx hg hn hr3
  have hsz := bs_size
  have hap := bs_append
  have k32 : ({ data := #[32] } : ByteArray) = bs [32] := rfl
  have k10 : ({ data := #[10] } : ByteArray) = bs [10] := rfl
  have k44 : ({ data := #[44] } : ByteArray) = bs [44] := rfl
  have kr : ({ data := #[114, 101, 99, 101, 105, 118, 101, 114, 115] } : ByteArray) = bs kRecv := rfl
  have krl : kRecv.length = 9 := rfl
  have kro : ({ data := #[114, 111, 117, 116, 101, 32] } : ByteArray) = bs kRoute := rfl
  have kb1 : ({ data := #[32, 98, 121, 32, 45] } : ByteArray) = bs (kBy ++ [45]) := rfl
  have kb2 : ({ data := #[32, 98, 121, 32] } : ByteArray) = bs kBy := rfl
  have kif : ({ data := #[32, 105, 102, 32] } : ByteArray) = bs kIf := rfl
  have kco : ({ data := #[32, 99, 111, 110, 116, 105, 110, 117, 101] } : ByteArray) = bs kCont := rfl
  have kw0 : ({ data := #[119, 97, 105, 116] } : ByteArray) = bs wWait := rfl
  have kw1 : ({ data := #[101, 118, 101, 114, 121] } : ByteArray) = bs wEvery := rfl
  have kw2 : ({ data := #[114, 101, 112, 101, 97, 116] } : ByteArray) = bs wRepeat := rfl
  have krol : kRoute.length = 6 := rfl
  have kbl : kBy.length = 4 := rfl
  have kifl : kIf.length = 4 := rfl
  have kcol : kCont.length = 9 := rfl
  have kw0l : wWait.length = 4 := rfl
  have kw1l : wEvery.length = 5 := rfl
  have kw2l : wRepeat.length = 6 := rfl
  have Hx : Hid (txR L (X.map (·.2.2)) = kRecv ++ recT L ++ [10] ++ (X.map (·.2.2)).flatMap rrT) := rfl
  have Hw : Hid (kWait = [32] ++ wWait ++ [32] ∧ kEvery = [32] ++ wEvery ++ [32] ∧ kRepeat = [32] ++ wRepeat ++ [32]) := ⟨rfl, rfl, rfl⟩
  generalize kRecv = KR at *
  go_enter Tryd.func7, Tryd.ntmps7
  go_wp2_with fail
  go_loopg [3, 4] L.length (fun k vt' vi wr => ∃ (j : Nat), j + k = L.length ∧ vi = .int .i64 j ∧ vt' = .string (bs (KR ++ recT (L.take j))) ∧ w = wr)
  case atStart => exact ⟨0, by omega, rfl, by simp [recT, kr], rfl⟩
  case round =>
  obtain ⟨j, hj, rfl, rfl, rfl⟩ := hrel
  have d0 : w.cell? ⟨cb, 0, none⟩ = some (.slice ar L.length capr) := HC.out.cell 0
  have d2 : w.cell? ⟨cb, 2, none⟩ = some (.slice al (X.map (·.1)).length capl) := HC.out.cell 2
  rw [List.length_map] at d2
  by_cases hlt : j < L.length
  · obtain ⟨g, off, h4, h5, h6⟩ := HR3.out j hlt
    subst h4
    have hxl : (recT (L.take j)).length ≤ 9 * 9000 := by
      have := recT_len8 (L.take j) (fun x hx => HN.out x (List.mem_of_mem_take hx)); simp at this; omega
    have hx8 := HN.out _ (List.getElem_mem hlt)
    have Hi : Hid (recT (L.take (j + 1)) = recT (L.take j) ++ (32 :: L[j])) := by
      show _ = _; unfold recT; rw [List.take_succ_eq_append_getElem hlt, List.flatMap_append]; simp only [List.flatMap_cons, List.flatMap_nil, List.append_nil]
    generalize L[j] = x at *
    generalize recT (L.take j) = tx at *
    go_wp2
    go_roundg (gk - 1)
    case measure => omega
    case rel => exact ⟨j + 1, by omega, by go_num, by rw [Hi.out], rfl⟩
  have Ht : Hid (L.take j = L) := List.take_of_length_le (by omega)
  rw [Ht.out]
  have hxl : (recT L).length ≤ 9 * 9000 := by
    have := recT_len8 L HN.out; omega
  obtain ⟨x0, hx0⟩ : ∃ y, y = KR ++ (recT L ++ [10]) := ⟨_, rfl⟩
  have HX0 := hide hx0
  have hl0 : x0.length ≤ 90000 := by rw [hx0]; simp; omega
  clear hx0 Ht
  generalize recT L = tx at *
  go_wp2_with fail
  rw [← HX0.out]
  go_loopg [3, 5] X.length (fun k vt' vi w9 => ∃ (i : Nat), i + k = X.length ∧ vi = .int .i64 i ∧ vt' = .string (bs (x0 ++ ((X.take i).map (·.2.2)).flatMap rrT)) ∧ Frm [] w w9)
  case atStart => exact ⟨0, by omega, rfl, by simp, Frm.refl _ _⟩
  case round =>
  clear hlt hj d0 d2
  obtain ⟨wl, rfl⟩ : ∃ wl, wl = wr := ⟨_, rfl⟩
  obtain ⟨gl, rfl⟩ : ∃ gl, gl = gk := ⟨_, rfl⟩
  obtain ⟨i, hi, rfl, rfl, hfr⟩ := hrel
  have KF := hide hfr
  have e0 : wl.cell? ⟨cb, 0, none⟩ = some (.slice ar L.length capr) := (HC.out.frm hfr (by simp)).cell 0
  have e2 : wl.cell? ⟨cb, 2, none⟩ = some (.slice al (X.map (·.1)).length capl) := (HC.out.frm hfr (by simp)).cell 2
  rw [List.length_map] at e2
  clear hfr
  by_cases hlt : i < X.length
  · obtain ⟨g, hg⟩ : ∃ g, al = some ⟨g, 0, none⟩ := by
      rcases HL.out.2 with ⟨e, h⟩ | ⟨g, c, cur, e, _⟩
      · simp at h; subst h; simp at hlt
      · simp at e; exact ⟨g, e.1⟩
    subst hg
    have hcl : w.cell? ⟨g, i, none⟩ = some (PT (X[i]).1) := by
      have := HL.out.cell i (by simpa using hlt); simpa using this
    have hcl2 : wl.cell? ⟨g, i, none⟩ = some (.pointer (some ⟨(X[i]).1, 0, none⟩)) := (KF.out.cell (p := ⟨g, i, none⟩) (World.block_lt_of_cell? w _ hcl) (by simp)).trans hcl
    have hq := (HX.out _ (List.getElem_mem hlt)).frm KF.out (by simp) (by simp)
    have hgd := HG.out _ (List.getElem_mem hlt)
    have Hi : Hid (((X.take (i + 1)).map (·.2.2)).flatMap rrT = ((X.take i).map (·.2.2)).flatMap rrT ++ rrT (X[i]).2.2) := by
      show _ = _; rw [List.take_succ_eq_append_getElem hlt, List.map_append, List.flatMap_append]; simp only [List.map_cons, List.map_nil, List.flatMap_cons, List.flatMap_nil, List.append_nil]
    have htl : (((X.take i).map (·.2.2)).flatMap rrT).length ≤ 20000 * 9000 := by
      have := rrs_len ((X.take i).map (·.2.2)) (fun r hr => by
        obtain ⟨x, hx, rfl⟩ := List.mem_map.1 hr; exact HG.out x (List.mem_of_mem_take hx))
      rw [List.length_map, List.length_take] at this; omega
    generalize ((X.take i).map (·.2.2)).flatMap rrT = tx at *
    generalize X[i] = x at *
    obtain ⟨b, v, r⟩ := x
    obtain ⟨rc, vby, t0, t1, t2, vif, on, vk, d, row⟩ := v
    obtain ⟨hat, q1, q2, q3, q4, q5, q6, q7, q8⟩ := hq
    simp only at hat q1 q2 q3 q4 q5 q6 q7 q8 hcl2 hgd
    subst q1 q3 q4 q5 q7 q8
    obtain ⟨ab, capb, e⟩ := q2.shape
    subst e
    obtain ⟨ai, capi, e⟩ := own_shape q6
    subst e
    have HAT := hide hat
    have HBY := hide q2
    have HIF := hide q6
    have HGD := hide hgd
    have Hd : Hid (rrT r = List.replicate r.d 32 ++ ((kRoute ++ r.rc) ++ (byRT (byW r.told r.names) (byW r.told r.names).length ++ (tmT kWait r.t0 ++ (tmT kEvery r.t1 ++ (tmT kRepeat r.t2 ++ (ifRT r.ifs ++ ((if r.on then kCont else []) ++ [10])))))))) := by
      show _ = _; unfold rrT; simp only [List.append_assoc]
    have c8 : wl.cell? ⟨b, 8, none⟩ = some (.int .i64 r.d) := hat.cell 8
    have c0 : wl.cell? ⟨b, 0, none⟩ = some (.string (bs r.rc)) := hat.cell 0
    have c1 : wl.cell? ⟨b, 1, none⟩ = some (.slice ab (byW r.told r.names).length capb) := hat.cell 1
    have hdd := hgd.d
    have hrc := hgd.rc
    clear hat q2 q6 hgd hcl
    obtain ⟨y0, hy0⟩ : ∃ y, y = x0 ++ tx := ⟨_, rfl⟩
    have hyl : y0.length ≤ 200000000 := by rw [hy0]; simp; omega
    have HY := hide hy0
    rw [← hy0]
    clear hy0
    go_wp2_with fail
    go_loopg [3, 7] r.d (fun k vt' vi w9 => ∃ (j : Nat), j + k = r.d ∧ vi = .int .i64 j ∧ vt' = .string (bs (y0 ++ List.replicate j 32)) ∧ wl = w9)
    case atStart => exact ⟨0, by omega, rfl, by simp, rfl⟩
    case round =>
    obtain ⟨j, hj, rfl, rfl, rfl⟩ := hrel
    by_cases hjd : j < r.d
    · have Hs : Hid (List.replicate (j + 1) (32 : UInt8) = List.replicate j 32 ++ [32]) := List.replicate_succ'
      have hrl : (List.replicate j (32 : UInt8)).length = j := by simp
      generalize List.replicate j (32 : UInt8) = rp at *
      go_wp2
      go_roundg (gk - 1)
      case measure => omega
      case rel => exact ⟨j + 1, by omega, by go_num, by rw [Hs.out], rfl⟩
    have hjd' : j = r.d := by omega
    subst hjd'
    obtain ⟨y1, hy1⟩ : ∃ y, y = y0 ++ (List.replicate r.d 32 ++ (kRoute ++ r.rc)) := ⟨_, rfl⟩
    have hy1l : y1.length ≤ 300000000 := by rw [hy1]; simp; omega
    have HY1 := hide hy1
    have hrl : (List.replicate r.d (32 : UInt8)).length = r.d := by simp
    clear hy1
    generalize List.replicate r.d (32 : UInt8) = rp at *
    have hbl : ∀ k, (byRT (byW r.told r.names) k).length ≤ 100 := byRT_len r.told r.names HGD.out.nm HGD.out.names
    have hbn : (byW r.told r.names).length ≤ 5 := by have := byW_len r.told r.names; have := HGD.out.names; omega
    have hbm : Hid (∀ x ∈ byW r.told r.names, x.length ≤ 8) := by
      intro x hx
      cases ht : r.told <;> rw [ht] at hx
      · simp [byW] at hx
      · simp [byW] at hx
        rcases hx with rfl | hx
        · simp
        · exact HGD.out.nm x hx
    generalize byW r.told r.names = B at *
    go_wp2_with fail
    rw [← HY1.out]
    go_loopg [3, 8] B.length (fun k vt' vi w9 => ∃ (j : Nat), j + k = B.length ∧ vi = .int .i64 j ∧ vt' = .string (bs (y1 ++ byRT B j)) ∧ wl = w9)
    case atStart => exact ⟨0, by omega, rfl, by simp [byRT], rfl⟩
    case round =>
    obtain ⟨j, hj, rfl, rfl, rfl⟩ := hrel
    have hbj := hbl j
    by_cases hjB : j < B.length
    · obtain ⟨gb, hgb⟩ : ∃ gb, ab = some ⟨gb, 0, none⟩ := by
        rcases HBY.out.2 with ⟨e, h⟩ | ⟨g, c, cur, e, _⟩
        · omega
        · simp at e; exact ⟨g, e.1⟩
      subst hgb
      have hcj : wl.cell? ⟨gb, j, none⟩ = some (.string (bs (B.getD j []))) := HBY.out.cell j hjB
      have hgj : B.getD j [] = B[j] := by rw [List.getD_eq_getElem?_getD, List.getElem?_eq_getElem hjB]; rfl
      rw [hgj] at hcj
      have hbx := hbm.out _ (List.getElem_mem hjB)
      by_cases hB1 : B.length = 1
      · have hj0 : j = 0 := by omega
        subst hj0
        have Hb : Hid (byRT B (0 + 1) = kBy ++ [45]) := byRT_one B hB1
        have hB0 : byRT B 0 = [] := rfl
        rw [hB0]
        have hb1 : ((B.length : Int) == 1) = true := by rw [beq_iff_eq]; omega
        clear hgj hB0
        go_wp2
        go_roundg (gk - 1)
        case measure => omega
        case rel => exact ⟨0 + 1, by omega, by go_num, by rw [Hb.out], by rfl⟩
      by_cases hj0 : j = 0
      · subst hj0
        have Hb : Hid (byRT B (0 + 1) = []) := byRT_none B hB1
        have hB0 : byRT B 0 = [] := rfl
        rw [hB0]
        have hb1 : ((B.length : Int) == 1) = false := by rw [beq_eq_false_iff_ne]; omega
        clear hgj hB0
        go_wp2
        go_roundg (gk - 1)
        case measure => omega
        case rel => exact ⟨0 + 1, by omega, by go_num, by rw [Hb.out], by rfl⟩
      by_cases hj1 : j = 1
      · subst hj1
        have Hb : Hid (byRT B (1 + 1) = kBy ++ B[1]) := byRT_two B hjB
        have hB0 : byRT B 1 = [] := byRT_none B hB1
        rw [hB0]
        clear hgj hB0
        generalize B[1] = x at *
        go_wp2
        go_roundg (gk - 1)
        case measure => omega
        case rel => exact ⟨1 + 1, by omega, by go_num, by rw [Hb.out], by rfl⟩
      have Hb : Hid (byRT B (j + 1) = byRT B j ++ ([44] ++ B[j])) := byRT_next B j (by omega) hjB
      have hb0 : ((j : Int) == 0) = false := by rw [beq_eq_false_iff_ne]; omega
      have hb1 : ((j : Int) == 1) = false := by rw [beq_eq_false_iff_ne]; omega
      have hb2 : decide ((1 : Int) < (j : Int)) = true := decide_eq_true (by omega)
      clear hgj
      generalize B[j] = x at *
      generalize byRT B j = bx at *
      go_wp2
      go_roundg (gk - 1)
      case measure => omega
      case rel => exact ⟨j + 1, by omega, by go_num, by rw [Hb.out]; simp, by rfl⟩
    have hjB' : j = B.length := by omega
    subst hjB'
    obtain ⟨y2, hy2⟩ : ∃ y, y = y1 ++ byRT B B.length := ⟨_, rfl⟩
    have hy2l : y2.length ≤ 400000000 := by rw [hy2]; simp; omega
    have HY2 := hide hy2
    rw [← hy2]
    clear hy2 hjB
    have hbw0 := heap1 wl (Obj.cells #[.string (bs wWait), .string (bs wEvery), .string (bs wRepeat)] 9)
    have HBW0 := hide hbw0
    have HFW := hide ((Frm.refl [] wl).alloc (Obj.cells #[.string (bs wWait), .string (bs wEvery), .string (bs wRepeat)] 9))
    clear hbw0
    go_wp2_with fail
    go_loopg [3, 10] 3 (fun k vt' vi w9 => ∃ (z : List UInt8), k ≤ 3 ∧ vi = .int .i64 (3 - k : Nat) ∧ z ++ tmP r k = tmP r 3 ∧ z.length ≤ 30 * (3 - k) ∧ vt' = .string (bs (y2 ++ z)) ∧ Frm [] wl w9 ∧ w9.heap[wl.heap.size]? = some (.cells #[.string (bs wWait), .string (bs wEvery), .string (bs wRepeat)] 9 (0, 0)))
    case atStart => exact ⟨[], Nat.le_refl _, rfl, rfl, by simp, by simp, HFW.out, HBW0.out⟩
    case round =>
      obtain ⟨wt, rfl⟩ : ∃ wt, wt = wr := ⟨_, rfl⟩
      obtain ⟨z, hk3, rfl, hz, hzl, rfl, hft, hbw⟩ := hrel
      have KT := hide hft
      have HBW := hide hbw
      have Hz := hide hz
      have HAT2 := hide (HAT.out.frm hft (by simp))
      clear hft hbw hz HBW0 HFW
      rcases (show gk = 3 ∨ gk = 2 ∨ gk = 1 ∨ gk = 0 by omega) with rfl | rfl | rfl | rfl
      · have q0 : wt.cell? ⟨wl.heap.size, 0, none⟩ = some (.string (bs wWait)) := by simp [World.cell?, HBW.out]
        have ct : wt.cell? ⟨b, 2, none⟩ = some (.int .i64 r.t0) := HAT2.out.cell 2
        have htb := HGD.out.t0
        have Hst : Hid (tmP r 3 = tmT kWait r.t0 ++ tmP r 2) := by
          show _ = _; rfl
        have hyz : y2.length + z.length ≤ 400000100 := by omega
        by_cases htn : 0 ≤ r.t0
        · have hd : decide (0 ≤ r.t0) = true := decide_eq_true htn
          have Ht : Hid (tmT kWait r.t0 = [32] ++ (wWait ++ ([32] ++ Lib.decDigits r.t0.toNat))) := by
            show _ = _; unfold tmT; rw [if_pos htn, Hw.out.1]; simp only [List.append_assoc]
          have hdl := dec_len' 4 r.t0.toNat (by omega)
          have htn2 : Hid (r.t0 = ((r.t0.toNat : Nat) : Int)) := by show _ = _; omega
          generalize r.t0 = tt at *
          generalize tt.toNat = tn at *
          have htn3 := htn2.out
          subst htn3
          generalize hds : Lib.decDigits tn = ds at *
          have Hds := hide hds
          clear hds
          go_wp2_with fail
          refine (decimal_any tn _ (by omega)).mono ?_
          rintro e w' ⟨rfl, hf⟩
          rw [Hds.out]
          have q1 : w'.cell? ⟨wl.heap.size, 0, none⟩ = some (.string (bs wWait)) := (hf.cell (p := ⟨wl.heap.size, 0, none⟩) (World.block_lt_of_cell? wt _ q0) (by simp)).trans q0
          have Hf := hide hf
          clear hf
          go_wp2
          go_roundg 2
          case measure => omega
          case rel => exact ⟨z ++ ([32] ++ (wWait ++ ([32] ++ ds))), by omega, by go_num, by rw [← Hz.out, Hst.out, Ht.out]; simp only [List.append_assoc], by simp; omega, by simp, KT.out.trans Hf.out, (Hf.out.block _ (Array.getElem?_eq_some_iff.1 HBW.out).1 (by simp)).trans HBW.out⟩
        · have hd : decide (0 ≤ r.t0) = false := decide_eq_false htn
          have Ht : Hid (tmT kWait r.t0 = []) := by show _ = _; unfold tmT; rw [if_neg htn]
          go_wp2
          go_roundg 2
          case measure => omega
          case rel => exact ⟨z, by omega, by go_num, by rw [← Hz.out, Hst.out, Ht.out]; rfl, by omega, rfl, KT.out, HBW.out⟩
      · have q0 : wt.cell? ⟨wl.heap.size, 1, none⟩ = some (.string (bs wEvery)) := by simp [World.cell?, HBW.out]
        have ct : wt.cell? ⟨b, 3, none⟩ = some (.int .i64 r.t1) := HAT2.out.cell 3
        have htb := HGD.out.t1
        have Hst : Hid (tmP r 2 = tmT kEvery r.t1 ++ tmP r 1) := by
          show _ = _; rfl
        have hyz : y2.length + z.length ≤ 400000100 := by omega
        by_cases htn : 0 ≤ r.t1
        · have hd : decide (0 ≤ r.t1) = true := decide_eq_true htn
          have Ht : Hid (tmT kEvery r.t1 = [32] ++ (wEvery ++ ([32] ++ Lib.decDigits r.t1.toNat))) := by
            show _ = _; unfold tmT; rw [if_pos htn, Hw.out.2.1]; simp only [List.append_assoc]
          have hdl := dec_len' 4 r.t1.toNat (by omega)
          have htn2 : Hid (r.t1 = ((r.t1.toNat : Nat) : Int)) := by show _ = _; omega
          generalize r.t1 = tt at *
          generalize tt.toNat = tn at *
          have htn3 := htn2.out
          subst htn3
          generalize hds : Lib.decDigits tn = ds at *
          have Hds := hide hds
          clear hds
          go_wp2_with fail
          refine (decimal_any tn _ (by omega)).mono ?_
          rintro e w' ⟨rfl, hf⟩
          rw [Hds.out]
          have q1 : w'.cell? ⟨wl.heap.size, 1, none⟩ = some (.string (bs wEvery)) := (hf.cell (p := ⟨wl.heap.size, 1, none⟩) (World.block_lt_of_cell? wt _ q0) (by simp)).trans q0
          have Hf := hide hf
          clear hf
          go_wp2
          go_roundg 1
          case measure => omega
          case rel => exact ⟨z ++ ([32] ++ (wEvery ++ ([32] ++ ds))), by omega, by go_num, by rw [← Hz.out, Hst.out, Ht.out]; simp only [List.append_assoc], by simp; omega, by simp, KT.out.trans Hf.out, (Hf.out.block _ (Array.getElem?_eq_some_iff.1 HBW.out).1 (by simp)).trans HBW.out⟩
        · have hd : decide (0 ≤ r.t1) = false := decide_eq_false htn
          have Ht : Hid (tmT kEvery r.t1 = []) := by show _ = _; unfold tmT; rw [if_neg htn]
          go_wp2
          go_roundg 1
          case measure => omega
          case rel => exact ⟨z, by omega, by go_num, by rw [← Hz.out, Hst.out, Ht.out]; rfl, by omega, rfl, KT.out, HBW.out⟩
      · have q0 : wt.cell? ⟨wl.heap.size, 2, none⟩ = some (.string (bs wRepeat)) := by simp [World.cell?, HBW.out]
        have ct : wt.cell? ⟨b, 4, none⟩ = some (.int .i64 r.t2) := HAT2.out.cell 4
        have htb := HGD.out.t2
        have Hst : Hid (tmP r 1 = tmT kRepeat r.t2 ++ tmP r 0) := by
          show _ = _; simp [tmP]
        have hyz : y2.length + z.length ≤ 400000100 := by omega
        by_cases htn : 0 ≤ r.t2
        · have hd : decide (0 ≤ r.t2) = true := decide_eq_true htn
          have Ht : Hid (tmT kRepeat r.t2 = [32] ++ (wRepeat ++ ([32] ++ Lib.decDigits r.t2.toNat))) := by
            show _ = _; unfold tmT; rw [if_pos htn, Hw.out.2.2]; simp only [List.append_assoc]
          have hdl := dec_len' 4 r.t2.toNat (by omega)
          have htn2 : Hid (r.t2 = ((r.t2.toNat : Nat) : Int)) := by show _ = _; omega
          generalize r.t2 = tt at *
          generalize tt.toNat = tn at *
          have htn3 := htn2.out
          subst htn3
          generalize hds : Lib.decDigits tn = ds at *
          have Hds := hide hds
          clear hds
          go_wp2_with fail
          refine (decimal_any tn _ (by omega)).mono ?_
          rintro e w' ⟨rfl, hf⟩
          rw [Hds.out]
          have q1 : w'.cell? ⟨wl.heap.size, 2, none⟩ = some (.string (bs wRepeat)) := (hf.cell (p := ⟨wl.heap.size, 2, none⟩) (World.block_lt_of_cell? wt _ q0) (by simp)).trans q0
          have Hf := hide hf
          clear hf
          go_wp2
          go_roundg 0
          case measure => omega
          case rel => exact ⟨z ++ ([32] ++ (wRepeat ++ ([32] ++ ds))), by omega, by go_num, by rw [← Hz.out, Hst.out, Ht.out]; simp only [List.append_assoc], by simp; omega, by simp, KT.out.trans Hf.out, (Hf.out.block _ (Array.getElem?_eq_some_iff.1 HBW.out).1 (by simp)).trans HBW.out⟩
        · have hd : decide (0 ≤ r.t2) = false := decide_eq_false htn
          have Ht : Hid (tmT kRepeat r.t2 = []) := by show _ = _; unfold tmT; rw [if_neg htn]
          go_wp2
          go_roundg 0
          case measure => omega
          case rel => exact ⟨z, by omega, by go_num, by rw [← Hz.out, Hst.out, Ht.out]; rfl, by omega, rfl, KT.out, HBW.out⟩
      · have Hz3 : Hid (z = tmP r 3) := by show _ = _; rw [← Hz.out]; simp [tmP]
        have hzl2 : z.length ≤ 90 := by omega
        clear Hz HBW hzl
        obtain ⟨y3, hy3⟩ : ∃ y, y = y2 ++ z := ⟨_, rfl⟩
        have hy3l : y3.length ≤ 400000100 := by rw [hy3]; simp; omega
        have HY3 := hide hy3
        rw [← hy3]
        clear hy3
        have hil := HGD.out.ifs
        have c5 : wt.cell? ⟨b, 5, none⟩ = some (.slice ai r.ifs.length capi) := HAT2.out.cell 5
        go_wp2_with fail
        go_loopg [3, 12] r.ifs.length (fun k vt' vi w9 => ∃ (j : Nat), j + k = r.ifs.length ∧ vi = .int .i64 j ∧ vt' = .string (bs (y3 ++ ifRT (r.ifs.take j))) ∧ Frm [] wt w9)
        case atStart => exact ⟨0, by omega, rfl, by simp [ifRT], Frm.refl _ _⟩
        case round =>
        obtain ⟨wi, rfl⟩ : ∃ wi, wi = wr := ⟨_, rfl⟩
        obtain ⟨j, hj, rfl, rfl, hfi⟩ := hrel
        have KI := hide hfi
        clear hfi
        have hat3 := HAT2.out.frm KI.out (by simp)
        have d5 : wi.cell? ⟨b, 5, none⟩ = some (.slice ai r.ifs.length capi) := hat3.cell 5
        have d6 : wi.cell? ⟨b, 6, none⟩ = some (.bool r.on) := hat3.cell 6
        clear hat3
        have hil2 : (ifRT (r.ifs.take j)).length ≤ 176 * 4 := by
          have := ifRT_len (r.ifs.take j) (fun m hm => HGD.out.im m (List.mem_of_mem_take hm))
          rw [List.length_take] at this; omega
        by_cases hji : j < r.ifs.length
        · obtain ⟨gi, hgi⟩ : ∃ gi, ai = some ⟨gi, 0, none⟩ := by
            rcases HIF.out.2 with ⟨e, h⟩ | ⟨g, c, cur, e, _⟩
            · omega
            · simp at e; exact ⟨g, e.1⟩
          subst hgi
          have hm? : r.ifs[j]? = some r.ifs[j] := List.getElem?_eq_getElem hji
          have hil3 : IL base wi (.slice (some ⟨gi, 0, none⟩) r.ifs.length capi) r.ifs := (HIF.out.frm KT.out (by simp)).frm KI.out (by simp)
          have HIL3 := hide hil3
          have m0 : wi.cell? ⟨gi, j * 4, none⟩ = some (.string (bs (r.ifs[j]).1)) := hil3.cell hm? 0 (by omega)
          have m1 : wi.cell? ⟨gi, j * 4 + 1, none⟩ = some (.string (bs (r.ifs[j]).2.1)) := hil3.cell hm? 1 (by omega)
          have m2 : wi.cell? ⟨gi, j * 4 + 2, none⟩ = some (.string (bs (r.ifs[j]).2.2)) := hil3.cell hm? 2 (by omega)
          have m3 : wi.cell? ⟨gi, j * 4 + 3, none⟩ = some (.pointer none) := hil3.cell hm? 3 (by omega)
          have hmg := HGD.out.im _ (List.getElem_mem hji)
          have Hmi : Hid (ifRT (r.ifs.take (j + 1)) = ifRT (r.ifs.take j) ++ (kIf ++ ((r.ifs[j]).1 ++ ((r.ifs[j]).2.1 ++ quoteV (r.ifs[j]).2.2)))) := by
            show _ = _; unfold ifRT; rw [List.take_succ_eq_append_getElem hji, List.flatMap_append]; simp only [List.flatMap_cons, List.flatMap_nil, List.append_nil, List.append_assoc]
          have hql := quoteV_len (r.ifs[j]).2.2
          generalize r.ifs[j] = m at *
          obtain ⟨n1, n2, n3⟩ := m
          simp only at m0 m1 m2 m3 hmg hql
          obtain ⟨hm1, hm2, hm3⟩ := hmg
          generalize ifRT (r.ifs.take j) = ix at *
          clear hil3 hm?
          go_wp2_with fail
          refine (quoted_any n3 _ (by omega)).mono ?_
          rintro e w' ⟨rfl, hf⟩
          have KQ := hide (KI.out.trans hf)
          have hg0 : wi.heap.size ≤ w'.heap.size := hf.size
          have n0' : w'.cell? ⟨gi, j * 4, none⟩ = some (.string (bs n1)) := (hf.cell (p := ⟨gi, j * 4, none⟩) (World.block_lt_of_cell? wi _ m0) (by simp)).trans m0
          have n1' : w'.cell? ⟨gi, j * 4 + 1, none⟩ = some (.string (bs n2)) := (hf.cell (p := ⟨gi, j * 4 + 1, none⟩) (World.block_lt_of_cell? wi _ m1) (by simp)).trans m1
          have n5' : w'.cell? ⟨b, 5, none⟩ = some (.slice (some ⟨gi, 0, none⟩) r.ifs.length capi) := (hf.cell (p := ⟨b, 5, none⟩) (World.block_lt_of_cell? wi _ d5) (by simp)).trans d5
          clear hf m0 m1 m2 m3
          generalize quoteV n3 = qv at *
          go_wp2
          go_quiet (fail)
          go_wp2
          go_roundg (gk - 1)
          case measure => omega
          case rel => exact ⟨j + 1, by omega, by go_num, by rw [Hmi.out], KQ.out.drewN _⟩
        have hji' : j = r.ifs.length := by omega
        subst hji'
        have Hti : Hid (r.ifs.take r.ifs.length = r.ifs) := List.take_of_length_le (Nat.le_refl _)
        rw [Hti.out] at hil2 ⊢
        have Hend : Hid (∀ q, (if r.on then kCont else []) = q → x0 ++ (tx ++ rrT r) = y3 ++ (ifRT r.ifs ++ (q ++ [10]))) := by
          intro q hq
          rw [HY3.out, HY2.out, HY1.out, HY.out, Hd.out, hq, Hz3.out]
          simp only [tmP, List.append_assoc]
        generalize ifRT r.ifs = ix at *
        have KL := hide ((KF.out.trans KT.out).trans KI.out)
        cases hon : r.on
        · have Hq := hide (Hend.out [] (by rw [hon]; rfl))
          go_wp2
          go_roundg (gl - 1)
          case measure => omega
          case rel => exact ⟨i + 1, by omega, by go_num, by rw [Hi.out, Hq.out]; simp, KL.out⟩
        · have Hq := hide (Hend.out kCont (by rw [hon]; rfl))
          go_wp2
          go_roundg (gl - 1)
          case measure => omega
          case rel => exact ⟨i + 1, by omega, by go_num, by rw [Hi.out, Hq.out], KL.out⟩
  · have Ht2 : Hid (X.take i = X) := List.take_of_length_le (by omega)
    rw [Ht2.out]
    go_wp2
    go_ret
    rw [Hx.out, HX0.out]
    exact ⟨ret_str (by simp), KF.out⟩

end Go.Proofs.YtjnaekffodgdcaaDoor
