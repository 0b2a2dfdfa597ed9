import Derived.Test.YtjnaekffodgdcaaDoorD1
namespace Go.Proofs.YtjnaekffodgdcaaDoor
open Go.RowKit
set_option linter.unusedVariables false
set_option linter.unusedSimpArgs false
set_option linter.unnecessarySimpa false

set_option maxRecDepth 100000 in
set_option maxHeartbeats 8000000 in
theorem route_any (l : List UInt8) (w : World) (hl : l.length ≤ 9000) :
    Calls Tryd.prog 12 #[.string (bs l)] w fun e w' => RPost w e w' (rtR l) ∧ Frm [] w w' := by
  have hsz := bs_size
  have hx := bs_extract
  have htl := bs_toList
  have k0 : ({ data := #[] } : ByteArray).toList = [] := bs_toList _
  have hb0 : RB (w.alloc (Obj.cells (RRV.cells ⟨[], .slice none 0 0, -1, -1, -1, .slice none 0 0, false, .slice none 0 0, 0, 0⟩) 49)) w.heap.size ⟨[], .slice none 0 0, -1, -1, -1, .slice none 0 0, false, .slice none 0 0, 0, 0⟩ := heap1 _ _
  have HB0 := hide hb0
  clear hb0
  go_enter Tryd.func12, Tryd.ntmps12
  go_wp2_with fail
  go_loopg [0] l.length (fun k vs wr => ∃ (l' : List UInt8) (d : Nat), l'.length ≤ k ∧ d + l'.length ≤ l.length ∧ (sDepth l').1 + d = (sDepth l).1 ∧ (sDepth l').2 = (sDepth l).2 ∧ vs = .string (bs l') ∧ RB wr w.heap.size ⟨[], .slice none 0 0, -1, -1, -1, .slice none 0 0, false, .slice none 0 0, d, 0⟩ ∧ Frm [] w wr)
  case atStart => exact ⟨l, 0, Nat.le_refl _, by omega, by omega, rfl, rfl, HB0.out, (Frm.refl _ _).alloc _⟩
  case round =>
  clear HB0
  obtain ⟨l', d, hlk, hdl, hd1, hd2, rfl, hrb, hfr⟩ := hrel
  have Hd := hide (And.intro hd1 hd2)
  have Hr := hide hrb
  have Hf := hide hfr
  clear hd1 hd2 hrb hfr
  by_cases hsp : ∃ r, l' = 32 :: r
  · obtain ⟨r, rfl⟩ := hsp
    have hbg : (bs (32 :: r))[0]'(by rw [hsz]; simp) = 32 := rfl
    have hne : ((32 :: r : List UInt8) == []) = false := rfl
    have c6 : wr.cell? ⟨w.heap.size, 8, none⟩ = some (.int .i64 d) := Hr.out.cell 8
    have f6 := Hr.out.fz 8
    have Hd2 : Hid ((sDepth r).1 + (d + 1) = (sDepth l).1 ∧ (sDepth r).2 = (sDepth l).2) := by
      have := Hd.out
      rw [sDepth_yes 32 r rfl] at this
      exact ⟨by have := this.1; simp only at this; omega, this.2⟩
    simp only [List.length_cons] at hlk hdl
    have hex : List.drop 1 (List.take (r.length + 1) (32 :: r)) = r := by simp
    clear Hd
    go_wp2
    go_roundg (gk - 1)
    case measure => omega
    case rel => exact ⟨r, d + 1, by omega, by omega, Hd2.out.1, Hd2.out.2, by simp, Hr.out.set 8 _ _ (by simp [RRV.cells]), Hf.out.setCell (by simp) _⟩
  · have Hd2 : Hid (d = (sDepth l).1 ∧ l' = (sDepth l).2) := by
      have := Hd.out
      cases l' with
      | nil => exact ⟨by have := this.1; simp [sDepth] at this; exact this, this.2⟩
      | cons c r =>
        have hc : (c == 32) = false := by
          rw [beq_eq_false_iff_ne]; intro e; subst e; exact hsp ⟨r, rfl⟩
        rw [sDepth_no c r hc] at this
        exact ⟨by simpa using this.1, by simpa using this.2⟩
    have hl'l : l'.length ≤ 9000 := by omega
    have HR : Hid (rtR l = rtW d (cutL true 32 l')) := by show _ = _; unfold rtR; rw [← Hd2.out.1, ← Hd2.out.2]
    have hdle : d ≤ 9000 := by omega
    have hexit : (l' == []) = true ∨ ((l' == []) = false ∧ ∃ c, (∀ h, (bs l')[0]'h = c) ∧ ((c.toNat : Int) == 32) = false) := by
      cases l' with
      | nil => exact Or.inl rfl
      | cons c r =>
        refine Or.inr ⟨rfl, c, fun _ => rfl, ?_⟩
        rw [beq_eq_false_iff_ne]; intro e
        have : c = 32 := UInt8.toNat_inj.1 (Int.ofNat_inj.1 e)
        subst this; exact hsp ⟨r, rfl⟩
    clear Hd Hd2 hsp hdl hlk
    have hbl := Hr.out.lt
    have fin : ∀ (e : Ending) (w' : World) (p : Option Addr), rtR l = none → e = .returned (.tuple #[.pointer p, .bool false]) → Frm [] w w' → RPost w e w' (rtR l) ∧ Frm [] w w' := by
      intro e w' p h1 h2 h3
      rw [h1]; exact ⟨⟨p, h2⟩, h3⟩
    have Fin := hide fin
    clear fin
    rcases hexit with he | ⟨he, c, hc, hc32⟩
    · have hl0 : l' = [] := by simpa using he
      subst hl0
      have Hn : Hid (rtR l = none) := by show _ = _; rw [HR.out]; rfl
      go_wp2_with fail
      refine (cut_any [] 32 true wr (by simp)).mono ?_
      rintro e w2 ⟨v, rfl, hs, hf⟩
      obtain ⟨a, cap, rfl⟩ := hs.shape
      have hlen : (cutL true 32 []).length = 1 := rfl
      rw [hlen]
      have Hf2 := hide (Hf.out.trans hf)
      clear hs hf hlen
      go_wp2
      go_ret2
      exact Fin.out _ _ _ Hn.out rfl Hf2.out
    have hlp : 0 < (bs l').size := by
      rw [hsz, List.length_pos_iff]; intro e; rw [e] at he; cases he
    have hc0 : (bs l')[0]'hlp = c := hc hlp
    clear hc
    go_wp2_with fail
    refine (cut_any l' 32 true wr (by omega)).mono ?_
    rintro e w2 ⟨v, rfl, hs, hf⟩
    have hcb := cutL_bd true 32 l'
    generalize cutL true 32 l' = W at *
    obtain ⟨hWx, hWl, hW1⟩ := hcb
    obtain ⟨a, cap, rfl⟩ := hs.shape
    have Hs := hide ((hs.rs (by omega)).base (base' := w.heap.size + 1) (by have := Hr.out.lt; omega))
    have Hwl : Hid (∀ x ∈ W, x.length ≤ 100000) := fun x hx => by have := hWx x hx; omega
    have Hr2 := hide (Hr.out.frm hf (by simp))
    have Hf2 := hide (Hf.out.trans hf)
    have hz2 : w.heap.size + 1 ≤ w2.heap.size := by have := Hr2.out.lt; omega
    clear hs hf hWx Hr Hf hc0 hc32 he hlp
    by_cases hW2 : W.length < 2
    · have Hn : Hid (rtR l = none) := by show _ = _; rw [HR.out]; unfold rtW; simp [hW2]
      have hd2 : decide ((W.length : Int) < 2) = true := decide_eq_true (by omega)
      go_wp2
      go_ret2
      exact Fin.out _ _ _ Hn.out rfl Hf2.out
    have hd2 : decide ((W.length : Int) < 2) = false := decide_eq_false (by omega)
    obtain ⟨g, off, ha, hgb, _, hWc, hcell⟩ := Hs.out.at' (by omega)
    subst ha
    have c0 : w2.cell? ⟨g, off, none⟩ = some (.string (bs (W.getD 0 []))) := hcell 0 (by omega)
    have c1 : w2.cell? ⟨g, off + 1, none⟩ = some (.string (bs (W.getD 1 []))) := hcell 1 (by omega)
    have kR : ({ data := #[114, 111, 117, 116, 101] } : ByteArray).toList = wRoute := bs_toList _
    have k45 : ({ data := #[45] } : ByteArray).toList = [45] := bs_toList _
    have hx1l : (W.getD 1 []).length ≤ 100000 := Hwl.out _ (by rw [List.getD_eq_getElem?_getD, List.getElem?_eq_getElem (by omega)]; exact List.getElem_mem _)
    have HR2 : Hid (rtR l = if !(W.getD 0 [] == wRoute) then none
      else if !(isNameL (W.getD 1 [])) && !(W.getD 1 [] == [45]) then none
      else match byStep (W.drop 2) with
        | none => none
        | some (told, names, W1) => match tmR 3 (-1, -1, -1) W1 with
          | none => none
          | some (ts, W2) => if (restGo (W2.length + 1) W2 []).2.2 then some ⟨W.getD 1 [], told, names, ts.1, ts.2.1, ts.2.2, (restGo (W2.length + 1) W2 []).1, (restGo (W2.length + 1) W2 []).2.1, d⟩ else none) := by
      show _ = _; rw [HR.out]; unfold rtW; rw [decide_eq_false hW2]; rfl
    clear hcell HR
    generalize W.getD 0 [] = x0 at *
    generalize W.getD 1 [] = x1 at *
    cases h0 : (x0 == wRoute)
    · have Hn : Hid (rtR l = none) := by show _ = _; rw [HR2.out, h0]; rfl
      go_wp2
      go_ret2
      exact Fin.out _ _ _ Hn.out rfl Hf2.out
    have p0 : w2.cell? ⟨w.heap.size, 0, none⟩ = some (.string (bs [])) := Hr2.out.cell 0
    have pf := Hr2.out.fz 0
    go_wp2_with fail
    refine (rName_any x1 _ (by omega)).mono ?_
    rintro e w' ⟨rfl, rfl⟩
    have Hr3 := hide (Hr2.out.set 0 (.string (bs x1)) ⟨x1, .slice none 0 0, -1, -1, -1, .slice none 0 0, false, .slice none 0 0, d, 0⟩ rfl)
    have F23 := hide ((Frm.refl [w.heap.size] w2).setCell (p := ⟨w.heap.size, 0, none⟩) (by simp) (.string (bs x1)))
    generalize w2.setCell ⟨w.heap.size, 0, none⟩ (.string (bs x1)) = w3 at *
    have q0 : w3.cell? ⟨w.heap.size, 0, none⟩ = some (.string (bs x1)) := Hr3.out.cell 0
    have HR3 : Hid (rtR l = if !(isNameL x1) && !(x1 == [45]) then none
      else match byStep (W.drop 2) with
        | none => none
        | some (told, names, W1) => match tmR 3 (-1, -1, -1) W1 with
          | none => none
          | some (ts, W2) => if (restGo (W2.length + 1) W2 []).2.2 then some ⟨x1, told, names, ts.1, ts.2.1, ts.2.2, (restGo (W2.length + 1) W2 []).1, (restGo (W2.length + 1) W2 []).2.1, d⟩ else none) := by
      show _ = _; rw [HR2.out, h0]; rfl
    clear HR2 c0 c1 p0 pf h0 Hr2
    go_upto_region 10 with fail
    go_cut [6, 60] (fun v6 vt wc => wc = w3 ∧ vt = .bool (!(isNameL x1) && !(x1 == [45])))
    case first =>
      cases hnm : isNameL x1
      · cases h45 : (x1 == [45])
        all_goals
          go_wp2
          go_meet
          case rel => exact ⟨rfl, by rw [hnm, h45]; rfl⟩
      · go_wp2
        go_meet
        case rel => exact ⟨rfl, by rw [hnm]; rfl⟩
    case rest =>
    obtain ⟨rfl, rfl⟩ := hcut
    cases hbb : (!(isNameL x1) && !(x1 == [45]))
    case true =>
      have Hn : Hid (rtR l = none) := by show _ = _; rw [HR3.out, hbb]; rfl
      go_wp2
      go_ret2
      exact Fin.out _ _ _ Hn.out rfl (Hf2.out.new F23.out (by simp))
    case false =>
    have HR4 := hide HR3.out
    rw [hbb] at HR4
    clear HR3 hbb q0
    go_upto_region 12 with fail
    have Hdr := hide (Hs.out.drop2 2 (by omega))
    go_cut [5] (fun vw w9 => w9 = wc ∧ RS (w.heap.size + 1) w2 vw (W.drop 2))
    case first =>
      by_cases hc2 : cap = 2
      · have hRS : RS (w.heap.size + 1) w2 (.slice (some ⟨g, off, none⟩) (W.length - 2) 0) (W.drop 2) := ⟨some ⟨g, off, none⟩, 0, by simp, by simp; omega, by simp; omega, fun j hj => by simp at hj; omega⟩
        have HRS := hide hRS
        clear hRS
        go_wp2
        go_meet
        case rel => exact ⟨rfl, HRS.out⟩
      · go_wp2
        go_meet
        case rel => exact ⟨rfl, Hdr.out⟩
    case rest =>
    obtain ⟨rfl, hrs1⟩ := hcut
    have hWx1 : ∀ x ∈ W.drop 2, x.length ≤ 100000 := fun x hx => Hwl.out x (List.mem_of_mem_drop hx)
    have hWl1 : (W.drop 2).length ≤ 9001 := by simp; omega
    generalize W.drop 2 = V at *
    clear Hs Hdr Hwl hWl hW1 hW2 hd2 hWc hgb
    have hrs0 := hrs1
    obtain ⟨a1, cap1, e1, _, hVc, _⟩ := hrs0
    subst e1
    have Hrs1 := hide hrs1
    have Hwx1 := hide hWx1
    clear hrs1 hWx1
    have kBY : ({ data := #[98, 121] } : ByteArray).toList = wBy := bs_toList _
    have F23' := F23.out
    have hcells : 1 < V.length → ∃ g off, a1 = some ⟨g, off, none⟩ ∧ wc.cell? ⟨g, off, none⟩ = some (.string (bs (V.getD 0 []))) ∧ wc.cell? ⟨g, off + 1, none⟩ = some (.string (bs (V.getD 1 []))) ∧ (∀ wx, Frm [w.heap.size] w2 wx → wx.cell? ⟨g, off + 1, none⟩ = some (.string (bs (V.getD 1 [])))) := by
      intro h
      obtain ⟨g, off, ha, hgb, _, _, hcell⟩ := Hrs1.out.at' (by omega)
      have d0 := hcell 0 (by omega)
      have d1 := hcell 1 (by omega)
      have hlt := World.block_lt_of_cell? w2 _ d1
      refine ⟨g, off, ha, (F23'.cell (p := ⟨g, off, none⟩) hlt (by simp; omega)).trans d0, (F23'.cell (p := ⟨g, off + 1, none⟩) hlt (by simp; omega)).trans d1, fun wx hwx => (hwx.cell (p := ⟨g, off + 1, none⟩) hlt (by simp; omega)).trans d1⟩
    have Hcells := hide hcells
    clear hcells F23'
    go_upto_region 13 with fail
    go_cut [71] (fun vt w9 => w9 = wc ∧ vt = .bool (decide (1 < V.length) && (V.getD 0 [] == wBy)))
    case first =>
      by_cases h1 : 1 < V.length
      · obtain ⟨g, off, rfl, c0, c1, _⟩ := Hcells.out h1
        have hd1 : decide ((1 : Int) < (V.length : Int)) = true := decide_eq_true (by omega)
        go_wp2
        go_meet
        case rel => exact ⟨rfl, by rw [decide_eq_true h1]; rfl⟩
      · have hd1 : decide ((1 : Int) < (V.length : Int)) = false := decide_eq_false (by omega)
        go_wp2
        go_meet
        case rel => exact ⟨rfl, by rw [decide_eq_false h1]; rfl⟩
    case rest =>
    obtain ⟨rfl, rfl⟩ := hcut
    have k58 : ({ data := #[58] } : ByteArray) = bs [58] := rfl
    have hzc : w2.heap.size ≤ wc.heap.size := F23.out.size
    go_upto_if 71 with fail
    go_cut [5, 6, 7, 8] (fun vw v6 v7 v8 w9 => ∃ (told : Bool) (names V1 : List (List UInt8)) (vby : Value), byStep V = some (told, names, V1) ∧ V1.length ≤ 9001 ∧ (∀ x ∈ V1, x.length ≤ 100000) ∧ RS (w.heap.size + 1) w2 vw V1 ∧ RB w9 w.heap.size ⟨x1, vby, -1, -1, -1, .slice none 0 0, false, .slice none 0 0, d, 0⟩ ∧ SL w2.heap.size w9 vby (byW told names) ∧ Frm [w.heap.size] w2 w9)
    case first =>
      cases hby : (decide (1 < V.length) && (V.getD 0 [] == wBy))
      case false =>
        have Hb : Hid (byStep V = some (false, [], V)) := by show _ = _; unfold byStep; rw [hby]; rfl
        go_wp2
        go_meet
        case rel => exact ⟨false, [], V, .slice none 0 0, Hb.out, hWl1, Hwx1.out, Hrs1.out, Hr3.out, SL.nil _ _, F23.out⟩
      case true =>
      have h1 : 1 < V.length := by
        rw [Bool.and_eq_true, decide_eq_true_iff] at hby; exact hby.1
      obtain ⟨g, off, rfl, c0, c1, cx⟩ := Hcells.out h1
      have Hcx := hide cx
      clear cx
      have p1 : wc.cell? ⟨w.heap.size, 1, none⟩ = some (.slice none 0 0) := Hr3.out.cell 1
      have pf := Hr3.out.fz 1
      have hbl3 := Hr3.out.lt
      have hx2l : (V.getD 1 []).length ≤ 100000 := Hwx1.out _ (by rw [List.getD_eq_getElem?_getD, List.getElem?_eq_getElem h1]; exact List.getElem_mem _)
      have Hst : Hid (byStep V = if V.getD 1 [] == [45] then some (true, [], V.drop 2)
         else if (cutL false 44 (V.getD 1 [])).all isNameL && decide ((cutL false 44 (V.getD 1 [])).length ≤ 4) then some (true, srt (cutL false 44 (V.getD 1 [])), V.drop 2) else none) := by
        show _ = _; unfold byStep; rw [hby]; rfl
      have Hdr := hide (Hrs1.out.drop2 2 (by omega))
      generalize V.getD 1 [] = x2 at *
      go_upto_region 15 with fail
      have Hrd := hide ((Hr3.out.set 1 (.slice (some ⟨wc.heap.size, 0, none⟩) 1 1) ⟨x1, .slice (some ⟨wc.heap.size, 0, none⟩) 1 1, -1, -1, -1, .slice none 0 0, false, .slice none 0 0, d, 0⟩ rfl).frm (S := []) ((Frm.refl _ _).alloc (.cells #[.string (bs [58])] 9)) (by simp))
      have Fd := hide ((F23.out.setCell (p := ⟨w.heap.size, 1, none⟩) (by simp) (.slice (some ⟨wc.heap.size, 0, none⟩) 1 1)).alloc (.cells #[.string (bs [58])] 9))
      have Hsd : Hid (SL w2.heap.size ((wc.setCell ⟨w.heap.size, 1, none⟩ (.slice (some ⟨wc.heap.size, 0, none⟩) 1 1)).alloc (.cells #[.string (bs [58])] 9)) (.slice (some ⟨wc.heap.size, 0, none⟩) 1 1) [[58]]) := by
        have := World.ownsRow_lit (base := w2.heap.size) (e := 9) (size := 1) (wc.setCell ⟨w.heap.size, 1, none⟩ (.slice (some ⟨wc.heap.size, 0, none⟩) 1 1)) #[.string (bs [58])] 1 (by simp [World.setCell]; exact hzc) (by unfold maxLen; omega) (by simp)
        have e : (wc.setCell ⟨w.heap.size, 1, none⟩ (.slice (some ⟨wc.heap.size, 0, none⟩) 1 1)).heap.size = wc.heap.size := by simp [World.setCell]
        rw [e] at this
        exact this
      generalize hby0 : wc.heap.size = bb at *
      generalize (wc.setCell ⟨w.heap.size, 1, none⟩ (.slice (some ⟨bb, 0, none⟩) 1 1)).alloc (.cells #[.string (bs [58])] 9) = w5 at *
      have c1' : w5.cell? ⟨g, off + 1, none⟩ = some (.string (bs x2)) := Hcx.out w5 Fd.out
      have hz5 : w2.heap.size ≤ w5.heap.size := Fd.out.size
      clear p1 pf c0 c1 hby0
      have slc : ∀ (v5 : Value) (w9 : World), RB w9 w.heap.size ⟨x1, v5, -1, -1, -1, .slice none 0 0, false, .slice none 0 0, d, 0⟩ → True := fun _ _ _ => trivial
      clear slc
      cases h45 : (x2 == [45])
      case true =>
        have Hb : Hid (byStep V = some (true, [], V.drop 2)) := by show _ = _; rw [Hst.out, h45]; rfl
        by_cases hc2 : cap1 = 2
        · have hRS : RS (w.heap.size + 1) w2 (.slice (some ⟨g, off, none⟩) (V.length - 2) 0) (V.drop 2) := ⟨some ⟨g, off, none⟩, 0, by simp, by simp; omega, by simp; omega, fun j hj => by simp at hj; omega⟩
          have HRS := hide hRS
          clear hRS
          go_wp2
          go_meet
          case rel => exact ⟨true, [], V.drop 2, _, Hb.out, by simp; omega, fun x hx => Hwx1.out x (List.mem_of_mem_drop hx), HRS.out, Hrd.out, Hsd.out, Fd.out⟩
        · go_wp2
          go_meet
          case rel => exact ⟨true, [], V.drop 2, _, Hb.out, by simp; omega, fun x hx => Hwx1.out x (List.mem_of_mem_drop hx), Hdr.out, Hrd.out, Hsd.out, Fd.out⟩
      case false =>
      go_wp2_with fail
      refine (cut_any x2 44 false w5 (by omega)).mono ?_
      rintro e w6 ⟨v6, rfl, hs6, hf6⟩
      have hcb := cutL_bd false 44 x2
      obtain ⟨hNx, hNl, hN1⟩ := hcb
      have HNx := hide hNx
      have Hst2 : Hid (byStep V = if (cutL false 44 x2).all isNameL && decide ((cutL false 44 x2).length ≤ 4) then some (true, srt (cutL false 44 x2), V.drop 2) else none) := by
        show _ = _; rw [Hst.out, h45]; rfl
      clear Hst hNx h45
      generalize cutL false 44 x2 = N at *
      obtain ⟨aN, capN, rfl⟩ := hs6.shape
      have HsN := hide ((hs6.rs (by omega)).base (base' := 0) (Nat.zero_le _))
      have Hr6 := hide (Hrd.out.frm hf6 (by simp))
      have Hs6 := hide (Hsd.out.frm hf6 (by simp))
      have F6 := hide (Fd.out.trans hf6.nil)
      clear hs6 hf6
      have Hbad : Hid (((N.all isNameL && decide (N.length ≤ 4)) = false) → rtR l = none) := by
        intro h
        rw [HR4.out, Hst2.out, h]; rfl
      have hfw : Hid (∀ wx, Frm [w.heap.size] w2 wx → Frm [] w wx) := fun wx h => Hf2.out.new h (by simp)
      go_wp2_with fail
      go_loopg [6, 8] N.length (fun k v6 vi wr => ∃ (j : Nat), j + k = N.length ∧ vi = .int .i64 j ∧ (N.take j).all isNameL = true ∧ wr = w6)
      case atStart => exact ⟨0, by omega, rfl, by simp, rfl⟩
      case round =>
        obtain ⟨j, hj, rfl, hal, hw6⟩ := hrel
        subst hw6
        have Hal := hide hal
        clear hal
        by_cases hlt : j < N.length
        · obtain ⟨a', cap', e, _, _, h3⟩ := HsN.out
          simp at e
          obtain ⟨e1, e2⟩ := e
          subst e1 e2
          obtain ⟨gN, offN, h4, _, h6⟩ := h3 j hlt
          subst h4
          clear h3
          have hyl := HNx.out _ (List.getElem_mem hlt)
          have Ht : Hid (N.take (j + 1) = N.take j ++ [N[j]]) := List.take_succ_eq_append_getElem hlt
          have Hm : Hid (N[j] ∈ N) := List.getElem_mem hlt
          generalize N[j] = y at *
          go_wp2_with fail
          refine (rName_any y _ (by omega)).mono ?_
          rintro e w' ⟨rfl, rfl⟩
          cases hny : isNameL y
          · have Hn : Hid (rtR l = none) := Hbad.out (by
              have : N.all isNameL = false := by
                rw [Bool.eq_false_iff]; intro ha
                have := List.all_eq_true.1 ha y Hm.out
                rw [hny] at this; cases this
              rw [this]; rfl)
            go_wp2
            go_ret2
            exact Fin.out _ _ _ Hn.out rfl (hfw.out _ F6.out)
          · have Hal2 : Hid ((N.take (j + 1)).all isNameL = true) := by
              show _ = _; rw [Ht.out, List.all_append, Hal.out]; simp [hny]
            go_wp2
            go_roundg (gk - 1)
            case measure => omega
            case rel => exact ⟨j + 1, by omega, by go_num, Hal2.out, rfl⟩
        · have Hall : Hid (N.all isNameL = true) := by
            have := Hal.out; rw [List.take_of_length_le (by omega)] at this; exact this
          by_cases h4 : 4 < N.length
          · have Hn : Hid (rtR l = none) := Hbad.out (by rw [decide_eq_false (by omega)]; simp)
            have hd4 : decide ((4 : Int) < (N.length : Int)) = true := decide_eq_true (by omega)
            go_wp2
            go_ret2
            exact Fin.out _ _ _ Hn.out rfl (hfw.out _ F6.out)
          have hd4 : decide ((4 : Int) < (N.length : Int)) = false := decide_eq_false (by omega)
          have Hb : Hid (byStep V = some (true, srt N, V.drop 2)) := by
            show _ = _; rw [Hst2.out, Hall.out, decide_eq_true (by omega)]; rfl
          have hsl := srt_len N
          obtain ⟨hsl1, hsl2⟩ := hsl
          have hsp := hsl2 hN1
          go_wp2_with fail
          refine (sorted_any _ N wr HsN.out (by omega)).mono ?_
          rintro e w7 ⟨v7, rfl, hs7, hf7⟩
          have Hr7 := hide (Hr6.out.frm hf7 (by simp))
          have Hs7 := hide (Hs6.out.frm hf7 (by simp))
          have F7 := hide (F6.out.trans hf7.nil)
          obtain ⟨a7, c7, e7⟩ := hs7.shape
          obtain ⟨g7, hg7⟩ : ∃ g7, a7 = some ⟨g7, 0, none⟩ := by
            rcases hs7.2 with ⟨e, h⟩ | ⟨g, c, cur, e, _⟩
            · omega
            · rw [e7] at e; simp at e; exact ⟨g, e.1⟩
          subst hg7 e7
          have HN7 := hide hs7
          have hz7 : w2.heap.size ≤ w7.heap.size := F7.out.size
          have p1 : w7.cell? ⟨w.heap.size, 1, none⟩ = some (.slice (some ⟨bb, 0, none⟩) 1 1) := Hr7.out.cell 1
          clear hs7 hf7
          generalize srt N = M at *
          have hbb := (Hs7.out.lt bb rfl).1
          by_cases hc2 : cap1 = 2
          · have hRS : RS (w.heap.size + 1) w2 (.slice (some ⟨g, off, none⟩) (V.length - 2) 0) (V.drop 2) := ⟨some ⟨g, off, none⟩, 0, by simp, by simp; omega, by simp; omega, fun j hj => by simp at hj; omega⟩
            have HRS := hide hRS
            clear hRS
            go_wp2_with (first | (at_builtin; refine wp_appSL _ rfl _ _ rfl w2.heap.size wr.heap.size (.slice (some ⟨bb, 0, none⟩) 1 1) [[58]] M g7 c7 rfl Hs7.out rfl HN7.out (by omega) (by simp; omega) hz7 ?_; intro gb capb w8 hs8 hg8 hb8; have Hs8 := hide hs8; have F78 := Frm.of_grown hg8; have Hr8 := hide (Hr7.out.frm F78 (by simp; omega)); have F8 := hide (F7.out.grown hg8 (fun k hk => by simp [Value.ownBlock] at hk; omega)); have p8 := Hr8.out.cell 1; have f8 := Hr8.out.fz 1; clear hs8 hg8 F78))
            go_meet
            case rel => exact ⟨true, M, V.drop 2, .slice (some ⟨gb, 0, none⟩) (1 + M.length) capb, Hb.out, by simp; omega, fun x hx => Hwx1.out x (List.mem_of_mem_drop hx), HRS.out, Hr8.out.set 1 _ _ rfl, (Hs8.out.frm (S := [w.heap.size]) ((Frm.refl _ _).setCell (by simp) _) (by simp; omega)), F8.out.setCell (by simp) _⟩
          · skip
            go_wp2_with (first | (at_builtin; refine wp_appSL _ rfl _ _ rfl w2.heap.size wr.heap.size (.slice (some ⟨bb, 0, none⟩) 1 1) [[58]] M g7 c7 rfl Hs7.out rfl HN7.out (by omega) (by simp; omega) hz7 ?_; intro gb capb w8 hs8 hg8 hb8; have Hs8 := hide hs8; have F78 := Frm.of_grown hg8; have Hr8 := hide (Hr7.out.frm F78 (by simp; omega)); have F8 := hide (F7.out.grown hg8 (fun k hk => by simp [Value.ownBlock] at hk; omega)); have p8 := Hr8.out.cell 1; have f8 := Hr8.out.fz 1; clear hs8 hg8 F78))
            go_meet
            case rel => exact ⟨true, M, V.drop 2, .slice (some ⟨gb, 0, none⟩) (1 + M.length) capb, Hb.out, by simp; omega, fun x hx => Hwx1.out x (List.mem_of_mem_drop hx), Hdr.out, Hr8.out.set 1 _ _ rfl, (Hs8.out.frm (S := [w.heap.size]) ((Frm.refl _ _).setCell (by simp) _) (by simp; omega)), F8.out.setCell (by simp) _⟩
    case rest =>
    obtain ⟨told, names, V1, vby, hbs, hV1l, hV1x, hrs, hrb, hsl, hfc⟩ := hcut
    have F := hide hfc
    have Hrb := hide hrb
    have Hsl := hide hsl
    have HR5 : Hid (rtR l = match tmR 3 (-1, -1, -1) V1 with
          | none => none
          | some (ts, W2) => if (restGo (W2.length + 1) W2 []).2.2 then some ⟨x1, told, names, ts.1, ts.2.1, ts.2.2, (restGo (W2.length + 1) W2 []).1, (restGo (W2.length + 1) W2 []).2.1, d⟩ else none) := by
      show _ = _; rw [HR4.out, hbs]; rfl
    clear HR4 hbs hfc hrb hsl Hcells Hrs1 Hwx1 F23 Hr3 hzc
    have kw0 : ({ data := #[119, 97, 105, 116] } : ByteArray) = bs wWait := rfl
    have kw1 : ({ data := #[101, 118, 101, 114, 121] } : ByteArray) = bs wEvery := rfl
    have kw2 : ({ data := #[114, 101, 112, 101, 97, 116] } : ByteArray) = bs wRepeat := rfl
    have hbw0 := heap1 wc (Obj.cells #[.string (bs wWait), .string (bs wEvery), .string (bs wRepeat)] 9)
    have Hbw0 := hide hbw0
    have hzc : w2.heap.size ≤ wc.heap.size := F.out.size
    have Frb := hide (Hrb.out.frm (S := []) ((Frm.refl _ _).alloc (Obj.cells #[.string (bs wWait), .string (bs wEvery), .string (bs wRepeat)] 9)) (by simp))
    have Fsl := hide (Hsl.out.frm (S := []) ((Frm.refl _ _).alloc (Obj.cells #[.string (bs wWait), .string (bs wEvery), .string (bs wRepeat)] 9)) (by simp))
    have FF := hide (F.out.alloc (Obj.cells #[.string (bs wWait), .string (bs wEvery), .string (bs wRepeat)] 9))
    clear hbw0 Hrb Hsl F
    have hrs0 := hide hrs
    have hV1x0 := hide hV1x
    clear hrs hV1x
    go_wp2_with fail
    generalize hbwe : wc.heap.size = bw at *
    have hbwl : w.heap.size < bw := by omega
    clear hbwe
    go_loopg [5, 10] 3 (fun k vw vi wr => ∃ (t0 t1 t2 : Int) (W' : List (List UInt8)), k ≤ 3 ∧ vi = .int .i64 (3 - k : Nat) ∧ W'.length ≤ 9001 ∧ (∀ x ∈ W', x.length ≤ 100000) ∧ RS (w.heap.size + 1) w2 vw W' ∧ RB wr w.heap.size ⟨x1, vby, t0, t1, t2, .slice none 0 0, false, .slice none 0 0, d, 0⟩ ∧ SL w2.heap.size wr vby (byW told names) ∧ Frm [w.heap.size] w2 wr ∧ wr.heap[bw]? = some (.cells #[.string (bs wWait), .string (bs wEvery), .string (bs wRepeat)] 9 (0, 0)) ∧ tmR k (t0, t1, t2) W' = tmR 3 (-1, -1, -1) V1)
    case atStart => exact ⟨-1, -1, -1, V1, Nat.le_refl _, rfl, hV1l, hV1x0.out, hrs0.out, Frb.out, Fsl.out, FF.out, Hbw0.out, rfl⟩
    case round =>
      clear Frb Fsl FF Hbw0 hrs0 hV1x0
      obtain ⟨t0, t1, t2, W', hk3, rfl, hWl, hwx, hrs, hrb, hsl, hf, hbw, htm⟩ := hrel
      have Hwx := hide hwx
      have Hrs := hide hrs
      have Hrb := hide hrb
      have Hsl := hide hsl
      have F := hide hf
      have Hbw := hide hbw
      have Htm := hide htm
      have hbl2 := hrb.lt
      obtain ⟨aw, capw, ew, _, hWc, _⟩ := hrs
      subst ew
      clear hwx hrb hsl hf hbw htm
      rcases (show gk = 3 ∨ gk = 2 ∨ gk = 1 ∨ gk = 0 by omega) with rfl | rfl | rfl | rfl
      · have q0 : wr.cell? ⟨bw, 0, none⟩ = some (.string (bs wWait)) := by simp [World.cell?, Hbw.out]
        have pt : wr.cell? ⟨w.heap.size, 2, none⟩ = some (.int .i64 t0) := Hrb.out.cell 2
        have pf := Hrb.out.fz 2
        have Hst : Hid (tmR 3 (-1, -1, -1) V1 = if decide (1 < W'.length) && (W'.getD 0 [] == wWait) then
            (if decide (numR (W'.getD 1 []) < 0) then none else tmR 2 (numR (W'.getD 1 []), t1, t2) (W'.drop 2)) else tmR 2 (t0, t1, t2) W') := by
          show _ = _; rw [← Htm.out]; rfl
        by_cases h1 : 1 < W'.length
        case neg =>
          have hd1 : decide ((1 : Int) < (W'.length : Int)) = false := decide_eq_false (by omega)
          have Hx : Hid (tmR 2 (t0, t1, t2) W' = tmR 3 (-1, -1, -1) V1) := by show _ = _; rw [Hst.out, decide_eq_false h1]; rfl
          go_wp2
          go_quiet (fail)
          go_wp2
          go_roundg 2
          case measure => omega
          case rel => exact ⟨t0, t1, t2, W', by omega, by go_num, hWl, Hwx.out, Hrs.out, Hrb.out, Hsl.out, F.out.drewN _, Hbw.out, Hx.out⟩
        case pos =>
        have hd1 : decide ((1 : Int) < (W'.length : Int)) = true := decide_eq_true (by omega)
        obtain ⟨g, off, ha, hgb, _, _, hcell⟩ := Hrs.out.at' (by omega)
        subst ha
        have d0 := hcell 0 (by omega)
        have d1 := hcell 1 (by omega)
        have hltg := World.block_lt_of_cell? w2 _ d1
        have c0 : wr.cell? ⟨g, off, none⟩ = some (.string (bs (W'.getD 0 []))) := (F.out.cell (p := ⟨g, off, none⟩) hltg (by simp; omega)).trans d0
        have c1 : wr.cell? ⟨g, off + 1, none⟩ = some (.string (bs (W'.getD 1 []))) := (F.out.cell (p := ⟨g, off + 1, none⟩) hltg (by simp; omega)).trans d1
        have hx2l : (W'.getD 1 []).length ≤ 100000 := Hwx.out _ (by rw [List.getD_eq_getElem?_getD, List.getElem?_eq_getElem h1]; exact List.getElem_mem _)
        have Hdr := hide (Hrs.out.drop2 2 (by omega))
        clear hcell d0 d1
        generalize W'.getD 0 [] = y0 at *
        generalize W'.getD 1 [] = y1 at *
        cases hy : (y0 == wWait)
        case false =>
          have Hx : Hid (tmR 2 (t0, t1, t2) W' = tmR 3 (-1, -1, -1) V1) := by show _ = _; rw [Hst.out, hy]; simp
          go_wp2
          go_quiet (fail)
          go_wp2
          go_roundg 2
          case measure => omega
          case rel => exact ⟨t0, t1, t2, W', by omega, by go_num, hWl, Hwx.out, Hrs.out, Hrb.out, Hsl.out, F.out.drewN _, Hbw.out, Hx.out⟩
        case true =>
        have Hst2 : Hid (tmR 3 (-1, -1, -1) V1 = if decide (numR y1 < 0) then none else tmR 2 (numR y1, t1, t2) (W'.drop 2)) := by
          show _ = _; rw [Hst.out, hy, decide_eq_true h1]; rfl
        generalize hnn : numR y1 = nn at *
        by_cases hneg : nn < 0
        · have hdn : decide (nn < 0) = true := decide_eq_true hneg
          have Hn : Hid (rtR l = none) := by show _ = _; rw [HR5.out, Hst2.out, hdn]; rfl
          go_wp2
          go_quiet (fail)
          go_wp2_with fail
          go_region_with (go_at_call 22; refine (numeral_any y1 _ (by omega)).mono ?_; rintro e w' ⟨rfl, rfl⟩; rw [hnn])
          go_wp2
          go_ret2
          exact Fin.out _ _ _ Hn.out rfl (Hf2.out.new ((F.out.drewN _).setCell (by simp) _) (by simp))
        · have hdn : decide (nn < 0) = false := decide_eq_false hneg
          have Hx : Hid (tmR 2 (nn, t1, t2) (W'.drop 2) = tmR 3 (-1, -1, -1) V1) := by
            show _ = _; rw [Hst2.out, hdn]; rfl
          by_cases hc2 : capw = 2
          · have hRS : RS (w.heap.size + 1) w2 (.slice (some ⟨g, off, none⟩) (W'.length - 2) 0) (W'.drop 2) := ⟨some ⟨g, off, none⟩, 0, by simp, by simp; omega, by simp; omega, fun j hj => by simp at hj; omega⟩
            have HRS := hide hRS
            clear hRS
            go_wp2
            go_quiet (fail)
            go_wp2_with fail
            go_region_with (go_at_call 22; refine (numeral_any y1 _ (by omega)).mono ?_; rintro e w' ⟨rfl, rfl⟩; rw [hnn])
            go_wp2
            go_roundg 2
            case measure => omega
            case rel => exact ⟨nn, t1, t2, W'.drop 2, by omega, by go_num, by simp; omega, fun x hx => Hwx.out x (List.mem_of_mem_drop hx), HRS.out, (Hrb.out.set 2 _ ⟨x1, vby, nn, t1, t2, .slice none 0 0, false, .slice none 0 0, d, 0⟩ rfl), (Hsl.out.frm (S := [w.heap.size]) (((Frm.refl [w.heap.size] wr).drewN _).setCell (p := ⟨w.heap.size, 2, none⟩) (by simp) (.int .i64 nn)) (by simp; omega)), (F.out.drewN _).setCell (by simp) _, (((Frm.refl [w.heap.size] wr).setCell (p := ⟨w.heap.size, 2, none⟩) (by simp) (.int .i64 nn)).block bw (Array.getElem?_eq_some_iff.1 Hbw.out).1 (by simp; omega)).trans Hbw.out, Hx.out⟩
          · go_wp2
            go_quiet (fail)
            go_wp2_with fail
            go_region_with (go_at_call 22; refine (numeral_any y1 _ (by omega)).mono ?_; rintro e w' ⟨rfl, rfl⟩; rw [hnn])
            go_wp2
            go_roundg 2
            case measure => omega
            case rel => exact ⟨nn, t1, t2, W'.drop 2, by omega, by go_num, by simp; omega, fun x hx => Hwx.out x (List.mem_of_mem_drop hx), Hdr.out, (Hrb.out.set 2 _ ⟨x1, vby, nn, t1, t2, .slice none 0 0, false, .slice none 0 0, d, 0⟩ rfl), (Hsl.out.frm (S := [w.heap.size]) (((Frm.refl [w.heap.size] wr).drewN _).setCell (p := ⟨w.heap.size, 2, none⟩) (by simp) (.int .i64 nn)) (by simp; omega)), (F.out.drewN _).setCell (by simp) _, (((Frm.refl [w.heap.size] wr).setCell (p := ⟨w.heap.size, 2, none⟩) (by simp) (.int .i64 nn)).block bw (Array.getElem?_eq_some_iff.1 Hbw.out).1 (by simp; omega)).trans Hbw.out, Hx.out⟩
      · have q0 : wr.cell? ⟨bw, 1, none⟩ = some (.string (bs wEvery)) := by simp [World.cell?, Hbw.out]
        have pt : wr.cell? ⟨w.heap.size, 3, none⟩ = some (.int .i64 t1) := Hrb.out.cell 3
        have pf := Hrb.out.fz 3
        have Hst : Hid (tmR 3 (-1, -1, -1) V1 = if decide (1 < W'.length) && (W'.getD 0 [] == wEvery) then
            (if decide (numR (W'.getD 1 []) < 0) then none else tmR 1 (t0, numR (W'.getD 1 []), t2) (W'.drop 2)) else tmR 1 (t0, t1, t2) W') := by
          show _ = _; rw [← Htm.out]; rfl
        by_cases h1 : 1 < W'.length
        case neg =>
          have hd1 : decide ((1 : Int) < (W'.length : Int)) = false := decide_eq_false (by omega)
          have Hx : Hid (tmR 1 (t0, t1, t2) W' = tmR 3 (-1, -1, -1) V1) := by show _ = _; rw [Hst.out, decide_eq_false h1]; rfl
          go_wp2
          go_quiet (fail)
          go_wp2
          go_roundg 1
          case measure => omega
          case rel => exact ⟨t0, t1, t2, W', by omega, by go_num, hWl, Hwx.out, Hrs.out, Hrb.out, Hsl.out, F.out.drewN _, Hbw.out, Hx.out⟩
        case pos =>
        have hd1 : decide ((1 : Int) < (W'.length : Int)) = true := decide_eq_true (by omega)
        obtain ⟨g, off, ha, hgb, _, _, hcell⟩ := Hrs.out.at' (by omega)
        subst ha
        have d0 := hcell 0 (by omega)
        have d1 := hcell 1 (by omega)
        have hltg := World.block_lt_of_cell? w2 _ d1
        have c0 : wr.cell? ⟨g, off, none⟩ = some (.string (bs (W'.getD 0 []))) := (F.out.cell (p := ⟨g, off, none⟩) hltg (by simp; omega)).trans d0
        have c1 : wr.cell? ⟨g, off + 1, none⟩ = some (.string (bs (W'.getD 1 []))) := (F.out.cell (p := ⟨g, off + 1, none⟩) hltg (by simp; omega)).trans d1
        have hx2l : (W'.getD 1 []).length ≤ 100000 := Hwx.out _ (by rw [List.getD_eq_getElem?_getD, List.getElem?_eq_getElem h1]; exact List.getElem_mem _)
        have Hdr := hide (Hrs.out.drop2 2 (by omega))
        clear hcell d0 d1
        generalize W'.getD 0 [] = y0 at *
        generalize W'.getD 1 [] = y1 at *
        cases hy : (y0 == wEvery)
        case false =>
          have Hx : Hid (tmR 1 (t0, t1, t2) W' = tmR 3 (-1, -1, -1) V1) := by show _ = _; rw [Hst.out, hy]; simp
          go_wp2
          go_quiet (fail)
          go_wp2
          go_roundg 1
          case measure => omega
          case rel => exact ⟨t0, t1, t2, W', by omega, by go_num, hWl, Hwx.out, Hrs.out, Hrb.out, Hsl.out, F.out.drewN _, Hbw.out, Hx.out⟩
        case true =>
        have Hst2 : Hid (tmR 3 (-1, -1, -1) V1 = if decide (numR y1 < 0) then none else tmR 1 (t0, numR y1, t2) (W'.drop 2)) := by
          show _ = _; rw [Hst.out, hy, decide_eq_true h1]; rfl
        generalize hnn : numR y1 = nn at *
        by_cases hneg : nn < 0
        · have hdn : decide (nn < 0) = true := decide_eq_true hneg
          have Hn : Hid (rtR l = none) := by show _ = _; rw [HR5.out, Hst2.out, hdn]; rfl
          go_wp2
          go_quiet (fail)
          go_wp2_with fail
          go_region_with (go_at_call 22; refine (numeral_any y1 _ (by omega)).mono ?_; rintro e w' ⟨rfl, rfl⟩; rw [hnn])
          go_wp2
          go_ret2
          exact Fin.out _ _ _ Hn.out rfl (Hf2.out.new ((F.out.drewN _).setCell (by simp) _) (by simp))
        · have hdn : decide (nn < 0) = false := decide_eq_false hneg
          have Hx : Hid (tmR 1 (t0, nn, t2) (W'.drop 2) = tmR 3 (-1, -1, -1) V1) := by
            show _ = _; rw [Hst2.out, hdn]; rfl
          by_cases hc2 : capw = 2
          · have hRS : RS (w.heap.size + 1) w2 (.slice (some ⟨g, off, none⟩) (W'.length - 2) 0) (W'.drop 2) := ⟨some ⟨g, off, none⟩, 0, by simp, by simp; omega, by simp; omega, fun j hj => by simp at hj; omega⟩
            have HRS := hide hRS
            clear hRS
            go_wp2
            go_quiet (fail)
            go_wp2_with fail
            go_region_with (go_at_call 22; refine (numeral_any y1 _ (by omega)).mono ?_; rintro e w' ⟨rfl, rfl⟩; rw [hnn])
            go_wp2
            go_roundg 1
            case measure => omega
            case rel => exact ⟨t0, nn, t2, W'.drop 2, by omega, by go_num, by simp; omega, fun x hx => Hwx.out x (List.mem_of_mem_drop hx), HRS.out, (Hrb.out.set 3 _ ⟨x1, vby, t0, nn, t2, .slice none 0 0, false, .slice none 0 0, d, 0⟩ rfl), (Hsl.out.frm (S := [w.heap.size]) (((Frm.refl [w.heap.size] wr).drewN _).setCell (p := ⟨w.heap.size, 3, none⟩) (by simp) (.int .i64 nn)) (by simp; omega)), (F.out.drewN _).setCell (by simp) _, (((Frm.refl [w.heap.size] wr).setCell (p := ⟨w.heap.size, 3, none⟩) (by simp) (.int .i64 nn)).block bw (Array.getElem?_eq_some_iff.1 Hbw.out).1 (by simp; omega)).trans Hbw.out, Hx.out⟩
          · go_wp2
            go_quiet (fail)
            go_wp2_with fail
            go_region_with (go_at_call 22; refine (numeral_any y1 _ (by omega)).mono ?_; rintro e w' ⟨rfl, rfl⟩; rw [hnn])
            go_wp2
            go_roundg 1
            case measure => omega
            case rel => exact ⟨t0, nn, t2, W'.drop 2, by omega, by go_num, by simp; omega, fun x hx => Hwx.out x (List.mem_of_mem_drop hx), Hdr.out, (Hrb.out.set 3 _ ⟨x1, vby, t0, nn, t2, .slice none 0 0, false, .slice none 0 0, d, 0⟩ rfl), (Hsl.out.frm (S := [w.heap.size]) (((Frm.refl [w.heap.size] wr).drewN _).setCell (p := ⟨w.heap.size, 3, none⟩) (by simp) (.int .i64 nn)) (by simp; omega)), (F.out.drewN _).setCell (by simp) _, (((Frm.refl [w.heap.size] wr).setCell (p := ⟨w.heap.size, 3, none⟩) (by simp) (.int .i64 nn)).block bw (Array.getElem?_eq_some_iff.1 Hbw.out).1 (by simp; omega)).trans Hbw.out, Hx.out⟩
      · have q0 : wr.cell? ⟨bw, 2, none⟩ = some (.string (bs wRepeat)) := by simp [World.cell?, Hbw.out]
        have pt : wr.cell? ⟨w.heap.size, 4, none⟩ = some (.int .i64 t2) := Hrb.out.cell 4
        have pf := Hrb.out.fz 4
        have Hst : Hid (tmR 3 (-1, -1, -1) V1 = if decide (1 < W'.length) && (W'.getD 0 [] == wRepeat) then
            (if decide (numR (W'.getD 1 []) < 0) then none else tmR 0 (t0, t1, numR (W'.getD 1 [])) (W'.drop 2)) else tmR 0 (t0, t1, t2) W') := by
          show _ = _; rw [← Htm.out]; rfl
        by_cases h1 : 1 < W'.length
        case neg =>
          have hd1 : decide ((1 : Int) < (W'.length : Int)) = false := decide_eq_false (by omega)
          have Hx : Hid (tmR 0 (t0, t1, t2) W' = tmR 3 (-1, -1, -1) V1) := by show _ = _; rw [Hst.out, decide_eq_false h1]; rfl
          go_wp2
          go_quiet (fail)
          go_wp2
          go_roundg 0
          case measure => omega
          case rel => exact ⟨t0, t1, t2, W', by omega, by go_num, hWl, Hwx.out, Hrs.out, Hrb.out, Hsl.out, F.out.drewN _, Hbw.out, Hx.out⟩
        case pos =>
        have hd1 : decide ((1 : Int) < (W'.length : Int)) = true := decide_eq_true (by omega)
        obtain ⟨g, off, ha, hgb, _, _, hcell⟩ := Hrs.out.at' (by omega)
        subst ha
        have d0 := hcell 0 (by omega)
        have d1 := hcell 1 (by omega)
        have hltg := World.block_lt_of_cell? w2 _ d1
        have c0 : wr.cell? ⟨g, off, none⟩ = some (.string (bs (W'.getD 0 []))) := (F.out.cell (p := ⟨g, off, none⟩) hltg (by simp; omega)).trans d0
        have c1 : wr.cell? ⟨g, off + 1, none⟩ = some (.string (bs (W'.getD 1 []))) := (F.out.cell (p := ⟨g, off + 1, none⟩) hltg (by simp; omega)).trans d1
        have hx2l : (W'.getD 1 []).length ≤ 100000 := Hwx.out _ (by rw [List.getD_eq_getElem?_getD, List.getElem?_eq_getElem h1]; exact List.getElem_mem _)
        have Hdr := hide (Hrs.out.drop2 2 (by omega))
        clear hcell d0 d1
        generalize W'.getD 0 [] = y0 at *
        generalize W'.getD 1 [] = y1 at *
        cases hy : (y0 == wRepeat)
        case false =>
          have Hx : Hid (tmR 0 (t0, t1, t2) W' = tmR 3 (-1, -1, -1) V1) := by show _ = _; rw [Hst.out, hy]; simp
          go_wp2
          go_quiet (fail)
          go_wp2
          go_roundg 0
          case measure => omega
          case rel => exact ⟨t0, t1, t2, W', by omega, by go_num, hWl, Hwx.out, Hrs.out, Hrb.out, Hsl.out, F.out.drewN _, Hbw.out, Hx.out⟩
        case true =>
        have Hst2 : Hid (tmR 3 (-1, -1, -1) V1 = if decide (numR y1 < 0) then none else tmR 0 (t0, t1, numR y1) (W'.drop 2)) := by
          show _ = _; rw [Hst.out, hy, decide_eq_true h1]; rfl
        generalize hnn : numR y1 = nn at *
        by_cases hneg : nn < 0
        · have hdn : decide (nn < 0) = true := decide_eq_true hneg
          have Hn : Hid (rtR l = none) := by show _ = _; rw [HR5.out, Hst2.out, hdn]; rfl
          go_wp2
          go_quiet (fail)
          go_wp2_with fail
          go_region_with (go_at_call 22; refine (numeral_any y1 _ (by omega)).mono ?_; rintro e w' ⟨rfl, rfl⟩; rw [hnn])
          go_wp2
          go_ret2
          exact Fin.out _ _ _ Hn.out rfl (Hf2.out.new ((F.out.drewN _).setCell (by simp) _) (by simp))
        · have hdn : decide (nn < 0) = false := decide_eq_false hneg
          have Hx : Hid (tmR 0 (t0, t1, nn) (W'.drop 2) = tmR 3 (-1, -1, -1) V1) := by
            show _ = _; rw [Hst2.out, hdn]; rfl
          by_cases hc2 : capw = 2
          · have hRS : RS (w.heap.size + 1) w2 (.slice (some ⟨g, off, none⟩) (W'.length - 2) 0) (W'.drop 2) := ⟨some ⟨g, off, none⟩, 0, by simp, by simp; omega, by simp; omega, fun j hj => by simp at hj; omega⟩
            have HRS := hide hRS
            clear hRS
            go_wp2
            go_quiet (fail)
            go_wp2_with fail
            go_region_with (go_at_call 22; refine (numeral_any y1 _ (by omega)).mono ?_; rintro e w' ⟨rfl, rfl⟩; rw [hnn])
            go_wp2
            go_roundg 0
            case measure => omega
            case rel => exact ⟨t0, t1, nn, W'.drop 2, by omega, by go_num, by simp; omega, fun x hx => Hwx.out x (List.mem_of_mem_drop hx), HRS.out, (Hrb.out.set 4 _ ⟨x1, vby, t0, t1, nn, .slice none 0 0, false, .slice none 0 0, d, 0⟩ rfl), (Hsl.out.frm (S := [w.heap.size]) (((Frm.refl [w.heap.size] wr).drewN _).setCell (p := ⟨w.heap.size, 4, none⟩) (by simp) (.int .i64 nn)) (by simp; omega)), (F.out.drewN _).setCell (by simp) _, (((Frm.refl [w.heap.size] wr).setCell (p := ⟨w.heap.size, 4, none⟩) (by simp) (.int .i64 nn)).block bw (Array.getElem?_eq_some_iff.1 Hbw.out).1 (by simp; omega)).trans Hbw.out, Hx.out⟩
          · go_wp2
            go_quiet (fail)
            go_wp2_with fail
            go_region_with (go_at_call 22; refine (numeral_any y1 _ (by omega)).mono ?_; rintro e w' ⟨rfl, rfl⟩; rw [hnn])
            go_wp2
            go_roundg 0
            case measure => omega
            case rel => exact ⟨t0, t1, nn, W'.drop 2, by omega, by go_num, by simp; omega, fun x hx => Hwx.out x (List.mem_of_mem_drop hx), Hdr.out, (Hrb.out.set 4 _ ⟨x1, vby, t0, t1, nn, .slice none 0 0, false, .slice none 0 0, d, 0⟩ rfl), (Hsl.out.frm (S := [w.heap.size]) (((Frm.refl [w.heap.size] wr).drewN _).setCell (p := ⟨w.heap.size, 4, none⟩) (by simp) (.int .i64 nn)) (by simp; omega)), (F.out.drewN _).setCell (by simp) _, (((Frm.refl [w.heap.size] wr).setCell (p := ⟨w.heap.size, 4, none⟩) (by simp) (.int .i64 nn)).block bw (Array.getElem?_eq_some_iff.1 Hbw.out).1 (by simp; omega)).trans Hbw.out, Hx.out⟩
      · have HR6 : Hid (rtR l = if (restGo (W'.length + 1) W' []).2.2 then some ⟨x1, told, names, t0, t1, t2, (restGo (W'.length + 1) W' []).1, (restGo (W'.length + 1) W' []).2.1, d⟩ else none) := by
          show _ = _; rw [HR5.out, ← Htm.out]; rfl
        clear HR5
        have Hrs' := hide (Hrs.out.frm F.out (by simp))
        go_wp2_with fail
        refine (rest_any w.heap.size (w.heap.size + 1) _ W' ⟨x1, vby, t0, t1, t2, .slice none 0 0, false, .slice none 0 0, d, 0⟩ wr Hrb.out Hrs'.out (by omega) rfl rfl (by omega) Hwx.out).mono ?_
        rintro e w' ⟨rfl, ⟨vi', hb', hi'⟩, hf'⟩
        have Hb' := hide hb'
        have Hi' := hide hi'
        have F' := hide hf'
        have hzr : w.heap.size ≤ wr.heap.size := by omega
        clear hb' hi' hf'
        generalize restGo (W'.length + 1) W' [] = RES at *
        obtain ⟨ra, ro, rk⟩ := RES
        go_wp2
        go_ret2
        have hF : Frm [] w w' := Hf2.out.new (F.out.trans F'.out) (by simp)
        refine ⟨?_, hF⟩
        rw [HR6.out]
        cases rk with
        | false => exact ⟨_, rfl⟩
        | true => exact ⟨w.heap.size, _, Nat.le_refl _, rfl, ⟨Hb'.out, rfl, own_base (Hsl.out.frm F'.out (by simp; omega)) (by omega), rfl, rfl, rfl, own_base Hi'.out hzr, rfl, rfl, rfl, rfl⟩⟩

end Go.Proofs.YtjnaekffodgdcaaDoor
