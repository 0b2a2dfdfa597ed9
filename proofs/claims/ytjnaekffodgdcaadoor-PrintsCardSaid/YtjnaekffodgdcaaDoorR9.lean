import Derived.Test.YtjnaekffodgdcaaDoorR8
import Derived.Deep.RegionLaw
namespace Go.Proofs.YtjnaekffodgdcaaDoor
open Go.RowKit
set_option linter.unusedVariables false
set_option linter.unusedSimpArgs false
set_option linter.unnecessarySimpa false

structure RRV where
  rc : List UInt8
  vby : Value
  t0 : Int
  t1 : Int
  t2 : Int
  vif : Value
  on : Bool
  vk : Value
  d : Int
  row : Int
def RRV.cells (r : RRV) : Array Value := #[.string (bs r.rc), r.vby, .int .i64 r.t0, .int .i64 r.t1, .int .i64 r.t2, r.vif, .bool r.on, r.vk, .int .i64 r.d, .int .i64 r.row]
def RB (w : World) (b : Nat) (r : RRV) : Prop := w.heap[b]? = some (.cells r.cells 49 (0, 0))
theorem RB.lt {w : World} {b : Nat} {r : RRV} (h : RB w b r) : b < w.heap.size := (Array.getElem?_eq_some_iff.1 h).1
theorem RB.cell {w : World} {b : Nat} {r : RRV} (h : RB w b r) (o : Nat) : w.cell? ⟨b, o, none⟩ = r.cells[o]? := by
  unfold RB at h; simp [World.cell?, h]
theorem RB.fz {w : World} {b : Nat} {r : RRV} (h : RB w b r) (o : Nat) : w.frozen? ⟨b, o, none⟩ = false := by
  unfold RB at h; simp [World.frozen?, h]
theorem RB.frm {S : List Nat} {w w' : World} {b : Nat} {r : RRV} (h : RB w b r) (f : Frm S w w') (hS : b ∉ S) : RB w' b r := (f.block b h.lt hS).trans h
theorem RB.set {w : World} {b : Nat} {r : RRV} (h : RB w b r) (o : Nat) (v : Value) (r' : RRV) (e : r'.cells = r.cells.setIfInBounds o v) : RB (w.setCell ⟨b, o, none⟩ v) b r' := by
  unfold RB at *; simp [World.setCell, Array.getElem?_modify, h, e]

def icells (m : RM) : List Value := [.string (bs m.1), .string (bs m.2.1), .string (bs m.2.2), .pointer none]
def ivl (M : List RM) : List Value := M.flatMap icells
def IL (base : Nat) (w : World) (v : Value) (M : List RM) : Prop := w.ownsRow base 55 4 v M.length (ivl M)
theorem IL.frm {S : List Nat} {base : Nat} {w w' : World} {v : Value} {L : List RM} (h : IL base w v L) (f : Frm S w w') (hS : ∀ k, k ∈ S → k < base) : IL base w' v L := own_frm h f hS
theorem IL.nil (base : Nat) (w : World) : IL base w (.slice none 0 0) [] := World.ownsRow_nil w base _ 4
theorem infoIf : (Tryd.prog.info? 55).map (fun i => (i.zero, i.size, i.bytes)) = some (some (.agg #[.string ByteArray.empty, .string ByteArray.empty, .string ByteArray.empty, .pointer none]), 4, 56) := by kernel_rfl

def wIf : List UInt8 := [105, 102]
def wCont : List UInt8 := [99, 111, 110, 116, 105, 110, 117, 101]
/-- Matchers, continue: what is behind the times. -/
def restGo : Nat → List (List UInt8) → List RM → List RM × Bool × Bool
  | 0, _, acc => (acc, false, false)
  | k + 1, W, acc =>
    if decide (1 < W.length) && (W.getD 0 [] == wIf) then
      (if (mtR (W.getD 1 [])).2 then restGo k (W.drop 2) (acc ++ [(mtR (W.getD 1 [])).1]) else (acc, false, false))
    else if (W.length == 1) && (W.getD 0 [] == wCont) then (acc, true, decide (acc.length ≤ 4))
    else (acc, false, W.isEmpty && decide (acc.length ≤ 4))

theorem RS.at' {base : Nat} {w : World} {a : Option Addr} {n cap : Nat} {W : List (List UInt8)} (h : RS base w (.slice a n cap) W) (h0 : 0 < W.length) : ∃ g off, a = some ⟨g, off, none⟩ ∧ base ≤ g ∧ n = W.length ∧ W.length ≤ cap ∧ ∀ j, j < W.length → w.cell? ⟨g, off + j, none⟩ = some (.string (bs (W.getD j []))) := by
  obtain ⟨a', cap', e, h1, h2, h3⟩ := h
  simp at e
  obtain ⟨rfl, rfl, rfl⟩ := e
  obtain ⟨g, off, rfl, hb, _⟩ := h3 0 h0
  refine ⟨g, off, rfl, hb, rfl, h2, fun j hj => ?_⟩
  obtain ⟨g', off', e, hb', hc⟩ := h3 j hj
  simp at e
  obtain ⟨rfl, rfl⟩ := e
  rw [hc]; simp [hj]
theorem RS.drop2 {base : Nat} {w : World} {g off n cap : Nat} {W : List (List UInt8)} (h : RS base w (.slice (some ⟨g, off, none⟩) n cap) W) (k : Nat) (hk : k ≤ W.length) : RS base w (.slice (some ⟨g, off + k, none⟩) (n - k) (cap - k)) (W.drop k) := by
  obtain ⟨a', cap', e, h1, h2, h3⟩ := h
  simp at e
  obtain ⟨rfl, rfl, rfl⟩ := e
  refine ⟨some ⟨g, off + k, none⟩, cap - k, by simp, by simp; omega, by simp; omega, fun j hj => ?_⟩
  simp at hj
  obtain ⟨g', off', e, hb', hc⟩ := h3 (k + j) (by omega)
  simp at e
  obtain ⟨rfl, rfl⟩ := e
  refine ⟨g, off + k, rfl, hb', ?_⟩
  rw [Nat.add_assoc, hc]; simp

set_option maxRecDepth 100000 in
set_option maxHeartbeats 8000000 in
theorem rest_any (b base : Nat) (v : Value) (W : List (List UInt8)) (r : RRV) (w : World) (hr : RB w b r) (hw : RS base w v W) (hb : b < base) (hif : r.vif = .slice none 0 0) (hon : r.on = false) (hW : W.length ≤ 10000) (hwl : ∀ x ∈ W, x.length ≤ 100000) :
    Calls Tryd.prog 23 #[.pointer (some ⟨b, 0, none⟩), v] w fun e w' => e = .returned (.bool (restGo (W.length + 1) W []).2.2) ∧ (∃ v', RB w' b { r with vif := v', on := (restGo (W.length + 1) W []).2.1 } ∧ IL w.heap.size w' v' (restGo (W.length + 1) W []).1) ∧ Frm [b] w w' := by
  obtain ⟨rc, vby, t0, t1, t2, vif, on, vk, d, row⟩ := r
  simp only at hif hon
  subst hif hon
  have Hw := hide hw
  have Hr := hide hr
  have Hl := hide hwl
  have hbl := hr.lt
  obtain ⟨a, cap, e, _⟩ := hw
  subst e
  clear hr hwl
  have htl := bs_toList
  have kI : ({ data := #[105, 102] } : ByteArray).toList = wIf := bs_toList _
  have kC : ({ data := #[99, 111, 110, 116, 105, 110, 117, 101] } : ByteArray).toList = wCont := bs_toList _
  obtain ⟨i0, hi, hza, hzb, hzc⟩ := info_parts infoIf
  generalize hRes : restGo (W.length + 1) W [] = RES at *
  have HRes := hide hRes
  clear hRes
  go_enter Tryd.func23, Tryd.ntmps23
  go_wp2_with fail
  go_loopg [1] (W.length + 1) (fun k vw wr => ∃ (W' : List (List UInt8)) (acc : List RM) (vi : Value), W'.length < k ∧ acc.length + W'.length ≤ W.length ∧ (∀ x ∈ W', x.length ≤ 100000) ∧ RS base w vw W' ∧ RB wr b ⟨rc, vby, t0, t1, t2, vi, false, vk, d, row⟩ ∧ IL w.heap.size wr vi acc ∧ restGo k W' acc = RES ∧ Frm [b] w wr)
  case atStart => exact ⟨W, [], _, Nat.lt_succ_self _, by simp, Hl.out, Hw.out, Hr.out, IL.nil _ _, HRes.out, Frm.refl _ _⟩
  case round =>
  obtain ⟨W', acc, vi, hWk, hacc, hwl, hrs, hrb, hil, hgo, hfr⟩ := hrel
  clear Hw Hr Hl
  have hrs0 := hrs
  obtain ⟨a', cap', e, _, hWc, _⟩ := hrs
  subst e
  have Hrs := hide hrs0
  have Hrb := hide hrb
  have Hil := hide hil
  have Hg := hide hgo
  have Hf := hide hfr
  have Hwl := hide hwl
  have hbr := hrb.lt
  have hzr := hfr.size
  obtain ⟨m, rfl⟩ : ∃ m, gk = m + 1 := ⟨gk - 1, by omega⟩
  clear hrs0 hrb hil hgo hfr hwl
  by_cases h1 : 1 < W'.length
  · have hd1 : decide ((1 : Int) < (W'.length : Int)) = true := decide_eq_true (by omega)
    obtain ⟨g, off, ha, hgb, _, _, hcell⟩ := (Hrs.out.frm Hf.out (by simp; omega)).at' (by omega)
    subst ha
    have c0 : wr.cell? ⟨g, off, none⟩ = some (.string (bs (W'.getD 0 []))) := hcell 0 (by omega)
    have c1 : wr.cell? ⟨g, off + 1, none⟩ = some (.string (bs (W'.getD 1 []))) := hcell 1 (by omega)
    have hx1 : (W'.getD 1 []).length ≤ 100000 := Hwl.out _ (by rw [List.getD_eq_getElem?_getD, List.getElem?_eq_getElem h1]; exact List.getElem_mem h1)
    have Hst : Hid (RES = if (W'.getD 0 [] == wIf) then (if (mtR (W'.getD 1 [])).2 then restGo m (W'.drop 2) (acc ++ [(mtR (W'.getD 1 [])).1]) else (acc, false, false)) else (acc, false, false)) := by
      show _ = _; rw [← Hg.out]; conv => lhs; unfold restGo
      have e1 : (W'.length == 1) = false := beq_eq_false_iff_ne.2 (by omega)
      have e2 : W'.isEmpty = false := by
        cases W' with
        | nil => simp at h1
        | cons => rfl
      rw [decide_eq_true h1, e1, e2]; simp
    clear hcell Hg
    generalize W'.getD 0 [] = x0 at *
    generalize W'.getD 1 [] = x1 at *
    cases h0 : (x0 == wIf)
    case false =>
      have Hx : Hid (RES = (acc, false, false)) := by show _ = _; rw [Hst.out, h0]; rfl
      have e1 : ((W'.length : Int) == 1) = false := beq_eq_false_iff_ne.2 (by omega)
      have e2 : ((W'.length : Int) == 0) = false := beq_eq_false_iff_ne.2 (by omega)
      go_wp2
      go_ret
      rw [Hx.out]
      exact ⟨rfl, ⟨vi, Hrb.out, Hil.out⟩, Hf.out⟩
    case true =>
    go_wp2_with fail
    refine (matcher_any x1 _ hx1).mono ?_
    rintro e w1 ⟨rfl, hf1⟩
    have Hrb1 := hide (Hrb.out.frm hf1 (by simp))
    have Hil1 := hide (Hil.out.frm hf1 (by simp))
    have Hf1 := hide (Hf.out.trans hf1.nil)
    have hz1 := hf1.size
    clear hf1 c0 c1 Hrb Hil Hf
    generalize mtR x1 = mm at *
    obtain ⟨⟨m1, m2, m3⟩, mok⟩ := mm
    cases mok
    case false =>
      have Hx : Hid (RES = (acc, false, false)) := by show _ = _; rw [Hst.out, h0]; rfl
      unfold ifV
      go_wp2
      go_ret
      rw [Hx.out]
      exact ⟨rfl, ⟨vi, Hrb1.out.frm (S := []) ((Frm.refl _ _).alloc _) (by simp), Hil1.out.frm (S := []) ((Frm.refl _ _).alloc _) (by simp)⟩, Hf1.out.alloc _⟩
    case true =>
    have Hx : Hid (restGo m (W'.drop 2) (acc ++ [(m1, m2, m3)]) = RES) := by show _ = _; rw [Hst.out, h0]; rfl
    obtain ⟨ai, ci, rfl⟩ := own_shape Hil1.out
    have c5 : w1.cell? ⟨b, 5, none⟩ = some (.slice ai acc.length ci) := Hrb1.out.cell 5
    have f5 := Hrb1.out.fz 5
    have hb1 := Hrb1.out.lt
    have ag : Value.ownBlock (.slice ai acc.length ci) ≠ some b := fun e => by have := Hil1.out.lt _ e; omega
    have g2 : ∀ o o' : Obj, ((w1.alloc o).alloc o').drew.frozen? ⟨b, 5, none⟩ = false := fun o o' => (((((Frm.refl [] w1).alloc o).alloc o').drew).frozen hb1 (by simp)).trans f5
    have g3 : ∀ o o' : Obj, ((w1.alloc o).alloc o').drew.cell? ⟨b, 5, none⟩ = some (.slice ai acc.length ci) := fun o o' => (((((Frm.refl [] w1).alloc o).alloc o').drew).cell hb1 (by simp)).trans c5
    have Hdr := hide (Hrs.out.drop2 2 (by omega))
    unfold ifV
    go_wp2_with fail
    go_region_law ((refine step_append_lies _ (by rfl) _ _ _ (by rfl) w.heap.size 55 i0 _ 4 56 Tryd.underlying47 hi hza hzb hzc rfl (by omega) (.slice ai acc.length ci) acc.length (ivl acc) (by rfl) (by exact (Hil1.out.alloc _).alloc _) ⟨w1.heap.size + 1, 0, none⟩ 1 1 (icells (m1, m2, m3)) (by rfl) (by rfl) (World.news_of_block (cs := (icells (m1, m2, m3)).toArray) (t := 55) (fr := (0, 0)) (by exact heap_new2 _ _ _)) (by simp [Value.oneCell', icells]) (by omega) (by unfold maxLen; omega) (by omega) (by simp; omega) (w1.heap.size + 2) (by simp) ?_; intro gg cap2 w4 hown4 hgrow hat hlt))
    all_goals
      have HO : Hid (World.grownBy _ w4 (Value.ownBlock (.slice ai acc.length ci))) := hgrow
      have HO4 : Hid (w4.ownsRow w.heap.size 55 4 (.slice (some ⟨gg, 0, none⟩) (acc.length + 1) cap2) (acc.length + 1) (ivl acc ++ icells (m1, m2, m3))) := hown4
      clear hgrow hown4
      have c6 := (HO.out.cell_far ⟨b, 5, none⟩ (by simp; omega) (Ne.symm ag)).trans (g3 _ _)
      have f6 := (HO.out.frozen_far ⟨b, 5, none⟩ (by simp; omega) (Ne.symm ag)).trans (g2 _ _)
      by_cases hc2 : cap' = 2
      · have hRS : RS base w (.slice (some ⟨g, off, none⟩) (W'.length - 2) 0) (W'.drop 2) := ⟨some ⟨g, off, none⟩, 0, by simp, by simp; omega, by simp; omega, fun j hj => by simp at hj; omega⟩
        have HRS := hide hRS
        clear hRS
        go_wp2
        go_roundg m
        case measure => omega
        case rel =>
          have F4 := Frm.of_grow HO.out
          have R4 : RB w4 b ⟨rc, vby, t0, t1, t2, .slice ai acc.length ci, false, vk, d, row⟩ := (Hrb1.out.frm (S := []) ((((Frm.refl _ _).alloc _).alloc _).drew) (by simp)).frm F4 (by simpa [Option.mem_toList] using fun e => ag e)
          refine ⟨W'.drop 2, acc ++ [(m1, m2, m3)], .slice (some ⟨gg, 0, none⟩) (acc.length + 1) cap2, by simp; omega, by simp; omega, fun x hx => Hwl.out x (List.mem_of_mem_drop hx), HRS.out, R4.set 5 _ _ rfl, ?_, Hx.out, ?_⟩
          · have := ownsRow_setCell_below HO4.out (a := ⟨b, 5, none⟩) hbl (.slice (some ⟨gg, 0, none⟩) (acc.length + 1) cap2)
            simpa [IL, ivl] using this
          · exact ((((Hf1.out.alloc _).alloc _).drew).grown HO.out (fun k hk => Or.inr (Hil1.out.lt _ hk).1)).setCell (by simp) _
      · go_wp2
        go_roundg m
        case measure => omega
        case rel =>
          have F4 := Frm.of_grow HO.out
          have R4 : RB w4 b ⟨rc, vby, t0, t1, t2, .slice ai acc.length ci, false, vk, d, row⟩ := (Hrb1.out.frm (S := []) ((((Frm.refl _ _).alloc _).alloc _).drew) (by simp)).frm F4 (by simpa [Option.mem_toList] using fun e => ag e)
          refine ⟨W'.drop 2, acc ++ [(m1, m2, m3)], .slice (some ⟨gg, 0, none⟩) (acc.length + 1) cap2, by simp; omega, by simp; omega, fun x hx => Hwl.out x (List.mem_of_mem_drop hx), Hdr.out, R4.set 5 _ _ rfl, ?_, Hx.out, ?_⟩
          · have := ownsRow_setCell_below HO4.out (a := ⟨b, 5, none⟩) hbl (.slice (some ⟨gg, 0, none⟩) (acc.length + 1) cap2)
            simpa [IL, ivl] using this
          · exact ((((Hf1.out.alloc _).alloc _).drew).grown HO.out (fun k hk => Or.inr (Hil1.out.lt _ hk).1)).setCell (by simp) _
  · have hd1 : decide ((1 : Int) < (W'.length : Int)) = false := decide_eq_false (by omega)
    obtain ⟨ai, ci, rfl⟩ := own_shape Hil.out
    have c5 : wr.cell? ⟨b, 5, none⟩ = some (.slice ai acc.length ci) := Hrb.out.cell 5
    have c6 : wr.cell? ⟨b, 6, none⟩ = some (.bool false) := Hrb.out.cell 6
    have f6 := Hrb.out.fz 6
    have h4d : decide (acc.length ≤ 4) = decide ((acc.length : Int) ≤ 4) := by
      rw [Bool.eq_iff_iff, decide_eq_true_iff, decide_eq_true_iff]; omega
    by_cases hl1 : W'.length = 1
    · have e1 : ((W'.length : Int) == 1) = true := by simp [hl1]
      have e0 : ((W'.length : Int) == 0) = false := beq_eq_false_iff_ne.2 (by omega)
      obtain ⟨g, off, ha, hgb, _, _, hcell⟩ := (Hrs.out.frm Hf.out (by simp; omega)).at' (by omega)
      subst ha
      have c0 : wr.cell? ⟨g, off, none⟩ = some (.string (bs (W'.getD 0 []))) := hcell 0 (by omega)
      have Hst : Hid (RES = if (W'.getD 0 [] == wCont) then (acc, true, decide ((acc.length : Int) ≤ 4)) else (acc, false, false)) := by
        show _ = _; rw [← Hg.out]; conv => lhs; unfold restGo
        have e2 : W'.isEmpty = false := by
          cases W' with
          | nil => simp at hl1
          | cons => rfl
        rw [decide_eq_false h1, hl1, e2, h4d]; simp
      clear hcell Hg h4d
      generalize W'.getD 0 [] = x0 at *
      cases h0 : (x0 == wCont)
      · have Hx : Hid (RES = (acc, false, false)) := by show _ = _; rw [Hst.out, h0]; rfl
        have hl1p : 0 < W'.length := by omega
        clear hl1
        go_wp2
        go_ret
        rw [Hx.out]
        exact ⟨rfl, ⟨_, Hrb.out, Hil.out⟩, Hf.out⟩
      · have Hx : Hid (RES = (acc, true, decide ((acc.length : Int) ≤ 4))) := by show _ = _; rw [Hst.out, h0]; rfl
        have hl1p : 0 < W'.length := by omega
        clear hl1
        go_wp2
        go_ret
        rw [Hx.out]
        exact ⟨rfl, ⟨_, Hrb.out.set 6 _ _ rfl, Hil.out.frm (S := [b]) ((Frm.refl _ _).setCell (by simp) _) (by simp; omega)⟩, Hf.out.setCell (by simp) _⟩
    · have hl0 : W'.length = 0 := by omega
      have e1 : ((W'.length : Int) == 1) = false := beq_eq_false_iff_ne.2 (by omega)
      have e0 : ((W'.length : Int) == 0) = true := by simp [hl0]
      have Hx : Hid (RES = (acc, false, decide ((acc.length : Int) ≤ 4))) := by
        show _ = _; rw [← Hg.out]; conv => lhs; unfold restGo
        have : W' = [] := List.eq_nil_of_length_eq_zero hl0
        rw [this, h4d]; rfl
      clear hl0 hl1 h4d
      go_wp2
      go_ret
      rw [Hx.out]
      exact ⟨rfl, ⟨_, Hrb.out, Hil.out⟩, Hf.out⟩

end Go.Proofs.YtjnaekffodgdcaaDoor
