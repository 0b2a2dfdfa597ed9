import Derived.Test.YthlemieldfbbfabM9
namespace Go.Proofs.Ythlemieldfbbfab
open Go.RowKit
set_option linter.unusedVariables false
set_option linter.unusedSimpArgs false
set_option linter.unnecessarySimpa false

theorem RW.str {A : List Nat} {w : World} {v : Value} {L : List (List UInt8)} (h : RW A 1 w v (sc L)) : ∃ a cap, v = .slice a L.length cap ∧ ∀ (j : Nat) (hj : j < L.length), ∃ g off, a = some ⟨g, off, none⟩ ∧ g < w.heap.size ∧ w.cell? ⟨g, off + j, none⟩ = some (.string (bs L[j])) := by
  obtain ⟨a, cap, rfl, h1, h2⟩ := h
  refine ⟨a, cap, by rw [sc_len], fun j hj => ?_⟩
  obtain ⟨g, off, e, _, h4, h5⟩ := h2 j (by rw [sc_len]; exact hj)
  refine ⟨g, off, e, h4, ?_⟩
  have := h5 0 (.string (bs L[j])) (by simp [sc])
  rwa [Nat.mul_one, Nat.add_zero] at this

set_option maxRecDepth 100000 in
set_option maxHeartbeats 2000000 in
theorem isRising_any (A : List Nat) (v : Value) (L : List (List UInt8)) (w : World) (h : RW A 1 w v (sc L)) (hL : L.length ≤ 1000) :
    Calls Try.prog 73 #[v] w fun e w' => e = .returned (.bool (risB L)) ∧ Frm [] w w' := by
  obtain ⟨a, cap, rfl, h1⟩ := h.str
  have H1 := hide h1
  have hl := bs_toList
  clear h h1
  go_enter Try.func73, Try.ntmps73
  go_wp2_with fail
  go_loopg [3] L.length (fun k v3 wr => ∃ (j m q : Nat), m + 1 = j ∧ L.length + 1 ≤ j + k ∧ v3 = .int .i64 j ∧ wr = w.drewN q ∧ Hid (risB (L.drop m) = risB L))
  case atStart => exact ⟨1, 0, 0, rfl, by omega, rfl, rfl, rfl⟩
  case round =>
    obtain ⟨j, m, q, hmj, hjk, rfl, hw, HR⟩ := hrel
    subst hw
    by_cases hlt : j < L.length
    · have hd1 : decide ((j : Int) < (L.length : Int)) = true := decide_eq_true (by omega)
      obtain ⟨g, off, e1, hg, hc1⟩ := H1.out m (by omega)
      subst e1
      obtain ⟨g2, off2, e2, hg2, hc2⟩ := H1.out j hlt
      simp only [Option.some.injEq, Addr.mk.injEq, and_true] at e2
      obtain ⟨rfl, rfl⟩ := e2
      have HD : Hid (risB (L.drop m) = (Op.bytesLess (L[m]'(by omega)) L[j] && risB (L.drop j))) := by
        show _ = _
        subst hmj
        rw [List.drop_eq_getElem_cons (by omega : m < L.length), List.drop_eq_getElem_cons hlt, risB]
      have hjm : (j : Int) - 1 = (m : Int) := by omega
      have HMJ := hide hmj
      generalize L[m]'(by omega) = x at *
      generalize L[j] = y at *
      clear hmj
      cases hb : Op.bytesLess x y
      · have HV : Hid (risB L = false) := by show _ = _; rw [← HR.out, HD.out, hb]; rfl
        clear HD HR
        go_wp2_with fail
        go_quiet (fail)
        go_wp2
        go_ret
        rw [HV.out]
        exact ⟨rfl, ((Frm.refl _ _).drewN _).drewN _⟩
      · have HV : Hid (risB (L.drop j) = risB L) := by show _ = _; rw [← HR.out, HD.out, hb]; rfl
        clear HD HR
        go_wp2_with fail
        go_quiet (fail)
        go_wp2
        go_roundg (gk - 1)
        case measure => omega
        case rel => exact ⟨j + 1, j, _, rfl, by omega, by go_num, rfl, HV⟩
    · have hd1 : decide ((j : Int) < (L.length : Int)) = false := decide_eq_false (by omega)
      have HV : Hid (risB L = true) := by
        show _ = _
        rw [← HR.out]
        have : (L.drop m).length ≤ 1 := by rw [List.length_drop]; omega
        match L.drop m, this with
        | [], _ => rfl
        | [_], _ => rfl
        | _ :: _ :: _, h => simp at h
      clear HR
      go_wp2
      go_ret
      rw [HV.out]
      exact ⟨rfl, (Frm.refl _ _).drewN _⟩

def hcell (x : HitM) (vb : Value) : Array Value := #[.string (bs x.rc), vb, .int .i64 (x.wt : Nat), .int .i64 (x.ev : Nat), .int .i64 (x.rp : Nat)]
def hitI : Inn HitM where
  rel A w cs x := ∃ vb, cs = hcell x vb ∧ RW A 1 w vb (sc x.bl)
  frm := by
    rintro A S w w' cs x ⟨vb, h1, h2⟩ f hS
    exact ⟨vb, h1, h2.frm f hS⟩
  avoid := by
    rintro A B w cs x ⟨vb, h1, h2⟩ hB
    exact ⟨vb, h1, h2.avoid hB⟩
def HitQ (w : World) (b : Nat) (t : List UInt8) (i : Nat) (V : V6) (e : Ending) (w' : World) : Prop :=
  ∃ (i' : Nat) (ok : Bool) (x : HitM) (ab : Option Addr) (cb : Nat), e = .returned (.tuple #[.agg (hcell x (.slice ab x.bl.length cb)), .bool ok]) ∧ LD w' b t i' V ∧ Frm [b] w w' ∧ PO ok pH (t.drop i) x (t.drop i') ∧ OW 9 1 w.heap.size w' (.slice ab x.bl.length cb) (sc x.bl)
theorem pH_eq (s : List UInt8) : pH s = (pNm s).bind fun x => (pL 5 x.2).bind fun y => if risB y.1 = true then (pN 3 0 100000 y.2).bind fun a => (pN 3 0 100000 a.2).bind fun b => (pN 3 0 100000 b.2).bind fun c => some (⟨x.1, y.1, a.1, b.1, c.1⟩, c.2) else none := rfl
abbrev hz : Array Value := #[.string ByteArray.empty, .slice none 0 0, .int .i64 0, .int .i64 0, .int .i64 0]
abbrev HZ (w : World) (rb : Nat) : Prop := w.heap[rb]? = some (.cells hz 75 (0, 0))
theorem hitSize : (Try.prog.info? 75).map (·.size) = some 5 := by kernel_rfl
theorem set5_row {w : World} {g : Nat} {t : TypeId} {o0 o1 o2 o3 o4 : Value} (v0 v1 v2 v3 v4 : Value) (h : w.heap[g]? = some (.cells #[o0, o1, o2, o3, o4] t (0, 0))) : (((((w.setCell ⟨g, 0, none⟩ v0).setCell ⟨g, 1, none⟩ v1).setCell ⟨g, 2, none⟩ v2).setCell ⟨g, 3, none⟩ v3).setCell ⟨g, 4, none⟩ v4).heap[g]? = some (.cells #[v0, v1, v2, v3, v4] t (0, 0)) := by
  simp [World.setCell, Array.getElem?_modify, h]
theorem set5_frm (w : World) (g : Nat) (v0 v1 v2 v3 v4 : Value) : Frm [g] w (((((w.setCell ⟨g, 0, none⟩ v0).setCell ⟨g, 1, none⟩ v1).setCell ⟨g, 2, none⟩ v2).setCell ⟨g, 3, none⟩ v3).setCell ⟨g, 4, none⟩ v4) :=
  (((((Frm.refl [g] w).setCell (p := ⟨g, 0, none⟩) (.inl (by simp)) v0).setCell (p := ⟨g, 1, none⟩) (.inl (by simp)) v1).setCell (p := ⟨g, 2, none⟩) (.inl (by simp)) v2).setCell (p := ⟨g, 3, none⟩) (.inl (by simp)) v3).setCell (p := ⟨g, 4, none⟩) (.inl (by simp)) v4
theorem loadHit {w : World} {g : Nat} {cs : Array Value} (h : w.heap[g]? = some (.cells cs 75 (0, 0))) (hs : cs.size = 5) : (loadVar 75 ⟨g, 0, none⟩).run Try.prog w = .ok (.agg cs) w :=
  run_loadVar_row w g 75 75 cs (0, 0) _ h Try.underlying75 rfl (by rw [hs]; exact hitSize)
theorem infoHit : (Try.prog.info? 75).map (fun i => (i.zero, i.size, i.bytes)) = some (some (.agg hz), 5, 64) := by kernel_rfl

set_option maxRecDepth 100000 in
set_option maxHeartbeats 4000000 in
theorem takeHit_any (b : Nat) (t : List UInt8) (i : Nat) (V : V6) (w : World) (h : LD w b t i V) :
    Calls Try.prog 63 #[.pointer (some ⟨b, 0, none⟩)] w (HitQ w b t i V) := by
  have F0 := hide ((Frm.refl [b] w).alloc (Obj.cells hz 75))
  have R0 : Hid (HZ (w.alloc (Obj.cells hz 75)) w.heap.size) := heap1 _ _
  have N1 := hide (takeName_any b t i V _ (h.frm (S := []) ((Frm.refl [] w).alloc (Obj.cells hz 75)) (by simp)))
  have hb := h.lt
  clear h
  go_enter Try.func63, Try.ntmps63
  go_wp2_with fail
  refine (N1.out).mono ?_
  rintro e w1 ⟨i1, x, ok, rfl, hL1, hF1, hP1, hv⟩
  have L1 := hide hL1
  have F1 := hide (F0.out.trans hF1)
  have hz1 := hF1.size
  simp at hz1
  have R1 : Hid (HZ w1 w.heap.size) := (hF1.block w.heap.size (by simp) (by simp; omega)).trans R0.out
  have P1 := hide hP1
  clear hL1 hF1 hP1 N1 F0 R0
  have N2 := hide (takeNameList_any b t i1 V 5 4 _ L1.out (by omega) rfl)
  go_wp2_with fail
  refine (N2.out).mono ?_
  rintro e w2 ⟨i2, vb, bl, ok2, rfl, hL2, hF2, hP2, hO2, hbl⟩
  obtain ⟨ab, cb, he⟩ := hO2.shape
  rw [sc_len] at he
  subst he
  have L2 := hide hL2
  have F2 := hide (F1.out.trans hF2)
  have R2 : Hid (HZ w2 w.heap.size) := (hF2.block w.heap.size (by omega) (by simp; omega)).trans R1.out
  have O2 := hide (hO2.base (b2 := w.heap.size) (by omega))
  have hob : Hid (∀ g, Value.ownBlock (.slice ab bl.length cb) = some g → w1.heap.size ≤ g) := fun g hg => (hO2.lt hg).1
  have hz2 := hF2.size
  have P2 := hide hP2
  have hbL := hL2.lt
  clear hL2 hF2 hP2 N2 F1 R1 L1 hO2
  have dz : ∀ o, w2.frozen? ⟨w.heap.size, o, none⟩ = false := fun o => by simp [World.frozen?, R2.out]
  have d0 : w2.cell? ⟨w.heap.size, 0, none⟩ = some (.string ByteArray.empty) := by simp [World.cell?, R2.out]
  have d1 : w2.cell? ⟨w.heap.size, 1, none⟩ = some (.slice none 0 0) := by simp [World.cell?, R2.out]
  have d2 : w2.cell? ⟨w.heap.size, 2, none⟩ = some (.int .i64 0) := by simp [World.cell?, R2.out]
  have d3 : w2.cell? ⟨w.heap.size, 3, none⟩ = some (.int .i64 0) := by simp [World.cell?, R2.out]
  have d4 : w2.cell? ⟨w.heap.size, 4, none⟩ = some (.int .i64 0) := by simp [World.cell?, R2.out]
  cases ok
  · have HP : Hid (pH (t.drop i) = none) := by
      rcases P1.out with ⟨h, _⟩ | ⟨_, h⟩
      · cases h
      · show _ = _; rw [pH_eq, h]; rfl
    go_wp2
    refine bodyPost_ret (results_cell_tmpA rfl _ _ w.heap.size (hcell ⟨[], [], 0, 0, 0⟩ (.slice none 0 0)) rfl (loadHit (set5_row _ _ _ _ _ R2.out) rfl)) rfl ?_
    exact ⟨_, false, ⟨[], [], 0, 0, 0⟩, none, 0, rfl, L2.out.frm (set5_frm _ _ _ _ _ _ _) (by simp; omega), F2.out.over (set5_frm _ _ _ _ _ _ _) (by simp), .inr ⟨rfl, HP.out⟩, OW.nil _ _ _ _⟩
  have HP1 : Hid (pH (t.drop i) = (pL 5 (t.drop i1)).bind fun y => if risB y.1 = true then (pN 3 0 100000 y.2).bind fun a => (pN 3 0 100000 a.2).bind fun b => (pN 3 0 100000 b.2).bind fun c => some (⟨x, y.1, a.1, b.1, c.1⟩, c.2) else none) := by
    rcases P1.out with ⟨_, h⟩ | ⟨h, _⟩
    · show _ = _; rw [pH_eq, h]; rfl
    · cases h
  clear P1
  cases ok2
  · have HP : Hid (pH (t.drop i) = none) := by
      rcases P2.out with ⟨h, _⟩ | ⟨_, h⟩
      · cases h
      · show _ = _; rw [HP1.out, h]; rfl
    go_wp2
    refine bodyPost_ret (results_cell_tmpA rfl _ _ w.heap.size (hcell ⟨[], [], 0, 0, 0⟩ (.slice none 0 0)) rfl (loadHit (set5_row _ _ _ _ _ R2.out) rfl)) rfl ?_
    exact ⟨_, false, ⟨[], [], 0, 0, 0⟩, none, 0, rfl, L2.out.frm (set5_frm _ _ _ _ _ _ _) (by simp; omega), F2.out.over (set5_frm _ _ _ _ _ _ _) (by simp), .inr ⟨rfl, HP.out⟩, OW.nil _ _ _ _⟩
  have HP2 : Hid (pH (t.drop i) = if risB bl = true then (pN 3 0 100000 (t.drop i2)).bind fun a => (pN 3 0 100000 a.2).bind fun b => (pN 3 0 100000 b.2).bind fun c => some (⟨x, bl, a.1, b.1, c.1⟩, c.2) else none) := by
    rcases P2.out with ⟨_, h⟩ | ⟨h, _⟩
    · show _ = _; rw [HP1.out, h]; rfl
    · cases h
  clear P2 HP1
  have N3 := hide (isRising_any [] _ bl w2 (O2.out.rw (by simp)) hbl)
  go_wp2_with fail
  refine (N3.out).mono ?_
  rintro e w3 ⟨rfl, hF3⟩
  have L3 := hide (L2.out.frm hF3 (by simp))
  have F3 := hide (F2.out.trans (hF3.mono (by simp)))
  have R3 : Hid (HZ w3 w.heap.size) := (hF3.block w.heap.size (by omega) (by simp)).trans R2.out
  have O3 := hide (O2.out.frm hF3 (by simp))
  have hz3 := hF3.size
  clear hF3 N3 L2 F2 R2 O2 d0 d1 d2 d3 d4 dz
  cases hris : risB bl
  · have HP : Hid (pH (t.drop i) = none) := by show _ = _; rw [HP2.out, if_neg (by rw [hris]; simp)]
    have dz : ∀ o, w3.frozen? ⟨w.heap.size, o, none⟩ = false := fun o => by simp [World.frozen?, R3.out]
    have d0 : w3.cell? ⟨w.heap.size, 0, none⟩ = some (.string ByteArray.empty) := by simp [World.cell?, R3.out]
    have d1 : w3.cell? ⟨w.heap.size, 1, none⟩ = some (.slice none 0 0) := by simp [World.cell?, R3.out]
    have d2 : w3.cell? ⟨w.heap.size, 2, none⟩ = some (.int .i64 0) := by simp [World.cell?, R3.out]
    have d3 : w3.cell? ⟨w.heap.size, 3, none⟩ = some (.int .i64 0) := by simp [World.cell?, R3.out]
    have d4 : w3.cell? ⟨w.heap.size, 4, none⟩ = some (.int .i64 0) := by simp [World.cell?, R3.out]
    go_wp2
    refine bodyPost_ret (results_cell_tmpA rfl _ _ w.heap.size (hcell ⟨[], [], 0, 0, 0⟩ (.slice none 0 0)) rfl (loadHit (set5_row _ _ _ _ _ R3.out) rfl)) rfl ?_
    exact ⟨_, false, ⟨[], [], 0, 0, 0⟩, none, 0, rfl, L3.out.frm (set5_frm _ _ _ _ _ _ _) (by simp; omega), F3.out.over (set5_frm _ _ _ _ _ _ _) (by simp), .inr ⟨rfl, HP.out⟩, OW.nil _ _ _ _⟩
  have HP3 : Hid (pH (t.drop i) = (pN 3 0 100000 (t.drop i2)).bind fun a => (pN 3 0 100000 a.2).bind fun b => (pN 3 0 100000 b.2).bind fun c => some (⟨x, bl, a.1, b.1, c.1⟩, c.2)) := by show _ = _; rw [HP2.out, if_pos hris]
  clear HP2
  have N4 := hide (takeNumber_any b t i2 V 3 0 100000 3 0 99999 w3 L3.out (by omega) (by omega) (by omega) rfl rfl rfl)
  go_wp2_with fail
  refine (N4.out).mono ?_
  rintro e w4 ⟨i4, n4, ok4, rfl, hL4, hF4, hP4, hv4⟩
  have N5 := hide (takeNumber_any b t i4 V 3 0 100000 3 0 99999 w4 hL4 (by omega) (by omega) (by omega) rfl rfl rfl)
  have F4 := hide (F3.out.trans hF4)
  have R4 : Hid (HZ w4 w.heap.size) := (hF4.block w.heap.size (by omega) (by simp; omega)).trans R3.out
  have O4 := hide (O3.out.frm hF4 (by simp; omega))
  have hz4 := hF4.size
  have P4 := hide hP4
  clear hL4 hF4 hP4 N4 L3 F3 R3 O3
  go_wp2_with fail
  refine (N5.out).mono ?_
  rintro e w5 ⟨i5, n5, ok5, rfl, hL5, hF5, hP5, hv5⟩
  have N6 := hide (takeNumber_any b t i5 V 3 0 100000 3 0 99999 w5 hL5 (by omega) (by omega) (by omega) rfl rfl rfl)
  have F5 := hide (F4.out.trans hF5)
  have R5 : Hid (HZ w5 w.heap.size) := (hF5.block w.heap.size (by omega) (by simp; omega)).trans R4.out
  have O5 := hide (O4.out.frm hF5 (by simp; omega))
  have hz5 := hF5.size
  have P5 := hide hP5
  clear hL5 hF5 hP5 N5 F4 R4 O4
  go_wp2_with fail
  refine (N6.out).mono ?_
  rintro e w6 ⟨i6, n6, ok6, rfl, hL6, hF6, hP6, hv6⟩
  have L6 := hide hL6
  have F6 := hide (F5.out.trans hF6)
  have R6 : Hid (HZ w6 w.heap.size) := (hF6.block w.heap.size (by omega) (by simp; omega)).trans R5.out
  have O6 := hide (O5.out.frm hF6 (by simp; omega))
  have hz6 := hF6.size
  have hbL6 := hL6.lt
  have HP6 : Hid (PO (ok4 && ok5 && ok6) pH (t.drop i) ⟨x, bl, n4, n5, n6⟩ (t.drop i6)) := by
    show PO _ _ _ _ _
    unfold PO
    rw [HP3.out]
    rcases P4.out with ⟨e4, h4⟩ | ⟨e4, h4⟩
    · rw [h4]
      simp only [Option.bind_some]
      rcases P5.out with ⟨e5, h5⟩ | ⟨e5, h5⟩
      · rw [h5]
        simp only [Option.bind_some]
        rcases hP6 with ⟨e6, h6⟩ | ⟨e6, h6⟩
        · rw [h6, e4, e5, e6]; left; exact ⟨rfl, rfl⟩
        · rw [h6, e4, e5, e6]; right; exact ⟨rfl, rfl⟩
      · rw [h5, e4, e5]; right; exact ⟨rfl, rfl⟩
    · rw [h4, e4]; right; exact ⟨rfl, rfl⟩
  clear hL6 hF6 hP6 N6 F5 R5 O5 P4 P5 HP3
  have dz : ∀ o, w6.frozen? ⟨w.heap.size, o, none⟩ = false := fun o => by simp [World.frozen?, R6.out]
  have d0 : w6.cell? ⟨w.heap.size, 0, none⟩ = some (.string ByteArray.empty) := by simp [World.cell?, R6.out]
  have d1 : w6.cell? ⟨w.heap.size, 1, none⟩ = some (.slice none 0 0) := by simp [World.cell?, R6.out]
  have d2 : w6.cell? ⟨w.heap.size, 2, none⟩ = some (.int .i64 0) := by simp [World.cell?, R6.out]
  have d3 : w6.cell? ⟨w.heap.size, 3, none⟩ = some (.int .i64 0) := by simp [World.cell?, R6.out]
  have d4 : w6.cell? ⟨w.heap.size, 4, none⟩ = some (.int .i64 0) := by simp [World.cell?, R6.out]
  have hw6 : w.heap.size < w6.heap.size := by omega
  cases ok4 <;> cases ok5 <;> cases ok6
  all_goals
    go_wp2
    refine bodyPost_ret (results_cell_tmpA rfl _ _ w.heap.size (hcell ⟨x, bl, n4, n5, n6⟩ (.slice ab bl.length cb)) rfl (loadHit ((((Frm.refl [] _).alloc _).block w.heap.size (by simp [World.setCell]; omega) (by simp)).trans (set5_row _ _ _ _ _ R6.out)) rfl)) rfl ?_
    exact ⟨i6, _, ⟨x, bl, n4, n5, n6⟩, ab, cb, rfl, (L6.out.frm (set5_frm _ _ _ _ _ _ _) (by simp; omega)).frm ((Frm.refl [] _).alloc _) (by simp), (F6.out.over (set5_frm _ _ _ _ _ _ _) (by simp)).alloc _, HP6.out, (O6.out.keep (set5_frm _ _ _ _ _ _ _) (fun r hr => by have := hob.out r hr; simp; omega)).frm ((Frm.refl [] _).alloc _) (by simp)⟩
end Go.Proofs.Ythlemieldfbbfab
