import Derived.Test.YtjnaekffodgdcaaDoorW12
namespace Go.Proofs.YtjnaekffodgdcaaDoor
open Go.RowKit
set_option linter.unusedVariables false
set_option linter.unusedSimpArgs false
set_option linter.unnecessarySimpa false

theorem Frm.new {S : List Nat} {a w w' : World} (h : Frm [] a w) (k : Frm S w w') (hS : ∀ x, x ∈ S → a.heap.size ≤ x) : Frm [] a w' :=
  ⟨k.os.trans h.os, k.tape.trans h.tape, k.output.trans h.output, Nat.le_trans h.size k.size, fun i hi _ => (k.block i (Nat.lt_of_lt_of_le hi h.size) (fun hm => by have := hS i hm; omega)).trans (h.block i hi (by simp))⟩
theorem ML.base {base base' : Nat} {w : World} {v : Value} {L : List CM} (h : ML base w v L) (hb : base' ≤ base) : ML base' w v L := by
  refine ⟨h.1, ?_⟩
  rcases h.2 with hn | ⟨g, cap, cur, rfl, hg, rest⟩
  · exact .inl hn
  · exact .inr ⟨g, cap, cur, rfl, by omega, rest⟩

def zeroRV : RV := ⟨0, [], false, .slice none 0 0, 0, 0, 0, .slice none 0 0, false⟩
def kRoute : List UInt8 := [114, 111, 117, 116, 101, 32]
def kCont : List UInt8 := [32, 99, 111, 110, 116, 105, 110, 117, 101]

/-- A route as the program reads it. -/
structure CR where
  d : Nat
  rc : List UInt8
  tb : Bool
  bys : List (List UInt8)
  wt : Int
  ev : Int
  rp : Int
  ifs : List CM
  co : Bool
structure CRep (base : Nat) (w : World) (v : RV) (c : CR) : Prop where
  d : v.d = c.d
  rc : v.rc = c.rc
  tb : v.tb = c.tb
  by_ : SL base w v.vby c.bys
  wt : v.wt = c.wt
  ev : v.ev = c.ev
  rp : v.rp = c.rp
  ifs : ML base w v.vif c.ifs
  co : v.co = c.co

def sDepth : List UInt8 → Nat × List UInt8
  | [] => (0, [])
  | c :: r => if c == 32 then ((sDepth r).1 + 1, (sDepth r).2) else (0, c :: r)

/-- A line as a route. -/
def sRoute (t : List UInt8) : Option CR :=
  let l0 := (sDepth t).2
  if sTake kRoute l0 then
    let a := sRecv (sRest kRoute l0)
    if a.2.1 then
      let b := sBy a.2.2
      if b.ok then
        let c := sTimes b.rest
        if c.ok then
          let m := sMats c.rest
          if m.2.1 then
            if (sRest kCont m.2.2).isEmpty then some ⟨(sDepth t).1, a.1, b.tells, b.names, c.wt, c.ev, c.rp, m.1, sTake kCont m.2.2⟩ else none
          else none
        else none
      else none
    else none
  else none

theorem sTake1 (l : List UInt8) : sTake [32] l = (match l with | c :: _ => c == 32 | [] => false) := by
  unfold sTake; cases l with
  | nil => rfl
  | cons c r => simp [List.isPrefixOf]; rw [Bool.eq_iff_iff]; simp; exact eq_comm

theorem sDepth_yes (c : UInt8) (r : List UInt8) (h : (c == 32) = true) : sDepth (c :: r) = ((sDepth r).1 + 1, (sDepth r).2) := by
  conv => lhs; unfold sDepth
  rw [h]; rfl
theorem sDepth_no (c : UInt8) (r : List UInt8) (h : (c == 32) = false) : sDepth (c :: r) = (0, c :: r) := by
  conv => lhs; unfold sDepth
  rw [h]; rfl
theorem heap3_2 (w : World) (a b c : Obj) : (((w.alloc a).alloc b).alloc c).heap[w.heap.size + 1 + 1]? = some c := by
  have := heap_alloc_new ((w.alloc a).alloc b) c
  rw [← this]; simp
theorem heap3_1 (w : World) (a b c : Obj) : (((w.alloc a).alloc b).alloc c).heap[w.heap.size + 1]? = some b := by
  rw [Below.heap_alloc _ _ _ (by simp)]
  have := heap_alloc_new (w.alloc a) b
  rw [← this]; simp
theorem heap3_0 (w : World) (a b c : Obj) : (((w.alloc a).alloc b).alloc c).heap[w.heap.size]? = some a := by
  rw [Below.heap_alloc _ _ _ (by simp; omega), Below.heap_alloc _ _ _ (by simp)]
  exact heap_alloc_new w a

theorem RT.set9 {w : World} {rb : Nat} {r : RV} (h : RT w rb r) (d : Int) (rc : List UInt8) (tb : Bool) (vby : Value) (wt ev rp : Int) (vif : Value) (co : Bool) :
    RT (((((((((w.setCell ⟨rb, 0, none⟩ (.int .i64 d)).setCell ⟨rb, 1, none⟩ (.string (bs rc))).setCell ⟨rb, 2, none⟩ (.bool tb)).setCell ⟨rb, 3, none⟩ vby).setCell ⟨rb, 4, none⟩ (.int .i64 wt)).setCell ⟨rb, 5, none⟩ (.int .i64 ev)).setCell ⟨rb, 6, none⟩ (.int .i64 rp)).setCell ⟨rb, 7, none⟩ vif).setCell ⟨rb, 8, none⟩ (.bool co)) rb ⟨d, rc, tb, vby, wt, ev, rp, vif, co⟩ :=
  ((((((((h.set 0 _ { r with d := d } rfl).set 1 _ { r with d := d, rc := rc } rfl).set 2 _ { r with d := d, rc := rc, tb := tb } rfl).set 3 _ { r with d := d, rc := rc, tb := tb, vby := vby } rfl).set 4 _ { r with d := d, rc := rc, tb := tb, vby := vby, wt := wt } rfl).set 5 _ { r with d := d, rc := rc, tb := tb, vby := vby, wt := wt, ev := ev } rfl).set 6 _ { r with d := d, rc := rc, tb := tb, vby := vby, wt := wt, ev := ev, rp := rp } rfl).set 7 _ { r with d := d, rc := rc, tb := tb, vby := vby, wt := wt, ev := ev, rp := rp, vif := vif } rfl).set 8 _ _ rfl
theorem Frm.set9 {S : List Nat} {a w : World} {rb : Nat} (h : Frm S a w) (hb : a.heap.size ≤ rb) (v0 v1 v2 v3 v4 v5 v6 v7 v8 : Value) : Frm S a (((((((((w.setCell ⟨rb, 0, none⟩ v0).setCell ⟨rb, 1, none⟩ v1).setCell ⟨rb, 2, none⟩ v2).setCell ⟨rb, 3, none⟩ v3).setCell ⟨rb, 4, none⟩ v4).setCell ⟨rb, 5, none⟩ v5).setCell ⟨rb, 6, none⟩ v6).setCell ⟨rb, 7, none⟩ v7).setCell ⟨rb, 8, none⟩ v8) :=
  ((((((((h.setCell (Or.inr hb) _).setCell (Or.inr hb) _).setCell (Or.inr hb) _).setCell (Or.inr hb) _).setCell (Or.inr hb) _).setCell (Or.inr hb) _).setCell (Or.inr hb) _).setCell (Or.inr hb) _).setCell (Or.inr hb) _
theorem Frm.set9w {a w : World} {rb : Nat} (h : Frm [rb] a w) (n : Nat) (v0 v1 v2 v3 v4 v5 v6 v7 v8 : Value) : Frm [rb] a ((((((((((w.drewN n).setCell ⟨rb, 0, none⟩ v0).setCell ⟨rb, 1, none⟩ v1).setCell ⟨rb, 2, none⟩ v2).setCell ⟨rb, 3, none⟩ v3).setCell ⟨rb, 4, none⟩ v4).setCell ⟨rb, 5, none⟩ v5).setCell ⟨rb, 6, none⟩ v6).setCell ⟨rb, 7, none⟩ v7).setCell ⟨rb, 8, none⟩ v8) :=
  (((((((((h.drewN n).setCell (by simp) _).setCell (by simp) _).setCell (by simp) _).setCell (by simp) _).setCell (by simp) _).setCell (by simp) _).setCell (by simp) _).setCell (by simp) _).setCell (by simp) _
theorem load_route {w : World} {rb : Nat} {rv : RV} (h : RT w rb rv) : (loadVar 62 ⟨rb, 0, none⟩).run Tryd.prog w = .ok (.agg rv.cells) w := by
  obtain ⟨d, rc, tb, vby, wt, ev, rp, vif, co⟩ := rv
  have hz0 : w.cell? ⟨rb, 0, none⟩ = some (.int .i64 d) := h.cell 0
  have hz1 : w.cell? ⟨rb, 1, none⟩ = some (.string (bs rc)) := h.cell 1
  have hz2 : w.cell? ⟨rb, 2, none⟩ = some (.bool tb) := h.cell 2
  have hz3 : w.cell? ⟨rb, 3, none⟩ = some vby := h.cell 3
  have hz4 : w.cell? ⟨rb, 4, none⟩ = some (.int .i64 wt) := h.cell 4
  have hz5 : w.cell? ⟨rb, 5, none⟩ = some (.int .i64 ev) := h.cell 5
  have hz6 : w.cell? ⟨rb, 6, none⟩ = some (.int .i64 rp) := h.cell 6
  have hz7 : w.cell? ⟨rb, 7, none⟩ = some vif := h.cell 7
  have hz8 : w.cell? ⟨rb, 8, none⟩ = some (.bool co) := h.cell 8
  simp [go_sem, RV.cells, hz0, hz1, hz2, hz3, hz4, hz5, hz6, hz7, hz8]
theorem results_route {w : World} {rb : Nat} {rv : RV} {ok : Bool} {tmps : Array Value} (h : RT w rb rv) (h2 : tmps.getD 2 undef = .pointer (some ⟨rb, 0, none⟩)) (h3 : tmps.getD 3 undef = .bool ok) :
    (results Tryd.f35 tmps).run Tryd.prog w = .ok (.tuple #[.agg rv.cells, .bool ok]) w := by
  rw [results_cell_tmp Tryd.results35, h2, h3]
  simp [asAddr, load_route h]

/-- Behind a part that is not there: the empty route, false. -/
theorem RT.full {w : World} {rb : Nat} {r : RV} (h : RT w rb r) : w.heap[rb]? = some (.cells r.cells 62 (0, 0)) := h

set_option maxRecDepth 100000 in
set_option maxHeartbeats 4000000 in
theorem readRoute_any (t : List UInt8) (w : World) (ht : t.length ≤ 1048576) :
    Calls Tryd.prog 35 #[.string (bs t)] w fun e w' => Frm [] w w' ∧ ∃ rv, (∃ a n c, rv.vby = .slice a n c) ∧ (∃ a n c, rv.vif = .slice a n c) ∧
      e = .returned (.tuple #[.agg rv.cells, .bool (sRoute t).isSome]) ∧ ∀ c, sRoute t = some c → CRep w.heap.size w' rv c := by
  have ha0 : At (((w.alloc (Obj.cells zeroRV.cells 62)).alloc (Obj.cells #[Value.string (bs t), Value.int IntKind.i64 0] 88)).alloc (Obj.cells zeroRV.cells 62)) (w.heap.size + 1) t t :=
    ⟨0, ⟨heap3_1 _ _ _ _, Nat.zero_le _, ht⟩, rfl⟩
  have hr0 : RT (((w.alloc (Obj.cells zeroRV.cells 62)).alloc (Obj.cells #[Value.string (bs t), Value.int IntKind.i64 0] 88)).alloc (Obj.cells zeroRV.cells 62)) (w.heap.size + 1 + 1) zeroRV := heap3_2 _ _ _ _
  have hq0 : RT (((w.alloc (Obj.cells zeroRV.cells 62)).alloc (Obj.cells #[Value.string (bs t), Value.int IntKind.i64 0] 88)).alloc (Obj.cells zeroRV.cells 62)) w.heap.size zeroRV := heap3_0 _ _ _ _
  have hf0 : Frm [] w (((w.alloc (Obj.cells zeroRV.cells 62)).alloc (Obj.cells #[Value.string (bs t), Value.int IntKind.i64 0] 88)).alloc (Obj.cells zeroRV.cells 62)) := (((Frm.refl _ _).alloc _).alloc _).alloc _
  have A0 : Hid (_ ∧ _ ∧ _ ∧ _) := ⟨ha0, hr0, hq0, hf0⟩
  clear ha0 hr0 hq0 hf0
  go_enter Tryd.func35, Tryd.ntmps35
  go_wp2_with fail
  go_loopg [] t.length (fun k wr => ∃ (l : List UInt8) (d : Nat), l.length ≤ k ∧ d + l.length ≤ t.length ∧ (sDepth l).1 + d = (sDepth t).1 ∧ (sDepth l).2 = (sDepth t).2 ∧ At wr (w.heap.size + 1) t l ∧ RT wr (w.heap.size + 1 + 1) { zeroRV with d := d } ∧ RT wr w.heap.size zeroRV ∧ Frm [] w wr)
  case atStart => exact ⟨t, 0, Nat.le_refl _, by omega, by omega, rfl, A0.out.1, A0.out.2.1, A0.out.2.2.1, A0.out.2.2.2⟩
  case round =>
  clear A0
  obtain ⟨l, d, hlk, hdl, hd1, hd2, hat, hrt, hr0, hfr⟩ := hrel
  have Hd : Hid ((sDepth l).1 + d = (sDepth t).1 ∧ (sDepth l).2 = (sDepth t).2) := ⟨hd1, hd2⟩
  have HA : Hid (At wr (w.heap.size + 1) t l) := hat
  have HR : Hid (RT wr (w.heap.size + 1 + 1) { zeroRV with d := d }) := hrt
  have H0 : Hid (RT wr w.heap.size zeroRV) := hr0
  have HF0 : Hid (Frm [] w wr) := hfr
  clear hd1 hd2 hat hrt hr0 hfr
  go_wp2_with fail
  refine (take_any (w.heap.size + 1) t l [32] _ HA.out (by simp)).mono ?_
  rintro e w1 ⟨rfl, h1, hf1⟩
  have H1 : Hid (At w1 (w.heap.size + 1) t (sRest [32] l)) := h1
  have R1 : Hid (RT w1 (w.heap.size + 1 + 1) { zeroRV with d := d }) := HR.out.frm hf1 (by simp)
  have R01 : Hid (RT w1 w.heap.size zeroRV) := H0.out.frm hf1 (by simp)
  have HF1 : Hid (Frm [] w w1) := HF0.out.new hf1 (by simp)
  clear h1 hf1 HA HR H0 HF0
  cases ht1 : sTake [32] l
  case true =>
    obtain ⟨c, r, rfl⟩ : ∃ c r, l = c :: r := by
      cases l with
      | nil => cases ht1
      | cons c r => exact ⟨c, r, rfl⟩
    have hc : (c == 32) = true := by rw [sTake1] at ht1; exact ht1
    have Hr : Hid (sRest [32] (c :: r) = r) := by
      show sRest [32] (c :: r) = r
      unfold sTake at ht1; unfold sRest; rw [if_pos ht1]; rfl
    rw [Hr.out] at H1
    simp only [List.length_cons] at hlk hdl
    have c0 : w1.cell? ⟨w.heap.size + 1 + 1, 0, none⟩ = some (.int .i64 d) := R1.out.cell 0
    have f0 := R1.out.fz 0
    have Hd2 : Hid ((sDepth r).1 + (d + 1) = (sDepth t).1 ∧ (sDepth r).2 = (sDepth t).2) := by
      have := Hd.out
      rw [sDepth_yes c r hc] at this
      exact ⟨by have := this.1; simp only at this; omega, this.2⟩
    clear Hd ht1
    go_wp2
    go_roundg (gk - 1)
    case measure => omega
    case rel =>
      refine ⟨r, d + 1, by omega, by omega, Hd2.out.1, Hd2.out.2, ?_, ?_, ?_, ?_⟩
      · exact H1.out.frm (S := [w.heap.size + 1 + 1]) ((Frm.refl _ _).setCell (by simp) _) (by simp)
      · exact R1.out.set 0 _ _ rfl
      · exact R01.out.frm (S := [w.heap.size + 1 + 1]) ((Frm.refl _ _).setCell (by simp) _) (by simp; omega)
      · exact HF1.out.setCell (Or.inr (by simp; omega)) _
  case false =>
  rw [sRest_no ht1] at H1
  have Hd2 : Hid (d = (sDepth t).1 ∧ l = (sDepth t).2) := by
    have := Hd.out
    cases l with
    | nil => exact ⟨by have := this.1; simp [sDepth] at this; exact this, this.2⟩
    | cons c r =>
      rw [sTake1] at ht1
      rw [sDepth_no c r ht1] at this
      exact ⟨by simpa using this.1, by simpa using this.2⟩
  clear Hd ht1
  go_wp2_with fail
  refine (take_any (w.heap.size + 1) t l kRoute _ H1.out (by simp [kRoute])).mono ?_
  rintro e w2 ⟨rfl, h2, hf2⟩
  have HA : Hid (At w2 (w.heap.size + 1) t (sRest kRoute l)) := h2
  have R1' : Hid (RT w2 (w.heap.size + 1 + 1) { zeroRV with d := d }) := R1.out.frm hf2 (by simp)
  have R0 : Hid (RT w2 w.heap.size zeroRV) := R01.out.frm hf2 (by simp)
  have HF : Hid (Frm [] w w2) := HF1.out.new hf2 (by simp)
  clear h2 hf2 H1 R1 R01 HF1
  cases ht1 : sTake kRoute l
  case false =>
    have Hx : Hid (sRoute t = none) := by
      show sRoute t = none
      unfold sRoute; rw [← Hd2.out.2]; simp [ht1]
    have hz0 : w2.cell? ⟨w.heap.size, 0, none⟩ = some (.int .i64 0) := R0.out.cell 0
    have hz1 : w2.cell? ⟨w.heap.size, 1, none⟩ = some (.string (bs [])) := R0.out.cell 1
    have hz2 : w2.cell? ⟨w.heap.size, 2, none⟩ = some (.bool false) := R0.out.cell 2
    have hz3 : w2.cell? ⟨w.heap.size, 3, none⟩ = some (.slice none 0 0) := R0.out.cell 3
    have hz4 : w2.cell? ⟨w.heap.size, 4, none⟩ = some (.int .i64 0) := R0.out.cell 4
    have hz5 : w2.cell? ⟨w.heap.size, 5, none⟩ = some (.int .i64 0) := R0.out.cell 5
    have hz6 : w2.cell? ⟨w.heap.size, 6, none⟩ = some (.int .i64 0) := R0.out.cell 6
    have hz7 : w2.cell? ⟨w.heap.size, 7, none⟩ = some (.slice none 0 0) := R0.out.cell 7
    have hz8 : w2.cell? ⟨w.heap.size, 8, none⟩ = some (.bool false) := R0.out.cell 8
    have hfz := R0.out.fz
    go_wp2
    refine bodyPost_ret (results_route (rv := zeroRV) (ok := false) (rb := w.heap.size) ?_ (by rfl) (by rfl)) rfl ?_
    · exact ((((((((R0.out.set 0 _ zeroRV rfl).set 1 _ zeroRV rfl).set 2 _ zeroRV rfl).set 3 _ zeroRV rfl).set 4 _ zeroRV rfl).set 5 _ zeroRV rfl).set 6 _ zeroRV rfl).set 7 _ zeroRV rfl).set 8 _ zeroRV rfl
    · rw [Hx.out]
      refine ⟨?_, zeroRV, ⟨_, _, _, rfl⟩, ⟨_, _, _, rfl⟩, rfl, fun c h => by cases h⟩
      exact ((((((((HF.out.setCell (by simp) _).setCell (by simp) _).setCell (by simp) _).setCell (by simp) _).setCell (by simp) _).setCell (by simp) _).setCell (by simp) _).setCell (by simp) _).setCell (by simp) _
  case true =>
  have T1 : Hid (sTake kRoute l = true) := ht1
  clear ht1
  generalize hl1 : sRest kRoute l = l1 at *
  have L1 : Hid (sRest kRoute l = l1) := hl1
  clear hl1
  go_wp2_with fail
  refine (takeReceiver_any (w.heap.size + 1) (w.heap.size + 1 + 1) t l1 _ _ HA.out R1'.out (by omega)).mono ?_
  rintro e w3 ⟨rfl, h3, hr3, hf3⟩
  have HA3 : Hid (At w3 (w.heap.size + 1) t (sRecv l1).2.2) := h3
  have R3 : Hid (RT w3 (w.heap.size + 1 + 1) { zeroRV with d := d, rc := (sRecv l1).1 }) := hr3
  have R0' : Hid (RT w3 w.heap.size zeroRV) := R0.out.frm hf3 (by simp; omega)
  have HF' : Hid (Frm [] w w3) := HF.out.new hf3 (by simp; omega)
  clear h3 hr3 hf3 HA R1' R0 HF
  have R0 := R0'
  have HF := HF'
  clear R0' HF'
  cases ht1 : (sRecv l1).2.1
  case false =>
    have Hx : Hid (sRoute t = none) := by
      show sRoute t = none
      unfold sRoute; rw [← Hd2.out.2]; simp [T1.out, L1.out, ht1]
    have hz0 : w3.cell? ⟨w.heap.size, 0, none⟩ = some (.int .i64 0) := R0.out.cell 0
    have hz1 : w3.cell? ⟨w.heap.size, 1, none⟩ = some (.string (bs [])) := R0.out.cell 1
    have hz2 : w3.cell? ⟨w.heap.size, 2, none⟩ = some (.bool false) := R0.out.cell 2
    have hz3 : w3.cell? ⟨w.heap.size, 3, none⟩ = some (.slice none 0 0) := R0.out.cell 3
    have hz4 : w3.cell? ⟨w.heap.size, 4, none⟩ = some (.int .i64 0) := R0.out.cell 4
    have hz5 : w3.cell? ⟨w.heap.size, 5, none⟩ = some (.int .i64 0) := R0.out.cell 5
    have hz6 : w3.cell? ⟨w.heap.size, 6, none⟩ = some (.int .i64 0) := R0.out.cell 6
    have hz7 : w3.cell? ⟨w.heap.size, 7, none⟩ = some (.slice none 0 0) := R0.out.cell 7
    have hz8 : w3.cell? ⟨w.heap.size, 8, none⟩ = some (.bool false) := R0.out.cell 8
    have hfz := R0.out.fz
    go_wp2
    refine bodyPost_ret (results_route (rv := zeroRV) (ok := false) (rb := w.heap.size) ?_ (by rfl) (by rfl)) rfl ?_
    · exact ((((((((R0.out.set 0 _ zeroRV rfl).set 1 _ zeroRV rfl).set 2 _ zeroRV rfl).set 3 _ zeroRV rfl).set 4 _ zeroRV rfl).set 5 _ zeroRV rfl).set 6 _ zeroRV rfl).set 7 _ zeroRV rfl).set 8 _ zeroRV rfl
    · rw [Hx.out]
      refine ⟨?_, zeroRV, ⟨_, _, _, rfl⟩, ⟨_, _, _, rfl⟩, rfl, fun c h => by cases h⟩
      exact ((((((((HF.out.setCell (by simp) _).setCell (by simp) _).setCell (by simp) _).setCell (by simp) _).setCell (by simp) _).setCell (by simp) _).setCell (by simp) _).setCell (by simp) _).setCell (by simp) _
  case true =>
  have T2 : Hid ((sRecv l1).2.1 = true) := ht1
  clear ht1
  generalize hl2 : (sRecv l1).2.2 = l2 at *
  have L2 : Hid ((sRecv l1).2.2 = l2) := hl2
  clear hl2
  go_wp2_with fail
  refine (takeBy_any (w.heap.size + 1) (w.heap.size + 1 + 1) t l2 _ _ HA3.out R3.out (by omega) rfl rfl).mono ?_
  rintro e w4 ⟨rfl, h4, ⟨v4, hr4, hs4⟩, hf4⟩
  have HA4 : Hid (At w4 (w.heap.size + 1) t (sBy l2).rest) := h4
  have R4 : Hid (RT w4 (w.heap.size + 1 + 1) { zeroRV with d := d, rc := (sRecv l1).1, tb := (sBy l2).tells, vby := v4 }) := hr4
  have S4 : Hid (SL (w.heap.size + 1 + 1 + 1) w4 v4 (sBy l2).names) := hs4.base (by have := R3.out.lt; omega)
  have R0' : Hid (RT w4 w.heap.size zeroRV) := R0.out.frm hf4 (by simp; omega)
  have HF' : Hid (Frm [] w w4) := HF.out.new hf4 (by simp; omega)
  clear h4 hr4 hs4 hf4 HA3 R3 R0 HF
  have R0 := R0'
  have HF := HF'
  clear R0' HF'
  cases ht1 : (sBy l2).ok
  case false =>
    have Hx : Hid (sRoute t = none) := by
      show sRoute t = none
      unfold sRoute; rw [← Hd2.out.2]; simp [T1.out, L1.out, T2.out, L2.out, ht1]
    have hz0 : w4.cell? ⟨w.heap.size, 0, none⟩ = some (.int .i64 0) := R0.out.cell 0
    have hz1 : w4.cell? ⟨w.heap.size, 1, none⟩ = some (.string (bs [])) := R0.out.cell 1
    have hz2 : w4.cell? ⟨w.heap.size, 2, none⟩ = some (.bool false) := R0.out.cell 2
    have hz3 : w4.cell? ⟨w.heap.size, 3, none⟩ = some (.slice none 0 0) := R0.out.cell 3
    have hz4 : w4.cell? ⟨w.heap.size, 4, none⟩ = some (.int .i64 0) := R0.out.cell 4
    have hz5 : w4.cell? ⟨w.heap.size, 5, none⟩ = some (.int .i64 0) := R0.out.cell 5
    have hz6 : w4.cell? ⟨w.heap.size, 6, none⟩ = some (.int .i64 0) := R0.out.cell 6
    have hz7 : w4.cell? ⟨w.heap.size, 7, none⟩ = some (.slice none 0 0) := R0.out.cell 7
    have hz8 : w4.cell? ⟨w.heap.size, 8, none⟩ = some (.bool false) := R0.out.cell 8
    have hfz := R0.out.fz
    go_wp2
    refine bodyPost_ret (results_route (rv := zeroRV) (ok := false) (rb := w.heap.size) ?_ (by rfl) (by rfl)) rfl ?_
    · exact ((((((((R0.out.set 0 _ zeroRV rfl).set 1 _ zeroRV rfl).set 2 _ zeroRV rfl).set 3 _ zeroRV rfl).set 4 _ zeroRV rfl).set 5 _ zeroRV rfl).set 6 _ zeroRV rfl).set 7 _ zeroRV rfl).set 8 _ zeroRV rfl
    · rw [Hx.out]
      refine ⟨?_, zeroRV, ⟨_, _, _, rfl⟩, ⟨_, _, _, rfl⟩, rfl, fun c h => by cases h⟩
      exact ((((((((HF.out.setCell (by simp) _).setCell (by simp) _).setCell (by simp) _).setCell (by simp) _).setCell (by simp) _).setCell (by simp) _).setCell (by simp) _).setCell (by simp) _).setCell (by simp) _
  case true =>
  have T3 : Hid ((sBy l2).ok = true) := ht1
  clear ht1
  generalize hl3 : (sBy l2).rest = l3 at *
  have L3 : Hid ((sBy l2).rest = l3) := hl3
  clear hl3
  go_wp2_with fail
  refine (takeTimes_any (w.heap.size + 1) (w.heap.size + 1 + 1) t l3 _ _ HA4.out R4.out (by omega)).mono ?_
  rintro e w5 ⟨rfl, h5, hr5, hf5⟩
  have HA5 : Hid (At w5 (w.heap.size + 1) t (sTimes l3).rest) := h5
  have R5 : Hid (RT w5 (w.heap.size + 1 + 1) { zeroRV with d := d, rc := (sRecv l1).1, tb := (sBy l2).tells, vby := v4, wt := (sTimes l3).wt, ev := (sTimes l3).ev, rp := (sTimes l3).rp }) := hr5
  have S5 : Hid (SL (w.heap.size + 1 + 1 + 1) w5 v4 (sBy l2).names) := S4.out.frm hf5 (by simp)
  have R0' : Hid (RT w5 w.heap.size zeroRV) := R0.out.frm hf5 (by simp; omega)
  have HF' : Hid (Frm [] w w5) := HF.out.new hf5 (by simp; omega)
  clear h5 hr5 hf5 HA4 R4 R0 HF S4
  have R0 := R0'
  have HF := HF'
  clear R0' HF'
  cases ht1 : (sTimes l3).ok
  case false =>
    have Hx : Hid (sRoute t = none) := by
      show sRoute t = none
      unfold sRoute; rw [← Hd2.out.2]; simp [T1.out, L1.out, T2.out, L2.out, T3.out, L3.out, ht1]
    have hz0 : w5.cell? ⟨w.heap.size, 0, none⟩ = some (.int .i64 0) := R0.out.cell 0
    have hz1 : w5.cell? ⟨w.heap.size, 1, none⟩ = some (.string (bs [])) := R0.out.cell 1
    have hz2 : w5.cell? ⟨w.heap.size, 2, none⟩ = some (.bool false) := R0.out.cell 2
    have hz3 : w5.cell? ⟨w.heap.size, 3, none⟩ = some (.slice none 0 0) := R0.out.cell 3
    have hz4 : w5.cell? ⟨w.heap.size, 4, none⟩ = some (.int .i64 0) := R0.out.cell 4
    have hz5 : w5.cell? ⟨w.heap.size, 5, none⟩ = some (.int .i64 0) := R0.out.cell 5
    have hz6 : w5.cell? ⟨w.heap.size, 6, none⟩ = some (.int .i64 0) := R0.out.cell 6
    have hz7 : w5.cell? ⟨w.heap.size, 7, none⟩ = some (.slice none 0 0) := R0.out.cell 7
    have hz8 : w5.cell? ⟨w.heap.size, 8, none⟩ = some (.bool false) := R0.out.cell 8
    have hfz := R0.out.fz
    go_wp2
    refine bodyPost_ret (results_route (rv := zeroRV) (ok := false) (rb := w.heap.size) ?_ (by rfl) (by rfl)) rfl ?_
    · exact ((((((((R0.out.set 0 _ zeroRV rfl).set 1 _ zeroRV rfl).set 2 _ zeroRV rfl).set 3 _ zeroRV rfl).set 4 _ zeroRV rfl).set 5 _ zeroRV rfl).set 6 _ zeroRV rfl).set 7 _ zeroRV rfl).set 8 _ zeroRV rfl
    · rw [Hx.out]
      refine ⟨?_, zeroRV, ⟨_, _, _, rfl⟩, ⟨_, _, _, rfl⟩, rfl, fun c h => by cases h⟩
      exact ((((((((HF.out.setCell (by simp) _).setCell (by simp) _).setCell (by simp) _).setCell (by simp) _).setCell (by simp) _).setCell (by simp) _).setCell (by simp) _).setCell (by simp) _).setCell (by simp) _
  case true =>
  have T4 : Hid ((sTimes l3).ok = true) := ht1
  clear ht1
  generalize hl4 : (sTimes l3).rest = l4 at *
  have L4 : Hid ((sTimes l3).rest = l4) := hl4
  clear hl4
  go_wp2_with fail
  refine (takeMatchers_any (w.heap.size + 1) (w.heap.size + 1 + 1) t l4 _ _ HA5.out R5.out (by omega) rfl).mono ?_
  rintro e w6 ⟨rfl, h6, ⟨v6, hr6, hm6⟩, _, hf6⟩
  have HA6 : Hid (At w6 (w.heap.size + 1) t (sMats l4).2.2) := h6
  have R6 : Hid (RT w6 (w.heap.size + 1 + 1) { zeroRV with d := d, rc := (sRecv l1).1, tb := (sBy l2).tells, vby := v4, wt := (sTimes l3).wt, ev := (sTimes l3).ev, rp := (sTimes l3).rp, vif := v6 }) := hr6
  have S6 : Hid (SL (w.heap.size + 1 + 1 + 1) w6 v4 (sBy l2).names) := S5.out.frm hf6 (by simp)
  have M6 : Hid (ML (w.heap.size + 1 + 1 + 1) w6 v6 (sMats l4).1) := hm6.base (by have := R5.out.lt; omega)
  have R0' : Hid (RT w6 w.heap.size zeroRV) := R0.out.frm hf6 (by simp; omega)
  have HF' : Hid (Frm [] w w6) := HF.out.new hf6 (by simp; omega)
  clear h6 hr6 hm6 hf6 HA5 R5 R0 HF S5
  have R0 := R0'
  have HF := HF'
  clear R0' HF'
  cases ht1 : (sMats l4).2.1
  case false =>
    have Hx : Hid (sRoute t = none) := by
      show sRoute t = none
      unfold sRoute; rw [← Hd2.out.2]; simp [T1.out, L1.out, T2.out, L2.out, T3.out, L3.out, T4.out, L4.out, ht1]
    have hz0 : w6.cell? ⟨w.heap.size, 0, none⟩ = some (.int .i64 0) := R0.out.cell 0
    have hz1 : w6.cell? ⟨w.heap.size, 1, none⟩ = some (.string (bs [])) := R0.out.cell 1
    have hz2 : w6.cell? ⟨w.heap.size, 2, none⟩ = some (.bool false) := R0.out.cell 2
    have hz3 : w6.cell? ⟨w.heap.size, 3, none⟩ = some (.slice none 0 0) := R0.out.cell 3
    have hz4 : w6.cell? ⟨w.heap.size, 4, none⟩ = some (.int .i64 0) := R0.out.cell 4
    have hz5 : w6.cell? ⟨w.heap.size, 5, none⟩ = some (.int .i64 0) := R0.out.cell 5
    have hz6 : w6.cell? ⟨w.heap.size, 6, none⟩ = some (.int .i64 0) := R0.out.cell 6
    have hz7 : w6.cell? ⟨w.heap.size, 7, none⟩ = some (.slice none 0 0) := R0.out.cell 7
    have hz8 : w6.cell? ⟨w.heap.size, 8, none⟩ = some (.bool false) := R0.out.cell 8
    have hfz := R0.out.fz
    go_wp2
    refine bodyPost_ret (results_route (rv := zeroRV) (ok := false) (rb := w.heap.size) ?_ (by rfl) (by rfl)) rfl ?_
    · exact ((((((((R0.out.set 0 _ zeroRV rfl).set 1 _ zeroRV rfl).set 2 _ zeroRV rfl).set 3 _ zeroRV rfl).set 4 _ zeroRV rfl).set 5 _ zeroRV rfl).set 6 _ zeroRV rfl).set 7 _ zeroRV rfl).set 8 _ zeroRV rfl
    · rw [Hx.out]
      refine ⟨?_, zeroRV, ⟨_, _, _, rfl⟩, ⟨_, _, _, rfl⟩, rfl, fun c h => by cases h⟩
      exact ((((((((HF.out.setCell (by simp) _).setCell (by simp) _).setCell (by simp) _).setCell (by simp) _).setCell (by simp) _).setCell (by simp) _).setCell (by simp) _).setCell (by simp) _).setCell (by simp) _
  case true =>
  have T5 : Hid ((sMats l4).2.1 = true) := ht1
  clear ht1
  generalize hl5 : (sMats l4).2.2 = l5 at *
  have L5 : Hid ((sMats l4).2.2 = l5) := hl5
  clear hl5
  go_wp2_with fail
  refine (take_any (w.heap.size + 1) t l5 kCont _ HA6.out (by simp [kCont])).mono ?_
  rintro e w7 ⟨rfl, h7, hf7⟩
  have HA7 : Hid (At w7 (w.heap.size + 1) t (sRest kCont l5)) := h7
  have R7 : Hid (RT w7 (w.heap.size + 1 + 1) { zeroRV with d := d, rc := (sRecv l1).1, tb := (sBy l2).tells, vby := v4, wt := (sTimes l3).wt, ev := (sTimes l3).ev, rp := (sTimes l3).rp, vif := v6 }) := R6.out.frm hf7 (by simp)
  have S7 : Hid (SL (w.heap.size + 1 + 1 + 1) w7 v4 (sBy l2).names) := S6.out.frm hf7 (by simp)
  have M7 : Hid (ML (w.heap.size + 1 + 1 + 1) w7 v6 (sMats l4).1) := M6.out.frm hf7 (by simp)
  have R0' : Hid (RT w7 w.heap.size zeroRV) := R0.out.frm hf7 (by simp)
  have HF' : Hid (Frm [] w w7) := HF.out.new hf7 (by simp)
  clear h7 hf7 HA6 R6 R0 HF S6 M6
  have R0 := R0'
  have HF := HF'
  clear R0' HF'
  have c8 : w7.cell? ⟨w.heap.size + 1 + 1, 8, none⟩ = some (.bool false) := R7.out.cell 8
  have f8 := R7.out.fz 8
  go_wp2_with fail
  have R8 : Hid (RT (w7.setCell ⟨w.heap.size + 1 + 1, 8, none⟩ (.bool (sTake kCont l5))) (w.heap.size + 1 + 1) ⟨d, (sRecv l1).1, (sBy l2).tells, v4, (sTimes l3).wt, (sTimes l3).ev, (sTimes l3).rp, v6, sTake kCont l5⟩) := R7.out.set 8 _ _ rfl
  have F8 : Frm [w.heap.size + 1 + 1] w7 (w7.setCell ⟨w.heap.size + 1 + 1, 8, none⟩ (.bool (sTake kCont l5))) := (Frm.refl _ _).setCell (by simp) _
  have HA8 : Hid (At (w7.setCell ⟨w.heap.size + 1 + 1, 8, none⟩ (.bool (sTake kCont l5))) (w.heap.size + 1) t (sRest kCont l5)) := HA7.out.frm F8 (by simp)
  have S8 : Hid (SL (w.heap.size + 1 + 1 + 1) (w7.setCell ⟨w.heap.size + 1 + 1, 8, none⟩ (.bool (sTake kCont l5))) v4 (sBy l2).names) := S7.out.frm F8 (by simp)
  have M8 : Hid (ML (w.heap.size + 1 + 1 + 1) (w7.setCell ⟨w.heap.size + 1 + 1, 8, none⟩ (.bool (sTake kCont l5))) v6 (sMats l4).1) := M7.out.frm F8 (by simp)
  have R08 : Hid (RT (w7.setCell ⟨w.heap.size + 1 + 1, 8, none⟩ (.bool (sTake kCont l5))) w.heap.size zeroRV) := R0.out.frm F8 (by simp; omega)
  have HF8 : Hid (Frm [] w (w7.setCell ⟨w.heap.size + 1 + 1, 8, none⟩ (.bool (sTake kCont l5)))) := HF.out.new F8 (by simp; omega)
  clear F8 R0 HF c8 f8 HA7 R7 S7 M7
  have R0 := R08
  have HF := HF8
  clear R08 HF8
  generalize w7.setCell ⟨w.heap.size + 1 + 1, 8, none⟩ (.bool (sTake kCont l5)) = w8 at *
  obtain ⟨a4, cap4, rfl⟩ := S8.out.shape
  obtain ⟨a6, cap6, rfl⟩ := own_shape M8.out
  have hr0 : w8.cell? ⟨w.heap.size + 1 + 1, 0, none⟩ = some (.int .i64 d) := R8.out.cell 0
  have hr1 : w8.cell? ⟨w.heap.size + 1 + 1, 1, none⟩ = some (.string (bs (sRecv l1).1)) := R8.out.cell 1
  have hr2 : w8.cell? ⟨w.heap.size + 1 + 1, 2, none⟩ = some (.bool (sBy l2).tells) := R8.out.cell 2
  have hr3 : w8.cell? ⟨w.heap.size + 1 + 1, 3, none⟩ = some (.slice a4 (sBy l2).names.length cap4) := R8.out.cell 3
  have hr4 : w8.cell? ⟨w.heap.size + 1 + 1, 4, none⟩ = some (.int .i64 (sTimes l3).wt) := R8.out.cell 4
  have hr5 : w8.cell? ⟨w.heap.size + 1 + 1, 5, none⟩ = some (.int .i64 (sTimes l3).ev) := R8.out.cell 5
  have hr6 : w8.cell? ⟨w.heap.size + 1 + 1, 6, none⟩ = some (.int .i64 (sTimes l3).rp) := R8.out.cell 6
  have hr7 : w8.cell? ⟨w.heap.size + 1 + 1, 7, none⟩ = some (.slice a6 (sMats l4).1.length cap6) := R8.out.cell 7
  have hr8 : w8.cell? ⟨w.heap.size + 1 + 1, 8, none⟩ = some (.bool (sTake kCont l5)) := R8.out.cell 8
  have hz0 : w8.cell? ⟨w.heap.size, 0, none⟩ = some (.int .i64 0) := R0.out.cell 0
  have hz1 : w8.cell? ⟨w.heap.size, 1, none⟩ = some (.string (bs [])) := R0.out.cell 1
  have hz2 : w8.cell? ⟨w.heap.size, 2, none⟩ = some (.bool false) := R0.out.cell 2
  have hz3 : w8.cell? ⟨w.heap.size, 3, none⟩ = some (.slice none 0 0) := R0.out.cell 3
  have hz4 : w8.cell? ⟨w.heap.size, 4, none⟩ = some (.int .i64 0) := R0.out.cell 4
  have hz5 : w8.cell? ⟨w.heap.size, 5, none⟩ = some (.int .i64 0) := R0.out.cell 5
  have hz6 : w8.cell? ⟨w.heap.size, 6, none⟩ = some (.int .i64 0) := R0.out.cell 6
  have hz7 : w8.cell? ⟨w.heap.size, 7, none⟩ = some (.slice none 0 0) := R0.out.cell 7
  have hz8 : w8.cell? ⟨w.heap.size, 8, none⟩ = some (.bool false) := R0.out.cell 8
  have hfz := R0.out.fz
  go_region_with (go_at_call 42; refine (atEnd_any (w.heap.size + 1) t (sRest kCont l5) _ (by exact HA8.out)).mono ?_; rintro e w' ⟨rfl, n, rfl⟩)
  all_goals
    go_wp2
    refine bodyPost_ret (results_route (rv := ⟨d, (sRecv l1).1, (sBy l2).tells, .slice a4 (sBy l2).names.length cap4, (sTimes l3).wt, (sTimes l3).ev, (sTimes l3).rp, .slice a6 (sMats l4).1.length cap6, sTake kCont l5⟩) (ok := (sRest kCont l5).isEmpty) (rb := w.heap.size) ?_ (by rfl) (by rfl)) rfl ?_
    · exact RT.set9 (R0.out.drewN _) _ _ _ _ _ _ _ _ _
    · have hso : (sRoute t) = if (sRest kCont l5).isEmpty then some ⟨(sDepth t).1, (sRecv l1).1, (sBy l2).tells, (sBy l2).names, (sTimes l3).wt, (sTimes l3).ev, (sTimes l3).rp, (sMats l4).1, sTake kCont l5⟩ else none := by
        unfold sRoute; rw [← Hd2.out.2]; simp [T1.out, L1.out, T2.out, L2.out, T3.out, L3.out, T4.out, L4.out, T5.out, L5.out]
      refine ⟨Frm.set9 (HF.out.drewN _) (Nat.le_refl _) _ _ _ _ _ _ _ _ _, ⟨d, (sRecv l1).1, (sBy l2).tells, .slice a4 (sBy l2).names.length cap4, (sTimes l3).wt, (sTimes l3).ev, (sTimes l3).rp, .slice a6 (sMats l4).1.length cap6, sTake kCont l5⟩, ⟨_, _, _, rfl⟩, ⟨_, _, _, rfl⟩, ?_, ?_⟩
      · rw [hso]; cases (sRest kCont l5).isEmpty <;> rfl
      · intro c hc
        rw [hso] at hc
        cases he : (sRest kCont l5).isEmpty
        · rw [he] at hc; cases hc
        · rw [he] at hc; simp only [if_true, Option.some.injEq] at hc
          subst hc
          refine ⟨by simp [Hd2.out.1], rfl, rfl, ?_, rfl, rfl, rfl, ?_, rfl⟩
          · exact SL.base ((S8.out.frm (S := [w.heap.size]) (Frm.set9w (Frm.refl _ _) _ _ _ _ _ _ _ _ _ _) (by simp; omega))) (by omega)
          · exact ML.base ((M8.out.frm (S := [w.heap.size]) (Frm.set9w (Frm.refl _ _) _ _ _ _ _ _ _ _ _ _) (by simp; omega))) (by omega)

end Go.Proofs.YtjnaekffodgdcaaDoor
