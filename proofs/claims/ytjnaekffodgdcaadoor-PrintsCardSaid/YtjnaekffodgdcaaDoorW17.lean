import Derived.Test.YtjnaekffodgdcaaDoorW16
namespace Go.Proofs.YtjnaekffodgdcaaDoor
open Go.RowKit
set_option linter.unusedVariables false
set_option linter.unusedSimpArgs false
set_option linter.unnecessarySimpa false

theorem hide {p : Prop} (h : p) : Hid p := h
theorem LineOf_any (n : Int) (w : World) (h0 : 0 ≤ n) (h1 : n ≤ 2000000) :
    Calls Tryd.prog 26 #[.int .i64 n] w fun e w' => e = .returned (.int .i64 (n + 2)) ∧ w = w' := by
  go_enter Tryd.func26, Tryd.ntmps26
  go_wp2
  go_ret
  exact ⟨rfl, rfl⟩

def followOk (d da : Int) : Bool := decide (1 ≤ d) && decide (d ≤ 5) && decide (d ≤ da + 1)
def rootOk (c : CR) : Bool := (c.d == 0) && c.ifs.isEmpty && !c.co && !(c.rc == [45])

set_option maxRecDepth 100000 in
set_option maxHeartbeats 1000000 in
theorem mayFollow_any (rv : RV) (da : Int) (w : World) (h0 : 0 ≤ da) (h1 : da ≤ 2000000) (hb : ∃ a n c, rv.vby = .slice a n c) (hi : ∃ a n c, rv.vif = .slice a n c) :
    Calls Tryd.prog 27 #[.agg rv.cells, .int .i64 da] w fun e w' => e = .returned (.bool (followOk rv.d da)) ∧ Frm [] w w' := by
  obtain ⟨d, rc, tb, vby, wt, ev, rp, vif, co⟩ := rv
  obtain ⟨ab, nb, cb, hb⟩ := hb
  obtain ⟨ai, ni, ci, hi⟩ := hi
  simp only at hb hi
  subst hb hi
  show Calls Tryd.prog 27 #[.agg #[.int .i64 d, .string (bs rc), .bool tb, .slice ab nb cb, .int .i64 wt, .int .i64 ev, .int .i64 rp, .slice ai ni ci, .bool co], .int .i64 da] w _
  by_cases h2 : 1 ≤ d
  · by_cases h3 : d ≤ 5
    · have e2 : decide (1 ≤ d) = true := decide_eq_true h2
      have e3 : decide (d ≤ 5) = true := decide_eq_true h3
      go_enter Tryd.func27, Tryd.ntmps27
      go_wp2
      go_ret
      exact ⟨ret_bool (by simp [followOk, e2, e3]), (Frm.refl _ _).alloc _⟩
    · have e2 : decide (1 ≤ d) = true := decide_eq_true h2
      have e3 : decide (d ≤ 5) = false := decide_eq_false h3
      go_enter Tryd.func27, Tryd.ntmps27
      go_wp2
      go_ret
      exact ⟨ret_bool (by simp [followOk, e2, e3]), (Frm.refl _ _).alloc _⟩
  · have e2 : decide (1 ≤ d) = false := decide_eq_false h2
    go_enter Tryd.func27, Tryd.ntmps27
    go_wp2
    go_ret
    exact ⟨ret_bool (by simp [followOk, e2]), (Frm.refl _ _).alloc _⟩

theorem mayFollow_lit (d : Int) (rc : List UInt8) (tb : Bool) (ab : Option Addr) (nb cb : Nat) (wt ev rp : Int) (ai : Option Addr) (ni ci : Nat) (co : Bool) (da : Int) (w : World) (h0 : 0 ≤ da) (h1 : da ≤ 2000000) :
    Calls Tryd.prog 27 #[.agg #[.int .i64 d, .string (bs rc), .bool tb, .slice ab nb cb, .int .i64 wt, .int .i64 ev, .int .i64 rp, .slice ai ni ci, .bool co], .int .i64 da] w fun e w' => e = .returned (.bool (followOk d da)) ∧ Frm [] w w' :=
  mayFollow_any ⟨d, rc, tb, .slice ab nb cb, wt, ev, rp, .slice ai ni ci, co⟩ da w h0 h1 ⟨_, _, _, rfl⟩ ⟨_, _, _, rfl⟩

set_option maxRecDepth 100000 in
set_option maxHeartbeats 1000000 in
theorem mayBeRoot_any (rv : RV) (ni : Nat) (w : World) (hb : ∃ a n c, rv.vby = .slice a n c) (hi : ∃ a c, rv.vif = .slice a ni c) :
    Calls Tryd.prog 28 #[.agg rv.cells] w fun e w' => e = .returned (.bool ((rv.d == 0) && (ni == 0) && !rv.co && !(rv.rc == [45]))) ∧ Frm [] w w' := by
  obtain ⟨d, rc, tb, vby, wt, ev, rp, vif, co⟩ := rv
  obtain ⟨ab, nb, cb, hb⟩ := hb
  obtain ⟨ai, ci, hi⟩ := hi
  simp only at hb hi
  subst hb hi
  have hl := bs_toList
  have hk : ({ data := #[45] } : ByteArray).toList = [45] := bs_toList [45]
  show Calls Tryd.prog 28 #[.agg #[.int .i64 d, .string (bs rc), .bool tb, .slice ab nb cb, .int .i64 wt, .int .i64 ev, .int .i64 rp, .slice ai ni ci, .bool co]] w _
  cases h1 : (d == 0)
  · go_enter Tryd.func28, Tryd.ntmps28
    go_wp2
    go_ret
    exact ⟨ret_bool (by simp [h1]), (Frm.refl _ _).alloc _⟩
  · cases h2 : ((ni : Int) == 0)
    · have h2' : (ni == 0) = false := by rw [beq_eq_false_iff_ne] at h2 ⊢; omega
      go_enter Tryd.func28, Tryd.ntmps28
      go_wp2
      go_ret
      exact ⟨ret_bool (by simp [h1, h2']), (Frm.refl _ _).alloc _⟩
    · have h2' : (ni == 0) = true := by rw [beq_iff_eq] at h2 ⊢; omega
      cases co
      all_goals
        go_enter Tryd.func28, Tryd.ntmps28
        go_wp2
        go_ret
        exact ⟨ret_bool (by simp [h1, h2']), (Frm.refl _ _).alloc _⟩

theorem mayBeRoot_lit (d : Int) (rc : List UInt8) (tb : Bool) (ab : Option Addr) (nb cb : Nat) (wt ev rp : Int) (ai : Option Addr) (ni ci : Nat) (co : Bool) (w : World) :
    Calls Tryd.prog 28 #[.agg #[.int .i64 d, .string (bs rc), .bool tb, .slice ab nb cb, .int .i64 wt, .int .i64 ev, .int .i64 rp, .slice ai ni ci, .bool co]] w fun e w' => e = .returned (.bool ((d == 0) && (ni == 0) && !co && !(rc == [45]))) ∧ Frm [] w w' :=
  mayBeRoot_any ⟨d, rc, tb, .slice ab nb cb, wt, ev, rp, .slice ai ni ci, co⟩ ni w ⟨_, _, _, rfl⟩ ⟨_, _, rfl⟩

def treeGo : List CR → Nat → Int → Nat
  | [], _, _ => 0
  | c :: r, i, da => if !(if i == 0 then rootOk c else followOk c.d da) || decide (16 ≤ i) then i + 2 else treeGo r (i + 1) c.d
def treeF (C : List CR) : Nat := if C.isEmpty then 2 else treeGo C 0 0

theorem flat_get {α β : Type} (f : α → List β) (s : Nat) (hf : ∀ a, (f a).length = s) : ∀ (L : List α) (j k : Nat) (a : α), L[j]? = some a → k < s → (L.flatMap f)[j * s + k]? = (f a)[k]?
  | [], j, k, a, h, _ => by simp at h
  | x :: L, 0, k, a, h, hk => by
    simp at h; subst h
    rw [Nat.zero_mul, Nat.zero_add, List.flatMap_cons, List.getElem?_append_left (by rw [hf]; exact hk)]
  | x :: L, j + 1, k, a, h, hk => by
    simp at h
    rw [List.flatMap_cons, List.getElem?_append_right (by rw [hf, Nat.add_mul]; omega), hf, show (j + 1) * s + k - s = j * s + k by rw [Nat.add_mul]; omega]
    exact flat_get f s hf L j k a h hk

theorem RL.cell {base : Nat} {w : World} {R : List RV} {g n cap : Nat} (h : RL base w (.slice (some ⟨g, 0, none⟩) n cap) R) {j : Nat} {rv : RV} (hj : R[j]? = some rv) (k : Nat) (hk : k < 9) : w.cell? ⟨g, j * 9 + k, none⟩ = rv.cells[k]? := by
  have h1 := flat_get rcells 9 (fun a => rfl) R j k rv hj hk
  have h2 : (rcells rv)[k]? = rv.cells[k]? := by simp [rcells]
  have h3 := World.ownsRow.cells h (g := g) rfl (j * 9 + k)
  have hlt : k < rv.cells.size := hk
  rw [Array.getElem?_eq_getElem hlt] at h2 ⊢
  have := h3 _ (h1.trans h2)
  rw [add0] at this; exact this

set_option maxRecDepth 100000 in
set_option maxHeartbeats 2000000 in
theorem treeFault_any (base : Nat) (v : Value) (R : List RV) (C : List CR) (w : World) (hr : RL base w v R) (hp : Reps base w R C) (hR : R.length ≤ 1048576) (hd : ∀ c ∈ C, c.d ≤ 1048576) :
    Calls Tryd.prog 17 #[v] w fun e w' => e = .returned (.int .i64 (treeF C)) ∧ Frm [] w w' := by
  obtain ⟨a, cap, rfl⟩ := own_shape hr
  have hcl : R.length = C.length := hp.1
  have HR : Hid (RL base w (.slice a R.length cap) R) := hr
  have HP : Hid (Reps base w R C) := hp
  have HD : Hid (∀ c ∈ C, c.d ≤ 1048576) := hd
  clear hr hp hd
  by_cases h0 : R.length = 0
  · have hg : Hid (treeF C = 2) := by
      show _ = _; unfold treeF; rw [List.eq_nil_of_length_eq_zero (hcl.symm.trans h0)]; rfl
    have hb : ((R.length : Int) == 0) = true := by simp [h0]
    go_enter Tryd.func17, Tryd.ntmps17
    go_wp2_with (go_at_call 26; refine (LineOf_any _ _ (by omega) (by omega)).mono ?_; rintro e w' ⟨rfl, rfl⟩)
    go_ret
    exact ⟨ret_int (by rw [hg.out]; rfl), Frm.refl _ _⟩
  have hb : ((R.length : Int) == 0) = false := beq_eq_false_iff_ne.2 (by omega)
  have hg : Hid (treeF C = treeGo C 0 0) := by
    show _ = _; unfold treeF
    have : C.isEmpty = false := by
      cases C with
      | nil => rw [List.length_nil] at hcl; omega
      | cons => rfl
    rw [this]; rfl
  obtain ⟨g, rfl⟩ : ∃ g, a = some ⟨g, 0, none⟩ := by
    rcases HR.out.2 with ⟨e, h⟩ | ⟨g, c, cur, e, _⟩
    · omega
    · simp at e; exact ⟨g, e.1⟩
  have HCL : Hid (R.length = C.length) := hcl
  clear hcl
  go_enter Tryd.func17, Tryd.ntmps17
  go_wp2_with fail
  go_loopg [3, 13] R.length (fun k vd vi wr => ∃ (j : Nat) (da : Nat), j + k = R.length ∧ vi = .int .i64 j ∧ vd = .int .i64 da ∧ da ≤ 1048576 ∧ treeGo (C.drop j) j da = treeF C ∧ Frm [] w wr)
  case atStart => exact ⟨0, 0, by omega, rfl, rfl, by omega, hg.out.symm, Frm.refl _ _⟩
  case round =>
    obtain ⟨j, da, hj, rfl, rfl, hda, hgo, hfr⟩ := hrel
    have KG : Hid (treeGo (C.drop j) j da = treeF C) := hgo
    have KF : Hid (Frm [] w wr) := hfr
    clear hgo hfr
    by_cases hlt : j < R.length
    · have hcl := HCL.out
      have hjR : R[j]? = some R[j] := List.getElem?_eq_getElem hlt
      have hjC : C[j]? = some (C[j]'(by omega)) := List.getElem?_eq_getElem (by omega)
      have hrep := HP.out.2 j _ _ hjR hjC
      have hdc := HD.out _ (List.getElem_mem (l := C) (n := j) (by omega))
      have Hd : Hid (C.drop j = (C[j]'(by omega)) :: C.drop (j + 1)) := List.drop_eq_getElem_cons (by omega)
      generalize (C[j]'(by omega)) = c at *
      have hr1 : RL base wr (.slice (some ⟨g, 0, none⟩) R.length cap) R := own_frm HR.out KF.out (by simp)
      have hcell := fun k hk => hr1.cell hjR k hk
      generalize R[j] = rv at *
      obtain ⟨d, rc, tb, vby, wt, ev, rp, vif, co⟩ := rv
      have q0 : wr.cell? ⟨g, j * 9, none⟩ = some (.int .i64 d) := hcell 0 (by omega)
      have q1 : wr.cell? ⟨g, j * 9 + 1, none⟩ = some (.string (bs rc)) := hcell 1 (by omega)
      have q2 : wr.cell? ⟨g, j * 9 + 2, none⟩ = some (.bool tb) := hcell 2 (by omega)
      have q3 : wr.cell? ⟨g, j * 9 + 3, none⟩ = some vby := hcell 3 (by omega)
      have q4 : wr.cell? ⟨g, j * 9 + 4, none⟩ = some (.int .i64 wt) := hcell 4 (by omega)
      have q5 : wr.cell? ⟨g, j * 9 + 5, none⟩ = some (.int .i64 ev) := hcell 5 (by omega)
      have q6 : wr.cell? ⟨g, j * 9 + 6, none⟩ = some (.int .i64 rp) := hcell 6 (by omega)
      have q7 : wr.cell? ⟨g, j * 9 + 7, none⟩ = some vif := hcell 7 (by omega)
      have q8 : wr.cell? ⟨g, j * 9 + 8, none⟩ = some (.bool co) := hcell 8 (by omega)
      obtain ⟨ab, cb, eb⟩ := hrep.by_.shape
      obtain ⟨ai, ci, ei⟩ := own_shape hrep.ifs
      have hrd := hrep.d
      have hrc := hrep.rc
      have hco := hrep.co
      simp only at eb ei hrd hrc hco
      subst eb ei hrd hrc hco
      clear hcell hr1 hrep hjR hjC hcl
      have hnew := heap1 wr (Obj.cells #[Value.int IntKind.i64 c.d, Value.string (bs c.rc), Value.bool tb, Value.slice ab c.bys.length cb, Value.int IntKind.i64 wt, Value.int IntKind.i64 ev, Value.int IntKind.i64 rp, Value.slice ai c.ifs.length ci, Value.bool c.co] 62)
      have HN : Hid (RT (wr.alloc (Obj.cells #[Value.int IntKind.i64 c.d, Value.string (bs c.rc), Value.bool tb, Value.slice ab c.bys.length cb, Value.int IntKind.i64 wt, Value.int IntKind.i64 ev, Value.int IntKind.i64 rp, Value.slice ai c.ifs.length ci, Value.bool c.co] 62)) wr.heap.size ⟨c.d, c.rc, tb, .slice ab c.bys.length cb, wt, ev, rp, .slice ai c.ifs.length ci, c.co⟩) := hnew
      clear hnew
      have Hst : Hid (treeF C = if !(if j == 0 then rootOk c else followOk c.d da) || decide (16 ≤ j) then j + 2 else treeGo (C.drop (j + 1)) (j + 1) c.d) := by
        show _ = _; rw [← KG.out, Hd.out]; rfl
      clear KG Hd
      go_wp2_with fail
      refine (mayFollow_lit c.d c.rc tb ab _ cb wt ev rp ai _ ci c.co da _ (by omega) (by omega)).mono ?_
      rintro e w1 ⟨rfl, hf1⟩
      have KF1 : Hid (Frm [] w w1) := (KF.out.alloc _).trans hf1
      have hn1 := HN.out.frm hf1 (by simp)
      have HN1 : Hid (RT w1 wr.heap.size ⟨c.d, c.rc, tb, .slice ab c.bys.length cb, wt, ev, rp, .slice ai c.ifs.length ci, c.co⟩) := hn1
      have q0 : w1.cell? ⟨wr.heap.size, 0, none⟩ = some (.int .i64 c.d) := hn1.cell 0
      have q1 : w1.cell? ⟨wr.heap.size, 1, none⟩ = some (.string (bs c.rc)) := hn1.cell 1
      have q2 : w1.cell? ⟨wr.heap.size, 2, none⟩ = some (.bool tb) := hn1.cell 2
      have q3 : w1.cell? ⟨wr.heap.size, 3, none⟩ = some (.slice ab c.bys.length cb) := hn1.cell 3
      have q4 : w1.cell? ⟨wr.heap.size, 4, none⟩ = some (.int .i64 wt) := hn1.cell 4
      have q5 : w1.cell? ⟨wr.heap.size, 5, none⟩ = some (.int .i64 ev) := hn1.cell 5
      have q6 : w1.cell? ⟨wr.heap.size, 6, none⟩ = some (.int .i64 rp) := hn1.cell 6
      have q7 : w1.cell? ⟨wr.heap.size, 7, none⟩ = some (.slice ai c.ifs.length ci) := hn1.cell 7
      have q8 : w1.cell? ⟨wr.heap.size, 8, none⟩ = some (.bool c.co) := hn1.cell 8
      clear hf1 hn1 HN
      by_cases hj0 : j = 0
      · subst hj0
        have hrt : rootOk c = (((c.d : Int) == 0) && (c.ifs.length == 0) && !c.co && !(c.rc == [45])) := by
          unfold rootOk
          have e1 : ((c.d : Int) == 0) = (c.d == 0) := by
            rw [Bool.eq_iff_iff]; simp
          have e2 : (c.ifs.length == 0) = c.ifs.isEmpty := by cases c.ifs <;> rfl
          rw [e1, e2]
        have Hrt := hide hrt
        clear hrt
        go_wp2_with fail
        refine (mayBeRoot_lit c.d c.rc tb ab _ cb wt ev rp ai _ ci c.co _).mono ?_
        rintro e w2 ⟨rfl, hf2⟩
        have KF2 : Hid (Frm [] w w2) := KF1.out.trans hf2
        have q0' : w2.cell? ⟨wr.heap.size, 0, none⟩ = some (.int .i64 c.d) := (HN1.out.frm hf2 (by simp)).cell 0
        rw [← Hrt.out]
        clear hf2 q0 q1 q2 q3 q4 q5 q6 q7 q8
        cases hok : rootOk c
        · have Hx : Hid (treeF C = 2) := by show _ = _; rw [Hst.out, hok]; rfl
          go_wp2_with (go_at_call 26; refine (LineOf_any _ _ (by omega) (by omega)).mono ?_; rintro e w' ⟨rfl, rfl⟩)
          go_ret
          exact ⟨ret_int (by rw [Hx.out]; rfl), KF2.out⟩
        · have Hx : Hid (treeGo (C.drop 1) 1 c.d = treeF C) := by show _ = _; rw [Hst.out, hok]; rfl
          go_wp2
          go_roundg (gk - 1)
          case measure => omega
          case rel => exact ⟨1, c.d, by omega, by go_num, rfl, hdc, Hx.out, KF2.out⟩
      · have hj0' : ((j : Int) == 0) = false := beq_eq_false_iff_ne.2 (by omega)
        have hjn : (j == 0) = false := beq_eq_false_iff_ne.2 hj0
        cases hok : followOk c.d da
        · have Hx : Hid (treeF C = j + 2) := by show _ = _; rw [Hst.out, hok, hjn]; rfl
          go_wp2_with (go_at_call 26; refine (LineOf_any _ _ (by omega) (by omega)).mono ?_; rintro e w' ⟨rfl, rfl⟩)
          go_ret
          exact ⟨ret_int (by rw [Hx.out]; simp), KF1.out⟩
        · by_cases h16 : 16 ≤ j
          · have Hx : Hid (treeF C = j + 2) := by show _ = _; rw [Hst.out, hok, hjn]; simp [h16]
            go_wp2_with (go_at_call 26; refine (LineOf_any _ _ (by omega) (by omega)).mono ?_; rintro e w' ⟨rfl, rfl⟩)
            go_ret
            exact ⟨ret_int (by rw [Hx.out]; simp), KF1.out⟩
          · have Hx : Hid (treeGo (C.drop (j + 1)) (j + 1) c.d = treeF C) := by show _ = _; rw [Hst.out, hok, hjn]; simp [h16]
            go_wp2
            go_roundg (gk - 1)
            case measure => omega
            case rel => exact ⟨j + 1, c.d, by omega, by go_num, rfl, hdc, Hx.out, KF1.out⟩
    · have hgz : Hid (treeF C = 0) := by
        show _ = _; rw [← KG.out, List.drop_eq_nil_of_le (by have := HCL.out; omega)]; rfl
      go_wp2
      go_ret
      exact ⟨ret_int (by rw [hgz.out]; rfl), KF.out⟩

end Go.Proofs.YtjnaekffodgdcaaDoor
