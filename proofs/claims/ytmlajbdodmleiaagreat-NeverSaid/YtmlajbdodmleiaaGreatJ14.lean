import Derived.Test.YtmlajbdodmleiaaGreatJ8
import Derived.Laws.CopyOwn
import Derived.Laws.MakeOwn
set_option linter.unusedVariables false
set_option linter.unusedSimpArgs false
set_option linter.unnecessarySimpa false
namespace Go.Proofs.YtmlajbdodmleiaaGreat
open Go.RowKit

theorem addQ (g q j : Nat) : (⟨g, q, none⟩ : Addr).add j = ⟨g, q + j, none⟩ := by unfold Addr.add; split <;> simp_all
theorem alloc_at (w : World) (o : Obj) (k : Nat) (h : w.heap.size = k) : (w.alloc o).heap[k]? = some o := by subst h; exact heap1 w o
def HitBQ (x : HitM) (w : World) (e : Ending) (w' : World) : Prop :=
  ∃ g, e = .returned (.agg (hcell x (.slice (some ⟨g, 0, none⟩) x.bl.length x.bl.length))) ∧ Frm [] w w' ∧ w.heap.size ≤ g ∧ g < w'.heap.size ∧ RW [] 1 w' (.slice (some ⟨g, 0, none⟩) x.bl.length x.bl.length) (sc x.bl)

theorem copy_strs (W : World) (g : Nat) (bl : List (List UInt8)) (ax : Option Addr) (cx : Nat) (Z : List Value) (hZ : Z.length = bl.length) (hg : W.heap[g]? = some (.cells Z.toArray 9 (0, 0))) (hr : RW [] 1 W (.slice ax bl.length cx) (sc bl)) :
    ∃ W4, (Builtin.copy_ #[47, 47] 3 #[.slice (some ⟨g, 0, none⟩) bl.length bl.length, .slice ax bl.length cx]).run Tryz.prog W = .ok (.int .i64 (bl.length : Int)) W4 ∧ W4.heap[g]? = some (.cells (bl.map fun s => Value.string (bs s)).toArray 9 (0, 0)) ∧ Below g W W4 := by
  by_cases h0 : bl = []
  · subst h0
    obtain rfl : Z = [] := List.eq_nil_of_length_eq_zero hZ
    exact ⟨W, run_copy_none (P := Tryz.prog) W 47 47 3 9 _ _ 0 0 0 cx Tryz.underlying47 infoStr1 rfl, hg, Below.refl _ _⟩
  · have hpos : 0 < bl.length := List.length_pos_iff.2 h0
    obtain ⟨a', c', e, hrow⟩ := hr.str
    simp only [Value.slice.injEq, true_and] at e
    obtain ⟨rfl, rfl⟩ := e
    obtain ⟨ga, oa, rfl, _, _⟩ := hrow 0 hpos
    have hl : (bl.map fun s => Value.string (bs s)).length = bl.length := by simp
    have hrun := run_copy_row Tryz.prog W 47 47 3 9 g 0 bl.length bl.length ⟨ga, oa, none⟩ bl.length cx Z.toArray 9 (bl.map fun s => Value.string (bs s)) Tryz.underlying47 infoStr1 hg (by rw [hl]; exact (Nat.min_self _).symm) (by
      intro j v hv
      rw [List.getElem?_map, Option.map_eq_some_iff] at hv
      obtain ⟨y, hy, rfl⟩ := hv
      obtain ⟨hj, rfl⟩ := List.getElem?_eq_some_iff.1 hy
      obtain ⟨g', off', e', hg', hc'⟩ := hrow j hj
      simp only [Option.some.injEq, Addr.mk.injEq, and_true] at e'
      obtain ⟨rfl, rfl⟩ := e'
      rw [addQ]
      exact hc') (by simp [hZ]) (by
      intro v hv
      obtain ⟨y, _, rfl⟩ := List.mem_map.1 hv
      rfl)
    rw [hl] at hrun
    refine ⟨_, hrun, ?_, below_setRow (Below.refl _ _) (Nat.le_refl _) _⟩
    rw [setRow_heap W g _ _ 9 _ hg]
    have e2 : Z.drop bl.length = [] := List.drop_eq_nil_of_le (by omega)
    simp [e2]

set_option maxRecDepth 100000 in
set_option maxHeartbeats 8000000 in
theorem hitBelow_any (x : HitM) (c : CR) (aa : Option Addr) (ca : Nat) (vby vif : Value) (w : World) (ha : RW [] 1 w (.slice aa x.bl.length ca) (sc x.bl)) (hb : RW [] 1 w vby (sc c.bys)) (hif : ∃ ai ci, vif = .slice ai c.ifs.length ci) (hx : x.bl.length ≤ 1000) (hc : c.bys.length ≤ 1000) (hw : -1 ≤ c.wt ∧ -1 ≤ c.ev ∧ -1 ≤ c.rp) :
    Calls Tryz.prog 49 #[.agg (hcell x (.slice aa x.bl.length ca)), .agg (rcl c vby vif)] w (HitBQ (hitB x c) w) := by
  obtain ⟨ai, ci, rfl⟩ := hif
  obtain ⟨ay, cy, rfl, _⟩ := hb.str
  have T1 : Hid (∀ W, Calls Tryz.prog 61 #[.int .i64 c.wt, .int .i64 (x.wt : Nat)] W fun e w' => e = .returned (.int .i64 (tld c.wt x.wt : Nat)) ∧ W = w') := fun W => toldOr_any W c.wt x.wt hw.1
  have T2 : Hid (∀ W, Calls Tryz.prog 61 #[.int .i64 c.ev, .int .i64 (x.ev : Nat)] W fun e w' => e = .returned (.int .i64 (tld c.ev x.ev : Nat)) ∧ W = w') := fun W => toldOr_any W c.ev x.ev hw.2.1
  have T3 : Hid (∀ W, Calls Tryz.prog 61 #[.int .i64 c.rp, .int .i64 (x.rp : Nat)] W fun e w' => e = .returned (.int .i64 (tld c.rp x.rp : Nat)) ∧ W = w') := fun W => toldOr_any W c.rp x.rp hw.2.2
  obtain ⟨rc2, hrc2⟩ : ∃ rc2, rc2 = if c.rc == [45] then x.rc else c.rc := ⟨_, rfl⟩
  obtain ⟨bl, hbl⟩ : ∃ bl, bl = if c.tb then c.bys else x.bl := ⟨_, rfl⟩
  have HH : Hid (hitB x c = ⟨rc2, bl, tld c.wt x.wt, tld c.ev x.ev, tld c.rp x.rp⟩) := by show _ = _; rw [hrc2, hbl]; rfl
  obtain ⟨ax, cx, hvx, hRx⟩ : ∃ ax cx, (if c.tb then Value.slice ay c.bys.length cy else .slice aa x.bl.length ca) = .slice ax bl.length cx ∧ RW [] 1 w (.slice ax bl.length cx) (sc bl) := by
    cases htb : c.tb
    · rw [htb] at hbl
      simp only [Bool.false_eq_true, if_false] at hbl
      subst hbl
      exact ⟨aa, ca, rfl, ha⟩
    · rw [htb] at hbl
      simp only [if_true] at hbl
      subst hbl
      exact ⟨ay, cy, rfl, hb⟩
  have hlen : bl.length ≤ 1000 := by rw [hbl]; split <;> omega
  obtain ⟨Zl, hZ⟩ : ∃ Zl : List Value, Zl = (madeCells #[.string ByteArray.empty] bl.length).toList := ⟨_, rfl⟩
  have HZL : Hid (Zl.length = bl.length) := by show _ = _; rw [hZ, Array.length_toList]; exact size_madeCells _ _
  have hmk : ∀ u : World, (Instr.makeSlice 47 (.int .i64 (bl.length : Int)) (.int .i64 (bl.length : Int))).run Tryz.prog u = .ok (.slice (some ⟨u.heap.size, 0, none⟩) bl.length bl.length) (u.alloc (.cells Zl.toArray 9)) := fun u => by
    obtain ⟨i0, hi, hz0, hz1, hz2⟩ := info_parts2 infoStr
    have := run_make (P := Tryz.prog) u 47 9 i0 (.string ByteArray.empty) Tryz.underlying47 hi hz0 .i64 .i64 (bl.length : Int) (bl.length : Int) (by omega) (Int.le_refl _) (by rw [hz2]; omega) (by omega)
    rw [hz1, Int.toNat_natCast, Nat.mul_one] at this
    rw [this, hZ]; rfl
  have FW : Frm [] w (((((w.alloc (Obj.cells #[.string (bs x.rc), .slice aa x.bl.length ca, .int .i64 (x.wt : Nat), .int .i64 (x.ev : Nat), .int .i64 (x.rp : Nat)] 61)).alloc (Obj.cells #[.int .i64 (c.d : Nat), .string (bs c.rc), .bool c.tb, .slice ay c.bys.length cy, .int .i64 c.wt, .int .i64 c.ev, .int .i64 c.rp, .slice ai c.ifs.length ci, .bool c.co] 89)).alloc (Obj.cells #[.string { data := #[] }, .slice none 0 0, .int .i64 0, .int .i64 0, .int .i64 0] 61)).alloc (Obj.cells #[.string (bs rc2), .slice (some ⟨w.heap.size + 1 + 1 + 1 + 1, 0, none⟩) bl.length bl.length, .int .i64 0, .int .i64 0, .int .i64 0] 61)).alloc (Obj.cells Zl.toArray 9)) := (((((Frm.refl [] w).alloc _).alloc _).alloc _).alloc _).alloc _
  obtain ⟨w4, hcp, HG4, hB4⟩ := copy_strs (((((w.alloc (Obj.cells #[.string (bs x.rc), .slice aa x.bl.length ca, .int .i64 (x.wt : Nat), .int .i64 (x.ev : Nat), .int .i64 (x.rp : Nat)] 61)).alloc (Obj.cells #[.int .i64 (c.d : Nat), .string (bs c.rc), .bool c.tb, .slice ay c.bys.length cy, .int .i64 c.wt, .int .i64 c.ev, .int .i64 c.rp, .slice ai c.ifs.length ci, .bool c.co] 89)).alloc (Obj.cells #[.string { data := #[] }, .slice none 0 0, .int .i64 0, .int .i64 0, .int .i64 0] 61)).alloc (Obj.cells #[.string (bs rc2), .slice (some ⟨w.heap.size + 1 + 1 + 1 + 1, 0, none⟩) bl.length bl.length, .int .i64 0, .int .i64 0, .int .i64 0] 61)).alloc (Obj.cells Zl.toArray 9)) (w.heap.size + 1 + 1 + 1 + 1) bl ax cx Zl HZL.out (alloc_at _ _ _ (by simp)) (hRx.frm FW (by simp))
  have F4 := hide (FW.below_trans hB4 (by omega))
  have C0 := (hB4.block w.heap.size (by omega)).trans (((((((Frm.refl [] _).alloc _).alloc _).alloc _).alloc _).block w.heap.size (by simp) (by simp)).trans (heap1 _ _))
  have C1 := (hB4.block (w.heap.size + 1) (by omega)).trans ((((((Frm.refl [] _).alloc _).alloc _).alloc _).block (w.heap.size + 1) (by simp) (by simp)).trans (alloc_at _ _ (w.heap.size + 1) (by simp)))
  have C2 := (hB4.block (w.heap.size + 1 + 1) (by omega)).trans (((((Frm.refl [] _).alloc _).alloc _).block (w.heap.size + 1 + 1) (by simp) (by simp)).trans (alloc_at _ _ (w.heap.size + 1 + 1) (by simp)))
  have C3 := (hB4.block (w.heap.size + 1 + 1 + 1) (by omega)).trans ((((Frm.refl [] _).alloc _).block (w.heap.size + 1 + 1 + 1) (by simp) (by simp)).trans (alloc_at _ _ (w.heap.size + 1 + 1 + 1) (by simp)))
  have a2 : w4.cell? ⟨w.heap.size, 2, none⟩ = some (.int .i64 (x.wt : Nat)) := by simp [World.cell?, C0]
  have a3 : w4.cell? ⟨w.heap.size, 3, none⟩ = some (.int .i64 (x.ev : Nat)) := by simp [World.cell?, C0]
  have a4 : w4.cell? ⟨w.heap.size, 4, none⟩ = some (.int .i64 (x.rp : Nat)) := by simp [World.cell?, C0]
  have r4 : w4.cell? ⟨w.heap.size + 1, 4, none⟩ = some (.int .i64 c.wt) := by simp [World.cell?, C1]
  have r5 : w4.cell? ⟨w.heap.size + 1, 5, none⟩ = some (.int .i64 c.ev) := by simp [World.cell?, C1]
  have r6 : w4.cell? ⟨w.heap.size + 1, 6, none⟩ = some (.int .i64 c.rp) := by simp [World.cell?, C1]
  have e0 : w4.cell? ⟨w.heap.size + 1 + 1, 0, none⟩ = some (.string { data := #[] }) := by simp [World.cell?, C2]
  have e1 : w4.cell? ⟨w.heap.size + 1 + 1, 1, none⟩ = some (.slice none 0 0) := by simp [World.cell?, C2]
  have e2 : w4.cell? ⟨w.heap.size + 1 + 1, 2, none⟩ = some (.int .i64 0) := by simp [World.cell?, C2]
  have e3 : w4.cell? ⟨w.heap.size + 1 + 1, 3, none⟩ = some (.int .i64 0) := by simp [World.cell?, C2]
  have e4 : w4.cell? ⟨w.heap.size + 1 + 1, 4, none⟩ = some (.int .i64 0) := by simp [World.cell?, C2]
  have ez : ∀ o, w4.frozen? ⟨w.heap.size + 1 + 1, o, none⟩ = false := fun o => by simp [World.frozen?, C2]
  have h0 : w4.cell? ⟨w.heap.size + 1 + 1 + 1, 0, none⟩ = some (.string (bs rc2)) := by simp [World.cell?, C3]
  have h1 : w4.cell? ⟨w.heap.size + 1 + 1 + 1, 1, none⟩ = some (.slice (some ⟨w.heap.size + 1 + 1 + 1 + 1, 0, none⟩) bl.length bl.length) := by simp [World.cell?, C3]
  have h2 : w4.cell? ⟨w.heap.size + 1 + 1 + 1, 2, none⟩ = some (.int .i64 0) := by simp [World.cell?, C3]
  have h3 : w4.cell? ⟨w.heap.size + 1 + 1 + 1, 3, none⟩ = some (.int .i64 0) := by simp [World.cell?, C3]
  have h4 : w4.cell? ⟨w.heap.size + 1 + 1 + 1, 4, none⟩ = some (.int .i64 0) := by simp [World.cell?, C3]
  have hz4 : ∀ o, w4.frozen? ⟨w.heap.size + 1 + 1 + 1, o, none⟩ = false := fun o => by simp [World.frozen?, C3]
  have C2H := hide C2
  have HG := hide HG4
  have hsz4 : w.heap.size + 1 + 1 + 1 + 1 < w4.heap.size := (Array.getElem?_eq_some_iff.1 HG4).1
  have hl := bs_toList
  have hk45 : ({ data := #[45] } : ByteArray).toList = [45] := bs_toList [45]
  clear C0 C1 C2 C3 hB4 FW HG4 ha hb hRx hZ
  simp only [hcell, rcl]
  go_enter Tryz.func49, Tryz.ntmps49
  cases htb : c.tb <;> cases hrc : (c.rc == [45])
  all_goals
    rw [htb] at hbl hvx hcp
    rw [hrc] at hrc2
    simp only [Bool.false_eq_true, if_false, if_true, Value.slice.injEq] at hbl hvx hrc2
    subst hbl hrc2
    obtain ⟨rfl, _, rfl⟩ := hvx
  · go_wp2_with fail
    refine (T1.out _).mono ?_
    rintro e w' ⟨rfl, rfl⟩
    go_wp2_with fail
    refine (T2.out _).mono ?_
    rintro e w' ⟨rfl, rfl⟩
    go_wp2_with fail
    refine (T3.out _).mono ?_
    rintro e w' ⟨rfl, rfl⟩
    go_wp2_with fail
    have FS : ∀ (u : World) (o : Nat) (v : Value), Frm [w.heap.size + 1 + 1 + 1] u (u.setCell ⟨w.heap.size + 1 + 1 + 1, o, none⟩ v) := fun u o v => (Frm.refl _ _).setCell (p := ⟨w.heap.size + 1 + 1 + 1, o, none⟩) (.inl (by simp)) _
    have hs1 := fun (u : World) (o : Nat) (v : Value) => (FS u o v).size
    refine bodyPost_ret (results_cell1 rfl _ _ (w.heap.size + 1 + 1) (hcell ⟨c.rc, x.bl, tld c.wt x.wt, tld c.ev x.ev, tld c.rp x.rp⟩ (.slice (some ⟨w.heap.size + 1 + 1 + 1 + 1, 0, none⟩) x.bl.length x.bl.length)) rfl (loadHit (set5_row _ _ _ _ _ (((FS _ _ _).block (w.heap.size + 1 + 1) (by have := hs1; simp; omega) (by simp)).trans (((FS _ _ _).block (w.heap.size + 1 + 1) (by simp; omega) (by simp)).trans (((FS _ _ _).block (w.heap.size + 1 + 1) (by omega) (by simp)).trans C2H.out)))) rfl)) rfl ?_
    have R4 : RW [w.heap.size + 1 + 1, w.heap.size + 1 + 1 + 1] 1 w4 (.slice (some ⟨w.heap.size + 1 + 1 + 1 + 1, 0, none⟩) x.bl.length x.bl.length) (sc x.bl) := by
      refine ⟨_, x.bl.length, by rw [sc_len], by rw [sc_len]; exact Nat.le_refl _, fun j hj => ⟨w.heap.size + 1 + 1 + 1 + 1, 0, rfl, by simp <;> omega, hsz4, fun k u hu => ?_⟩⟩
      rw [sc_len] at hj
      have hu2 : k = 0 := by
        cases k with
        | zero => rfl
        | succ k => simp [sc] at hu
      subst hu2
      simp [sc] at hu
      subst hu
      simp [World.cell?, HG.out, hj]
    rw [HH.out]
    refine ⟨w.heap.size + 1 + 1 + 1 + 1, rfl, ?_, by omega, ?_, ?_⟩
    · exact (((F4.out.over (FS _ _ _) (by simp; omega)).over (FS _ _ _) (by simp; omega)).over (FS _ _ _) (by simp; omega)).over (set5_frm _ _ _ _ _ _ _) (by simp; omega)
    · exact Nat.lt_of_lt_of_le hsz4 (Nat.le_trans (Nat.le_trans (Nat.le_trans (FS _ _ _).size (FS _ _ _).size) (FS _ _ _).size) (set5_frm _ _ _ _ _ _ _).size)
    · exact ((((R4.frm (FS _ _ _) (by simp)).frm (FS _ _ _) (by simp)).frm (FS _ _ _) (by simp)).frm (set5_frm _ _ _ _ _ _ _) (by simp)).avoid (by simp)
  · go_wp2_with fail
    refine (T1.out _).mono ?_
    rintro e w' ⟨rfl, rfl⟩
    go_wp2_with fail
    refine (T2.out _).mono ?_
    rintro e w' ⟨rfl, rfl⟩
    go_wp2_with fail
    refine (T3.out _).mono ?_
    rintro e w' ⟨rfl, rfl⟩
    go_wp2_with fail
    have FS : ∀ (u : World) (o : Nat) (v : Value), Frm [w.heap.size + 1 + 1 + 1] u (u.setCell ⟨w.heap.size + 1 + 1 + 1, o, none⟩ v) := fun u o v => (Frm.refl _ _).setCell (p := ⟨w.heap.size + 1 + 1 + 1, o, none⟩) (.inl (by simp)) _
    have hs1 := fun (u : World) (o : Nat) (v : Value) => (FS u o v).size
    refine bodyPost_ret (results_cell1 rfl _ _ (w.heap.size + 1 + 1) (hcell ⟨x.rc, x.bl, tld c.wt x.wt, tld c.ev x.ev, tld c.rp x.rp⟩ (.slice (some ⟨w.heap.size + 1 + 1 + 1 + 1, 0, none⟩) x.bl.length x.bl.length)) rfl (loadHit (set5_row _ _ _ _ _ (((FS _ _ _).block (w.heap.size + 1 + 1) (by have := hs1; simp; omega) (by simp)).trans (((FS _ _ _).block (w.heap.size + 1 + 1) (by simp; omega) (by simp)).trans (((FS _ _ _).block (w.heap.size + 1 + 1) (by omega) (by simp)).trans C2H.out)))) rfl)) rfl ?_
    have R4 : RW [w.heap.size + 1 + 1, w.heap.size + 1 + 1 + 1] 1 w4 (.slice (some ⟨w.heap.size + 1 + 1 + 1 + 1, 0, none⟩) x.bl.length x.bl.length) (sc x.bl) := by
      refine ⟨_, x.bl.length, by rw [sc_len], by rw [sc_len]; exact Nat.le_refl _, fun j hj => ⟨w.heap.size + 1 + 1 + 1 + 1, 0, rfl, by simp <;> omega, hsz4, fun k u hu => ?_⟩⟩
      rw [sc_len] at hj
      have hu2 : k = 0 := by
        cases k with
        | zero => rfl
        | succ k => simp [sc] at hu
      subst hu2
      simp [sc] at hu
      subst hu
      simp [World.cell?, HG.out, hj]
    rw [HH.out]
    refine ⟨w.heap.size + 1 + 1 + 1 + 1, rfl, ?_, by omega, ?_, ?_⟩
    · exact (((F4.out.over (FS _ _ _) (by simp; omega)).over (FS _ _ _) (by simp; omega)).over (FS _ _ _) (by simp; omega)).over (set5_frm _ _ _ _ _ _ _) (by simp; omega)
    · exact Nat.lt_of_lt_of_le hsz4 (Nat.le_trans (Nat.le_trans (Nat.le_trans (FS _ _ _).size (FS _ _ _).size) (FS _ _ _).size) (set5_frm _ _ _ _ _ _ _).size)
    · exact ((((R4.frm (FS _ _ _) (by simp)).frm (FS _ _ _) (by simp)).frm (FS _ _ _) (by simp)).frm (set5_frm _ _ _ _ _ _ _) (by simp)).avoid (by simp)
  · go_wp2_with fail
    refine (T1.out _).mono ?_
    rintro e w' ⟨rfl, rfl⟩
    go_wp2_with fail
    refine (T2.out _).mono ?_
    rintro e w' ⟨rfl, rfl⟩
    go_wp2_with fail
    refine (T3.out _).mono ?_
    rintro e w' ⟨rfl, rfl⟩
    go_wp2_with fail
    have FS : ∀ (u : World) (o : Nat) (v : Value), Frm [w.heap.size + 1 + 1 + 1] u (u.setCell ⟨w.heap.size + 1 + 1 + 1, o, none⟩ v) := fun u o v => (Frm.refl _ _).setCell (p := ⟨w.heap.size + 1 + 1 + 1, o, none⟩) (.inl (by simp)) _
    have hs1 := fun (u : World) (o : Nat) (v : Value) => (FS u o v).size
    refine bodyPost_ret (results_cell1 rfl _ _ (w.heap.size + 1 + 1) (hcell ⟨c.rc, c.bys, tld c.wt x.wt, tld c.ev x.ev, tld c.rp x.rp⟩ (.slice (some ⟨w.heap.size + 1 + 1 + 1 + 1, 0, none⟩) c.bys.length c.bys.length)) rfl (loadHit (set5_row _ _ _ _ _ (((FS _ _ _).block (w.heap.size + 1 + 1) (by have := hs1; simp; omega) (by simp)).trans (((FS _ _ _).block (w.heap.size + 1 + 1) (by simp; omega) (by simp)).trans (((FS _ _ _).block (w.heap.size + 1 + 1) (by omega) (by simp)).trans C2H.out)))) rfl)) rfl ?_
    have R4 : RW [w.heap.size + 1 + 1, w.heap.size + 1 + 1 + 1] 1 w4 (.slice (some ⟨w.heap.size + 1 + 1 + 1 + 1, 0, none⟩) c.bys.length c.bys.length) (sc c.bys) := by
      refine ⟨_, c.bys.length, by rw [sc_len], by rw [sc_len]; exact Nat.le_refl _, fun j hj => ⟨w.heap.size + 1 + 1 + 1 + 1, 0, rfl, by simp <;> omega, hsz4, fun k u hu => ?_⟩⟩
      rw [sc_len] at hj
      have hu2 : k = 0 := by
        cases k with
        | zero => rfl
        | succ k => simp [sc] at hu
      subst hu2
      simp [sc] at hu
      subst hu
      simp [World.cell?, HG.out, hj]
    rw [HH.out]
    refine ⟨w.heap.size + 1 + 1 + 1 + 1, rfl, ?_, by omega, ?_, ?_⟩
    · exact (((F4.out.over (FS _ _ _) (by simp; omega)).over (FS _ _ _) (by simp; omega)).over (FS _ _ _) (by simp; omega)).over (set5_frm _ _ _ _ _ _ _) (by simp; omega)
    · exact Nat.lt_of_lt_of_le hsz4 (Nat.le_trans (Nat.le_trans (Nat.le_trans (FS _ _ _).size (FS _ _ _).size) (FS _ _ _).size) (set5_frm _ _ _ _ _ _ _).size)
    · exact ((((R4.frm (FS _ _ _) (by simp)).frm (FS _ _ _) (by simp)).frm (FS _ _ _) (by simp)).frm (set5_frm _ _ _ _ _ _ _) (by simp)).avoid (by simp)
  · go_wp2_with fail
    refine (T1.out _).mono ?_
    rintro e w' ⟨rfl, rfl⟩
    go_wp2_with fail
    refine (T2.out _).mono ?_
    rintro e w' ⟨rfl, rfl⟩
    go_wp2_with fail
    refine (T3.out _).mono ?_
    rintro e w' ⟨rfl, rfl⟩
    go_wp2_with fail
    have FS : ∀ (u : World) (o : Nat) (v : Value), Frm [w.heap.size + 1 + 1 + 1] u (u.setCell ⟨w.heap.size + 1 + 1 + 1, o, none⟩ v) := fun u o v => (Frm.refl _ _).setCell (p := ⟨w.heap.size + 1 + 1 + 1, o, none⟩) (.inl (by simp)) _
    have hs1 := fun (u : World) (o : Nat) (v : Value) => (FS u o v).size
    refine bodyPost_ret (results_cell1 rfl _ _ (w.heap.size + 1 + 1) (hcell ⟨x.rc, c.bys, tld c.wt x.wt, tld c.ev x.ev, tld c.rp x.rp⟩ (.slice (some ⟨w.heap.size + 1 + 1 + 1 + 1, 0, none⟩) c.bys.length c.bys.length)) rfl (loadHit (set5_row _ _ _ _ _ (((FS _ _ _).block (w.heap.size + 1 + 1) (by have := hs1; simp; omega) (by simp)).trans (((FS _ _ _).block (w.heap.size + 1 + 1) (by simp; omega) (by simp)).trans (((FS _ _ _).block (w.heap.size + 1 + 1) (by omega) (by simp)).trans C2H.out)))) rfl)) rfl ?_
    have R4 : RW [w.heap.size + 1 + 1, w.heap.size + 1 + 1 + 1] 1 w4 (.slice (some ⟨w.heap.size + 1 + 1 + 1 + 1, 0, none⟩) c.bys.length c.bys.length) (sc c.bys) := by
      refine ⟨_, c.bys.length, by rw [sc_len], by rw [sc_len]; exact Nat.le_refl _, fun j hj => ⟨w.heap.size + 1 + 1 + 1 + 1, 0, rfl, by simp <;> omega, hsz4, fun k u hu => ?_⟩⟩
      rw [sc_len] at hj
      have hu2 : k = 0 := by
        cases k with
        | zero => rfl
        | succ k => simp [sc] at hu
      subst hu2
      simp [sc] at hu
      subst hu
      simp [World.cell?, HG.out, hj]
    rw [HH.out]
    refine ⟨w.heap.size + 1 + 1 + 1 + 1, rfl, ?_, by omega, ?_, ?_⟩
    · exact (((F4.out.over (FS _ _ _) (by simp; omega)).over (FS _ _ _) (by simp; omega)).over (FS _ _ _) (by simp; omega)).over (set5_frm _ _ _ _ _ _ _) (by simp; omega)
    · exact Nat.lt_of_lt_of_le hsz4 (Nat.le_trans (Nat.le_trans (Nat.le_trans (FS _ _ _).size (FS _ _ _).size) (FS _ _ _).size) (set5_frm _ _ _ _ _ _ _).size)
    · exact ((((R4.frm (FS _ _ _) (by simp)).frm (FS _ _ _) (by simp)).frm (FS _ _ _) (by simp)).frm (set5_frm _ _ _ _ _ _ _) (by simp)).avoid (by simp)
end Go.Proofs.YtmlajbdodmleiaaGreat

namespace Go.Proofs.YtmlajbdodmleiaaGreat
open Go.RowKit

theorem hitsN_len (C : List CR) : ∀ n, (hitsN C n).length = n
  | 0 => rfl
  | n + 1 => by rw [hitsN]; simp [hitsN_len C n]
theorem hitsN_at (C : List CR) (j : Nat) (hj : j < C.length) : hitsN C (j + 1) = hitsN C j ++ [hitB (aboveH C (hitsN C j) j) C[j]] := by
  rw [hitsN, List.getElem?_eq_getElem hj]
theorem hitB_few {C : List CR} (hb : ∀ c ∈ C, c.bys.length ≤ 4) : ∀ n, ∀ x ∈ hitsN C n, x.bl.length ≤ 4
  | 0, x, h => by simp [hitsN] at h
  | n + 1, x, h => by
    rw [hitsN, List.mem_append, List.mem_singleton] at h
    rcases h with h | rfl
    · exact hitB_few hb n x h
    · split
      · rename_i c hc
        have h1 := hb c (List.mem_of_getElem? hc)
        have h2 : (aboveH C (hitsN C n) n).bl.length ≤ 4 := by
          unfold aboveH
          split
          · rename_i p _
            by_cases hp : p < (hitsN C n).length
            · rw [List.getD_eq_getElem?_getD, List.getElem?_eq_getElem hp]
              exact hitB_few hb n _ (List.getElem_mem hp)
            · rw [List.getD_eq_getElem?_getD, List.getElem?_eq_none (by omega)]; simp [rootH]
          · simp [rootH]
        simp only [hitB]
        split <;> assumption
      · simp [rootH]
theorem par_lt {C : List CR} {j p : Nat} (h : par C j = some p) : p < j := by
  unfold par at h
  split at h
  · exact (parGo_some' h)
  · cases h
 where
  parGo_some' {C : List CR} {d : Nat} : ∀ {i p : Nat}, parGo C d i = some p → p < i
  | 0, p, h => by simp [parGo] at h
  | j + 1, p, h => by
    rw [parGo] at h
    split at h
    · cases h; omega
    · have := parGo_some' h; omega
theorem hcell_at (w : World) (h1 : List UInt8) (h2 : List (List UInt8)) (h3 h4 h5 g : Nat) (j : Nat) (u : Value) (hu : (hcell ⟨h1, h2, h3, h4, h5⟩ (.slice (some ⟨g, 0, none⟩) h2.length h2.length)).toList[j]? = some u) : (w.alloc (Obj.cells #[.string (bs h1), .slice (some ⟨g, 0, none⟩) h2.length h2.length, .int .i64 (h3 : Nat), .int .i64 (h4 : Nat), .int .i64 (h5 : Nat)] 61)).cell? ⟨w.heap.size, j, none⟩ = some u := by
  have := heap1 w (Obj.cells #[.string (bs h1), .slice (some ⟨g, 0, none⟩) h2.length h2.length, .int .i64 (h3 : Nat), .int .i64 (h4 : Nat), .int .i64 (h5 : Nat)] 61)
  simp only [World.cell?, this]
  simpa [hcell] using hu

set_option maxRecDepth 100000 in
set_option maxHeartbeats 8000000 in
theorem hits_any (A : List Nat) (w : World) (hA : ∀ g ∈ A, g < w.heap.size) (v : Value) (C : List CR) (h : RTS [] w v C) (hC : C.length ≤ 1000) (hg : ∀ c ∈ C, c.d ≤ 1048576 ∧ c.bys.length ≤ 4 ∧ -1 ≤ c.wt ∧ -1 ≤ c.ev ∧ -1 ≤ c.rp) :
    Calls Tryz.prog 36 #[v] w fun e w' => ∃ v' css, e = .returned v' ∧ Frm [] w w' ∧ OW 61 5 w.heap.size w' v' (lst css) ∧ RowI hitT (A ++ v'.ownBlock.toList) w' css (hitsN C C.length) := by
  have HA := hide hA
  have HRT := hide h
  obtain ⟨cs0, q1, q2⟩ := h
  obtain ⟨a, cap, rfl, r⟩ := row_at q1 q2
  have R := hide r
  have HG := hide hg
  clear q1 q2 r hg
  go_enter Tryz.func36, Tryz.ntmps36
  go_wp2_with fail
  go_loopg [3, 11] C.length (fun k v3 v11 wr => ∃ (j : Nat) (css : List (Array Value)), j + k = C.length ∧ v11 = .int .i64 j ∧ css.length = j ∧ Frm [] w wr ∧ OW 61 5 w.heap.size wr v3 (lst css) ∧ Hid (RowI hitT (A ++ v3.ownBlock.toList) wr css (hitsN C j)))
  case atStart => exact ⟨0, [], by omega, rfl, rfl, (Frm.refl _ _).alloc _, OW.empty _ _ _ _ (Nat.le_refl _), RowI.nil _ _ _⟩
  case round =>
    obtain ⟨j, css, hjk, rfl, hcj, hF, hO, HI⟩ := hrel
    obtain ⟨ao, co, he⟩ := hO.shape
    rw [lst_len, hcj] at he
    subst he
    have F := hide hF
    have O := hide hO
    have hzz := hF.size
    have HTC : Hid ((lst css).length = j) := by show _ = _; rw [lst_len]; exact hcj
    by_cases hlt : j < C.length
    · have hd1 : decide ((j : Int) < (C.length : Int)) = true := decide_eq_true (by omega)
      obtain ⟨gr, or, csr, rfl, hgr, _, ⟨vby, vif, rfl, hby, hif⟩, k1⟩ := R.out j hlt
      obtain ⟨ay, cy, rfl, _⟩ := hby.str
      obtain ⟨ai, ci, hvi, _⟩ := hif
      rw [show (mtc C[j].ifs).length = C[j].ifs.length by simp [mtc]] at hvi
      subst hvi
      have t0 : wr.cell? ⟨gr, or + j * 9, none⟩ = some (.int .i64 (C[j].d : Nat)) := hF.at (p := ⟨gr, or + j * 9 + 0, none⟩) hgr (k1 0 _ rfl)
      have t1 : wr.cell? ⟨gr, or + j * 9 + 1, none⟩ = some (.string (bs C[j].rc)) := hF.at (p := ⟨gr, or + j * 9 + 1, none⟩) hgr (k1 1 _ rfl)
      have t2 : wr.cell? ⟨gr, or + j * 9 + 2, none⟩ = some (.bool C[j].tb) := hF.at (p := ⟨gr, or + j * 9 + 2, none⟩) hgr (k1 2 _ rfl)
      have t3 : wr.cell? ⟨gr, or + j * 9 + 3, none⟩ = some (.slice ay C[j].bys.length cy) := hF.at (p := ⟨gr, or + j * 9 + 3, none⟩) hgr (k1 3 _ rfl)
      have t4 : wr.cell? ⟨gr, or + j * 9 + 4, none⟩ = some (.int .i64 C[j].wt) := hF.at (p := ⟨gr, or + j * 9 + 4, none⟩) hgr (k1 4 _ rfl)
      have t5 : wr.cell? ⟨gr, or + j * 9 + 5, none⟩ = some (.int .i64 C[j].ev) := hF.at (p := ⟨gr, or + j * 9 + 5, none⟩) hgr (k1 5 _ rfl)
      have t6 : wr.cell? ⟨gr, or + j * 9 + 6, none⟩ = some (.int .i64 C[j].rp) := hF.at (p := ⟨gr, or + j * 9 + 6, none⟩) hgr (k1 6 _ rfl)
      have t7 : wr.cell? ⟨gr, or + j * 9 + 7, none⟩ = some (.slice ai C[j].ifs.length ci) := hF.at (p := ⟨gr, or + j * 9 + 7, none⟩) hgr (k1 7 _ rfl)
      have t8 : wr.cell? ⟨gr, or + j * 9 + 8, none⟩ = some (.bool C[j].co) := hF.at (p := ⟨gr, or + j * 9 + 8, none⟩) hgr (k1 8 _ rfl)
      have N1 : Hid (∀ W, Frm [] w W → Calls Tryz.prog 48 #[.slice (some ⟨gr, or, none⟩) C.length cap, .int .i64 j] W fun e w' => e = .returned (.int .i64 (parI C j)) ∧ ∃ q, w' = W.drewN q) := fun W hW => parentOf_any W _ [] C (HRT.out.frm hW (by simp)) (by omega) (fun c hm => (HG.out c hm).1) j hlt
      have hgc := HG.out C[j] (List.getElem_mem hlt)
      have HST := hide (hitsN_at C j hlt)
      have HBY := hide hby
      have hgrr : gr < wr.heap.size := by omega
      clear k1 hby hF hO
      cases hp : par C j with
      | none =>
        have hpi : parI C j = -1 := by unfold parI; rw [hp]
        have hab : aboveH C (hitsN C j) j = rootH := by unfold aboveH; rw [hp]
        rw [hpi] at N1
        rw [hab] at HST
        have N2 : Hid (∀ W, Frm [] w W → Calls Tryz.prog 49 #[.agg #[.string { data := #[] }, .slice none 0 0, .int .i64 30, .int .i64 300, .int .i64 14400], .agg #[.int .i64 (C[j].d : Nat), .string (bs C[j].rc), .bool C[j].tb, .slice ay C[j].bys.length cy, .int .i64 C[j].wt, .int .i64 C[j].ev, .int .i64 C[j].rp, .slice ai C[j].ifs.length ci, .bool C[j].co]] W fun e w' => ∃ g, e = .returned (.agg #[.string (bs (hitB rootH C[j]).rc), .slice (some ⟨g, 0, none⟩) (hitB rootH C[j]).bl.length (hitB rootH C[j]).bl.length, .int .i64 ((hitB rootH C[j]).wt : Nat), .int .i64 ((hitB rootH C[j]).ev : Nat), .int .i64 ((hitB rootH C[j]).rp : Nat)]) ∧ Frm [] W w' ∧ W.heap.size ≤ g ∧ g < w'.heap.size ∧ RW [] 1 w' (.slice (some ⟨g, 0, none⟩) (hitB rootH C[j]).bl.length (hitB rootH C[j]).bl.length) (sc (hitB rootH C[j]).bl)) := fun W hW => hitBelow_any rootH C[j] none 0 _ _ W (RW.nil _ _ _) (HBY.out.frm hW (by simp)) ⟨ai, ci, rfl⟩ (by simp [rootH]) (by omega) ⟨hgc.2.2.1, hgc.2.2.2.1, hgc.2.2.2.2⟩
        generalize hitB rootH C[j] = y at *
        obtain ⟨h1, h2, h3, h4, h5⟩ := y
        simp only at N2
        generalize C[j] = c at *
        clear hp hpi hab
        go_wp2_with fail
        refine (N1.out _ ((F.out.alloc _).alloc _)).mono ?_
        clear N1
        rintro e w2 ⟨rfl, qn, rfl⟩
        go_wp2_with fail
        refine (N2.out _ (((F.out.alloc _).alloc _).drewN _)).mono ?_
        clear N2
        rintro e w3 ⟨g, rfl, hF3, hg, hg3, hR3⟩
        have FA : Frm [] wr w3 := ((((Frm.refl [] wr).alloc _).alloc _).drewN _).trans hF3
        have hg4 : wr.heap.size ≤ g := by simp at hg; omega
        have hob : ∀ r, Value.ownBlock (.slice ao j co) = some r → r < wr.heap.size := fun r hr => (O.out.lt hr).2
        have R3 := hide (hR3.notin (B := A ++ (Value.ownBlock (.slice ao j co)).toList) (fun hm => by simp at hm; rcases hm with hm | hm; have := HA.out g hm; omega; have := hob g hm; omega))
        have O3 := hide (O.out.frm FA (by simp))
        have I3 := hide (HI.out.frm FA (by simp))
        have F3 := hide (F.out.trans FA)
        have hz3 := FA.size
        clear hF3 hg hg3 hR3 FA hg4 hob t0 t1 t2 t3 t4 t5 t6 t7 t8
        go_wp2_with (at_builtin; refine wp_appG _ rfl _ _ 53 61 _ 5 64 infoHit Tryz.underlying53 rfl (by omega) rfl w.heap.size (.slice ao j co) (lst css) w3.heap.size (hcell ⟨h1, h2, h3, h4, h5⟩ (.slice (some ⟨g, 0, none⟩) h2.length h2.length)).toList rfl (O3.out.frm (S := []) ((Frm.refl [] _).alloc _) (by simp)) rfl rfl (hcell_at _ _ _ _ _ _ _) (by intro u hu; simp [hcell] at hu; rcases hu with rfl | rfl | rfl | rfl | rfl <;> rfl) (by rw [HTC.out]; omega) (by rw [HTC.out]; omega) (by simp; omega) ?_; intro gg cap2 w5 hown5 hgrow hat hlt5; rw [HTC.out] at hown5 ⊢; have F5 : Hid (Frm [] w w5) := (F3.out.alloc _).grown hgrow (fun r hr => .inr (O3.out.lt hr).1); have O5 := hide hown5; have I5 : Hid (RowI hitT (A ++ [gg]) w5 (css ++ [hcell ⟨h1, h2, h3, h4, h5⟩ (.slice (some ⟨g, 0, none⟩) h2.length h2.length)]) (hitsN C j ++ [⟨h1, h2, h3, h4, h5⟩])) := ((I3.out.frm (S := []) ((Frm.refl [] _).alloc _) (by simp)).snoc ⟨g, rfl, R3.out.frm (S := []) ((Frm.refl [] _).alloc _) (by simp)⟩).app hgrow hat; clear hown5 hgrow hat)
        go_roundg (gk - 1)
        case measure => omega
        case rel =>
          have O6 := O5.out
          rw [lst_snoc] at O6
          refine ⟨j + 1, css ++ [hcell ⟨h1, h2, h3, h4, h5⟩ (.slice (some ⟨g, 0, none⟩) h2.length h2.length)], by omega, by go_num, by simp; omega, F5.out, O6, ?_⟩
          show RowI _ _ _ _ _
          rw [HST.out]; exact I5.out
      | some p =>
        have hpj := par_lt hp
        have hpi : parI C j = (p : Int) := by unfold parI; rw [hp]
        have hln := hitsN_len C j
        have hpl : p < (hitsN C j).length := by omega
        have hab : aboveH C (hitsN C j) j = (hitsN C j)[p] := by
          unfold aboveH; rw [hp]
          simp only [List.getD_eq_getElem?_getD, List.getElem?_eq_getElem hpl, Option.getD_some]
        have hfew := hitB_few (C := C) (fun c hm => (HG.out c hm).2.1) j _ (List.getElem_mem hpl)
        rw [hpi] at N1
        rw [hab] at HST
        obtain ⟨ah, ch, hvh, hrh⟩ := row_at (O.out.rw (A := []) (by simp)) (HI.out.avoid (B := []) (by simp))
        simp only [Value.slice.injEq] at hvh
        obtain ⟨rfl, hjj, rfl⟩ := hvh
        obtain ⟨gh, oh, csh, rfl, hgh, _, ⟨gp, rfl, hrp⟩, kh⟩ := hrh p hpl
        have u0 : wr.cell? ⟨gh, oh + p * 5, none⟩ = some (.string (bs (hitsN C j)[p].rc)) := kh 0 _ rfl
        have u1 : wr.cell? ⟨gh, oh + p * 5 + 1, none⟩ = some (.slice (some ⟨gp, 0, none⟩) (hitsN C j)[p].bl.length (hitsN C j)[p].bl.length) := kh 1 _ rfl
        have u2 : wr.cell? ⟨gh, oh + p * 5 + 2, none⟩ = some (.int .i64 ((hitsN C j)[p].wt : Nat)) := kh 2 _ rfl
        have u3 : wr.cell? ⟨gh, oh + p * 5 + 3, none⟩ = some (.int .i64 ((hitsN C j)[p].ev : Nat)) := kh 3 _ rfl
        have u4 : wr.cell? ⟨gh, oh + p * 5 + 4, none⟩ = some (.int .i64 ((hitsN C j)[p].rp : Nat)) := kh 4 _ rfl
        have HRP := hide hrp
        have hdp : decide ((p : Int) < (j : Int)) = true := decide_eq_true (by omega)
        have hdp0 : decide ((0 : Int) ≤ (p : Int)) = true := decide_eq_true (by omega)
        clear hrh kh hrp hab hpi hp hjj hln
        generalize hxx : (hitsN C j)[p] = xx at *
        clear hxx hpl
        have N2 : Hid (∀ W, Frm [] wr W → Calls Tryz.prog 49 #[.agg #[.string (bs xx.rc), .slice (some ⟨gp, 0, none⟩) xx.bl.length xx.bl.length, .int .i64 (xx.wt : Nat), .int .i64 (xx.ev : Nat), .int .i64 (xx.rp : Nat)], .agg #[.int .i64 (C[j].d : Nat), .string (bs C[j].rc), .bool C[j].tb, .slice ay C[j].bys.length cy, .int .i64 C[j].wt, .int .i64 C[j].ev, .int .i64 C[j].rp, .slice ai C[j].ifs.length ci, .bool C[j].co]] W fun e w' => ∃ g, e = .returned (.agg #[.string (bs (hitB xx C[j]).rc), .slice (some ⟨g, 0, none⟩) (hitB xx C[j]).bl.length (hitB xx C[j]).bl.length, .int .i64 ((hitB xx C[j]).wt : Nat), .int .i64 ((hitB xx C[j]).ev : Nat), .int .i64 ((hitB xx C[j]).rp : Nat)]) ∧ Frm [] W w' ∧ W.heap.size ≤ g ∧ g < w'.heap.size ∧ RW [] 1 w' (.slice (some ⟨g, 0, none⟩) (hitB xx C[j]).bl.length (hitB xx C[j]).bl.length) (sc (hitB xx C[j]).bl)) := fun W hW => hitBelow_any xx C[j] (some ⟨gp, 0, none⟩) xx.bl.length _ _ W (HRP.out.frm hW (by simp)) (HBY.out.frm (F.out.trans hW) (by simp)) ⟨ai, ci, rfl⟩ (by omega) (by omega) ⟨hgc.2.2.1, hgc.2.2.2.1, hgc.2.2.2.2⟩
        generalize hitB xx C[j] = y at *
        obtain ⟨h1, h2, h3, h4, h5⟩ := y
        simp only at N2
        generalize C[j] = c at *
        go_wp2_with fail
        refine (N1.out _ ((F.out.alloc _).alloc _)).mono ?_
        clear N1
        rintro e w2 ⟨rfl, qn, rfl⟩
        go_wp2_with fail
        refine (N2.out _ (((((Frm.refl [] wr).alloc _).alloc _).drewN _).over (set5_frm _ _ _ _ _ _ _) (by simp))).mono ?_
        clear N2
        rintro e w3 ⟨g, rfl, hF3, hg, hg3, hR3⟩
        have FA : Frm [] wr w3 := (((((Frm.refl [] wr).alloc _).alloc _).drewN _).over (set5_frm _ _ _ _ _ _ _) (by simp)).trans hF3
        have hg4 : wr.heap.size ≤ g := by simp at hg; omega
        have hob : ∀ r, Value.ownBlock (.slice (some ⟨gh, oh, none⟩) j co) = some r → r < wr.heap.size := fun r hr => (O.out.lt hr).2
        have R3 := hide (hR3.notin (B := A ++ (Value.ownBlock (.slice (some ⟨gh, oh, none⟩) j co)).toList) (fun hm => by simp at hm; rcases hm with hm | hm; have := HA.out g hm; omega; have := hob g hm; omega))
        have O3 := hide (O.out.frm FA (by simp))
        have I3 := hide (HI.out.frm FA (by simp))
        have F3 := hide (F.out.trans FA)
        have hz3 := FA.size
        clear hF3 hg hg3 hR3 FA hg4 hob t0 t1 t2 t3 t4 t5 t6 t7 t8 u0 u1 u2 u3 u4
        go_wp2_with (at_builtin; refine wp_appG _ rfl _ _ 53 61 _ 5 64 infoHit Tryz.underlying53 rfl (by omega) rfl w.heap.size (.slice (some ⟨gh, oh, none⟩) j co) (lst css) w3.heap.size (hcell ⟨h1, h2, h3, h4, h5⟩ (.slice (some ⟨g, 0, none⟩) h2.length h2.length)).toList rfl (O3.out.frm (S := []) ((Frm.refl [] _).alloc _) (by simp)) rfl rfl (hcell_at _ _ _ _ _ _ _) (by intro u hu; simp [hcell] at hu; rcases hu with rfl | rfl | rfl | rfl | rfl <;> rfl) (by rw [HTC.out]; omega) (by rw [HTC.out]; omega) (by simp; omega) ?_; intro gg cap2 w5 hown5 hgrow hat hlt5; rw [HTC.out] at hown5 ⊢; have F5 : Hid (Frm [] w w5) := (F3.out.alloc _).grown hgrow (fun r hr => .inr (O3.out.lt hr).1); have O5 := hide hown5; have I5 : Hid (RowI hitT (A ++ [gg]) w5 (css ++ [hcell ⟨h1, h2, h3, h4, h5⟩ (.slice (some ⟨g, 0, none⟩) h2.length h2.length)]) (hitsN C j ++ [⟨h1, h2, h3, h4, h5⟩])) := ((I3.out.frm (S := []) ((Frm.refl [] _).alloc _) (by simp)).snoc ⟨g, rfl, R3.out.frm (S := []) ((Frm.refl [] _).alloc _) (by simp)⟩).app hgrow hat; clear hown5 hgrow hat)
        go_roundg (gk - 1)
        case measure => omega
        case rel =>
          have O6 := O5.out
          rw [lst_snoc] at O6
          refine ⟨j + 1, css ++ [hcell ⟨h1, h2, h3, h4, h5⟩ (.slice (some ⟨g, 0, none⟩) h2.length h2.length)], by omega, by go_num, by simp; omega, F5.out, O6, ?_⟩
          show RowI _ _ _ _ _
          rw [HST.out]; exact I5.out
    · have hd1 : decide ((j : Int) < (C.length : Int)) = false := decide_eq_false (by omega)
      have hj : j = C.length := by omega
      subst hj
      clear hF hO
      go_wp2
      go_ret
      exact ⟨_, css, rfl, F.out, O.out, HI.out⟩
end Go.Proofs.YtmlajbdodmleiaaGreat

