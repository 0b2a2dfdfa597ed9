import Derived.Test.YtimjjlgpbkljoaaGreatK3
import Derived.Laws.CopyOwn
import Derived.Laws.MakeOwn
namespace Go.Proofs.YtimjjlgpbkljoaaGreat
open Go.RowKit
set_option linter.unusedVariables false
set_option linter.unusedSimpArgs false
set_option linter.unnecessarySimpa false

theorem Frm.below_trans {S : List Nat} {B : Nat} {w W w' : World} (f : Frm S w W) (b : Below B W w') (hB : w.heap.size ≤ B) : Frm S w w' :=
  ⟨b.os.trans f.os, b.tape.trans f.tape, b.output.trans f.output, Nat.le_trans f.size b.size, fun k hk hS => (b.block k (by omega)).trans (f.block k hk hS)⟩
theorem infoStr1 : (Tryz.prog.info? 9).map (·.size) = some 1 := by kernel_rfl
theorem addQ (g q j : Nat) : (⟨g, q, none⟩ : Addr).add j = ⟨g, q + j, none⟩ := by unfold Addr.add; split <;> simp_all
theorem alloc_at (w : World) (o : Obj) (k : Nat) (h : w.heap.size = k) : (w.alloc o).heap[k]? = some o := by subst h; exact heap1 w o
def HitBQ (x : HitM) (w : World) (e : Ending) (w' : World) : Prop :=
  ∃ g, e = .returned (.agg (hcell x (.slice (some ⟨g, 0, none⟩) x.bl.length x.bl.length))) ∧ Frm [] w w' ∧ w.heap.size ≤ g ∧ g < w'.heap.size ∧ RW [] 1 w' (.slice (some ⟨g, 0, none⟩) x.bl.length x.bl.length) (sc x.bl)

theorem copy_strs (W : World) (g : Nat) (bl : List (List UInt8)) (ax : Option Addr) (cx : Nat) (Z : List Value) (hZ : Z.length = bl.length) (hg : W.heap[g]? = some (.cells Z.toArray 9 (0, 0))) (hr : RW [] 1 W (.slice ax bl.length cx) (sc bl)) :
    ∃ W4, (Builtin.copy_ #[29, 29] 3 #[.slice (some ⟨g, 0, none⟩) bl.length bl.length, .slice ax bl.length cx]).run Tryz.prog W = .ok (.int .i64 (bl.length : Int)) W4 ∧ W4.heap[g]? = some (.cells (bl.map fun s => Value.string (bs s)).toArray 9 (0, 0)) ∧ Below g W W4 := by
  by_cases h0 : bl = []
  · subst h0
    obtain rfl : Z = [] := List.eq_nil_of_length_eq_zero hZ
    exact ⟨W, run_copy_none (P := Tryz.prog) W 29 29 3 9 _ _ 0 0 0 cx Tryz.underlying29 infoStr1 rfl, hg, Below.refl _ _⟩
  · have hpos : 0 < bl.length := List.length_pos_iff.2 h0
    obtain ⟨a', c', e, hrow⟩ := hr.str
    simp only [Value.slice.injEq, true_and] at e
    obtain ⟨rfl, rfl⟩ := e
    obtain ⟨ga, oa, rfl, _, _⟩ := hrow 0 hpos
    have hl : (bl.map fun s => Value.string (bs s)).length = bl.length := by simp
    have hrun := run_copy_row Tryz.prog W 29 29 3 9 g 0 bl.length bl.length ⟨ga, oa, none⟩ bl.length cx Z.toArray 9 (bl.map fun s => Value.string (bs s)) Tryz.underlying29 infoStr1 hg (by rw [hl]; exact (Nat.min_self _).symm) (by
      intro j v hv
      rw [List.getElem?_map, Option.map_eq_some_iff] at hv
      obtain ⟨y, hy, rfl⟩ := hv
      obtain ⟨hj, rfl⟩ := List.getElem?_eq_some_iff.1 hy
      obtain ⟨g', off', e', hg', hc'⟩ := hrow j hj
      simp only [Option.some.injEq, Addr.mk.injEq, and_true] at e'
      obtain ⟨rfl, rfl⟩ := e'
      rw [addQ]
      exact hc') (by simp [hZ]) (by
      intro v hv
      obtain ⟨y, _, rfl⟩ := List.mem_map.1 hv
      rfl)
    rw [hl] at hrun
    refine ⟨_, hrun, ?_, below_setRow (Below.refl _ _) (Nat.le_refl _) _⟩
    rw [setRow_heap W g _ _ 9 _ hg]
    have e2 : Z.drop bl.length = [] := List.drop_eq_nil_of_le (by omega)
    simp [e2]

set_option maxRecDepth 100000 in
set_option maxHeartbeats 8000000 in
theorem hitBelow_any (x : HitM) (c : CR) (aa : Option Addr) (ca : Nat) (vby vif : Value) (w : World) (ha : RW [] 1 w (.slice aa x.bl.length ca) (sc x.bl)) (hb : RW [] 1 w vby (sc c.bys)) (hif : ∃ ai ci, vif = .slice ai c.ifs.length ci) (hx : x.bl.length ≤ 1000) (hc : c.bys.length ≤ 1000) (hw : -1 ≤ c.wt ∧ -1 ≤ c.ev ∧ -1 ≤ c.rp) :
    Calls Tryz.prog 24 #[.agg (hcell x (.slice aa x.bl.length ca)), .agg (rcl c vby vif)] w (HitBQ (hitB x c) w) := by
  obtain ⟨ai, ci, rfl⟩ := hif
  obtain ⟨ay, cy, rfl, _⟩ := hb.str
  have T1 : Hid (∀ W, Calls Tryz.prog 32 #[.int .i64 c.wt, .int .i64 (x.wt : Nat)] W fun e w' => e = .returned (.int .i64 (tld c.wt x.wt : Nat)) ∧ W = w') := fun W => toldOr_any W c.wt x.wt hw.1
  have T2 : Hid (∀ W, Calls Tryz.prog 32 #[.int .i64 c.ev, .int .i64 (x.ev : Nat)] W fun e w' => e = .returned (.int .i64 (tld c.ev x.ev : Nat)) ∧ W = w') := fun W => toldOr_any W c.ev x.ev hw.2.1
  have T3 : Hid (∀ W, Calls Tryz.prog 32 #[.int .i64 c.rp, .int .i64 (x.rp : Nat)] W fun e w' => e = .returned (.int .i64 (tld c.rp x.rp : Nat)) ∧ W = w') := fun W => toldOr_any W c.rp x.rp hw.2.2
  obtain ⟨rc2, hrc2⟩ : ∃ rc2, rc2 = if c.rc == [45] then x.rc else c.rc := ⟨_, rfl⟩
  obtain ⟨bl, hbl⟩ : ∃ bl, bl = if c.tb then c.bys else x.bl := ⟨_, rfl⟩
  have HH : Hid (hitB x c = ⟨rc2, bl, tld c.wt x.wt, tld c.ev x.ev, tld c.rp x.rp⟩) := by show _ = _; rw [hrc2, hbl]; rfl
  obtain ⟨ax, cx, hvx, hRx⟩ : ∃ ax cx, (if c.tb then Value.slice ay c.bys.length cy else .slice aa x.bl.length ca) = .slice ax bl.length cx ∧ RW [] 1 w (.slice ax bl.length cx) (sc bl) := by
    cases htb : c.tb
    · rw [htb] at hbl
      simp only [Bool.false_eq_true, if_false] at hbl
      subst hbl
      exact ⟨aa, ca, rfl, ha⟩
    · rw [htb] at hbl
      simp only [if_true] at hbl
      subst hbl
      exact ⟨ay, cy, rfl, hb⟩
  have hlen : bl.length ≤ 1000 := by rw [hbl]; split <;> omega
  obtain ⟨Zl, hZ⟩ : ∃ Zl : List Value, Zl = (madeCells #[.string ByteArray.empty] bl.length).toList := ⟨_, rfl⟩
  have HZL : Hid (Zl.length = bl.length) := by show _ = _; rw [hZ, Array.length_toList]; exact size_madeCells _ _
  have hmk : ∀ u : World, (Instr.makeSlice 29 (.int .i64 (bl.length : Int)) (.int .i64 (bl.length : Int))).run Tryz.prog u = .ok (.slice (some ⟨u.heap.size, 0, none⟩) bl.length bl.length) (u.alloc (.cells Zl.toArray 9)) := fun u => by
    obtain ⟨i0, hi, hz0, hz1, hz2⟩ := info_parts2 infoStr
    have := run_make (P := Tryz.prog) u 29 9 i0 (.string ByteArray.empty) Tryz.underlying29 hi hz0 .i64 .i64 (bl.length : Int) (bl.length : Int) (by omega) (Int.le_refl _) (by rw [hz2]; omega) (by omega)
    rw [hz1, Int.toNat_natCast, Nat.mul_one] at this
    rw [this, hZ]; rfl
  have FW : Frm [] w (((((w.alloc (Obj.cells #[.string (bs x.rc), .slice aa x.bl.length ca, .int .i64 (x.wt : Nat), .int .i64 (x.ev : Nat), .int .i64 (x.rp : Nat)] 75)).alloc (Obj.cells #[.int .i64 (c.d : Nat), .string (bs c.rc), .bool c.tb, .slice ay c.bys.length cy, .int .i64 c.wt, .int .i64 c.ev, .int .i64 c.rp, .slice ai c.ifs.length ci, .bool c.co] 54)).alloc (Obj.cells #[.string { data := #[] }, .slice none 0 0, .int .i64 0, .int .i64 0, .int .i64 0] 75)).alloc (Obj.cells #[.string (bs rc2), .slice (some ⟨w.heap.size + 1 + 1 + 1 + 1, 0, none⟩) bl.length bl.length, .int .i64 0, .int .i64 0, .int .i64 0] 75)).alloc (Obj.cells Zl.toArray 9)) := (((((Frm.refl [] w).alloc _).alloc _).alloc _).alloc _).alloc _
  obtain ⟨w4, hcp, HG4, hB4⟩ := copy_strs (((((w.alloc (Obj.cells #[.string (bs x.rc), .slice aa x.bl.length ca, .int .i64 (x.wt : Nat), .int .i64 (x.ev : Nat), .int .i64 (x.rp : Nat)] 75)).alloc (Obj.cells #[.int .i64 (c.d : Nat), .string (bs c.rc), .bool c.tb, .slice ay c.bys.length cy, .int .i64 c.wt, .int .i64 c.ev, .int .i64 c.rp, .slice ai c.ifs.length ci, .bool c.co] 54)).alloc (Obj.cells #[.string { data := #[] }, .slice none 0 0, .int .i64 0, .int .i64 0, .int .i64 0] 75)).alloc (Obj.cells #[.string (bs rc2), .slice (some ⟨w.heap.size + 1 + 1 + 1 + 1, 0, none⟩) bl.length bl.length, .int .i64 0, .int .i64 0, .int .i64 0] 75)).alloc (Obj.cells Zl.toArray 9)) (w.heap.size + 1 + 1 + 1 + 1) bl ax cx Zl HZL.out (alloc_at _ _ _ (by simp)) (hRx.frm FW (by simp))
  have F4 := hide (FW.below_trans hB4 (by omega))
  have C0 := (hB4.block w.heap.size (by omega)).trans (((((((Frm.refl [] _).alloc _).alloc _).alloc _).alloc _).block w.heap.size (by simp) (by simp)).trans (heap1 _ _))
  have C1 := (hB4.block (w.heap.size + 1) (by omega)).trans ((((((Frm.refl [] _).alloc _).alloc _).alloc _).block (w.heap.size + 1) (by simp) (by simp)).trans (alloc_at _ _ (w.heap.size + 1) (by simp)))
  have C2 := (hB4.block (w.heap.size + 1 + 1) (by omega)).trans (((((Frm.refl [] _).alloc _).alloc _).block (w.heap.size + 1 + 1) (by simp) (by simp)).trans (alloc_at _ _ (w.heap.size + 1 + 1) (by simp)))
  have C3 := (hB4.block (w.heap.size + 1 + 1 + 1) (by omega)).trans ((((Frm.refl [] _).alloc _).block (w.heap.size + 1 + 1 + 1) (by simp) (by simp)).trans (alloc_at _ _ (w.heap.size + 1 + 1 + 1) (by simp)))
  have a2 : w4.cell? ⟨w.heap.size, 2, none⟩ = some (.int .i64 (x.wt : Nat)) := by simp [World.cell?, C0]
  have a3 : w4.cell? ⟨w.heap.size, 3, none⟩ = some (.int .i64 (x.ev : Nat)) := by simp [World.cell?, C0]
  have a4 : w4.cell? ⟨w.heap.size, 4, none⟩ = some (.int .i64 (x.rp : Nat)) := by simp [World.cell?, C0]
  have r4 : w4.cell? ⟨w.heap.size + 1, 4, none⟩ = some (.int .i64 c.wt) := by simp [World.cell?, C1]
  have r5 : w4.cell? ⟨w.heap.size + 1, 5, none⟩ = some (.int .i64 c.ev) := by simp [World.cell?, C1]
  have r6 : w4.cell? ⟨w.heap.size + 1, 6, none⟩ = some (.int .i64 c.rp) := by simp [World.cell?, C1]
  have e0 : w4.cell? ⟨w.heap.size + 1 + 1, 0, none⟩ = some (.string { data := #[] }) := by simp [World.cell?, C2]
  have e1 : w4.cell? ⟨w.heap.size + 1 + 1, 1, none⟩ = some (.slice none 0 0) := by simp [World.cell?, C2]
  have e2 : w4.cell? ⟨w.heap.size + 1 + 1, 2, none⟩ = some (.int .i64 0) := by simp [World.cell?, C2]
  have e3 : w4.cell? ⟨w.heap.size + 1 + 1, 3, none⟩ = some (.int .i64 0) := by simp [World.cell?, C2]
  have e4 : w4.cell? ⟨w.heap.size + 1 + 1, 4, none⟩ = some (.int .i64 0) := by simp [World.cell?, C2]
  have ez : ∀ o, w4.frozen? ⟨w.heap.size + 1 + 1, o, none⟩ = false := fun o => by simp [World.frozen?, C2]
  have h0 : w4.cell? ⟨w.heap.size + 1 + 1 + 1, 0, none⟩ = some (.string (bs rc2)) := by simp [World.cell?, C3]
  have h1 : w4.cell? ⟨w.heap.size + 1 + 1 + 1, 1, none⟩ = some (.slice (some ⟨w.heap.size + 1 + 1 + 1 + 1, 0, none⟩) bl.length bl.length) := by simp [World.cell?, C3]
  have h2 : w4.cell? ⟨w.heap.size + 1 + 1 + 1, 2, none⟩ = some (.int .i64 0) := by simp [World.cell?, C3]
  have h3 : w4.cell? ⟨w.heap.size + 1 + 1 + 1, 3, none⟩ = some (.int .i64 0) := by simp [World.cell?, C3]
  have h4 : w4.cell? ⟨w.heap.size + 1 + 1 + 1, 4, none⟩ = some (.int .i64 0) := by simp [World.cell?, C3]
  have hz4 : ∀ o, w4.frozen? ⟨w.heap.size + 1 + 1 + 1, o, none⟩ = false := fun o => by simp [World.frozen?, C3]
  have C2H := hide C2
  have HG := hide HG4
  have hsz4 : w.heap.size + 1 + 1 + 1 + 1 < w4.heap.size := (Array.getElem?_eq_some_iff.1 HG4).1
  have hl := bs_toList
  have hk45 : ({ data := #[45] } : ByteArray).toList = [45] := bs_toList [45]
  clear C0 C1 C2 C3 hB4 FW HG4 ha hb hRx hZ
  simp only [hcell, rcl]
  go_enter Tryz.func24, Tryz.ntmps24
  cases htb : c.tb <;> cases hrc : (c.rc == [45])
  all_goals
    rw [htb] at hbl hvx hcp
    rw [hrc] at hrc2
    simp only [Bool.false_eq_true, if_false, if_true, Value.slice.injEq] at hbl hvx hrc2
    subst hbl hrc2
    obtain ⟨rfl, _, rfl⟩ := hvx
  · go_wp2_with fail
    refine (T1.out _).mono ?_
    rintro e w' ⟨rfl, rfl⟩
    go_wp2_with fail
    refine (T2.out _).mono ?_
    rintro e w' ⟨rfl, rfl⟩
    go_wp2_with fail
    refine (T3.out _).mono ?_
    rintro e w' ⟨rfl, rfl⟩
    go_wp2_with fail
    have FS : ∀ (u : World) (o : Nat) (v : Value), Frm [w.heap.size + 1 + 1 + 1] u (u.setCell ⟨w.heap.size + 1 + 1 + 1, o, none⟩ v) := fun u o v => (Frm.refl _ _).setCell (p := ⟨w.heap.size + 1 + 1 + 1, o, none⟩) (.inl (by simp)) _
    have hs1 := fun (u : World) (o : Nat) (v : Value) => (FS u o v).size
    refine bodyPost_ret (results_cell1 rfl _ _ (w.heap.size + 1 + 1) (hcell ⟨c.rc, x.bl, tld c.wt x.wt, tld c.ev x.ev, tld c.rp x.rp⟩ (.slice (some ⟨w.heap.size + 1 + 1 + 1 + 1, 0, none⟩) x.bl.length x.bl.length)) rfl (loadHit (set5_row _ _ _ _ _ (((FS _ _ _).block (w.heap.size + 1 + 1) (by have := hs1; simp; omega) (by simp)).trans (((FS _ _ _).block (w.heap.size + 1 + 1) (by simp; omega) (by simp)).trans (((FS _ _ _).block (w.heap.size + 1 + 1) (by omega) (by simp)).trans C2H.out)))) rfl)) rfl ?_
    have R4 : RW [w.heap.size + 1 + 1, w.heap.size + 1 + 1 + 1] 1 w4 (.slice (some ⟨w.heap.size + 1 + 1 + 1 + 1, 0, none⟩) x.bl.length x.bl.length) (sc x.bl) := by
      refine ⟨_, x.bl.length, by rw [sc_len], by rw [sc_len]; exact Nat.le_refl _, fun j hj => ⟨w.heap.size + 1 + 1 + 1 + 1, 0, rfl, by simp <;> omega, hsz4, fun k u hu => ?_⟩⟩
      rw [sc_len] at hj
      have hu2 : k = 0 := by
        cases k with
        | zero => rfl
        | succ k => simp [sc] at hu
      subst hu2
      simp [sc] at hu
      subst hu
      simp [World.cell?, HG.out, hj]
    rw [HH.out]
    refine ⟨w.heap.size + 1 + 1 + 1 + 1, rfl, ?_, by omega, ?_, ?_⟩
    · exact (((F4.out.over (FS _ _ _) (by simp; omega)).over (FS _ _ _) (by simp; omega)).over (FS _ _ _) (by simp; omega)).over (set5_frm _ _ _ _ _ _ _) (by simp; omega)
    · exact Nat.lt_of_lt_of_le hsz4 (Nat.le_trans (Nat.le_trans (Nat.le_trans (FS _ _ _).size (FS _ _ _).size) (FS _ _ _).size) (set5_frm _ _ _ _ _ _ _).size)
    · exact ((((R4.frm (FS _ _ _) (by simp)).frm (FS _ _ _) (by simp)).frm (FS _ _ _) (by simp)).frm (set5_frm _ _ _ _ _ _ _) (by simp)).avoid (by simp)
  · go_wp2_with fail
    refine (T1.out _).mono ?_
    rintro e w' ⟨rfl, rfl⟩
    go_wp2_with fail
    refine (T2.out _).mono ?_
    rintro e w' ⟨rfl, rfl⟩
    go_wp2_with fail
    refine (T3.out _).mono ?_
    rintro e w' ⟨rfl, rfl⟩
    go_wp2_with fail
    have FS : ∀ (u : World) (o : Nat) (v : Value), Frm [w.heap.size + 1 + 1 + 1] u (u.setCell ⟨w.heap.size + 1 + 1 + 1, o, none⟩ v) := fun u o v => (Frm.refl _ _).setCell (p := ⟨w.heap.size + 1 + 1 + 1, o, none⟩) (.inl (by simp)) _
    have hs1 := fun (u : World) (o : Nat) (v : Value) => (FS u o v).size
    refine bodyPost_ret (results_cell1 rfl _ _ (w.heap.size + 1 + 1) (hcell ⟨x.rc, x.bl, tld c.wt x.wt, tld c.ev x.ev, tld c.rp x.rp⟩ (.slice (some ⟨w.heap.size + 1 + 1 + 1 + 1, 0, none⟩) x.bl.length x.bl.length)) rfl (loadHit (set5_row _ _ _ _ _ (((FS _ _ _).block (w.heap.size + 1 + 1) (by have := hs1; simp; omega) (by simp)).trans (((FS _ _ _).block (w.heap.size + 1 + 1) (by simp; omega) (by simp)).trans (((FS _ _ _).block (w.heap.size + 1 + 1) (by omega) (by simp)).trans C2H.out)))) rfl)) rfl ?_
    have R4 : RW [w.heap.size + 1 + 1, w.heap.size + 1 + 1 + 1] 1 w4 (.slice (some ⟨w.heap.size + 1 + 1 + 1 + 1, 0, none⟩) x.bl.length x.bl.length) (sc x.bl) := by
      refine ⟨_, x.bl.length, by rw [sc_len], by rw [sc_len]; exact Nat.le_refl _, fun j hj => ⟨w.heap.size + 1 + 1 + 1 + 1, 0, rfl, by simp <;> omega, hsz4, fun k u hu => ?_⟩⟩
      rw [sc_len] at hj
      have hu2 : k = 0 := by
        cases k with
        | zero => rfl
        | succ k => simp [sc] at hu
      subst hu2
      simp [sc] at hu
      subst hu
      simp [World.cell?, HG.out, hj]
    rw [HH.out]
    refine ⟨w.heap.size + 1 + 1 + 1 + 1, rfl, ?_, by omega, ?_, ?_⟩
    · exact (((F4.out.over (FS _ _ _) (by simp; omega)).over (FS _ _ _) (by simp; omega)).over (FS _ _ _) (by simp; omega)).over (set5_frm _ _ _ _ _ _ _) (by simp; omega)
    · exact Nat.lt_of_lt_of_le hsz4 (Nat.le_trans (Nat.le_trans (Nat.le_trans (FS _ _ _).size (FS _ _ _).size) (FS _ _ _).size) (set5_frm _ _ _ _ _ _ _).size)
    · exact ((((R4.frm (FS _ _ _) (by simp)).frm (FS _ _ _) (by simp)).frm (FS _ _ _) (by simp)).frm (set5_frm _ _ _ _ _ _ _) (by simp)).avoid (by simp)
  · go_wp2_with fail
    refine (T1.out _).mono ?_
    rintro e w' ⟨rfl, rfl⟩
    go_wp2_with fail
    refine (T2.out _).mono ?_
    rintro e w' ⟨rfl, rfl⟩
    go_wp2_with fail
    refine (T3.out _).mono ?_
    rintro e w' ⟨rfl, rfl⟩
    go_wp2_with fail
    have FS : ∀ (u : World) (o : Nat) (v : Value), Frm [w.heap.size + 1 + 1 + 1] u (u.setCell ⟨w.heap.size + 1 + 1 + 1, o, none⟩ v) := fun u o v => (Frm.refl _ _).setCell (p := ⟨w.heap.size + 1 + 1 + 1, o, none⟩) (.inl (by simp)) _
    have hs1 := fun (u : World) (o : Nat) (v : Value) => (FS u o v).size
    refine bodyPost_ret (results_cell1 rfl _ _ (w.heap.size + 1 + 1) (hcell ⟨c.rc, c.bys, tld c.wt x.wt, tld c.ev x.ev, tld c.rp x.rp⟩ (.slice (some ⟨w.heap.size + 1 + 1 + 1 + 1, 0, none⟩) c.bys.length c.bys.length)) rfl (loadHit (set5_row _ _ _ _ _ (((FS _ _ _).block (w.heap.size + 1 + 1) (by have := hs1; simp; omega) (by simp)).trans (((FS _ _ _).block (w.heap.size + 1 + 1) (by simp; omega) (by simp)).trans (((FS _ _ _).block (w.heap.size + 1 + 1) (by omega) (by simp)).trans C2H.out)))) rfl)) rfl ?_
    have R4 : RW [w.heap.size + 1 + 1, w.heap.size + 1 + 1 + 1] 1 w4 (.slice (some ⟨w.heap.size + 1 + 1 + 1 + 1, 0, none⟩) c.bys.length c.bys.length) (sc c.bys) := by
      refine ⟨_, c.bys.length, by rw [sc_len], by rw [sc_len]; exact Nat.le_refl _, fun j hj => ⟨w.heap.size + 1 + 1 + 1 + 1, 0, rfl, by simp <;> omega, hsz4, fun k u hu => ?_⟩⟩
      rw [sc_len] at hj
      have hu2 : k = 0 := by
        cases k with
        | zero => rfl
        | succ k => simp [sc] at hu
      subst hu2
      simp [sc] at hu
      subst hu
      simp [World.cell?, HG.out, hj]
    rw [HH.out]
    refine ⟨w.heap.size + 1 + 1 + 1 + 1, rfl, ?_, by omega, ?_, ?_⟩
    · exact (((F4.out.over (FS _ _ _) (by simp; omega)).over (FS _ _ _) (by simp; omega)).over (FS _ _ _) (by simp; omega)).over (set5_frm _ _ _ _ _ _ _) (by simp; omega)
    · exact Nat.lt_of_lt_of_le hsz4 (Nat.le_trans (Nat.le_trans (Nat.le_trans (FS _ _ _).size (FS _ _ _).size) (FS _ _ _).size) (set5_frm _ _ _ _ _ _ _).size)
    · exact ((((R4.frm (FS _ _ _) (by simp)).frm (FS _ _ _) (by simp)).frm (FS _ _ _) (by simp)).frm (set5_frm _ _ _ _ _ _ _) (by simp)).avoid (by simp)
  · go_wp2_with fail
    refine (T1.out _).mono ?_
    rintro e w' ⟨rfl, rfl⟩
    go_wp2_with fail
    refine (T2.out _).mono ?_
    rintro e w' ⟨rfl, rfl⟩
    go_wp2_with fail
    refine (T3.out _).mono ?_
    rintro e w' ⟨rfl, rfl⟩
    go_wp2_with fail
    have FS : ∀ (u : World) (o : Nat) (v : Value), Frm [w.heap.size + 1 + 1 + 1] u (u.setCell ⟨w.heap.size + 1 + 1 + 1, o, none⟩ v) := fun u o v => (Frm.refl _ _).setCell (p := ⟨w.heap.size + 1 + 1 + 1, o, none⟩) (.inl (by simp)) _
    have hs1 := fun (u : World) (o : Nat) (v : Value) => (FS u o v).size
    refine bodyPost_ret (results_cell1 rfl _ _ (w.heap.size + 1 + 1) (hcell ⟨x.rc, c.bys, tld c.wt x.wt, tld c.ev x.ev, tld c.rp x.rp⟩ (.slice (some ⟨w.heap.size + 1 + 1 + 1 + 1, 0, none⟩) c.bys.length c.bys.length)) rfl (loadHit (set5_row _ _ _ _ _ (((FS _ _ _).block (w.heap.size + 1 + 1) (by have := hs1; simp; omega) (by simp)).trans (((FS _ _ _).block (w.heap.size + 1 + 1) (by simp; omega) (by simp)).trans (((FS _ _ _).block (w.heap.size + 1 + 1) (by omega) (by simp)).trans C2H.out)))) rfl)) rfl ?_
    have R4 : RW [w.heap.size + 1 + 1, w.heap.size + 1 + 1 + 1] 1 w4 (.slice (some ⟨w.heap.size + 1 + 1 + 1 + 1, 0, none⟩) c.bys.length c.bys.length) (sc c.bys) := by
      refine ⟨_, c.bys.length, by rw [sc_len], by rw [sc_len]; exact Nat.le_refl _, fun j hj => ⟨w.heap.size + 1 + 1 + 1 + 1, 0, rfl, by simp <;> omega, hsz4, fun k u hu => ?_⟩⟩
      rw [sc_len] at hj
      have hu2 : k = 0 := by
        cases k with
        | zero => rfl
        | succ k => simp [sc] at hu
      subst hu2
      simp [sc] at hu
      subst hu
      simp [World.cell?, HG.out, hj]
    rw [HH.out]
    refine ⟨w.heap.size + 1 + 1 + 1 + 1, rfl, ?_, by omega, ?_, ?_⟩
    · exact (((F4.out.over (FS _ _ _) (by simp; omega)).over (FS _ _ _) (by simp; omega)).over (FS _ _ _) (by simp; omega)).over (set5_frm _ _ _ _ _ _ _) (by simp; omega)
    · exact Nat.lt_of_lt_of_le hsz4 (Nat.le_trans (Nat.le_trans (Nat.le_trans (FS _ _ _).size (FS _ _ _).size) (FS _ _ _).size) (set5_frm _ _ _ _ _ _ _).size)
    · exact ((((R4.frm (FS _ _ _) (by simp)).frm (FS _ _ _) (by simp)).frm (FS _ _ _) (by simp)).frm (set5_frm _ _ _ _ _ _ _) (by simp)).avoid (by simp)
end Go.Proofs.YtimjjlgpbkljoaaGreat
