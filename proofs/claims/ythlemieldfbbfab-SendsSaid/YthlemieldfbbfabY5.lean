import Derived.Test.YthlemieldfbbfabY4
import Derived.Laws.CopyOwn
import Derived.Laws.MakeOwn
namespace Go.Proofs.Ythlemieldfbbfab
open Go.RowKit
set_option linter.unusedVariables false
set_option linter.unusedSimpArgs false
set_option linter.unnecessarySimpa false

theorem Frm.below_trans {S : List Nat} {B : Nat} {w W w' : World} (f : Frm S w W) (b : Below B W w') (hB : w.heap.size ≤ B) : Frm S w w' :=
  ⟨b.os.trans f.os, b.tape.trans f.tape, b.output.trans f.output, Nat.le_trans f.size b.size, fun k hk hS => (b.block k (by omega)).trans (f.block k hk hS)⟩
theorem infoStr1 : (Try.prog.info? 9).map (·.size) = some 1 := by kernel_rfl
def FreshQ (x : HitM) (w : World) (e : Ending) (w' : World) : Prop :=
  ∃ g, e = .returned (.agg (hcell x (.slice (some ⟨g, 0, none⟩) x.bl.length x.bl.length))) ∧ Frm [] w w' ∧ w.heap.size ≤ g ∧ g < w'.heap.size ∧ RW [] 1 w' (.slice (some ⟨g, 0, none⟩) x.bl.length x.bl.length) (sc x.bl)

set_option maxRecDepth 100000 in
set_option maxHeartbeats 4000000 in
theorem pfresh_any (x : HitM) (ab : Option Addr) (cb : Nat) (w : World) (hb : RW [] 1 w (.slice ab x.bl.length cb) (sc x.bl)) (hlen : x.bl.length < 5) :
    Calls Try.prog 51 #[.agg (hcell x (.slice ab x.bl.length cb))] w (FreshQ x w) := by
  obtain ⟨rc, bl, wt, ev, rp⟩ := x
  simp only at hb hlen
  obtain ⟨Zl, hZ⟩ : ∃ Zl : List Value, Zl = (madeCells #[.string ByteArray.empty] bl.length).toList := ⟨_, rfl⟩
  have HZL : Hid (Zl.length = bl.length) := by show _ = _; rw [hZ, Array.length_toList]; exact size_madeCells _ _
  have hmk : ∀ u : World, (Instr.makeSlice 51 (.int .i64 (bl.length : Int)) (.int .i64 (bl.length : Int))).run Try.prog u = .ok (.slice (some ⟨u.heap.size, 0, none⟩) bl.length bl.length) (u.alloc (.cells Zl.toArray 9)) := fun u => by
    obtain ⟨i0, hi, hz0, hz1, hz2⟩ := info_parts2 infoStr
    have := run_make (P := Try.prog) u 51 9 i0 (.string ByteArray.empty) Try.underlying51 hi hz0 .i64 .i64 (bl.length : Int) (bl.length : Int) (by omega) (Int.le_refl _) (by rw [hz2]; omega) (by omega)
    rw [hz1, Int.toNat_natCast, Nat.mul_one] at this
    rw [this, hZ]; rfl
  obtain ⟨cs, hcs⟩ : ∃ cs : List Value, cs = bl.map fun s => .string (bs s) := ⟨_, rfl⟩
  have HCL : Hid (cs.length = bl.length) := by show _ = _; rw [hcs]; simp
  obtain ⟨ab', cb', e, hrow⟩ := hb.str
  simp only [Value.slice.injEq, true_and] at e
  obtain ⟨rfl, rfl⟩ := e
  have HROW := hide hrow
  have HCS := hide hcs
  clear hcs hZ hrow hb
  obtain ⟨W, hW⟩ : ∃ W, W = ((w.alloc (Obj.cells #[.string (bs rc), .slice ab bl.length cb, .int .i64 (wt : Nat), .int .i64 (ev : Nat), .int .i64 (rp : Nat)] 75)).alloc (Obj.cells hz 75)).alloc (Obj.cells Zl.toArray 9) := ⟨_, rfl⟩
  have FW : Frm [] w W := by rw [hW]; exact (((Frm.refl [] w).alloc _).alloc _).alloc _
  have hzW : W.heap.size = w.heap.size + 3 := by rw [hW]; simp
  have B0 : Hid (W.heap[w.heap.size]? = some (Obj.cells #[.string (bs rc), .slice ab bl.length cb, .int .i64 (wt : Nat), .int .i64 (ev : Nat), .int .i64 (rp : Nat)] 75)) := by
    show _ = _; rw [hW]; exact ((((Frm.refl [] _).alloc _).alloc _).block w.heap.size (by simp) (by simp)).trans (heap1 _ _)
  have B1 : Hid (W.heap[w.heap.size + 1]? = some (Obj.cells hz 75)) := by
    show _ = _; rw [hW]
    have := heap1 (w.alloc (Obj.cells #[.string (bs rc), .slice ab bl.length cb, .int .i64 (wt : Nat), .int .i64 (ev : Nat), .int .i64 (rp : Nat)] 75)) (Obj.cells hz 75)
    rw [show (w.alloc (Obj.cells #[.string (bs rc), .slice ab bl.length cb, .int .i64 (wt : Nat), .int .i64 (ev : Nat), .int .i64 (rp : Nat)] 75)).heap.size = w.heap.size + 1 by simp] at this
    exact (((Frm.refl [] _).alloc _).block (w.heap.size + 1) (by simp) (by simp)).trans this
  have B2 : Hid (W.heap[w.heap.size + 2]? = some (Obj.cells Zl.toArray 9 (0, 0))) := by
    show _ = _; rw [hW]
    have := heap1 ((w.alloc (Obj.cells #[.string (bs rc), .slice ab bl.length cb, .int .i64 (wt : Nat), .int .i64 (ev : Nat), .int .i64 (rp : Nat)] 75)).alloc (Obj.cells hz 75)) (Obj.cells Zl.toArray 9)
    rw [show ((w.alloc (Obj.cells #[.string (bs rc), .slice ab bl.length cb, .int .i64 (wt : Nat), .int .i64 (ev : Nat), .int .i64 (rp : Nat)] 75)).alloc (Obj.cells hz 75)).heap.size = w.heap.size + 2 by simp] at this
    exact this
  have HN : Hid (cs.length = Nat.min bl.length bl.length) := by show _ = _; rw [HCL.out]; exact (Nat.min_self _).symm
  have HPOS : Hid (∀ dp : Option Addr, dp = some ⟨w.heap.size + 2, 0, none⟩ → 0 < cs.length → dp = some ⟨w.heap.size + 2, 0, none⟩ ∧ ∃ ad, ab = some ad ∧ ∀ j v, cs[j]? = some v → W.cell? (ad.add j) = some v) := by
    intro dp hdp h0
    rw [HCL.out] at h0
    obtain ⟨g, off, rfl, hg, _⟩ := HROW.out 0 h0
    refine ⟨hdp, _, rfl, fun j v hv => ?_⟩
    rw [HCS.out, List.getElem?_map, Option.map_eq_some_iff] at hv
    obtain ⟨y, hy, rfl⟩ := hv
    obtain ⟨hj, rfl⟩ := List.getElem?_eq_some_iff.1 hy
    obtain ⟨g', off', e', hg', hc'⟩ := HROW.out j hj
    simp only [Option.some.injEq, Addr.mk.injEq, and_true] at e'
    obtain ⟨rfl, rfl⟩ := e'
    rw [addQ]
    exact FW.at (p := ⟨g, off + j, none⟩) hg hc'
  have HFIT : Hid (0 + cs.length ≤ Zl.length) := by show _ ≤ _; rw [HCL.out, HZL.out]; omega
  have H1C : Hid (∀ v ∈ cs, v.oneCell' = true) := by
    intro v hv
    rw [HCS.out] at hv
    obtain ⟨y, _, rfl⟩ := List.mem_map.1 hv
    rfl
  have HB : Hid (Below (w.heap.size + 2) W W) := Below.refl _ _
  have HSP : Hid ((splice Zl 0 cs).toArray = cs.toArray) := by
    show _ = _; unfold splice; rw [List.take_zero, List.nil_append, List.drop_eq_nil_of_le (by rw [HZL.out, HCL.out]; omega), List.append_nil]
  have FWH := hide FW
  clear FW
  simp only [hcell]
  go_enter Try.func51, Try.ntmps51
  rw [hW] at HB B2 HPOS
  go_wp2_with (refine wpList_copy_splice rfl _ _ 51 51 rfl 9 Try.underlying51 infoStr1 _ _ _ _ _ _ rfl rfl (w.heap.size + 2) 0 Zl 9 B2.out cs HN.out (HPOS.out _ rfl) HFIT.out H1C.out (w.heap.size + 2) _ HB.out (by omega) ?_; intro w4 HG4 hB4; rw [← hW] at hB4; have C0 : w4.heap[w.heap.size]? = _ := (hB4.block w.heap.size (by omega)).trans B0.out; have C1 : w4.heap[w.heap.size + 1]? = _ := (hB4.block (w.heap.size + 1) (by omega)).trans B1.out; have a0 : w4.cell? ⟨w.heap.size, 0, none⟩ = some (.string (bs rc)) := (by simp [World.cell?, C0]); have a1 : w4.cell? ⟨w.heap.size, 1, none⟩ = some (.slice ab bl.length cb) := (by simp [World.cell?, C0]); have a2 : w4.cell? ⟨w.heap.size, 2, none⟩ = some (.int .i64 (wt : Nat)) := (by simp [World.cell?, C0]); have a3 : w4.cell? ⟨w.heap.size, 3, none⟩ = some (.int .i64 (ev : Nat)) := (by simp [World.cell?, C0]); have a4 : w4.cell? ⟨w.heap.size, 4, none⟩ = some (.int .i64 (rp : Nat)) := (by simp [World.cell?, C0]); have az : ∀ o, w4.frozen? ⟨w.heap.size, o, none⟩ = false := (fun o => by simp [World.frozen?, C0]); have b0 : w4.cell? ⟨w.heap.size + 1, 0, none⟩ = some (.string ByteArray.empty) := (by simp [World.cell?, C1]); have b1 : w4.cell? ⟨w.heap.size + 1, 1, none⟩ = some (.slice none 0 0) := (by simp [World.cell?, C1]); have b2 : w4.cell? ⟨w.heap.size + 1, 2, none⟩ = some (.int .i64 0) := (by simp [World.cell?, C1]); have b3 : w4.cell? ⟨w.heap.size + 1, 3, none⟩ = some (.int .i64 0) := (by simp [World.cell?, C1]); have b4 : w4.cell? ⟨w.heap.size + 1, 4, none⟩ = some (.int .i64 0) := (by simp [World.cell?, C1]); have bz : ∀ o, w4.frozen? ⟨w.heap.size + 1, o, none⟩ = false := (fun o => by simp [World.frozen?, C1]); have C1H := hide C1; have HB4 := hide hB4; clear C0 C1 hB4)
  refine bodyPost_ret (results_cell1 rfl _ _ (w.heap.size + 1) (hcell ⟨rc, bl, wt, ev, rp⟩ (.slice (some ⟨w.heap.size + 2, 0, none⟩) bl.length bl.length)) rfl (loadHit (set5_row _ _ _ _ _ ((((Frm.refl [w.heap.size] w4).setCell (p := ⟨w.heap.size, 1, none⟩) (.inl (by simp)) _).block (w.heap.size + 1) (by have := HB4.out.size; omega) (by simp)).trans C1H.out)) rfl)) rfl ?_
  have F4 : Frm [] w w4 := FWH.out.below_trans HB4.out (by omega)
  have hz4 := HB4.out.size
  have FS : ∀ v, Frm [w.heap.size] w4 (w4.setCell ⟨w.heap.size, 1, none⟩ v) := fun v => (Frm.refl _ _).setCell (p := ⟨w.heap.size, 1, none⟩) (.inl (by simp)) _
  have HG5 := HG4.out
  rw [HSP.out] at HG5
  refine ⟨w.heap.size + 2, rfl, (F4.over (FS _) (by simp)).over (set5_frm _ _ _ _ _ _ _) (by simp), by omega, ?_, ?_⟩
  · exact Nat.lt_of_lt_of_le (by omega : w.heap.size + 2 < w4.heap.size) (Nat.le_trans (FS _).size (set5_frm _ _ _ _ _ _ _).size)
  · have R4 : RW [w.heap.size, w.heap.size + 1] 1 w4 (.slice (some ⟨w.heap.size + 2, 0, none⟩) bl.length bl.length) (sc bl) := by
      refine ⟨_, bl.length, by rw [sc_len], by rw [sc_len]; omega, fun j hj => ⟨w.heap.size + 2, 0, rfl, by simp, by omega, fun c u hu => ?_⟩⟩
      rw [sc_len] at hj
      have hu2 : c = 0 ∧ u = .string (bs bl[j]) := by
        cases c with
        | zero => simp [sc] at hu; exact ⟨rfl, hu.symm⟩
        | succ c => simp [sc] at hu
      obtain ⟨rfl, rfl⟩ := hu2
      have hcj : cs[j]? = some (.string (bs bl[j])) := by rw [HCS.out]; simp [hj]
      simp [World.cell?, HG5, hcj]
    exact ((R4.frm (FS _) (by simp)).frm (set5_frm _ _ _ _ _ _ _) (by simp)).avoid (by simp)
end Go.Proofs.Ythlemieldfbbfab
