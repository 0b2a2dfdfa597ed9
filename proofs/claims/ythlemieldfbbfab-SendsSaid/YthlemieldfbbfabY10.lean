import Derived.Test.YthlemieldfbbfabY9
import Derived.Test.YthlemieldfbbfabMB
import Derived.Test.YthlemieldfbbfabM6
import Derived.Laws.MakeOwn
namespace Go.Proofs.Ythlemieldfbbfab
open Go.RowKit
set_option linter.unusedVariables false
set_option linter.unusedSimpArgs false
set_option linter.unnecessarySimpa false

/-- The cells of labels, one behind the other. -/
def lcs : List LBL → List Value
  | [] => []
  | x :: r => .string (bs x.1) :: .string (bs x.2) :: lcs r
theorem lcs_len : ∀ L : List LBL, (lcs L).length = L.length * 2
  | [] => rfl
  | x :: r => by simp [lcs, lcs_len r]; omega
theorem lcs_0 : ∀ (L : List LBL) (j : Nat) (h : j < L.length), (lcs L)[j * 2]? = some (.string (bs L[j].1))
  | [], j, h => absurd h (by simp)
  | x :: r, 0, _ => rfl
  | x :: r, j + 1, h => by
    have := lcs_0 r j (by simpa using h)
    rw [show (j + 1) * 2 = j * 2 + 1 + 1 by omega]
    simpa [lcs] using this
theorem lcs_1 : ∀ (L : List LBL) (j : Nat) (h : j < L.length), (lcs L)[j * 2 + 1]? = some (.string (bs L[j].2))
  | [], j, h => absurd h (by simp)
  | x :: r, 0, _ => rfl
  | x :: r, j + 1, h => by
    have := lcs_1 r j (by simpa using h)
    rw [show (j + 1) * 2 + 1 = j * 2 + 1 + 1 + 1 by omega]
    simpa [lcs] using this
theorem lcs_one (L : List LBL) : ∀ v ∈ lcs L, v.oneCell' = true := by
  induction L with
  | nil => simp [lcs]
  | cons x r ih =>
    intro v hv
    simp only [lcs, List.mem_cons] at hv
    rcases hv with rfl | rfl | hv
    · rfl
    · rfl
    · exact ih v hv
theorem LQ.src {w : World} {g off : Nat} {L : List LBL} (h : LQ w (some ⟨g, off, none⟩) L) (j : Nat) (v : Value) (hv : (lcs L)[j]? = some v) : w.cell? ⟨g, off + j, none⟩ = some v := by
  have hj : j < L.length * 2 := by
    have := (List.getElem?_eq_some_iff.1 hv).1
    rwa [lcs_len] at this
  obtain ⟨i, hi⟩ : ∃ i, i = j / 2 := ⟨_, rfl⟩
  obtain ⟨g', off', e, hg, h1, h2⟩ := h i (by omega)
  simp only [Option.some.injEq, Addr.mk.injEq, and_true] at e
  obtain ⟨rfl, rfl⟩ := e
  rcases Nat.mod_two_eq_zero_or_one j with hm | hm
  · obtain rfl : j = i * 2 := by omega
    rw [lcs_0 L i (by omega)] at hv
    rw [← hv]; exact h1
  · obtain rfl : j = i * 2 + 1 := by omega
    rw [lcs_1 L i (by omega)] at hv
    rw [← hv, ← Nat.add_assoc]; exact h2
theorem infoLab : (Try.prog.info? 79).map (fun i => (i.zero, i.size, i.bytes)) = some (some (.agg #[.string ByteArray.empty, .string ByteArray.empty]), 2, 32) := by kernel_rfl
theorem infoLab2 : (Try.prog.info? 79).map (·.size) = some 2 := by kernel_rfl
theorem made_at (n i : Nat) (h : i < n) : (madeCells #[.string ByteArray.empty, .string ByteArray.empty] n).toList[i]? = some (.string ByteArray.empty) := by
  simp only [madeCells, Array.getElem?_toList, Array.getElem?_map]
  rw [Array.getElem?_range, if_pos h]
  simp only [Option.map_some]
  rcases Nat.mod_two_eq_zero_or_one i with h | h <;> simp [h]
theorem splice_hi {α : Type} (Z cs : List α) (i : Nat) (h : cs.length ≤ i) : (splice Z 0 cs)[i]? = Z[i]? := by
  unfold splice
  rw [List.take_zero, List.nil_append, List.getElem?_append_right h, List.getElem?_drop]
  congr 1
  omega
theorem splice_lo {α : Type} (Z cs : List α) (i : Nat) (h : i < cs.length) : (splice Z 0 cs)[i]? = cs[i]? := by
  unfold splice
  rw [List.take_zero, List.nil_append, List.getElem?_append_left h]

theorem addP (g q j : Nat) : (⟨g, q, none⟩ : Addr).add j = ⟨g, q + j, none⟩ := by unfold Addr.add; split <;> simp_all
theorem cell_row {w : World} {g : Nat} {cur : List Value} {t : TypeId} (hg : w.heap[g]? = some (.cells cur.toArray t (0, 0))) {i : Nat} {v : Value} (hi : cur[i]? = some v) : w.cell? ⟨g, i, none⟩ = some v := by simp [World.cell?, hg, hi]

/-- A copy of labels, one of its own behind them. -/
structure CP (w : World) (b : Nat) (L : List LBL) : Prop where
  lt : b < w.heap.size
  q : LQ w (some ⟨b, 0, none⟩) L
  m0 : w.cell? ⟨b, L.length * 2, none⟩ = some (.string { data := #[109, 105, 110, 101] })
  m1 : w.cell? ⟨b, L.length * 2 + 1, none⟩ = some (.string ByteArray.empty)
theorem CP.frm {w w' : World} {b : Nat} {L : List LBL} (h : CP w b L) (f : Frm [] w w') : CP w' b L :=
  ⟨Nat.lt_of_lt_of_le h.lt f.size, h.q.frm f, (f.cell (p := ⟨b, L.length * 2, none⟩) h.lt (by simp)).trans h.m0, (f.cell (p := ⟨b, L.length * 2 + 1, none⟩) h.lt (by simp)).trans h.m1⟩

theorem cp_set {w : World} {b : Nat} {L : List LBL} (hlt : b < w.heap.size) (hq : LQ w (some ⟨b, 0, none⟩) L) {u0 u1 : Value} (c0 : w.cell? ⟨b, L.length * 2, none⟩ = some u0) (c1 : w.cell? ⟨b, L.length * 2 + 1, none⟩ = some u1) :
    CP ((w.setCell ⟨b, L.length * 2, none⟩ (.string { data := #[109, 105, 110, 101] })).setCell ⟨b, L.length * 2 + 1, none⟩ (.string ByteArray.empty)) b L := by
  have hd : (⟨b, L.length * 2, none⟩ : Addr) ≠ ⟨b, L.length * 2 + 1, none⟩ := by simp
  have c1' : (w.setCell ⟨b, L.length * 2, none⟩ (.string { data := #[109, 105, 110, 101] })).cell? ⟨b, L.length * 2 + 1, none⟩ = some u1 := (World.cell?_setCell_other _ _ _ _ hd).trans c1
  have hfr : ∀ (w : World) (p : Addr) (v : Value), w.heap.size ≤ (w.setCell p v).heap.size := fun w p v => ((Frm.refl [p.block] w).setCell (p := p) (.inl (by simp)) v).size
  refine ⟨Nat.lt_of_lt_of_le hlt (Nat.le_trans (hfr _ _ _) (hfr _ _ _)), ?_, ?_, ?_⟩
  · intro j hj
    obtain ⟨g, off, e, hg, h1, h2⟩ := hq j hj
    simp only [Option.some.injEq, Addr.mk.injEq, and_true] at e
    obtain ⟨rfl, rfl⟩ := e
    refine ⟨b, 0, rfl, Nat.lt_of_lt_of_le hlt (Nat.le_trans (hfr _ _ _) (hfr _ _ _)), ?_, ?_⟩
    · rw [World.cell?_setCell_other _ _ _ _ (by simp <;> omega), World.cell?_setCell_other _ _ _ _ (by simp <;> omega)]; exact h1
    · rw [World.cell?_setCell_other _ _ _ _ (by simp <;> omega), World.cell?_setCell_other _ _ _ _ (by simp <;> omega)]; exact h2
  · rw [World.cell?_setCell_other _ _ _ _ (by simp)]
    exact World.cell?_setCell_same _ _ _ c0
  · exact World.cell?_setCell_same _ _ _ c1'
theorem Frm.belowT {S : List Nat} {B : Nat} {w W w' : World} (f : Frm S w W) (b : Below B W w') (hB : w.heap.size ≤ B) : Frm S w w' :=
  ⟨b.os.trans f.os, b.tape.trans f.tape, b.output.trans f.output, Nat.le_trans f.size b.size, fun k hk hS => (b.block k (by omega)).trans (f.block k hk hS)⟩

set_option maxRecDepth 100000 in
set_option maxHeartbeats 4000000 in
theorem copied_any (w : World) (a : Option Addr) (cap : Nat) (L : List LBL) (h : LQ w a L) (hN : L.length ≤ 16384) :
    Calls Try.prog 13 #[.slice a L.length cap] w fun e w' => e = .returned (.slice (some ⟨w.heap.size, 0, none⟩) L.length (L.length + 1)) ∧ Frm [] w w' ∧ CP w' w.heap.size L := by
  obtain ⟨Zl, hZ⟩ : ∃ Zl : List Value, Zl = (madeCells #[.string ByteArray.empty, .string ByteArray.empty] ((L.length + 1) * 2)).toList := ⟨_, rfl⟩
  have HZL : Hid (Zl.length = (L.length + 1) * 2) := by show _ = _; rw [hZ, Array.length_toList]; exact size_madeCells _ _
  have HZA : Hid (∀ i, i < (L.length + 1) * 2 → Zl[i]? = some (.string ByteArray.empty)) := fun i hi => by rw [hZ]; exact made_at _ i hi
  have hmk : ∀ u : World, (Instr.makeSlice 32 (.int .i64 ((L.length : Int) + 1)) (.int .i64 ((L.length : Int) + 1))).run Try.prog u = .ok (.slice (some ⟨u.heap.size, 0, none⟩) (L.length + 1) (L.length + 1)) (u.alloc (.cells Zl.toArray 79)) := fun u => by
    obtain ⟨i0, hi, hz0, hz1, hz2⟩ := info_parts2 infoLab
    have := run_make (P := Try.prog) u 32 79 i0 _ Try.underlying32 hi hz0 .i64 .i64 ((L.length : Int) + 1) ((L.length : Int) + 1) (by omega) (Int.le_refl _) (by rw [hz2]; omega) (by omega)
    rw [hz1, show ((L.length : Int) + 1).toNat = L.length + 1 by omega] at this
    rw [this, hZ]; rfl
  have HCL : Hid ((lcs L).length = L.length * 2) := lcs_len L
  obtain ⟨cs, hcs⟩ : ∃ cs, cs = lcs L := ⟨_, rfl⟩
  rw [← hcs] at HCL
  have HCS := hide hcs
  have H := hide h
  clear hcs hZ h
  obtain ⟨W, hW⟩ : ∃ W, W = w.alloc (Obj.cells Zl.toArray 79) := ⟨_, rfl⟩
  have FW : Hid (Frm [] w W) := by show Frm _ _ _; rw [hW]; exact (Frm.refl [] w).alloc _
  have B2 : Hid (W.heap[w.heap.size]? = some (Obj.cells Zl.toArray 79 (0, 0))) := by show _ = _; rw [hW]; exact heap1 _ _
  have HM : Hid (Nat.min L.length (L.length + 1) = L.length) := Nat.min_eq_left (by omega)
  have HPOS : Hid (∀ dp : Option Addr, dp = some ⟨w.heap.size, 0, none⟩ → 0 < cs.length → dp = some ⟨w.heap.size, 0, none⟩ ∧ ∃ ad, a = some ad ∧ ∀ j v, cs[j]? = some v → W.cell? (ad.add j) = some v) := by
    intro dp hdp h0
    rw [HCL.out] at h0
    obtain ⟨g, off, rfl, hg, _⟩ := H.out 0 (by omega)
    refine ⟨hdp, _, rfl, fun j v hv => ?_⟩
    rw [addP]
    rw [HCS.out] at hv
    exact (FW.out.cell (p := ⟨g, off + j, none⟩) hg (by simp)).trans (H.out.src j v hv)
  have HFIT : Hid (0 + cs.length ≤ Zl.length) := by show _ ≤ _; rw [HCL.out, HZL.out]; omega
  have H1C : Hid (∀ v ∈ cs, v.oneCell' = true) := by rw [HCS.out]; exact lcs_one L
  have HB : Hid (Below w.heap.size W W) := Below.refl _ _
  rw [hW] at HB B2 HPOS
  go_enter Try.func13, Try.ntmps13
  go_wp2_with (refine wpList_copyK rfl _ _ 32 32 rfl 79 2 Try.underlying32 infoLab2 _ _ _ _ _ _ L.length rfl rfl w.heap.size 0 Zl 79 B2.out cs HM.out HCL.out (by omega) (HPOS.out _ rfl) HFIT.out H1C.out w.heap.size _ HB.out (Nat.le_refl _) ?_; intro w4 HG4 hB4; rw [← hW] at hB4; have c0 : w4.cell? ⟨w.heap.size, L.length * 2, none⟩ = some (.string ByteArray.empty) := cell_row HG4.out (by rw [splice_hi _ _ _ (by rw [HCL.out]; omega), HZA.out _ (by omega)]); have c1 : w4.cell? ⟨w.heap.size, L.length * 2 + 1, none⟩ = some (.string ByteArray.empty) := cell_row HG4.out (by rw [splice_hi _ _ _ (by rw [HCL.out]; omega), HZA.out _ (by omega)]); have cz : ∀ o, w4.frozen? ⟨w.heap.size, o, none⟩ = false := (fun o => by simp [World.frozen?, HG4.out]); have HB4 := hide hB4; clear hB4)
  go_ret
  have F4 : Frm [] w w4 := FW.out.belowT HB4.out (Nat.le_refl _)
  have hlt : w.heap.size < w4.heap.size := (Array.getElem?_eq_some_iff.1 HG4.out).1
  have hq : LQ w4 (some ⟨w.heap.size, 0, none⟩) L := by
    intro j hj
    refine ⟨w.heap.size, 0, rfl, hlt, ?_, ?_⟩
    · rw [Nat.zero_add]
      refine cell_row HG4.out ?_
      rw [splice_lo _ _ _ (by rw [HCL.out]; omega), HCS.out]
      exact lcs_0 L j hj
    · rw [Nat.zero_add]
      refine cell_row HG4.out ?_
      rw [splice_lo _ _ _ (by rw [HCL.out]; omega), HCS.out]
      exact lcs_1 L j hj
  have FS : ∀ (u : World) (p : Addr) (v : Value), p.block = w.heap.size → Frm [w.heap.size] u (u.setCell p v) := fun u p v e => (Frm.refl _ _).setCell (p := p) (.inl (by simp [e])) _
  exact ⟨rfl, (F4.over (FS _ _ _ rfl) (by simp)).over (FS _ _ _ rfl) (by simp), cp_set hlt hq c0 c1⟩

set_option maxRecDepth 100000 in
set_option maxHeartbeats 4000000 in
theorem still_any (w : World) (b : Nat) (a : Option Addr) (cap : Nat) (L : List LBL) (h : LQ w a L) (hc : CP w b L) (hN : L.length ≤ 16384) :
    Calls Try.prog 15 #[.slice (some ⟨b, 0, none⟩) L.length (L.length + 1), .slice a L.length cap] w fun e w' => e = .returned (.bool true) ∧ ∃ q, w' = w.drewN q := by
  have H := hide h
  have HC := hide hc.q
  have m0 := hc.m0
  have m1 := hc.m1
  have hl := bs_toList
  clear h hc
  go_enter Try.func15, Try.ntmps15
  go_wp2_with fail
  go_loopg [7] L.length (fun k v7 wr => ∃ j q : Nat, j + k = L.length ∧ v7 = .int .i64 j ∧ wr = w.drewN q)
  case atStart => exact ⟨0, 0, by omega, rfl, rfl⟩
  case round =>
    obtain ⟨j, q, hjk, rfl, hw⟩ := hrel
    subst hw
    by_cases hlt : j < L.length
    · have hd1 : decide ((j : Int) < (L.length : Int)) = true := decide_eq_true (by omega)
      have hd2 : decide ((j : Int) < (L.length : Int) + 1) = true := decide_eq_true (by omega)
      obtain ⟨g1, o1, rfl, hg1, p0, p1⟩ := H.out j hlt
      obtain ⟨g2, o2, e2, hg2, r0, r1⟩ := HC.out j hlt
      simp only [Option.some.injEq, Addr.mk.injEq, and_true] at e2
      obtain ⟨rfl, rfl⟩ := e2
      rw [Nat.zero_add] at r0 r1
      generalize L[j] = x at *
      obtain ⟨nm, vl⟩ := x
      simp only at p0 p1 r0 r1
      go_wp2_with fail
      go_quiet (fail)
      go_wp2
      go_roundg (gk - 1)
      case measure => omega
      case rel => exact ⟨j + 1, _, by omega, by go_num, rfl⟩
    · have hd1 : decide ((j : Int) < (L.length : Int)) = false := decide_eq_false (by omega)
      go_wp2
      go_ret
      exact ⟨rfl, q, rfl⟩
end Go.Proofs.Ythlemieldfbbfab
