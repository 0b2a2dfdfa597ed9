import Derived.Test.YtimjjlgpbkljoaaGreatK9
namespace Go.Proofs.YtimjjlgpbkljoaaGreat
open Go.RowKit
set_option linter.unusedVariables false
set_option linter.unusedSimpArgs false
set_option linter.unnecessarySimpa false

theorem layRoute_all (w0 : World) (kb : Nat) (V : V6) (rt xx vq : Value) (C : List CR) (q : List (List (Nat × Bool))) (hc : LC w0 kb rt vq C q) : ∀ f, LRQ w0 kb V rt xx vq C q f
  | 0 => by
    intro r d w vl l h hr hf hl
    have := hc.d C[r] (List.getElem_mem hr)
    omega
  | f + 1 => layRoute_step w0 kb V rt xx vq C q hc f (layRoute_all w0 kb V rt xx vq C q hc f)

/-- Numbers, and bools, in a row of their own. -/
def NB (w : World) (g : Nat) (N : List Int) : Prop := w.heap[g]? = some (.cells (N.map fun n => Value.int .i64 n).toArray 3 (0, 0))
def RB (w : World) (g : Nat) (R : List Bool) : Prop := w.heap[g]? = some (.cells (R.map fun b => Value.bool b).toArray 4 (0, 0))
theorem NB.cell {w : World} {g : Nat} {L : List Int} (h : NB w g L) (i : Nat) (hi : i < L.length) : w.cell? ⟨g, i, none⟩ = some (.int .i64 L[i]) := by
  unfold NB at h
  simp [World.cell?, h, hi]
theorem NB.fz {w : World} {g : Nat} {L : List Int} (h : NB w g L) (i : Nat) : w.frozen? ⟨g, i, none⟩ = false := by
  unfold NB at h
  simp [World.frozen?, h]
theorem NB.lt {w : World} {g : Nat} {L : List Int} (h : NB w g L) : g < w.heap.size := (Array.getElem?_eq_some_iff.1 h).1
theorem NB.frm {S : List Nat} {w w' : World} {g : Nat} {L : List Int} (h : NB w g L) (f : Frm S w w') (hS : g ∉ S) : NB w' g L := (f.block g h.lt hS).trans h
theorem NB.set {w : World} {g : Nat} {L : List Int} (h : NB w g L) (i : Nat) (y : Int) : NB (w.setCell ⟨g, i, none⟩ (.int .i64 y)) g (L.set i y) := by
  unfold NB at h ⊢
  simp [World.setCell, Array.getElem?_modify, h, List.map_set]
theorem RB.cell {w : World} {g : Nat} {L : List Bool} (h : RB w g L) (i : Nat) (hi : i < L.length) : w.cell? ⟨g, i, none⟩ = some (.bool L[i]) := by
  unfold RB at h
  simp [World.cell?, h, hi]
theorem RB.fz {w : World} {g : Nat} {L : List Bool} (h : RB w g L) (i : Nat) : w.frozen? ⟨g, i, none⟩ = false := by
  unfold RB at h
  simp [World.frozen?, h]
theorem RB.lt {w : World} {g : Nat} {L : List Bool} (h : RB w g L) : g < w.heap.size := (Array.getElem?_eq_some_iff.1 h).1
theorem RB.frm {S : List Nat} {w w' : World} {g : Nat} {L : List Bool} (h : RB w g L) (f : Frm S w w') (hS : g ∉ S) : RB w' g L := (f.block g h.lt hS).trans h
theorem RB.set {w : World} {g : Nat} {L : List Bool} (h : RB w g L) (i : Nat) (y : Bool) : RB (w.setCell ⟨g, i, none⟩ (.bool y)) g (L.set i y) := by
  unfold RB at h ⊢
  simp [World.setCell, Array.getElem?_modify, h, List.map_set]
theorem infoBool1 : (Tryz.prog.info? 4).map (fun i => (i.zero, i.size, i.bytes)) = some (some (.bool false), 1, 1) := by kernel_rfl
theorem made_bools (n : Nat) : madeCells #[.bool false] n = ((List.replicate n false).map fun b => Value.bool b).toArray := by
  apply Array.ext
  · simp [size_madeCells]
  · intro i h1 h2
    simp [madeCells, Nat.mod_one]
theorem run_bools (n : Nat) (hn : n ≤ 1000000000) (u : World) : (Instr.makeSlice 103 (.int .i64 (n : Int)) (.int .i64 (n : Int))).run Tryz.prog u = .ok (.slice (some ⟨u.heap.size, 0, none⟩) n n) (u.alloc (.cells ((List.replicate n false).map fun b => Value.bool b).toArray 4)) := by
  obtain ⟨i0, hi, hz0, hz1, hz2⟩ := info_parts2 infoBool1
  have := run_make (P := Tryz.prog) u 103 4 i0 _ Tryz.underlying103 hi hz0 .i64 .i64 (n : Int) (n : Int) (by omega) (Int.le_refl _) (by rw [hz2]; omega) (by omega)
  rw [hz1, Int.toNat_natCast, Nat.mul_one] at this
  rw [this]
  have e : (Value.bool false).cells = #[.bool false] := rfl
  rw [e, made_bools]
theorem made_ints2 (n : Nat) : madeCells #[.int .i64 0] n = ((List.replicate n (0 : Int)).map fun b => Value.int .i64 b).toArray := by
  apply Array.ext
  · simp [size_madeCells]
  · intro i h1 h2
    simp [madeCells, Nat.mod_one]
theorem run_ints2 (n : Nat) (hn : n ≤ 1000000000) (u : World) : (Instr.makeSlice 90 (.int .i64 (n : Int)) (.int .i64 (n : Int))).run Tryz.prog u = .ok (.slice (some ⟨u.heap.size, 0, none⟩) n n) (u.alloc (.cells ((List.replicate n (0 : Int)).map fun b => Value.int .i64 b).toArray 3)) := by
  obtain ⟨i0, hi, hz0, hz1, hz2⟩ := info_parts2 infoInt1
  have := run_make (P := Tryz.prog) u 90 3 i0 _ Tryz.underlying90 hi hz0 .i64 .i64 (n : Int) (n : Int) (by omega) (Int.le_refl _) (by rw [hz2]; omega) (by omega)
  rw [hz1, Int.toNat_natCast, Nat.mul_one] at this
  rw [this]
  have e : (Value.int .i64 0).cells = #[.int .i64 0] := rfl
  rw [e, made_ints2]
theorem RW.ins {A : List Nat} {w : World} {v : Value} {L : List InM} (h : RW A 4 w v (icl L)) : ∃ a cap, v = .slice a L.length cap ∧ ∀ (j : Nat) (hj : j < L.length), ∃ g off, a = some ⟨g, off, none⟩ ∧ g < w.heap.size ∧ w.cell? ⟨g, off + j * 4, none⟩ = some (.int .i64 (L[j].op : Nat)) ∧ w.cell? ⟨g, off + j * 4 + 1, none⟩ = some (.int .i64 (L[j].x : Nat)) ∧ w.cell? ⟨g, off + j * 4 + 2, none⟩ = some (.int .i64 (L[j].a : Nat)) ∧ w.cell? ⟨g, off + j * 4 + 3, none⟩ = some (.int .i64 (L[j].b : Nat)) := by
  obtain ⟨a, cap, e, h1, h2⟩ := h
  rw [icl_len] at e
  refine ⟨a, cap, e, fun j hj => ?_⟩
  obtain ⟨g, off, e2, h3, h4, h5⟩ := h2 j (by rw [icl_len]; exact hj)
  exact ⟨g, off, e2, h4, h5 0 _ (by simp [icl, icell]), h5 1 _ (by simp [icl, icell]), h5 2 _ (by simp [icl, icell]), h5 3 _ (by simp [icl, icell])⟩

set_option maxRecDepth 100000 in
set_option maxHeartbeats 4000000 in
theorem numbersOf_any (w : World) (v : Value) (A : List Nat) (l : List InM) (h : RW A 4 w v (icl l)) (hgl : GL l) (first : Nat) (hf : first < l.length) (hl : l.length ≤ 900000000) :
    Calls Tryz.prog 35 #[v, .int .i64 first] w fun e w' => ∃ g, e = .returned (.slice (some ⟨g, 0, none⟩) l.length l.length) ∧ Frm [] w w' ∧ w.heap.size ≤ g ∧ NB w' g (numsOf l first) := by
  obtain ⟨a, cap, rfl, r⟩ := h.ins
  have R := hide r
  have GLH := hide hgl
  have hmk := run_ints2 l.length (by omega)
  have hmb := run_bools l.length (by omega)
  clear h r hgl
  go_enter Tryz.func35, Tryz.ntmps35
  go_wp2_with fail
  go_loopg [7, 8] l.length (fun k v7 v8 wr => ∃ (j cnt : Nat) (x : Int) (R : List Bool) (N : List Int), j ≤ l.length ∧ k = j ∧ v8 = .int .i64 x ∧ x = (j : Int) - 1 ∧ v7 = .int .i64 cnt ∧ cnt + j ≤ l.length ∧ Hid (R.length = l.length) ∧ Hid (N.length = l.length) ∧ Hid (numGo l j R N cnt = numsOf l first) ∧ Frm [] w wr ∧ Hid (RB wr w.heap.size R) ∧ Hid (NB wr (w.heap.size + 1) N))
  case atStart =>
    refine ⟨l.length, 0, _, (List.replicate l.length false).set first true, List.replicate l.length 0, Nat.le_refl _, rfl, rfl, by omega, rfl, by omega, ?_, ?_, ?_, ((Frm.refl _ _).alloc _).alloc _, ?_, ?_⟩
    · show _ = _; simp
    · show _ = _; simp
    · show _ = _; rfl
    · show RB _ _ _
      unfold RB
      rw [((Frm.refl [] _).alloc _).block w.heap.size (by simp) (by simp), heap1]
      have e : (Array.replicate l.length (Value.bool false)).setIfInBounds first (Value.bool true) = (((List.replicate l.length false).set first true).map fun b => Value.bool b).toArray := by
        apply Array.ext'
        simp [Array.toList_setIfInBounds, List.map_set]
      rw [e]
    · show NB _ _ _
      unfold NB
      rw [heap_b]
      simp
  case round =>
    obtain ⟨j, cnt, x, Rl, N, hj, rfl, rfl, hx, rfl, hcj, HRL, HNL, HV, hF, HRB, HNB⟩ := hrel
    have F := hide hF
    have hzz := hF.size
    rcases gk with _ | m
    · obtain rfl : x = -1 := by omega
      have HV2 : Hid (N = numsOf l first) := HV.out
      clear hx hF HV
      go_wp2
      go_ret
      exact ⟨_, rfl, F.out, by omega, by rw [← HV2.out]; exact HNB.out⟩
    · obtain rfl : x = (m : Int) := by omega
      clear hx
      have hrl := HRL.out
      have hnl := HNL.out
      have hrlt := HRB.out.lt
      have hnlt := HNB.out.lt
      have n0 := HNB.out.cell m (by omega)
      have nz := HNB.out.fz
      have r0 := HRB.out.cell m (by omega)
      have rz := HRB.out.fz
      have hmm : decide ((m : Int) < (l.length : Int)) = true := decide_eq_true (by omega)
      obtain ⟨gl, ol, rfl, hgl, q0, q1, q2, q3⟩ := R.out m (by omega)
      have t0 := (hF.cell (p := ⟨gl, ol + m * 4, none⟩) hgl (by simp)).trans q0
      have t1 := (hF.cell (p := ⟨gl, ol + m * 4 + 1, none⟩) hgl (by simp)).trans q1
      have t2 := (hF.cell (p := ⟨gl, ol + m * 4 + 2, none⟩) hgl (by simp)).trans q2
      have t3 := (hF.cell (p := ⟨gl, ol + m * 4 + 3, none⟩) hgl (by simp)).trans q3
      have hgn : gl ≠ w.heap.size + 1 := by omega
      have hgr : gl ≠ w.heap.size := by omega
      have hgn' : w.heap.size + 1 ≠ gl := by omega
      have hgr' : w.heap.size ≠ gl := by omega
      have hstep : numGo l (m + 1) Rl N cnt = if Rl[m] = true then numGo l m (if l[m].op = 0 then Rl else if l[m].op = 2 then (Rl.set l[m].a true).set l[m].b true else Rl.set l[m].a true) (N.set m cnt) (cnt + 1) else numGo l m Rl (N.set m (-1)) cnt := by
        rw [numGo, List.getElem?_eq_getElem (by omega)]
        simp [List.getD, hrl, show m < l.length by omega]
      have hgm := GLH.out m (by omega)
      generalize N[m] = nm at *
      have FN1 : ∀ (u : World) (i : Nat) (y : Value), Frm [w.heap.size + 1] u (u.setCell ⟨w.heap.size + 1, i, none⟩ y) := fun u i y => (Frm.refl _ _).setCell (p := ⟨w.heap.size + 1, i, none⟩) (.inl (by simp)) _
      have FN2 : ∀ (u : World) (i : Nat) (y : Value), Frm [w.heap.size] u (u.setCell ⟨w.heap.size, i, none⟩ y) := fun u i y => (Frm.refl _ _).setCell (p := ⟨w.heap.size, i, none⟩) (.inl (by simp)) _
      have HFN1 := hide FN1
      have HFN2 := hide FN2
      clear FN1 FN2 q0 q1 q2 q3 hF
      cases hb : Rl[m]
      · rw [hb] at r0 hstep
        simp only [Bool.false_eq_true, if_false] at hstep
        have HV2 : Hid (numGo l m Rl (N.set m (-1)) cnt = numsOf l first) := hstep.symm.trans HV.out
        clear hstep HV hgm t0 t1 t2 t3 hb
        go_wp2
        go_roundg m
        case measure => omega
        case rel => exact ⟨m, cnt, _, Rl, N.set m (-1), by omega, rfl, rfl, by omega, rfl, by omega, HRL, by show _ = _; simp [hnl], HV2, F.out.over (HFN1.out _ _ _) (by simp), HRB.out.frm (HFN1.out _ _ _) (by simp), HNB.out.set m (-1)⟩
      · rw [hb] at r0 hstep
        simp only [if_true] at hstep
        have hlt : m < l.length := by omega
        generalize hlm : l[m] = c at *
        obtain ⟨op, xn, ia, ib⟩ := c
        simp only at t0 t1 t2 t3 hstep hgm
        clear hb hlm
        have HZ : Hid (∀ u : World, NB u (w.heap.size + 1) ((N.set m (-1)).set m cnt) → NB u (w.heap.size + 1) (N.set m cnt)) := fun u hu => by rw [List.set_set] at hu; exact hu
        have HN2 : Hid ((N.set m (cnt : Int)).length = l.length) := by show _ = _; simp [hnl]
        have HNW := hide (HZ.out _ ((HNB.out.set m (-1)).set m cnt))
        have HRW := hide ((HRB.out.frm (HFN1.out wr m (.int .i64 (-1))) (by simp)).frm (HFN1.out _ m (.int .i64 (cnt : Nat))) (by simp))
        have FW := hide ((F.out.over (HFN1.out wr m (.int .i64 (-1))) (by simp)).over (HFN1.out _ m (.int .i64 (cnt : Nat))) (by simp))
        clear HZ
        rcases hgm with rfl | ⟨rfl, ha⟩ | ⟨rfl, ha, hb⟩
        · have HV2 : Hid (numGo l m Rl (N.set m cnt) (cnt + 1) = numsOf l first) := hstep.symm.trans HV.out
          clear hstep HV
          go_wp2
          go_roundg m
          case measure => omega
          case rel => exact ⟨m, cnt + 1, _, Rl, N.set m cnt, by omega, rfl, rfl, by omega, by go_num, by omega, HRL, HN2, HV2, FW.out.alloc _, HRW.out.frm ((Frm.refl [] _).alloc _) (by simp), HNW.out.frm ((Frm.refl [] _).alloc _) (by simp)⟩
        · have HV2 : Hid (numGo l m (Rl.set ia true) (N.set m cnt) (cnt + 1) = numsOf l first) := hstep.symm.trans HV.out
          have ra := HRB.out.cell ia (by omega)
          have hda : decide ((ia : Int) < (l.length : Int)) = true := decide_eq_true (by omega)
          generalize Rl[ia] = rba at *
          clear hstep HV
          go_wp2
          go_roundg m
          case measure => omega
          case rel => exact ⟨m, cnt + 1, _, Rl.set ia true, N.set m cnt, by omega, rfl, rfl, by omega, by go_num, by omega, by show _ = _; simp [hrl], HN2, HV2, (FW.out.over (HFN2.out _ _ _) (by simp)).alloc _, (HRW.out.set ia true).frm ((Frm.refl [] _).alloc _) (by simp), (HNW.out.frm (HFN2.out _ _ _) (by simp)).frm ((Frm.refl [] _).alloc _) (by simp)⟩
        · have HV2 : Hid (numGo l m ((Rl.set ia true).set ib true) (N.set m cnt) (cnt + 1) = numsOf l first) := hstep.symm.trans HV.out
          have ra := HRB.out.cell ia (by omega)
          have rb := HRB.out.cell ib (by omega)
          have hda : decide ((ia : Int) < (l.length : Int)) = true := decide_eq_true (by omega)
          have hdb : decide ((ib : Int) < (l.length : Int)) = true := decide_eq_true (by omega)
          generalize Rl[ia] = rba at *
          generalize Rl[ib] = rbb at *
          clear hstep HV
          by_cases hab : ia = ib
          · subst hab
            clear rb hdb hb
            go_wp2
            go_roundg m
            case measure => omega
            case rel => exact ⟨m, cnt + 1, _, (Rl.set ia true).set ia true, N.set m cnt, by omega, rfl, rfl, by omega, by go_num, by omega, by show _ = _; simp [hrl], HN2, HV2, ((FW.out.over (HFN2.out _ _ _) (by simp)).over (HFN2.out _ _ _) (by simp)).alloc _, ((HRW.out.set ia true).set ia true).frm ((Frm.refl [] _).alloc _) (by simp), ((HNW.out.frm (HFN2.out _ _ _) (by simp)).frm (HFN2.out _ _ _) (by simp)).frm ((Frm.refl [] _).alloc _) (by simp)⟩
          · have hba : ib ≠ ia := fun e => hab e.symm
            go_wp2
            go_roundg m
            case measure => omega
            case rel => exact ⟨m, cnt + 1, _, (Rl.set ia true).set ib true, N.set m cnt, by omega, rfl, rfl, by omega, by go_num, by omega, by show _ = _; simp [hrl], HN2, HV2, ((FW.out.over (HFN2.out _ _ _) (by simp)).over (HFN2.out _ _ _) (by simp)).alloc _, ((HRW.out.set ia true).set ib true).frm ((Frm.refl [] _).alloc _) (by simp), ((HNW.out.frm (HFN2.out _ _ _) (by simp)).frm (HFN2.out _ _ _) (by simp)).frm ((Frm.refl [] _).alloc _) (by simp)⟩
end Go.Proofs.YtimjjlgpbkljoaaGreat
