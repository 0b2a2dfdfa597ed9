import Derived.Test.YtimjjlgpbkljoaaGreatK10
namespace Go.Proofs.YtimjjlgpbkljoaaGreat
open Go.RowKit
set_option linter.unusedVariables false
set_option linter.unusedSimpArgs false
set_option linter.unnecessarySimpa false

theorem turn_step {l : List InM} {N : List Int} {m : Nat} (hm : m < l.length) (hn : m < N.length) (out : List InM) : turnGo l N (m + 1) out = if N[m] < 0 then turnGo l N m out else turnGo l N m (out ++ [turnI N l[m]]) := by
  rw [turnGo, List.getElem?_eq_getElem hm]
  simp [List.getD, hn]
theorem icell_at (w : World) (o : Obj) (c : InM) (j : Nat) (u : Value) (hu : (icell c).toList[j]? = some u) : ((w.alloc o).alloc (Obj.cells (icell c) 79)).cell? ⟨w.heap.size + 1, j, none⟩ = some u := by
  have h := heap_b w o (Obj.cells (icell c) 79)
  unfold World.cell?
  simp only [h]
  simpa [icell] using hu

set_option maxRecDepth 100000 in
set_option maxHeartbeats 4000000 in
theorem turned_any (w : World) (v : Value) (A : List Nat) (l : List InM) (h : RW A 4 w v (icl l)) (hgl : GL l) (first : Nat) (hf : first < l.length) (hl : l.length ≤ 900000000) :
    Calls Tryz.prog 27 #[v, .int .i64 first] w fun e w' => ∃ v', e = .returned v' ∧ Frm [] w w' ∧ OW 79 4 w.heap.size w' v' (icl (turnM l first)) := by
  have N1 := hide (numbersOf_any w v A l h hgl first hf hl)
  obtain ⟨a, cap, rfl, r⟩ := h.ins
  have R := hide r
  have GLH := hide hgl
  have hnl := numsOf_len l first
  have HSP := hide (numsOf_spec hgl first)
  have HT : Hid (turnM l first = turnGo l (numsOf l first) (first + 1) []) := rfl
  generalize numsOf l first = N at *
  clear h r hgl
  go_enter Tryz.func27, Tryz.ntmps27
  go_wp2_with fail
  refine (N1.out).mono ?_
  clear N1
  rintro e w1 ⟨gn, rfl, hF1, hgn, hNB⟩
  have F1 := hide hF1
  have HNB := hide hNB
  have hz1 := hF1.size
  have hgn1 := hNB.lt
  clear hF1 hNB
  go_wp2_with fail
  go_loopg [6, 7] (first + 1) (fun k v6 v7 wr => ∃ (j : Nat) (x : Int) (out : List InM), j ≤ first + 1 ∧ k = j ∧ v7 = .int .i64 x ∧ x = (j : Int) - 1 ∧ out.length + j ≤ first + 1 ∧ Hid (turnGo l N j out = turnM l first) ∧ Frm [] w1 wr ∧ OW 79 4 w1.heap.size wr v6 (icl out))
  case atStart => exact ⟨first + 1, _, [], Nat.le_refl _, rfl, rfl, by omega, by simp, HT.out.symm, (Frm.refl _ _).alloc _, OW.empty _ _ _ _ (Nat.le_refl _)⟩
  case round =>
    obtain ⟨j, x, out, hj, rfl, rfl, hx, hoj, HV, hF, hO⟩ := hrel
    obtain ⟨ao, co, he⟩ := hO.shape
    rw [icl_len] at he
    subst he
    have F := hide hF
    have O := hide hO
    have hzr := hF.size
    have HTC : Hid ((icl out).length = out.length) := icl_len out
    rcases gk with _ | m
    · obtain rfl : x = -1 := by omega
      have HV2 : Hid (out = turnM l first) := HV.out
      clear hx hF hO HV
      go_wp2
      go_ret
      refine ⟨_, rfl, F1.out.trans F.out, ?_⟩
      rw [← HV2.out]
      exact O.out.base hz1
    · obtain rfl : x = (m : Int) := by omega
      clear hx
      have hml : m < l.length := by omega
      have HNr := hide (HNB.out.frm hF (by simp))
      have n0 := HNr.out.cell m (by omega)
      have hmm : decide ((m : Int) < (l.length : Int)) = true := decide_eq_true (by omega)
      have hst := turn_step (N := N) hml (by omega) out
      obtain ⟨gl, ol, rfl, hgl, q0, q1, q2, q3⟩ := R.out m hml
      have FF := F1.out.trans hF
      have t0 := (FF.cell (p := ⟨gl, ol + m * 4, none⟩) hgl (by simp)).trans q0
      have t1 := (FF.cell (p := ⟨gl, ol + m * 4 + 1, none⟩) hgl (by simp)).trans q1
      have t2 := (FF.cell (p := ⟨gl, ol + m * 4 + 2, none⟩) hgl (by simp)).trans q2
      have t3 := (FF.cell (p := ⟨gl, ol + m * 4 + 3, none⟩) hgl (by simp)).trans q3
      have hgnr : gn < wr.heap.size := by omega
      have hglr : gl < wr.heap.size := by omega
      have hgm := GLH.out m hml
      have hsp := HSP.out m l[m] (List.getElem?_eq_getElem hml)
      rw [show N.getD m 0 = N[m] by simp [List.getD, show m < N.length by omega]] at hsp
      clear q0 q1 q2 q3 FF hF hO
      by_cases hneg : N[m] < 0
      · rw [if_pos hneg] at hst
        have HV2 : Hid (turnGo l N m out = turnM l first) := hst.symm.trans HV.out
        have hdn : decide (N[m] < 0) = true := decide_eq_true hneg
        generalize N[m] = nm at *
        clear hst HV hgm hsp t0 t1 t2 t3
        go_wp2
        go_roundg m
        case measure => omega
        case rel => exact ⟨m, _, out, by omega, rfl, rfl, by omega, by omega, HV2, F.out, O.out⟩
      · rw [if_neg hneg] at hst
        have hdn : decide (N[m] < 0) = false := decide_eq_false hneg
        have hsp2 := hsp (by omega)
        generalize hnm : N[m] = nm at *
        have hlm : ∃ c, l[m] = c := ⟨_, rfl⟩
        obtain ⟨c, hlm⟩ := hlm
        rw [hlm] at t0 t1 t2 t3 hst hgm hsp2
        obtain ⟨op, xn, ia, ib⟩ := c
        simp only at t0 t1 t2 t3 hgm hsp2
        clear hsp hlm hnm
        rcases hgm with rfl | ⟨rfl, ha⟩ | ⟨rfl, ha, hb⟩
        · have HV2 : Hid (turnGo l N m (out ++ [⟨0, xn, ia, ib⟩]) = turnM l first) := hst.symm.trans HV.out
          clear hst HV hsp2
          go_wp2_with (at_builtin; refine wp_appG _ rfl _ _ 38 79 _ 4 32 infoIns Tryz.underlying38 rfl (by omega) rfl w1.heap.size (.slice ao out.length co) (icl out) (wr.heap.size + 1) (icell ⟨0, xn, ia, ib⟩).toList rfl (O.out.frm (S := []) (((Frm.refl [] _).alloc _).alloc _) (by simp)) rfl rfl (icell_at _ _ ⟨0, xn, ia, ib⟩) (by intro u hu; simp [icell] at hu; rcases hu with rfl | rfl | rfl | rfl <;> rfl) (by rw [HTC.out]; omega) (by rw [HTC.out]; omega) (by simp; omega) ?_; intro gg cap2 w4 hown4 hgrow hat hlt4; rw [HTC.out, icl_snoc] at hown4; rw [HTC.out]; have O4 := hide hown4; have G4 := hide hgrow; clear hown4 hgrow hat)
          go_roundg m
          case measure => omega
          case rel => exact ⟨m, _, _, by omega, rfl, rfl, by omega, by simp; omega, HV2, ((F.out.alloc _).alloc _).grown G4.out (fun r hr => .inr (O.out.lt hr).1), O4.out⟩
        · obtain ⟨na, hna⟩ := Int.eq_ofNat_of_zero_le (hsp2.1 (by omega))
          have n1 := HNr.out.cell ia (by omega)
          rw [show N[ia]'(by omega) = (na : Int) by rw [← hna]; simp [List.getD, show ia < N.length by omega]] at n1
          have hda : decide ((ia : Int) < (l.length : Int)) = true := decide_eq_true (by omega)
          have HV2 : Hid (turnGo l N m (out ++ [⟨1, xn, na, ib⟩]) = turnM l first) := by
            have e : turnI N ⟨1, xn, ia, ib⟩ = ⟨1, xn, na, ib⟩ := by simp only [turnI, hna]; simp
            rw [e] at hst
            exact hst.symm.trans HV.out
          clear hst HV hsp2 hna
          go_wp2_with (at_builtin; refine wp_appG _ rfl _ _ 38 79 _ 4 32 infoIns Tryz.underlying38 rfl (by omega) rfl w1.heap.size (.slice ao out.length co) (icl out) (wr.heap.size + 1) (icell ⟨1, xn, na, ib⟩).toList rfl (O.out.frm (S := []) (((Frm.refl [] _).alloc _).alloc _) (by simp)) rfl rfl (icell_at _ _ ⟨1, xn, na, ib⟩) (by intro u hu; simp [icell] at hu; rcases hu with rfl | rfl | rfl | rfl <;> rfl) (by rw [HTC.out]; omega) (by rw [HTC.out]; omega) (by simp; omega) ?_; intro gg cap2 w4 hown4 hgrow hat hlt4; rw [HTC.out, icl_snoc] at hown4; rw [HTC.out]; have O4 := hide hown4; have G4 := hide hgrow; clear hown4 hgrow hat)
          go_roundg m
          case measure => omega
          case rel => exact ⟨m, _, _, by omega, rfl, rfl, by omega, by simp; omega, HV2, ((F.out.alloc _).alloc _).grown G4.out (fun r hr => .inr (O.out.lt hr).1), O4.out⟩
        · obtain ⟨na, hna⟩ := Int.eq_ofNat_of_zero_le (hsp2.1 (by omega))
          obtain ⟨nb, hnb⟩ := Int.eq_ofNat_of_zero_le (hsp2.2 rfl)
          have n1 := HNr.out.cell ia (by omega)
          rw [show N[ia]'(by omega) = (na : Int) by rw [← hna]; simp [List.getD, show ia < N.length by omega]] at n1
          have n2 := HNr.out.cell ib (by omega)
          rw [show N[ib]'(by omega) = (nb : Int) by rw [← hnb]; simp [List.getD, show ib < N.length by omega]] at n2
          have hda : decide ((ia : Int) < (l.length : Int)) = true := decide_eq_true (by omega)
          have hdb : decide ((ib : Int) < (l.length : Int)) = true := decide_eq_true (by omega)
          have HV2 : Hid (turnGo l N m (out ++ [⟨2, xn, na, nb⟩]) = turnM l first) := by
            have e : turnI N ⟨2, xn, ia, ib⟩ = ⟨2, xn, na, nb⟩ := by simp only [turnI, hna, hnb]; simp
            rw [e] at hst
            exact hst.symm.trans HV.out
          clear hst HV hsp2 hna hnb
          go_wp2_with (at_builtin; refine wp_appG _ rfl _ _ 38 79 _ 4 32 infoIns Tryz.underlying38 rfl (by omega) rfl w1.heap.size (.slice ao out.length co) (icl out) (wr.heap.size + 1) (icell ⟨2, xn, na, nb⟩).toList rfl (O.out.frm (S := []) (((Frm.refl [] _).alloc _).alloc _) (by simp)) rfl rfl (icell_at _ _ ⟨2, xn, na, nb⟩) (by intro u hu; simp [icell] at hu; rcases hu with rfl | rfl | rfl | rfl <;> rfl) (by rw [HTC.out]; omega) (by rw [HTC.out]; omega) (by simp; omega) ?_; intro gg cap2 w4 hown4 hgrow hat hlt4; rw [HTC.out, icl_snoc] at hown4; rw [HTC.out]; have O4 := hide hown4; have G4 := hide hgrow; clear hown4 hgrow hat)
          go_roundg m
          case measure => omega
          case rel => exact ⟨m, _, _, by omega, rfl, rfl, by omega, by simp; omega, HV2, ((F.out.alloc _).alloc _).grown G4.out (fun r hr => .inr (O.out.lt hr).1), O4.out⟩

theorem GL_end : GL [⟨0, 0, 0, 0⟩] := by
  intro i hi
  simp at hi
  subst hi
  exact .inl rfl
theorem codeM_good {C : List CR} {q : List (List (Nat × Bool))} : GL (layR C q 6 0 0 [⟨0, 0, 0, 0⟩]).2 ∧ (layR C q 6 0 0 [⟨0, 0, 0, 0⟩]).1 < (layR C q 6 0 0 [⟨0, 0, 0, 0⟩]).2.length :=
  let h := layR_good C q 6 0 0 [⟨0, 0, 0, 0⟩] GL_end (by simp)
  ⟨h.1, h.2.1⟩

set_option maxRecDepth 100000 in
set_option maxHeartbeats 4000000 in
theorem instructions_any (w0 : World) (kb : Nat) (w : World) (V : V6) (rt xx vq : Value) (C : List CR) (q : List (List (Nat × Bool))) (hc : LC w0 kb rt vq C q) (h : LY w0 kb w V ⟨rt, xx, vq, .slice none 0 0⟩ []) (hne : 0 < C.length) :
    Calls Tryz.prog 16 #[.pointer (some ⟨kb, 0, none⟩)] w fun e w' => ∃ v v', e = .returned v ∧ KR w' kb V ⟨rt, xx, vq, v'⟩ ∧ Frm [kb] w0 w' ∧ Frm [kb] w w' ∧ OW 79 4 w.heap.size w' v (icl (codeM C q)) := by
  have HC := hide hc
  obtain ⟨art, capt, ert, _⟩ := hc.hrt.co
  subst ert
  have r6 := h.row.c 6
  simp at r6
  have hcl := hc.cl
  have hd0 : ((C.length : Int) == 0) = false := by rw [beq_eq_false_iff_ne]; omega
  have hd0' : decide ((C.length : Int) = 0) = false := decide_eq_false (by omega)
  have N1 := hide (lay_any w0 kb w V _ [] h ⟨0, 0, 0, 0⟩ (by simp))
  simp only [icell] at N1
  have HQ : Hid (codeM C q = turnM (layR C q 6 0 0 [⟨0, 0, 0, 0⟩]).2 (layR C q 6 0 0 [⟨0, 0, 0, 0⟩]).1) := by
    show _ = _
    unfold codeM
    rw [if_neg (by simp; intro e; rw [e] at hne; simp at hne)]
  have HG := hide (codeM_good (C := C) (q := q))
  have HBD := hide (layR_bnd hc.cl hc.qb 6 0 0 [⟨0, 0, 0, 0⟩])
  clear h hc
  go_enter Tryz.func16, Tryz.ntmps16
  go_wp2_with fail
  refine (N1.out).mono ?_
  clear N1
  rintro e w1 ⟨rfl, v1, hL1, hLF1⟩
  have N2 := hide (layRoute_all w0 kb V _ xx vq C q HC.out 6 0 0 w1 v1 [⟨0, 0, 0, 0⟩] hL1 hne (by omega) (by simp [bnd]))
  have LF1 := hide hLF1
  clear hL1 hLF1
  generalize layR C q 6 0 0 [⟨0, 0, 0, 0⟩] = X at *
  obtain ⟨first, l2⟩ := X
  go_wp2_with fail
  refine (N2.out).mono ?_
  clear N2
  rintro e w2 ⟨rfl, v2, hL2, hLF2⟩
  obtain ⟨a2, c2, he⟩ := hL2.o.shape
  rw [icl_len] at he
  simp only at he
  subst he
  have hb2 := HBD.out
  simp [bnd] at hb2
  have N3 := hide (turned_any w2 _ [] l2 (hL2.o.rw (by simp)) HG.out.1 first HG.out.2 (by omega))
  have r9 := hL2.row.c 9
  simp at r9
  have L2 := hide hL2
  have FW : Hid (Frm [kb] w w2) := (LF1.out.trans hLF2).f
  clear hL2 hLF2
  go_wp2_with fail
  refine (N3.out).mono ?_
  clear N3
  rintro e w3 ⟨v3, rfl, hF3, hO3⟩
  obtain ⟨a3, c3, he3⟩ := hO3.shape
  subst he3
  have F3 := hide hF3
  have O3 := hide hO3
  clear hF3 hO3
  go_wp2
  go_ret
  rw [HQ.out]
  exact ⟨_, _, rfl, L2.out.row.frm F3.out (by simp), L2.out.fr.over F3.out (by simp), FW.out.over F3.out (by simp), O3.out.base FW.out.size⟩
end Go.Proofs.YtimjjlgpbkljoaaGreat
