import Derived.Test.YtmaoiefkjpgjfaaGreatJ40
import Derived.Test.YtmaoiefkjpgjfaaGreatJ37
set_option linter.unusedVariables false
set_option linter.unusedSimpArgs false
set_option linter.unnecessarySimpa false
namespace Go.Proofs.YtmaoiefkjpgjfaaGreat
open Go.RowKit

theorem hitsN_len (C : List CR) : ∀ n, (hitsN C n).length = n
  | 0 => rfl
  | n + 1 => by rw [hitsN]; simp [hitsN_len C n]
theorem hitsN_at (C : List CR) (j : Nat) (hj : j < C.length) : hitsN C (j + 1) = hitsN C j ++ [hitB (aboveH C (hitsN C j) j) C[j]] := by
  rw [hitsN, List.getElem?_eq_getElem hj]
theorem hitB_few {C : List CR} (hb : ∀ c ∈ C, c.bys.length ≤ 4) : ∀ n, ∀ x ∈ hitsN C n, x.bl.length ≤ 4
  | 0, x, h => by simp [hitsN] at h
  | n + 1, x, h => by
    rw [hitsN, List.mem_append, List.mem_singleton] at h
    rcases h with h | rfl
    · exact hitB_few hb n x h
    · split
      · rename_i c hc
        have h1 := hb c (List.mem_of_getElem? hc)
        have h2 : (aboveH C (hitsN C n) n).bl.length ≤ 4 := by
          unfold aboveH
          split
          · rename_i p _
            by_cases hp : p < (hitsN C n).length
            · rw [List.getD_eq_getElem?_getD, List.getElem?_eq_getElem hp]
              exact hitB_few hb n _ (List.getElem_mem hp)
            · rw [List.getD_eq_getElem?_getD, List.getElem?_eq_none (by omega)]; simp [rootH]
          · simp [rootH]
        simp only [hitB]
        split <;> assumption
      · simp [rootH]
theorem par_lt {C : List CR} {j p : Nat} (h : par C j = some p) : p < j := by
  unfold par at h
  split at h
  · exact (parGo_some' h)
  · cases h
 where
  parGo_some' {C : List CR} {d : Nat} : ∀ {i p : Nat}, parGo C d i = some p → p < i
  | 0, p, h => by simp [parGo] at h
  | j + 1, p, h => by
    rw [parGo] at h
    split at h
    · cases h; omega
    · have := parGo_some' h; omega
theorem hcell_at (w : World) (h1 : List UInt8) (h2 : List (List UInt8)) (h3 h4 h5 g : Nat) (j : Nat) (u : Value) (hu : (hcell ⟨h1, h2, h3, h4, h5⟩ (.slice (some ⟨g, 0, none⟩) h2.length h2.length)).toList[j]? = some u) : (w.alloc (Obj.cells #[.string (bs h1), .slice (some ⟨g, 0, none⟩) h2.length h2.length, .int .i64 (h3 : Nat), .int .i64 (h4 : Nat), .int .i64 (h5 : Nat)] 35)).cell? ⟨w.heap.size, j, none⟩ = some u := by
  have := heap1 w (Obj.cells #[.string (bs h1), .slice (some ⟨g, 0, none⟩) h2.length h2.length, .int .i64 (h3 : Nat), .int .i64 (h4 : Nat), .int .i64 (h5 : Nat)] 35)
  simp only [World.cell?, this]
  simpa [hcell] using hu

set_option maxRecDepth 100000 in
set_option maxHeartbeats 8000000 in
theorem hits_any (A : List Nat) (w : World) (hA : ∀ g ∈ A, g < w.heap.size) (v : Value) (C : List CR) (h : RTS [] w v C) (hC : C.length ≤ 1000) (hg : ∀ c ∈ C, c.d ≤ 1048576 ∧ c.bys.length ≤ 4 ∧ -1 ≤ c.wt ∧ -1 ≤ c.ev ∧ -1 ≤ c.rp) :
    Calls Tryz.prog 19 #[v] w fun e w' => ∃ v' css, e = .returned v' ∧ Frm [] w w' ∧ OW 35 5 w.heap.size w' v' (lst css) ∧ RowI hitT (A ++ v'.ownBlock.toList) w' css (hitsN C C.length) := by
  have HA := hide hA
  have HRT := hide h
  obtain ⟨cs0, q1, q2⟩ := h
  obtain ⟨a, cap, rfl, r⟩ := row_at q1 q2
  have R := hide r
  have HG := hide hg
  clear q1 q2 r hg
  go_enter Tryz.func19, Tryz.ntmps19
  go_wp2_with fail
  go_loopg [3, 11] C.length (fun k v3 v11 wr => ∃ (j : Nat) (css : List (Array Value)), j + k = C.length ∧ v11 = .int .i64 j ∧ css.length = j ∧ Frm [] w wr ∧ OW 35 5 w.heap.size wr v3 (lst css) ∧ Hid (RowI hitT (A ++ v3.ownBlock.toList) wr css (hitsN C j)))
  case atStart => exact ⟨0, [], by omega, rfl, rfl, (Frm.refl _ _).alloc _, OW.empty _ _ _ _ (Nat.le_refl _), RowI.nil _ _ _⟩
  case round =>
    obtain ⟨j, css, hjk, rfl, hcj, hF, hO, HI⟩ := hrel
    obtain ⟨ao, co, he⟩ := hO.shape
    rw [lst_len, hcj] at he
    subst he
    have F := hide hF
    have O := hide hO
    have hzz := hF.size
    have HTC : Hid ((lst css).length = j) := by show _ = _; rw [lst_len]; exact hcj
    by_cases hlt : j < C.length
    · have hd1 : decide ((j : Int) < (C.length : Int)) = true := decide_eq_true (by omega)
      obtain ⟨gr, or, csr, rfl, hgr, _, ⟨vby, vif, rfl, hby, hif⟩, k1⟩ := R.out j hlt
      obtain ⟨ay, cy, rfl, _⟩ := hby.str
      obtain ⟨ai, ci, hvi, _⟩ := hif
      rw [show (mtc C[j].ifs).length = C[j].ifs.length by simp [mtc]] at hvi
      subst hvi
      have t0 : wr.cell? ⟨gr, or + j * 9, none⟩ = some (.int .i64 (C[j].d : Nat)) := hF.at (p := ⟨gr, or + j * 9 + 0, none⟩) hgr (k1 0 _ rfl)
      have t1 : wr.cell? ⟨gr, or + j * 9 + 1, none⟩ = some (.string (bs C[j].rc)) := hF.at (p := ⟨gr, or + j * 9 + 1, none⟩) hgr (k1 1 _ rfl)
      have t2 : wr.cell? ⟨gr, or + j * 9 + 2, none⟩ = some (.bool C[j].tb) := hF.at (p := ⟨gr, or + j * 9 + 2, none⟩) hgr (k1 2 _ rfl)
      have t3 : wr.cell? ⟨gr, or + j * 9 + 3, none⟩ = some (.slice ay C[j].bys.length cy) := hF.at (p := ⟨gr, or + j * 9 + 3, none⟩) hgr (k1 3 _ rfl)
      have t4 : wr.cell? ⟨gr, or + j * 9 + 4, none⟩ = some (.int .i64 C[j].wt) := hF.at (p := ⟨gr, or + j * 9 + 4, none⟩) hgr (k1 4 _ rfl)
      have t5 : wr.cell? ⟨gr, or + j * 9 + 5, none⟩ = some (.int .i64 C[j].ev) := hF.at (p := ⟨gr, or + j * 9 + 5, none⟩) hgr (k1 5 _ rfl)
      have t6 : wr.cell? ⟨gr, or + j * 9 + 6, none⟩ = some (.int .i64 C[j].rp) := hF.at (p := ⟨gr, or + j * 9 + 6, none⟩) hgr (k1 6 _ rfl)
      have t7 : wr.cell? ⟨gr, or + j * 9 + 7, none⟩ = some (.slice ai C[j].ifs.length ci) := hF.at (p := ⟨gr, or + j * 9 + 7, none⟩) hgr (k1 7 _ rfl)
      have t8 : wr.cell? ⟨gr, or + j * 9 + 8, none⟩ = some (.bool C[j].co) := hF.at (p := ⟨gr, or + j * 9 + 8, none⟩) hgr (k1 8 _ rfl)
      have N1 : Hid (∀ W, Frm [] w W → Calls Tryz.prog 31 #[.slice (some ⟨gr, or, none⟩) C.length cap, .int .i64 j] W fun e w' => e = .returned (.int .i64 (parI C j)) ∧ ∃ q, w' = W.drewN q) := fun W hW => parentOf_any W _ [] C (HRT.out.frm hW (by simp)) (by omega) (fun c hm => (HG.out c hm).1) j hlt
      have hgc := HG.out C[j] (List.getElem_mem hlt)
      have HST := hide (hitsN_at C j hlt)
      have HBY := hide hby
      have hgrr : gr < wr.heap.size := by omega
      clear k1 hby hF hO
      cases hp : par C j with
      | none =>
        have hpi : parI C j = -1 := by unfold parI; rw [hp]
        have hab : aboveH C (hitsN C j) j = rootH := by unfold aboveH; rw [hp]
        rw [hpi] at N1
        rw [hab] at HST
        have N2 : Hid (∀ W, Frm [] w W → Calls Tryz.prog 32 #[.agg #[.string { data := #[] }, .slice none 0 0, .int .i64 30, .int .i64 300, .int .i64 14400], .agg #[.int .i64 (C[j].d : Nat), .string (bs C[j].rc), .bool C[j].tb, .slice ay C[j].bys.length cy, .int .i64 C[j].wt, .int .i64 C[j].ev, .int .i64 C[j].rp, .slice ai C[j].ifs.length ci, .bool C[j].co]] W fun e w' => ∃ g, e = .returned (.agg #[.string (bs (hitB rootH C[j]).rc), .slice (some ⟨g, 0, none⟩) (hitB rootH C[j]).bl.length (hitB rootH C[j]).bl.length, .int .i64 ((hitB rootH C[j]).wt : Nat), .int .i64 ((hitB rootH C[j]).ev : Nat), .int .i64 ((hitB rootH C[j]).rp : Nat)]) ∧ Frm [] W w' ∧ W.heap.size ≤ g ∧ g < w'.heap.size ∧ RW [] 1 w' (.slice (some ⟨g, 0, none⟩) (hitB rootH C[j]).bl.length (hitB rootH C[j]).bl.length) (sc (hitB rootH C[j]).bl)) := fun W hW => hitBelow_any rootH C[j] none 0 _ _ W (RW.nil _ _ _) (HBY.out.frm hW (by simp)) ⟨ai, ci, rfl⟩ (by simp [rootH]) (by omega) ⟨hgc.2.2.1, hgc.2.2.2.1, hgc.2.2.2.2⟩
        generalize hitB rootH C[j] = y at *
        obtain ⟨h1, h2, h3, h4, h5⟩ := y
        simp only at N2
        generalize C[j] = c at *
        clear hp hpi hab
        go_wp2_with fail
        refine (N1.out _ ((F.out.alloc _).alloc _)).mono ?_
        clear N1
        rintro e w2 ⟨rfl, qn, rfl⟩
        go_wp2_with fail
        refine (N2.out _ (((F.out.alloc _).alloc _).drewN _)).mono ?_
        clear N2
        rintro e w3 ⟨g, rfl, hF3, hg, hg3, hR3⟩
        have FA : Frm [] wr w3 := ((((Frm.refl [] wr).alloc _).alloc _).drewN _).trans hF3
        have hg4 : wr.heap.size ≤ g := by simp at hg; omega
        have hob : ∀ r, Value.ownBlock (.slice ao j co) = some r → r < wr.heap.size := fun r hr => (O.out.lt hr).2
        have R3 := hide (hR3.notin (B := A ++ (Value.ownBlock (.slice ao j co)).toList) (fun hm => by simp at hm; rcases hm with hm | hm; have := HA.out g hm; omega; have := hob g hm; omega))
        have O3 := hide (O.out.frm FA (by simp))
        have I3 := hide (HI.out.frm FA (by simp))
        have F3 := hide (F.out.trans FA)
        have hz3 := FA.size
        clear hF3 hg hg3 hR3 FA hg4 hob t0 t1 t2 t3 t4 t5 t6 t7 t8
        go_wp2_with (at_builtin; refine wp_appG _ rfl _ _ 30 35 _ 5 64 infoHit Tryz.underlying30 rfl (by omega) rfl w.heap.size (.slice ao j co) (lst css) w3.heap.size (hcell ⟨h1, h2, h3, h4, h5⟩ (.slice (some ⟨g, 0, none⟩) h2.length h2.length)).toList rfl (O3.out.frm (S := []) ((Frm.refl [] _).alloc _) (by simp)) rfl rfl (hcell_at _ _ _ _ _ _ _) (by intro u hu; simp [hcell] at hu; rcases hu with rfl | rfl | rfl | rfl | rfl <;> rfl) (by rw [HTC.out]; omega) (by rw [HTC.out]; omega) (by simp; omega) ?_; intro gg cap2 w5 hown5 hgrow hat hlt5; rw [HTC.out] at hown5 ⊢; have F5 : Hid (Frm [] w w5) := (F3.out.alloc _).grown hgrow (fun r hr => .inr (O3.out.lt hr).1); have O5 := hide hown5; have I5 : Hid (RowI hitT (A ++ [gg]) w5 (css ++ [hcell ⟨h1, h2, h3, h4, h5⟩ (.slice (some ⟨g, 0, none⟩) h2.length h2.length)]) (hitsN C j ++ [⟨h1, h2, h3, h4, h5⟩])) := ((I3.out.frm (S := []) ((Frm.refl [] _).alloc _) (by simp)).snoc ⟨g, rfl, R3.out.frm (S := []) ((Frm.refl [] _).alloc _) (by simp)⟩).app hgrow hat; clear hown5 hgrow hat)
        go_roundg (gk - 1)
        case measure => omega
        case rel =>
          have O6 := O5.out
          rw [lst_snoc] at O6
          refine ⟨j + 1, css ++ [hcell ⟨h1, h2, h3, h4, h5⟩ (.slice (some ⟨g, 0, none⟩) h2.length h2.length)], by omega, by go_num, by simp; omega, F5.out, O6, ?_⟩
          show RowI _ _ _ _ _
          rw [HST.out]; exact I5.out
      | some p =>
        have hpj := par_lt hp
        have hpi : parI C j = (p : Int) := by unfold parI; rw [hp]
        have hln := hitsN_len C j
        have hpl : p < (hitsN C j).length := by omega
        have hab : aboveH C (hitsN C j) j = (hitsN C j)[p] := by
          unfold aboveH; rw [hp]
          simp only [List.getD_eq_getElem?_getD, List.getElem?_eq_getElem hpl, Option.getD_some]
        have hfew := hitB_few (C := C) (fun c hm => (HG.out c hm).2.1) j _ (List.getElem_mem hpl)
        rw [hpi] at N1
        rw [hab] at HST
        obtain ⟨ah, ch, hvh, hrh⟩ := row_at (O.out.rw (A := []) (by simp)) (HI.out.avoid (B := []) (by simp))
        simp only [Value.slice.injEq] at hvh
        obtain ⟨rfl, hjj, rfl⟩ := hvh
        obtain ⟨gh, oh, csh, rfl, hgh, _, ⟨gp, rfl, hrp⟩, kh⟩ := hrh p hpl
        have u0 : wr.cell? ⟨gh, oh + p * 5, none⟩ = some (.string (bs (hitsN C j)[p].rc)) := kh 0 _ rfl
        have u1 : wr.cell? ⟨gh, oh + p * 5 + 1, none⟩ = some (.slice (some ⟨gp, 0, none⟩) (hitsN C j)[p].bl.length (hitsN C j)[p].bl.length) := kh 1 _ rfl
        have u2 : wr.cell? ⟨gh, oh + p * 5 + 2, none⟩ = some (.int .i64 ((hitsN C j)[p].wt : Nat)) := kh 2 _ rfl
        have u3 : wr.cell? ⟨gh, oh + p * 5 + 3, none⟩ = some (.int .i64 ((hitsN C j)[p].ev : Nat)) := kh 3 _ rfl
        have u4 : wr.cell? ⟨gh, oh + p * 5 + 4, none⟩ = some (.int .i64 ((hitsN C j)[p].rp : Nat)) := kh 4 _ rfl
        have HRP := hide hrp
        have hdp : decide ((p : Int) < (j : Int)) = true := decide_eq_true (by omega)
        have hdp0 : decide ((0 : Int) ≤ (p : Int)) = true := decide_eq_true (by omega)
        clear hrh kh hrp hab hpi hp hjj hln
        generalize hxx : (hitsN C j)[p] = xx at *
        clear hxx hpl
        have N2 : Hid (∀ W, Frm [] wr W → Calls Tryz.prog 32 #[.agg #[.string (bs xx.rc), .slice (some ⟨gp, 0, none⟩) xx.bl.length xx.bl.length, .int .i64 (xx.wt : Nat), .int .i64 (xx.ev : Nat), .int .i64 (xx.rp : Nat)], .agg #[.int .i64 (C[j].d : Nat), .string (bs C[j].rc), .bool C[j].tb, .slice ay C[j].bys.length cy, .int .i64 C[j].wt, .int .i64 C[j].ev, .int .i64 C[j].rp, .slice ai C[j].ifs.length ci, .bool C[j].co]] W fun e w' => ∃ g, e = .returned (.agg #[.string (bs (hitB xx C[j]).rc), .slice (some ⟨g, 0, none⟩) (hitB xx C[j]).bl.length (hitB xx C[j]).bl.length, .int .i64 ((hitB xx C[j]).wt : Nat), .int .i64 ((hitB xx C[j]).ev : Nat), .int .i64 ((hitB xx C[j]).rp : Nat)]) ∧ Frm [] W w' ∧ W.heap.size ≤ g ∧ g < w'.heap.size ∧ RW [] 1 w' (.slice (some ⟨g, 0, none⟩) (hitB xx C[j]).bl.length (hitB xx C[j]).bl.length) (sc (hitB xx C[j]).bl)) := fun W hW => hitBelow_any xx C[j] (some ⟨gp, 0, none⟩) xx.bl.length _ _ W (HRP.out.frm hW (by simp)) (HBY.out.frm (F.out.trans hW) (by simp)) ⟨ai, ci, rfl⟩ (by omega) (by omega) ⟨hgc.2.2.1, hgc.2.2.2.1, hgc.2.2.2.2⟩
        generalize hitB xx C[j] = y at *
        obtain ⟨h1, h2, h3, h4, h5⟩ := y
        simp only at N2
        generalize C[j] = c at *
        go_wp2_with fail
        refine (N1.out _ ((F.out.alloc _).alloc _)).mono ?_
        clear N1
        rintro e w2 ⟨rfl, qn, rfl⟩
        go_wp2_with fail
        refine (N2.out _ (((((Frm.refl [] wr).alloc _).alloc _).drewN _).over (set5_frm _ _ _ _ _ _ _) (by simp))).mono ?_
        clear N2
        rintro e w3 ⟨g, rfl, hF3, hg, hg3, hR3⟩
        have FA : Frm [] wr w3 := (((((Frm.refl [] wr).alloc _).alloc _).drewN _).over (set5_frm _ _ _ _ _ _ _) (by simp)).trans hF3
        have hg4 : wr.heap.size ≤ g := by simp at hg; omega
        have hob : ∀ r, Value.ownBlock (.slice (some ⟨gh, oh, none⟩) j co) = some r → r < wr.heap.size := fun r hr => (O.out.lt hr).2
        have R3 := hide (hR3.notin (B := A ++ (Value.ownBlock (.slice (some ⟨gh, oh, none⟩) j co)).toList) (fun hm => by simp at hm; rcases hm with hm | hm; have := HA.out g hm; omega; have := hob g hm; omega))
        have O3 := hide (O.out.frm FA (by simp))
        have I3 := hide (HI.out.frm FA (by simp))
        have F3 := hide (F.out.trans FA)
        have hz3 := FA.size
        clear hF3 hg hg3 hR3 FA hg4 hob t0 t1 t2 t3 t4 t5 t6 t7 t8 u0 u1 u2 u3 u4
        go_wp2_with (at_builtin; refine wp_appG _ rfl _ _ 30 35 _ 5 64 infoHit Tryz.underlying30 rfl (by omega) rfl w.heap.size (.slice (some ⟨gh, oh, none⟩) j co) (lst css) w3.heap.size (hcell ⟨h1, h2, h3, h4, h5⟩ (.slice (some ⟨g, 0, none⟩) h2.length h2.length)).toList rfl (O3.out.frm (S := []) ((Frm.refl [] _).alloc _) (by simp)) rfl rfl (hcell_at _ _ _ _ _ _ _) (by intro u hu; simp [hcell] at hu; rcases hu with rfl | rfl | rfl | rfl | rfl <;> rfl) (by rw [HTC.out]; omega) (by rw [HTC.out]; omega) (by simp; omega) ?_; intro gg cap2 w5 hown5 hgrow hat hlt5; rw [HTC.out] at hown5 ⊢; have F5 : Hid (Frm [] w w5) := (F3.out.alloc _).grown hgrow (fun r hr => .inr (O3.out.lt hr).1); have O5 := hide hown5; have I5 : Hid (RowI hitT (A ++ [gg]) w5 (css ++ [hcell ⟨h1, h2, h3, h4, h5⟩ (.slice (some ⟨g, 0, none⟩) h2.length h2.length)]) (hitsN C j ++ [⟨h1, h2, h3, h4, h5⟩])) := ((I3.out.frm (S := []) ((Frm.refl [] _).alloc _) (by simp)).snoc ⟨g, rfl, R3.out.frm (S := []) ((Frm.refl [] _).alloc _) (by simp)⟩).app hgrow hat; clear hown5 hgrow hat)
        go_roundg (gk - 1)
        case measure => omega
        case rel =>
          have O6 := O5.out
          rw [lst_snoc] at O6
          refine ⟨j + 1, css ++ [hcell ⟨h1, h2, h3, h4, h5⟩ (.slice (some ⟨g, 0, none⟩) h2.length h2.length)], by omega, by go_num, by simp; omega, F5.out, O6, ?_⟩
          show RowI _ _ _ _ _
          rw [HST.out]; exact I5.out
    · have hd1 : decide ((j : Int) < (C.length : Int)) = false := decide_eq_false (by omega)
      have hj : j = C.length := by omega
      subst hj
      clear hF hO
      go_wp2
      go_ret
      exact ⟨_, css, rfl, F.out, O.out, HI.out⟩
end Go.Proofs.YtmaoiefkjpgjfaaGreat
namespace Go.Proofs.YtmaoiefkjpgjfaaGreat
open Go.RowKit

theorem pmat_cb {re : List UInt8 → Nat} {aut : List UInt8 → AutM} : ∀ (M : List CM) (s : CS) (acc : List (Nat × Bool)) (k : Nat) {l : List (Nat × Bool)} {s1 : CS}, CSB s k → pmat re aut s acc M = .ok (l, s1) → CSB s1 (k + M.length) ∧ s1.q = s.q ∧ l.length = acc.length + M.length
  | [], s, acc, k, l, s1, h, e => by
    rw [pmat] at e
    cases e
    exact ⟨h, rfl, rfl⟩
  | m :: r, s, acc, k, l, s1, h, e => by
    rw [pmat] at e
    split at e
    · cases e
    · rename_i t s2 ht
      obtain ⟨h1, _, h3⟩ := ptest_cb h ht
      obtain ⟨g1, g2, g3⟩ := pmat_cb r _ _ (k + 1) h1 e
      refine ⟨?_, g2.trans h3, by simp at g3 ⊢; omega⟩
      rw [List.length_cons, show k + (r.length + 1) = k + 1 + r.length by omega]
      exact g1
theorem RTS.avoid {A B : List Nat} {w : World} {v : Value} {C : List CR} (h : RTS A w v C) (hB : ∀ g ∈ B, g ∈ A ∨ w.heap.size ≤ g) : RTS B w v C := by
  obtain ⟨css, h1, h2⟩ := h
  exact ⟨css, h1.avoid hB, h2.avoid hB⟩
theorem results3 {fn : Func} {p u t : Tmp} {ty : TypeId} (h : fn.results = #[.cell p ty, .tmp u, .tmp t]) (tmps : Array Value) (w : World) (g : Nat) (cs : Array Value) (a b : Value)
    (hp : tmps.getD p undef = .pointer (some ⟨g, 0, none⟩)) (hu : tmps.getD u undef = a) (ht : tmps.getD t undef = b) (hl : (loadVar ty ⟨g, 0, none⟩).run Tryz.prog w = .ok (.agg cs) w) :
    (results fn tmps).run Tryz.prog w = .ok (.tuple #[.agg cs, a, b]) w := by
  have hp' : tmps[p]?.getD undef = .pointer (some ⟨g, 0, none⟩) := by simpa using hp
  have hu' : tmps[u]?.getD undef = a := by simpa using hu
  have ht' : tmps[t]?.getD undef = b := by simpa using ht
  simp [results, h, hp', hu', ht', asAddr, hl]
abbrev vz : V6 := ⟨.slice none 0 0, .slice none 0 0, .slice none 0 0, .slice none 0 0, .slice none 0 0, .slice none 0 0⟩
/-- A compiler that has read nothing yet. -/
theorem KS.start (Z : List Nat) {w0 : World} {kb : Nat} {rt : Value} (hr : KR w0 kb vz ⟨rt, .slice none 0 0, .slice none 0 0, .slice none 0 0⟩) : KS Z w0 kb w0 vz ⟨rt, .slice none 0 0, .slice none 0 0, .slice none 0 0⟩ cs0 := by
  refine ⟨hr, [], [], Frm.refl _ _, hr.lt, ⟨?_, ?_⟩, RowI.nil _ _ _, RowI.nil _ _ _⟩
  · intro i r hi
    match i, hi with
    | 0, hi => cases hi; exact OW.nil _ _ _ _
    | 1, hi => cases hi; exact OW.nil _ _ _ _
    | 2, hi => cases hi; exact OW.nil _ _ _ _
    | 3, hi => cases hi; exact OW.nil _ _ _ _
    | 4, hi => cases hi; exact OW.nil _ _ _ _
    | 5, hi => cases hi; exact OW.nil _ _ _ _
    | i + 6, hi => simp at hi
  · intro i j r s _ hi _ g hg
    match i, hi with
    | 0, hi => cases hi; cases hg
    | 1, hi => cases hi; cases hg
    | 2, hi => cases hi; cases hg
    | 3, hi => cases hi; cases hg
    | 4, hi => cases hi; cases hg
    | 5, hi => cases hi; cases hg
    | i + 6, hi => simp at hi
end Go.Proofs.YtmaoiefkjpgjfaaGreat
