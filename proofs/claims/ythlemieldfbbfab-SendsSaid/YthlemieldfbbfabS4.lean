import Derived.Test.YthlemieldfbbfabS3
namespace Go.Proofs.Ythlemieldfbbfab
open Go.RowKit
set_option linter.unusedVariables false
set_option linter.unusedSimpArgs false
set_option linter.unnecessarySimpa false

/-- An automaton, wherever it lies. -/
structure AUm (w : World) (g q : Nat) (x : AutM) (va vn : Value) : Prop where
  lt : g < w.heap.size
  c0 : w.cell? ⟨g, q, none⟩ = some (.int .i64 (x.k : Nat))
  cc : ∀ c, c < 256 → w.cell? ⟨g, q + 1 + c, none⟩ = some (.int .u8 (x.cl.getD c 0 : Nat))
  ca : w.cell? ⟨g, q + 257, none⟩ = some va
  cn : w.cell? ⟨g, q + 258, none⟩ = some vn
theorem AUm.frm {w w' : World} {g q : Nat} {x : AutM} {va vn : Value} (h : AUm w g q x va vn) (f : Frm [] w w') : AUm w' g q x va vn :=
  ⟨Nat.lt_of_lt_of_le h.lt f.size, (f.cell (p := ⟨g, q, none⟩) h.lt (by simp)).trans h.c0, fun c hc => (f.cell (p := ⟨g, q + 1 + c, none⟩) h.lt (by simp)).trans (h.cc c hc), (f.cell (p := ⟨g, q + 257, none⟩) h.lt (by simp)).trans h.ca, (f.cell (p := ⟨g, q + 258, none⟩) h.lt (by simp)).trans h.cn⟩
theorem addQ (g q j : Nat) : (⟨g, q, none⟩ : Addr).add j = ⟨g, q + j, none⟩ := by unfold Addr.add; split <;> simp_all
theorem loadVar_at (w : World) (a : Addr) (ty : TypeId) (cs : Array Value) (d : TypeDesc) (hc : ∀ j v, cs.toList[j]? = some v → w.cell? (a.add j) = some v)
    (hu : Try.prog.underlying ty = some d) (hd : (match d with | .struct _ | .array _ _ => true | _ => false) = true) (hi : (Try.prog.info? ty).map (·.size) = some cs.size) :
    (loadVar ty a).run Try.prog w = .ok (.agg cs) w := by
  have hl : (loadCells a cs.toList.length).run Try.prog w = .ok cs.toList.toArray w := run_loadCells_list (P := Try.prog) w a cs.toList hc
  cases hq : Try.prog.info? ty with
  | none => simp [hq] at hi
  | some i =>
    have hs : i.size = cs.size := by simpa [hq] using hi
    have hagg : (isAgg ty).run Try.prog w = .ok true w := by
      unfold isAgg
      rw [Sem.run_bind, run_underlying hu w]
      cases d <;> simp_all
    simp [loadVar, hagg, sizeOf, typeInfo, hq, hs]
    rw [Array.length_toList] at hl
    rw [hl]
    simp
theorem wp_arrLoad {o : Oper} {a : Act} {w : World} {K : Act → World → Prop} {Q : Exit → Act → World → Prop} (t : TypeId) (x : Operand) (ho : o.op = .load t x) (p : Addr) (hx : a.eval x = .pointer (some p)) (cs : Array Value) (hl : (loadVar t p).run Try.prog w = .ok (.agg cs) w) (h : K (a.put o.dst (.agg cs)) w) : o.wp Try.prog a w K Q := by
  unfold Oper.wp execOp
  simp only [ho, hx, Instr.loadAt, Instr.sureAddr, Sem.run_bind, Sem.run_pure, Result.andThen_ok, hl]
  exact h
theorem arrSize : (Try.prog.info? 101).map (·.size) = some 256 := by kernel_rfl
theorem arrIndex (w : World) (cs : Array Value) (j : Nat) (v : Value) (hj : j < 256) (h : cs[j]? = some v) : (Instr.index 101 (.agg cs) (.int .i64 (j : Nat))).run Try.prog w = .ok v w := by
  obtain ⟨i0, hi, hz0, hz1, hz2⟩ := info_parts2 infoU8
  have hagg : (isAgg 5).run Try.prog w = .ok false w := by
    unfold isAgg
    rw [Sem.run_bind, run_underlying Try.underlying5 w]
    rfl
  have hlt : (j : Int) < 256 := by omega
  have hsz : j < cs.size := (Array.getElem?_eq_some_iff.1 h).1
  have hv : cs[j] = v := (Array.getElem?_eq_some_iff.1 h).2
  simp [Instr.index, asIntOf, run_underlying Try.underlying101, part, sizeOf, typeInfo, hi, hz1, hagg, hlt, h, hsz, hv]
  intro h2; omega
def clA (x : AutM) : Array Value := (x.cl.map fun (c : Nat) => Value.int .u8 c).toArray

set_option maxRecDepth 100000 in
set_option maxHeartbeats 4000000 in
theorem addAutomaton_any (W0 : World) (A : List Nat) (sb : Nat) (v : Value) (L : List UInt8) (x : AutM) (va vn : Value) (g q : Nat) (w : World) (hs : SAV W0.heap.size w sb v L) (hF : Frm [] W0 w) (hu : AUm W0 g q x va vn) (ra : RW A 1 W0 va (bc x.acc)) (rn : RW A 1 W0 vn (ic x.nx)) (ok : AutOK x) (hL : L.length + (eA x).length ≤ 600000000) :
    Calls Try.prog 47 #[.pointer (some ⟨sb, 0, none⟩), .pointer (some ⟨g, q, none⟩)] w fun e w' => e = .returned (.tuple #[]) ∧ AD W0.heap.size w sb L (eA x) w' := by
  have hbs := hs.2.1
  have F0 := hide hF
  have hz0 := hF.size
  have U := hide hu
  have OK := hide ok
  obtain ⟨aa, ca, rfl, ha1, ha2⟩ := ra
  obtain ⟨an, cn, rfl, hn1, hn2⟩ := rn
  have RA := hide ha2
  have RN := hide hn2
  have hcl := ok.cl
  have hac := ok.s2
  have hk := ok.k2
  have hnxl : x.nx.length ≤ 10240 := by rw [ok.nx]; exact Nat.le_trans (Nat.mul_le_mul ok.s2 ok.k2) (by decide)
  have hLL := hL
  simp only [eA, List.length_append, nb_len] at hLL
  have q3 := (U.out.frm F0.out).ca
  have N1 := hide (addNumber_any 1 W0.heap.size sb v L x.acc.length 1 w (by omega) (by omega) rfl hs (by omega) hF.size (by omega))
  clear hs hF hu ok ha1 ha2 hn1 hn2
  rw [bc_len] at q3
  rw [bc_len] at U
  rw [ic_len] at U
  go_enter Try.func47, Try.ntmps47
  go_wp2_with fail
  refine (N1.out).mono ?_
  rintro e w1 ⟨rfl, hA1⟩
  have A1 := hide hA1
  obtain ⟨v1, hS1⟩ := hA1.sav
  have FW1 := hide (hA1.kp.frm F0.out hbs)
  have N2 := hide (addNumber_any 2 W0.heap.size sb v1 _ x.k 2 w1 (by omega) (by omega) rfl hS1 (by simp only [List.length_append, nb_len]; omega) FW1.out.size (by omega))
  have r0 := (U.out.frm FW1.out).c0
  clear hA1 hS1 N1 q3
  go_wp2_with fail
  refine (N2.out).mono ?_
  rintro e w2 ⟨rfl, hA2⟩
  have A2 := hide (A1.out.add (fun _ _ => hA2))
  have FW2 := hide ((A2.out.kp).frm F0.out hbs)
  clear hA2 N2 A1 FW1 r0
  have hcs : (clA x).size = 256 := by simp [clA, hcl]
  have HCA : Hid ((loadVar 101 ⟨g, q + 1, none⟩).run Try.prog w2 = .ok (.agg (clA x)) w2) := by
    refine loadVar_at w2 ⟨g, q + 1, none⟩ 101 (clA x) _ ?_ Try.underlying101 rfl (by rw [hcs]; exact arrSize)
    intro j u hj
    rw [addQ]
    have hjl : j < x.cl.length := by
      have := (List.getElem?_eq_some_iff.1 hj).1
      simpa [clA] using this
    rw [(U.out.frm FW2.out).cc j (by omega)]
    simp [clA, hjl] at hj
    simp [List.getD, hjl, hj]
  have HC : Hid (∀ j, j < 256 → (clA x)[j]? = some (.int .u8 (x.cl.getD j 0 : Nat))) := by
    intro j hj
    have hjl : j < x.cl.length := by omega
    simp [clA, hjl, List.getD]
  go_wp2_with fail
  refine wp_arrLoad 101 (.tmp 25) rfl ⟨g, q + 1, none⟩ rfl (clA x) HCA.out ?_
  clear HCA
  go_wp2_with fail
  go_loopg [27] 256 (fun k v27 wr => ∃ j : Nat, j + k = 256 ∧ v27 = .int .i64 j ∧ AD W0.heap.size w sb L (nb 1 x.acc.length ++ nb 2 x.k ++ (x.cl.take j).flatMap (nb 1)) wr)
  case atStart => exact ⟨0, by omega, rfl, by simpa using A2.out⟩
  case round =>
    clear A2 FW2
    obtain ⟨j, hjk, rfl, hA⟩ := hrel
    have A3 := hide hA
    clear hA
    by_cases hlt : j < 256
    · have hd1 : decide ((j : Int) < 256) = true := decide_eq_true (by omega)
      have hcj := HC.out j hlt
      have hix := arrIndex wr (clA x) j _ hlt hcj
      obtain ⟨v3, hS3, hK3, hO3⟩ := A3.out
      obtain ⟨a3, c3, he3⟩ := hS3.2.2.shape
      subst he3
      have S := hide hS3
      have YBB := hide hS3.2.2
      have c0 := hS3.c0
      have z := hS3.fz 0
      have hsb := hS3.lt
      have hzr := (hK3.frm F0.out hbs).size
      have K3 := hide hK3
      have hbnd : x.cl.getD j 0 < 256 := by
        have hjl : j < x.cl.length := by omega
        have h1 := OK.out.cls (x.cl.getD j 0) (by simp [List.getD, hjl])
        omega
      have hy : (UInt8.ofNat (x.cl.getD j 0)).toNat = x.cl.getD j 0 := by rw [UInt8.toNat_ofNat']; exact Nat.mod_eq_of_lt hbnd
      have HNB : Hid (nb 1 (x.cl.getD j 0) = [UInt8.ofNat (x.cl.getD j 0)]) := by show _ = _; rw [nb, nb, Nat.mod_eq_of_lt hbnd]; rfl
      have HT : Hid ((x.cl.take (j + 1)).flatMap (nb 1) = (x.cl.take j).flatMap (nb 1) ++ nb 1 (x.cl.getD j 0)) := by
        have hjl : j < x.cl.length := by omega
        show _ = _
        rw [List.take_succ_eq_append_getElem hjl, List.flatMap_append]; simp [List.getD, hjl]
      have hcell : ∀ o, o = Obj.cells #[Value.int .u8 (x.cl.getD j 0 : Nat)] 5 → (wr.alloc o).cell? ⟨wr.heap.size, 0, none⟩ = some (.int .u8 ((UInt8.ofNat (x.cl.getD j 0)).toNat : Nat)) := by
        intro o ho
        subst ho
        rw [hy]
        simp
      have hlen : (L ++ (nb 1 x.acc.length ++ nb 2 x.k ++ (x.cl.take j).flatMap (nb 1))).length ≤ 600000000 := by
        have e1 : (x.cl.flatMap (nb 1)).length = ((x.cl.take j).flatMap (nb 1)).length + ((x.cl.drop j).flatMap (nb 1)).length := by rw [← List.length_append, ← List.flatMap_append, List.take_append_drop]
        simp only [List.length_append, nb_len]
        omega
      generalize hLLe : L ++ (nb 1 x.acc.length ++ nb 2 x.k ++ (x.cl.take j).flatMap (nb 1)) = LL at *
      have HLL := hide hLLe
      generalize x.cl.getD j 0 = m at *
      clear hS3 hK3 hO3 hcj hLLe A3
      go_wp2_with (first | (at_builtin; refine wp_appY _ rfl _ _ rfl W0.heap.size (.slice a3 LL.length c3) LL wr.heap.size (UInt8.ofNat m) rfl (YBB.out.alloc _) rfl (hcell _ rfl) (by omega) (by simp; omega) ?_; intro g2 cap2 w6 hs6 hg6; have O6 := hide hs6; have G6 := hide hg6; have c6 := (hg6.cell_far ⟨sb, 0, none⟩ (by simp; omega) (fun e => YBB.out.ne S.out.1 e.symm)); have f6 := (hg6.frozen_far ⟨sb, 0, none⟩ (by simp; omega) (fun e => YBB.out.ne S.out.1 e.symm)); clear hs6 hg6))
      go_roundg (gk - 1)
      case measure => omega
      case rel =>
        have h6 : w6.heap[sb]? = some (.cells #[.slice a3 LL.length c3] 96 (0, 0)) := (G6.out.block sb (by simp; omega) (fun e => YBB.out.ne S.out.1 e.symm)).trans ((((Frm.refl [] wr).alloc _).block sb hsb (by simp)).trans S.out.1)
        have FS : ∀ u, Frm [sb] w6 (w6.setCell ⟨sb, 0, none⟩ u) := fun u => (Frm.refl [sb] w6).setCell (p := ⟨sb, 0, none⟩) (.inl (by simp)) u
        have O7 : ∀ u, OW 5 1 W0.heap.size (w6.setCell ⟨sb, 0, none⟩ u) (.slice (some ⟨g2, 0, none⟩) (LL.length + 1) cap2) (yc (LL ++ [UInt8.ofNat m])) := fun u => O6.out.keep (FS u) (fun r hr hm => by simp at hm; subst hm; exact YB.ne (.inl O6.out) h6 hr)
        have K7 : ∀ u, KP W0.heap.size sb wr (w6.setCell ⟨sb, 0, none⟩ u) := fun u => ((KP.of_frm (((Frm.refl [sb] wr).alloc _))).trans (KP.grown (YBB.out.alloc _) G6.out)).trans (KP.of_frm (FS u))
        have e : L ++ (nb 1 x.acc.length ++ nb 2 x.k ++ (x.cl.take (j + 1)).flatMap (nb 1)) = LL ++ [UInt8.ofNat m] := by rw [HT.out, HNB.out, ← HLL.out]; simp
        refine ⟨j + 1, by omega, by go_num, .slice (some ⟨g2, 0, none⟩) (LL.length + 1) cap2, ⟨?_, hbs, .inl ?_⟩, K3.out.trans (K7 _), ?_⟩
        · simp [World.setCell, Array.getElem?_modify, h6]
        · rw [e]; exact O7 _
        · rw [e]; exact O7 _
    · have hje : j = 256 := by omega
      have hd1 : decide ((j : Int) < 256) = false := decide_eq_false (by omega)
      have A4 : Hid (AD W0.heap.size w sb L (nb 1 x.acc.length ++ nb 2 x.k ++ x.cl.flatMap (nb 1)) wr) := by
        have h := A3.out
        rw [List.take_of_length_le (by omega)] at h
        exact h
      subst hje
      clear A3 HC
      have FW := hide ((A4.out.kp).frm F0.out hbs)
      have r2 := (U.out.frm FW.out).ca
      go_wp2_with fail
      obtain ⟨wB, hwB⟩ : ∃ wB, wB = wr := ⟨_, rfl⟩
      rw [← hwB] at A4 FW r2 ⊢
      clear hwB
      go_loopg [46] x.acc.length (fun k v46 wr => ∃ j : Nat, j + k = x.acc.length ∧ v46 = .int .i64 j ∧ AD W0.heap.size w sb L (nb 1 x.acc.length ++ nb 2 x.k ++ x.cl.flatMap (nb 1) ++ (x.acc.take j).flatMap (nb 1)) wr)
      case atStart => exact ⟨0, by omega, rfl, by simpa using A4.out⟩
      case round =>
        clear A4 FW r2
        obtain ⟨j, hjk, rfl, hA⟩ := hrel
        have A5 := hide hA
        clear hA
        by_cases hlt : j < x.acc.length
        · have hd1 : decide ((j : Int) < (x.acc.length : Int)) = true := decide_eq_true (by omega)
          obtain ⟨ga, off, e1, _, hga, hca⟩ := RA.out j (by rw [bc_len]; exact hlt)
          subst e1
          obtain ⟨v5, hS5, hK5, hO5⟩ := A5.out
          have F5 := hide (hK5.frm F0.out hbs)
          have hcb : wr.cell? ⟨ga, off + j, none⟩ = some (.bool (x.acc[j] == 1)) := by
            have h := hca 0 (.bool (x.acc[j] == 1)) (by simp [bc])
            rw [Nat.mul_one, Nat.add_zero] at h
            exact (F5.out.cell (p := ⟨ga, off + j, none⟩) hga (by simp)).trans h
          have h01 : x.acc[j] < 2 := OK.out.acc _ (List.getElem_mem hlt)
          have HT : Hid ((x.acc.take (j + 1)).flatMap (nb 1) = (x.acc.take j).flatMap (nb 1) ++ nb 1 x.acc[j]) := by
            show _ = _; rw [List.take_succ_eq_append_getElem hlt, List.flatMap_append]; simp
          have hlen : (L ++ (nb 1 x.acc.length ++ nb 2 x.k ++ x.cl.flatMap (nb 1) ++ (x.acc.take j).flatMap (nb 1))).length ≤ 600000000 := by
            have e1 : (x.acc.flatMap (nb 1)).length = ((x.acc.take j).flatMap (nb 1)).length + ((x.acc.drop j).flatMap (nb 1)).length := by rw [← List.length_append, ← List.flatMap_append, List.take_append_drop]
            simp only [List.length_append, nb_len]
            omega
          have N5 := hide (addNumber_any 1 W0.heap.size sb v5 _ x.acc[j] 1 wr (by omega) (by omega) rfl hS5 (by omega) F5.out.size (by omega))
          generalize x.acc[j] = m at *
          clear hS5 hK5 hO5 hca
          have hm01 : m = 0 ∨ m = 1 := by omega
          rcases hm01 with rfl | rfl
          all_goals
            go_wp2_with fail
            refine (N5.out).mono ?_
            rintro e w6 ⟨rfl, hA6⟩
            have A6 := hide (A5.out.add (fun _ _ => hA6))
            clear hA6 N5
            go_wp2_with fail
            go_roundg (gk - 1)
            case measure => omega
            case rel =>
              refine ⟨j + 1, by omega, by go_num, ?_⟩
              rw [HT.out, ← List.append_assoc]
              exact A6.out
        · have hje : j = x.acc.length := by omega
          have hd1 : decide ((j : Int) < (x.acc.length : Int)) = false := decide_eq_false (by omega)
          have A6 : Hid (AD W0.heap.size w sb L (nb 1 x.acc.length ++ nb 2 x.k ++ x.cl.flatMap (nb 1) ++ x.acc.flatMap (nb 1)) wr) := by
            have h := A5.out
            rw [List.take_of_length_le (by omega)] at h
            exact h
          clear A5 hje
          have FW := hide ((A6.out.kp).frm F0.out hbs)
          have r2 := (U.out.frm FW.out).cn
          go_wp2_with fail
          obtain ⟨wC, hwC⟩ : ∃ wC, wC = wr := ⟨_, rfl⟩
          rw [← hwC] at A6 FW r2 ⊢
          clear hwC
          go_loopg [61] x.nx.length (fun k v61 wr => ∃ j : Nat, j + k = x.nx.length ∧ v61 = .int .i64 j ∧ AD W0.heap.size w sb L (nb 1 x.acc.length ++ nb 2 x.k ++ x.cl.flatMap (nb 1) ++ x.acc.flatMap (nb 1) ++ (x.nx.take j).flatMap (nb 1)) wr)
          case atStart => exact ⟨0, by omega, rfl, by simpa using A6.out⟩
          case round =>
            clear A6 FW r2
            obtain ⟨j2, hjk2, rfl, hA⟩ := hrel
            have A7 := hide hA
            clear hA
            by_cases hlt2 : j2 < x.nx.length
            · have hd1 : decide ((j2 : Int) < (x.nx.length : Int)) = true := decide_eq_true (by omega)
              obtain ⟨ga, off, e1, _, hga, hca⟩ := RN.out j2 (by rw [ic_len]; exact hlt2)
              subst e1
              obtain ⟨v5, hS5, hK5, hO5⟩ := A7.out
              have F5 := hide (hK5.frm F0.out hbs)
              have hcb : wr.cell? ⟨ga, off + j2, none⟩ = some (.int .i64 (x.nx[j2] : Nat)) := by
                have h := hca 0 (.int .i64 (x.nx[j2] : Nat)) (by simp [ic])
                rw [Nat.mul_one, Nat.add_zero] at h
                exact (F5.out.cell (p := ⟨ga, off + j2, none⟩) hga (by simp)).trans h
              have h01 : x.nx[j2] < x.acc.length := OK.out.nxs _ (List.getElem_mem hlt2)
              have HT : Hid ((x.nx.take (j2 + 1)).flatMap (nb 1) = (x.nx.take j2).flatMap (nb 1) ++ nb 1 x.nx[j2]) := by
                show _ = _; rw [List.take_succ_eq_append_getElem hlt2, List.flatMap_append]; simp
              have hlen : (L ++ (nb 1 x.acc.length ++ nb 2 x.k ++ x.cl.flatMap (nb 1) ++ x.acc.flatMap (nb 1) ++ (x.nx.take j2).flatMap (nb 1))).length ≤ 600000000 := by
                have e1 : (x.nx.flatMap (nb 1)).length = ((x.nx.take j2).flatMap (nb 1)).length + ((x.nx.drop j2).flatMap (nb 1)).length := by rw [← List.length_append, ← List.flatMap_append, List.take_append_drop]
                simp only [List.length_append, nb_len]
                omega
              have N5 := hide (addNumber_any 1 W0.heap.size sb v5 _ x.nx[j2] 1 wr (by omega) (by omega) rfl hS5 (by omega) F5.out.size (by omega))
              generalize x.nx[j2] = m at *
              clear hS5 hK5 hO5 hca
              go_wp2_with fail
              refine (N5.out).mono ?_
              rintro e w6 ⟨rfl, hA6⟩
              have A8 := hide (A7.out.add (fun _ _ => hA6))
              clear hA6 N5
              go_wp2_with fail
              go_roundg (gk - 1)
              case measure => omega
              case rel =>
                refine ⟨j2 + 1, by omega, by go_num, ?_⟩
                rw [HT.out, ← List.append_assoc]
                exact A8.out
            · have hd1 : decide ((j2 : Int) < (x.nx.length : Int)) = false := decide_eq_false (by omega)
              have A8 : Hid (AD W0.heap.size w sb L (eA x) wr) := by
                have h := A7.out
                rw [show x.nx.take j2 = x.nx from List.take_of_length_le (by omega)] at h
                show AD _ _ _ _ _ _
                unfold eA
                simpa using h
              go_wp2
              go_end0
              exact ⟨rfl, A8.out⟩
end Go.Proofs.Ythlemieldfbbfab
