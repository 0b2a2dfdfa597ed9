import Derived.Test.YthlemieldfbbfabY3
namespace Go.Proofs.Ythlemieldfbbfab
open Go.RowKit
set_option linter.unusedVariables false
set_option linter.unusedSimpArgs false
set_option linter.unnecessarySimpa false

theorem PR.c0 {w : World} {pb : Nat} {V : V6} {m : Mach} {A : List Nat} (h : PR A w pb V m) : w.cell? ⟨pb, 0, none⟩ = some V.n := by simp [World.cell?, h.row, V6.cells]
theorem PR.c1 {w : World} {pb : Nat} {V : V6} {m : Mach} {A : List Nat} (h : PR A w pb V m) : w.cell? ⟨pb, 1, none⟩ = some V.c := by simp [World.cell?, h.row, V6.cells]
theorem PR.c2 {w : World} {pb : Nat} {V : V6} {m : Mach} {A : List Nat} (h : PR A w pb V m) : w.cell? ⟨pb, 2, none⟩ = some V.a := by simp [World.cell?, h.row, V6.cells]
theorem PR.c3 {w : World} {pb : Nat} {V : V6} {m : Mach} {A : List Nat} (h : PR A w pb V m) : w.cell? ⟨pb, 3, none⟩ = some V.t := by simp [World.cell?, h.row, V6.cells]
theorem PR.c4 {w : World} {pb : Nat} {V : V6} {m : Mach} {A : List Nat} (h : PR A w pb V m) : w.cell? ⟨pb, 4, none⟩ = some V.r := by simp [World.cell?, h.row, V6.cells]
theorem PR.c5 {w : World} {pb : Nat} {V : V6} {m : Mach} {A : List Nat} (h : PR A w pb V m) : w.cell? ⟨pb, 5, none⟩ = some V.i := by simp [World.cell?, h.row, V6.cells]
theorem PR.lt {w : World} {pb : Nat} {V : V6} {m : Mach} {A : List Nat} (h : PR A w pb V m) : pb < w.heap.size := (Array.getElem?_eq_some_iff.1 h.row).1
theorem aum_of {A : List Nat} {w : World} {cs : Array Value} {x : AutM} {g q : Nat} (h : autI.rel A w cs x) (ok : AutOK x) (hg : g < w.heap.size) (hh : ∀ c u, cs[c]? = some u → w.cell? ⟨g, q + c, none⟩ = some u) :
    ∃ va vn, AUm w g q x va vn ∧ RW A 1 w va (bc x.acc) ∧ RW A 1 w vn (ic x.nx) := by
  obtain ⟨va, vn, rfl, ra, rn⟩ := h
  have hlc : x.cl.length = 256 := ok.cl
  have hh2 : ∀ c u, (acell x va vn).toList[c]? = some u → w.cell? ⟨g, q + c, none⟩ = some u := fun c u hu => hh c u (by rw [← hu]; simp)
  refine ⟨va, vn, ⟨hg, hh2 0 _ (by simp [acell]), fun c hc => ?_, hh2 257 _ ?_, hh2 258 _ ?_⟩, ra, rn⟩
  · have := hh2 (1 + c) (.int .u8 (x.cl.getD c 0 : Nat)) (by
      have hl : c < x.cl.length := by omega
      simp only [acell]
      rw [Nat.add_comm, List.getElem?_cons_succ, List.getElem?_append_left (by simp [nv]; exact hl)]
      simp [nv, hl, List.getD])
    rwa [← Nat.add_assoc] at this
  · simp only [acell]
    rw [List.getElem?_cons_succ, List.getElem?_append_right (by simp [nv, hlc])]
    simp [nv, hlc]
  · simp only [acell]
    rw [List.getElem?_cons_succ, List.getElem?_append_right (by simp [nv, hlc])]
    simp [nv, hlc]

set_option maxRecDepth 100000 in
set_option maxHeartbeats 8000000 in
theorem pholds_any (w : World) (pb : Nat) (V : V6) (m : Mach) (h : PR [] w pb V m) (ok : MOK m) (x : Nat) (hx : x < m.tests.length) (vl : Value) (L : List LBL) (hL : LR w vl L) (hval : ∀ n, (lblV L n).length ≤ 1048576) :
    Calls Try.prog 52 #[.pointer (some ⟨pb, 0, none⟩), .int .i64 x, vl] w fun e w' => e = .returned (.bool (tstM m (lblV L (m.names.getD m.tests[x].n [])) m.tests[x])) ∧ Frm [] w w' := by
  have H := hide h
  have hpb := h.lt
  have hok := ok.tests.2 m.tests[x] (List.getElem_mem hx)
  obtain ⟨an, cn, hVn, hn⟩ := h.pg.n.str
  obtain ⟨ac, cc, hVc, hc⟩ := h.pg.c.str
  obtain ⟨css, ha1, ha2⟩ := h.pg.a
  obtain ⟨aa, ca, hVa, ha⟩ := row_at ha1 ha2
  obtain ⟨at', ct, hVt, _, ht⟩ := h.pg.t
  have htl : (tc m.tests).length = m.tests.length := by simp [tc]
  obtain ⟨gt, ot, rfl, _, hgt, hcell⟩ := ht x (by rw [htl]; exact hx)
  have p0 := h.c0
  have p1 := h.c1
  have p2 := h.c2
  have p3 := h.c3
  rw [hVn] at p0
  rw [hVc] at p1
  rw [hVa] at p2
  rw [hVt, htl] at p3
  have t0 : w.cell? ⟨gt, ot + x * 3, none⟩ = some (.int .i64 (m.tests[x].n : Nat)) := hcell 0 _ (by simp [tc, tcell])
  have t1 : w.cell? ⟨gt, ot + x * 3 + 1, none⟩ = some (.int .i64 (m.tests[x].k : Nat)) := hcell 1 _ (by simp [tc, tcell])
  have t2 : w.cell? ⟨gt, ot + x * 3 + 2, none⟩ = some (.int .i64 (m.tests[x].x : Nat)) := hcell 2 _ (by simp [tc, tcell])
  have hxb := ok.tests.1
  have hnb := ok.names.1
  have HAO := hide ok.autos.2
  have hcb := ok.consts.1
  have hab := ok.autos.1
  clear hcell ht htl ha1 ha2 h ok hVn hVc hVa hVt
  generalize m.tests[x] = t at *
  obtain ⟨gn, on, rfl, hgn, n0⟩ := hn t.n hok.n
  have hgd : m.names.getD t.n [] = m.names[t.n]'hok.n := by simp [List.getD, hok.n]
  rw [hgd]
  have VO : Hid (∀ W, Frm [] w W → Calls Try.prog 69 #[vl, .string (bs (m.names[t.n]'hok.n))] W fun e w' => e = .returned (.string (bs (lblV L (m.names[t.n]'hok.n)))) ∧ Frm [] W w') := fun W f => valueOf_any vl L _ W (hL.frm f (by simp))
  have hvl := hval (m.names[t.n]'hok.n)
  have hnl := hok.n
  have hk2 := hok.k
  have hx' := hok.x
  have hl := bs_toList
  have HC := hide hc
  have HA := hide ha
  generalize hnm : m.names[t.n]'hok.n = nm at *
  have hsz := bs_size (lblV L nm)
  generalize hvv : lblV L nm = v at *
  have hd1 : decide ((x : Int) < 0) = false := decide_eq_false (by omega)
  have hd2 : decide ((t.n : Int) < 0) = false := decide_eq_false (by omega)
  have hd3 : decide ((t.x : Int) < 0) = false := decide_eq_false (by omega)
  have hxb2 : t.x < 256 := by split at hx' <;> omega
  have P0 := hide p0
  have P1 := hide p1
  have P2 := hide p2
  clear hn hc ha hL hval hok hgd hnm hvv
  obtain ⟨tn, tk, tx⟩ := t
  simp only at *
  go_enter Try.func52, Try.ntmps52
  go_wp2_with fail
  go_quiet (fail)
  go_wp2_with fail
  have FN : Hid (Frm [] w ((w.alloc (Obj.cells #[.int .i64 (tn : Nat), .int .i64 (tk : Nat), .int .i64 (tx : Nat)] 106)).drewN nq).drew) := (((Frm.refl [] w).alloc _).drewN nq).drew
  go_region_with (go_at_call 69; refine (VO.out _ FN.out).mono ?_; rintro e w' ⟨rfl, hF'⟩)
  all_goals
    have F2 := hide (FN.out.trans hF')
    have B2 : w'.heap[w.heap.size]? = some (Obj.cells #[.int .i64 (tn : Nat), .int .i64 (tk : Nat), .int .i64 (tx : Nat)] 106) := (hF'.block w.heap.size (by simp) (by simp)).trans (heap1 _ _)
    have d1 : w'.cell? ⟨w.heap.size, 1, none⟩ = some (.int .i64 (tk : Nat)) := by simp [World.cell?, B2]
    have d2 : w'.cell? ⟨w.heap.size, 2, none⟩ = some (.int .i64 (tx : Nat)) := by simp [World.cell?, B2]
    have e1 := F2.out.at (p := ⟨pb, 1, none⟩) hpb P1.out
    have e2 := F2.out.at (p := ⟨pb, 2, none⟩) hpb P2.out
    clear B2 hF' FN p0 p1 p2 p3 t0 t1 t2 n0
    by_cases hk : tk = 0
    · have hxl : tx < m.consts.length := by rw [if_neg (by omega)] at hx'; exact hx'
      obtain ⟨gc, oc, rfl, hgc, k0⟩ := HC.out tx hxl
      have HV : Hid (tstM m v ⟨tn, tk, tx⟩ = (m.consts[tx] == v)) := by
        show _ = _; unfold tstM; rw [if_pos hk]; simp only [List.getD, List.getElem?_eq_getElem hxl, Option.getD_some]; exact BEq.comm
      have k1 := F2.out.at (p := ⟨gc, oc + tx, none⟩) hgc k0
      have hd4 : decide ((tx : Int) < (m.consts.length : Int)) = true := decide_eq_true (by omega)
      have hd5 : decide (tx < m.consts.length) = true := decide_eq_true hxl
      generalize m.consts[tx] = cst at *
      subst hk
      clear hx' HC HA k0
      go_wp2_with fail
      go_quiet (fail)
      go_wp2
      go_ret
      rw [HV.out]
      exact ⟨rfl, F2.out.drewN _⟩
    · have hk1 : tk = 1 := by omega
      have hxl : tx < m.autos.length := by rw [if_pos hk1] at hx'; exact hx'
      obtain ⟨ga, oa, cs, rfl, hga, _, hrel, hcs⟩ := HA.out tx hxl
      have OK : Hid (AutOK m.autos[tx]) := HAO.out _ (List.getElem_mem hxl)
      have HV : Hid (tstM m v ⟨tn, tk, tx⟩ = (m.autos[tx].acc.getD (autT m.autos[tx] 0 v) 0 == 1)) := by
        show _ = _; unfold tstM; rw [if_neg hk]; simp [List.getD, hxl]
      obtain ⟨va, vn, hU, ra, rn⟩ := aum_of hrel OK.out hga hcs
      have TKS : Hid (∀ n, Calls Try.prog 70 #[.pointer (some ⟨ga, oa + tx * 259, none⟩), .string (bs v)] (w'.drewN n) fun e u => e = .returned (.bool (m.autos[tx].acc.getD (autT m.autos[tx] 0 v) 0 == 1)) ∧ ∃ q, u = (w'.drewN n).drewN q) := fun n =>
        takesM_any [pb] (w'.drewN n) ga (oa + tx * 259) m.autos[tx] va vn v (hU.frm (F2.out.drewN n)) (ra.frm (F2.out.drewN n) (by simp)) (rn.frm (F2.out.drewN n) (by simp)) OK.out hvl
      have hd4 : decide ((tx : Int) < (m.autos.length : Int)) = true := decide_eq_true (by omega)
      have hd5 : decide (tx < m.autos.length) = true := decide_eq_true hxl
      generalize (m.autos[tx].acc.getD (autT m.autos[tx] 0 v) 0 == 1) = bb at *
      subst hk1
      clear hx' HC HA hU ra rn hrel hcs hk
      go_wp2_with fail
      go_quiet ((go_at_call 70; exact Calls.quiet_of (TKS.out _)))
      go_wp2
      go_ret
      rw [HV.out]
      exact ⟨rfl, F2.out.drewN _⟩
end Go.Proofs.Ythlemieldfbbfab
