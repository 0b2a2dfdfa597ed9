import Derived.Test.YthlemieldfbbfabY0
import Derived.Test.YthlemieldfbbfabY2
namespace Go.Proofs.Ythlemieldfbbfab
open Go.RowKit
set_option linter.unusedVariables false
set_option linter.unusedSimpArgs false
set_option linter.unnecessarySimpa false

/-- What a run answers: the hits, in a row of its own. -/
def RunQ (m : Mach) (l : List Nat) (w : World) (e : Ending) (w' : World) : Prop :=
  ∃ v css, e = .returned v ∧ Frm [] w w' ∧ OW 75 5 w.heap.size w' v (lst css) ∧ RowI hitI [] w' css (hitsM m l)
theorem Frm.at {w W : World} {p : Addr} {v : Value} (f : Frm [] w W) (hp : p.block < w.heap.size) (h : w.cell? p = some v) : W.cell? p = some v := (f.cell hp (by simp)).trans h

set_option maxRecDepth 100000 in
set_option maxHeartbeats 8000000 in
theorem rRun_any (w : World) (mb : Nat) (V : V6) (m : Mach) (h : RM [] w mb V m) (ok : MOK m) (vl : Value) (L : List LBL) (hL : LR w vl L) (hval : ∀ n, (lblV L n).length ≤ 1048576) :
    Calls Try.prog 18 #[.pointer (some ⟨mb, 0, none⟩), vl] w (RunQ m (runM m (lblV L) m.code.length 0) w) := by
  have H := hide h
  have OK := hide ok
  have HL := hide hL
  have HVAL := hide hval
  have hN := ok.code.2.1
  have hN1 := ok.code.1
  clear h ok hL hval
  go_enter Try.func18, Try.ntmps18
  go_wp2_with fail
  go_loopg [5, 6] m.code.length (fun k v5 v6 wr => ∃ (i : Nat) (l : List Nat) (css : List (Array Value)), v6 = .int .i64 i ∧ i < m.code.length ∧ m.code.length ≤ i + k ∧ css.length ≤ i ∧ Frm [] w wr ∧ OW 75 5 w.heap.size wr v5 (lst css) ∧ Hid (RowI hitI [] w css (hitsM m l)) ∧ Hid (l ++ runM m (lblV L) k i = runM m (lblV L) m.code.length 0))
  case atStart => exact ⟨0, [], [], rfl, by omega, by omega, by simp, Frm.refl _ _, OW.nil _ _ _ _, RowI.nil _ _ _, rfl⟩
  case round =>
    obtain ⟨i, l, css, rfl, hi, hik, hci, hF, hO, HI, HR⟩ := hrel
    obtain ⟨ao, co, he⟩ := hO.shape
    rw [lst_len] at he
    subst he
    have F := hide hF
    have O := hide hO
    have hzz := hF.size
    obtain ⟨n, hn⟩ : ∃ n, gk = n + 1 := ⟨gk - 1, by omega⟩
    subst hn
    obtain ⟨cssi, hi1, hi2⟩ := H.out.i
    obtain ⟨ai, ci, hVi, hrow⟩ := row_at hi1 hi2
    obtain ⟨gi, oi, csi, rfl, hgi, _, ⟨vc, rfl, hvc⟩, hcell⟩ := hrow i hi
    have m5 := hF.at (p := ⟨mb, 5, none⟩) H.out.row.lt H.out.row.c5
    rw [hVi] at m5
    have k0 : wr.cell? ⟨gi, oi + i * 1 + 0, none⟩ = some vc := hF.at (p := ⟨gi, oi + i * 1 + 0, none⟩) hgi (hcell 0 _ rfl)
    rw [Nat.mul_one, Nat.add_zero] at k0
    obtain ⟨ax, cx, rfl, hxx⟩ := hvc.num
    obtain ⟨gx, ox, rfl, hgx, x0⟩ := hxx 0 (by simp)
    obtain ⟨g', o', e', _, x1⟩ := hxx 1 (by simp)
    simp only [Option.some.injEq, Addr.mk.injEq, and_true] at e'
    obtain ⟨rfl, rfl⟩ := e'
    obtain ⟨g', o', e', _, x2⟩ := hxx 2 (by simp)
    simp only [Option.some.injEq, Addr.mk.injEq, and_true] at e'
    obtain ⟨rfl, rfl⟩ := e'
    obtain ⟨g', o', e', _, x3⟩ := hxx 3 (by simp)
    simp only [Option.some.injEq, Addr.mk.injEq, and_true] at e'
    obtain ⟨rfl, rfl⟩ := e'
    simp only [List.getElem_cons_zero, List.getElem_cons_succ, Nat.add_zero, List.length_cons, List.length_nil, Nat.zero_add] at x0 x1 x2 x3 k0
    have y0 := hF.at (p := ⟨gx, ox, none⟩) hgx x0
    have y1 := hF.at (p := ⟨gx, ox + 1, none⟩) hgx x1
    have y2 := hF.at (p := ⟨gx, ox + 2, none⟩) hgx x2
    have y3 := hF.at (p := ⟨gx, ox + 3, none⟩) hgx x3
    have X2 := hide x2
    have hcase := ins_cases OK.out (lblV L) hi n
    have HTC : Hid ((lst css).length = css.length) := lst_len css
    clear x0 x1 x2 x3 hxx hvc hrow hcell hi1 hi2 hVi hF hO
    generalize m.code[i] = c at *
    obtain ⟨op, x, a, b⟩ := c
    simp only at y0 y1 y2 y3 X2 hcase
    rcases hcase with ⟨rfl, hrun⟩ | ⟨rfl, hxr, hia, han, hrun⟩ | ⟨rfl, hia, han, hib, hbn, hxt, htok, hrun⟩
    · have HE : Hid (runM m (lblV L) m.code.length 0 = l) := by
        show _ = _; rw [← HR.out, hrun, List.append_nil]
      clear HR hrun
      go_wp2
      go_ret
      rw [HE.out]
      exact ⟨_, css, rfl, F.out, O.out, HI.out.frm F.out (by simp)⟩
    · have HR2 : Hid ((l ++ [x]) ++ runM m (lblV L) n a = runM m (lblV L) m.code.length 0) := by
        show _ = _; rw [← HR.out, hrun]; simp
      obtain ⟨cssr, r1, r2⟩ := H.out.r
      obtain ⟨ar, cr, hVr, hrr⟩ := row_at r1 r2
      obtain ⟨gr, orr, csr, rfl, hgr, _, hrel, hcell⟩ := hrr x hxr
      have HS : Hid (hitsM m (l ++ [x]) = hitsM m l ++ [m.routes[x]]) := hitsM_snoc m l x hxr
      generalize m.routes[x] = hx at *
      have HREL := hide hrel
      obtain ⟨vb, rfl, hvb⟩ := hrel
      obtain ⟨ab, cb, rfl, _⟩ := hvb.str
      have m4 := F.out.at (p := ⟨mb, 4, none⟩) H.out.row.lt H.out.row.c4
      rw [hVr] at m4
      have q0 : wr.cell? ⟨gr, orr + x * 5, none⟩ = some (.string (bs hx.rc)) := F.out.at (p := ⟨gr, orr + x * 5 + 0, none⟩) hgr (hcell 0 _ rfl)
      have q1 : wr.cell? ⟨gr, orr + x * 5 + 1, none⟩ = some (.slice ab hx.bl.length cb) := F.out.at (p := ⟨gr, orr + x * 5 + 1, none⟩) hgr (hcell 1 _ rfl)
      have q2 : wr.cell? ⟨gr, orr + x * 5 + 2, none⟩ = some (.int .i64 (hx.wt : Nat)) := F.out.at (p := ⟨gr, orr + x * 5 + 2, none⟩) hgr (hcell 2 _ rfl)
      have q3 : wr.cell? ⟨gr, orr + x * 5 + 3, none⟩ = some (.int .i64 (hx.ev : Nat)) := F.out.at (p := ⟨gr, orr + x * 5 + 3, none⟩) hgr (hcell 3 _ rfl)
      have q4 : wr.cell? ⟨gr, orr + x * 5 + 4, none⟩ = some (.int .i64 (hx.rp : Nat)) := F.out.at (p := ⟨gr, orr + x * 5 + 4, none⟩) hgr (hcell 4 _ rfl)
      obtain ⟨h1, h2, h3, h4, h5⟩ := hx
      simp only at q0 q1 q2 q3 q4
      clear HR hrun hcell hrr r1 r2 hVr hvb
      go_wp2_with fail
      go_region_law ((refine step_appG _ (by rfl) _ _ 34 75 _ 5 64 infoHit Try.underlying34 (by rfl) (by omega) (by rfl) w.heap.size (.slice ao css.length co) (lst css) wr.heap.size (hcell ⟨h1, h2, h3, h4, h5⟩ (.slice ab h2.length cb)) (0, 0) (by rfl) (O.out.frm (S := []) (((Frm.refl [] _).alloc _).drew) (by simp)) (by rfl) (by rfl) (by exact heap1 _ _) (hcell_one _ _ _ _) (by rw [HTC.out]; omega) (by rw [HTC.out]; omega) (by simp; omega) (wr.heap.size + 1) (by simp) ?_; intro gg cap2 w4 hown4 hgrow hat hlt4; rw [HTC.out] at hown4 ⊢))
      all_goals
        have F4 : Hid (Frm [] w w4) := ((F.out.alloc _).drew).grown hgrow (fun r hr => .inr (O.out.lt hr).1)
        have O4 := hide hown4
        have z2 := F4.out.at (p := ⟨gx, ox + 2, none⟩) hgx X2.out
        clear hgrow hown4
        go_wp2
        go_roundg n
        case measure => omega
        case rel =>
          have O5 := O4.out
          rw [lst_snoc] at O5
          refine ⟨a, l ++ [x], css ++ [hcell ⟨h1, h2, h3, h4, h5⟩ (.slice ab h2.length cb)], rfl, han, by omega, by simp; omega, F4.out, ?_, ?_, HR2⟩
          · exact O5
          · show RowI _ _ _ _ _
            rw [HS.out]; exact HI.out.snoc HREL.out
    · obtain ⟨csst, t1, t2⟩ := H.out.t
      obtain ⟨at', ct, hVt, htr⟩ := row_at t1 t2
      obtain ⟨gt, ot, cst, rfl, hgt, _, ⟨vt, rfl, hvt⟩, hcell⟩ := htr x hxt
      have m3 := F.out.at (p := ⟨mb, 3, none⟩) H.out.row.lt H.out.row.c3
      rw [hVt] at m3
      have q0 : wr.cell? ⟨gt, ot + x * 1 + 0, none⟩ = some vt := F.out.at (p := ⟨gt, ot + x * 1 + 0, none⟩) hgt (hcell 0 _ rfl)
      rw [Nat.mul_one, Nat.add_zero] at q0
      obtain ⟨avt, cvt, hvs, _⟩ := hvt.num
      subst hvs
      have CK : Hid (∀ n, Calls Try.prog 33 #[.pointer (some ⟨mb, 0, none⟩), .slice avt 3 cvt, vl] (wr.drewN n) fun e w' => e = .returned (.bool (tstM m (lblV L (m.names.getD m.tests[x].n [])) m.tests[x])) ∧ ∃ q, w' = (wr.drewN n).drewN q) := fun n =>
        rcheck_any [] (wr.drewN n) mb V m (H.out.frm (F.out.drewN n) (by simp) (by simp)) m.tests[x] htok (.slice avt 3 cvt) (hvt.frm (F.out.drewN n) (by simp)) vl L (HL.out.frm (F.out.drewN n) (by simp)) OK.out.autos.2 (HVAL.out _)
      have HRUN := hide hrun
      clear hrun hcell htr t1 t2 hVt hvt htok
      generalize hbt : tstM m (lblV L (m.names.getD m.tests[x].n [])) m.tests[x] = bt at *
      clear hbt
      cases bt
      · have HR2 : Hid (l ++ runM m (lblV L) n b = runM m (lblV L) m.code.length 0) := by
          show _ = _; rw [← HR.out, HRUN.out]; rfl
        clear HR HRUN
        go_wp2_with fail
        go_quiet ((go_at_call 33; exact Calls.quiet_of (CK.out _)))
        go_wp2
        go_roundg n
        case measure => omega
        case rel => exact ⟨b, l, css, rfl, hbn, by omega, by omega, F.out.drewN _, O.out.frm ((Frm.refl [] _).drewN _) (by simp), HI, HR2⟩
      · have HR2 : Hid (l ++ runM m (lblV L) n a = runM m (lblV L) m.code.length 0) := by
          show _ = _; rw [← HR.out, HRUN.out]; rfl
        clear HR HRUN
        go_wp2_with fail
        go_quiet ((go_at_call 33; exact Calls.quiet_of (CK.out _)))
        go_wp2
        go_roundg n
        case measure => omega
        case rel => exact ⟨a, l, css, rfl, han, by omega, by omega, F.out.drewN _, O.out.frm ((Frm.refl [] _).drewN _) (by simp), HI, HR2⟩
end Go.Proofs.Ythlemieldfbbfab
