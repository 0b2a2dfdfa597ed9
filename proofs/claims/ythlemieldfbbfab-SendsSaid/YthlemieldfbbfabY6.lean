import Derived.Test.YthlemieldfbbfabY5
import Derived.Deep.DeepCutAuto
import Derived.Deep.CutBlock
namespace Go.Proofs.Ythlemieldfbbfab
open Go.RowKit
set_option linter.unusedVariables false
set_option linter.unusedSimpArgs false
set_option linter.unnecessarySimpa false

/-- A hit whose list of labels has no spare room. -/
def hitT : Inn HitM where
  rel A w cs x := ∃ g, cs = hcell x (.slice (some ⟨g, 0, none⟩) x.bl.length x.bl.length) ∧ RW A 1 w (.slice (some ⟨g, 0, none⟩) x.bl.length x.bl.length) (sc x.bl)
  frm := by
    rintro A S w w' cs x ⟨g, h1, h2⟩ f hS
    exact ⟨g, h1, h2.frm f hS⟩
  avoid := by
    rintro A B w cs x ⟨g, h1, h2⟩ hB
    exact ⟨g, h1, h2.avoid hB⟩
theorem RW.notin {A B : List Nat} {k : Nat} {w : World} {g n c : Nat} {vs : List (List Value)} (h : RW A k w (.slice (some ⟨g, 0, none⟩) n c) vs) (hg : g ∉ B) : RW B k w (.slice (some ⟨g, 0, none⟩) n c) vs := by
  obtain ⟨a, cap, e, h1, h2⟩ := h
  refine ⟨a, cap, e, h1, fun j hj => ?_⟩
  obtain ⟨g', off, e', h3, h4, h5⟩ := h2 j hj
  refine ⟨g', off, e', ?_, h4, h5⟩
  simp only [Value.slice.injEq] at e
  rw [← e.1] at e'
  simp only [Option.some.injEq, Addr.mk.injEq, and_true] at e'
  rw [← e'.1]; exact hg
theorem heap_b (w : World) (o o' : Obj) : ((w.alloc o).alloc o').heap[w.heap.size + 1]? = some o' := by
  have := heap1 (w.alloc o) o'
  rwa [show (w.alloc o).heap.size = w.heap.size + 1 by simp] at this
theorem heap_bd (w : World) (k : Nat) (o o' : Obj) : (((w.alloc o).drewN k).alloc o').heap[w.heap.size + 1]? = some o' := by
  have := heap1 ((w.alloc o).drewN k) o'
  rwa [show ((w.alloc o).drewN k).heap.size = w.heap.size + 1 by simp] at this
theorem OW.far {e : TypeId} {k base b : Nat} {w w' : World} {v : Value} {vs : List (List Value)} (h : OW e k base w v vs) (f : Frm [b] w w') (hb : v.ownBlock ≠ some b) : OW e k base w' v vs := by
  refine ⟨⟨h.1.1, ?_⟩, h.2⟩
  rcases h.1.2 with hn | ⟨g, cap, cur, rfl, hbg, hgg, rest⟩
  · exact .inl hn
  · refine .inr ⟨g, cap, cur, rfl, hbg, ?_, rest⟩
    rw [f.block g (Array.getElem?_eq_some_iff.1 hgg).1 (fun hm => by simp at hm; subst hm; exact hb rfl)]
    exact hgg
def PRunQ (m : Mach) (l : List Nat) (w : World) (e : Ending) (w' : World) : Prop :=
  ∃ v css, e = .returned v ∧ Frm [] w w' ∧ OW 75 5 w.heap.size w' v (lst css) ∧ RowI hitT [] w' css (hitsM m l)

set_option maxRecDepth 100000 in
set_option maxHeartbeats 8000000 in
theorem pRun_any (w : World) (pb : Nat) (V : V6) (m : Mach) (h : PR [] w pb V m) (ok : MOK m) (vl : Value) (L : List LBL) (hL : LR w vl L) (hval : ∀ n, (lblV L n).length ≤ 1048576) :
    Calls Try.prog 31 #[.pointer (some ⟨pb, 0, none⟩), vl] w (PRunQ m (runM m (lblV L) m.code.length 0) w) := by
  have H := hide h
  have OK := hide ok
  have HL := hide hL
  have HVAL := hide hval
  have hN := ok.code.2.1
  have hN1 := ok.code.1
  have hpb := h.lt
  clear h ok hL hval
  go_enter Try.func31, Try.ntmps31
  go_wp2_with fail
  go_loopg [5, 6] m.code.length (fun k v5 v6 wr => ∃ (i : Nat) (l : List Nat) (css : List (Array Value)), v6 = .int .i64 i ∧ i < m.code.length ∧ m.code.length ≤ i + k ∧ css.length ≤ i ∧ Frm [] w wr ∧ OW 75 5 w.heap.size wr v5 (lst css) ∧ Hid (RowI hitT ([] ++ v5.ownBlock.toList) wr css (hitsM m l)) ∧ Hid (l ++ runM m (lblV L) k i = runM m (lblV L) m.code.length 0))
  case atStart => exact ⟨0, [], [], rfl, by omega, by omega, by simp, (Frm.refl _ _).alloc _, OW.empty _ _ _ _ (Nat.le_refl _), RowI.nil _ _ _, rfl⟩
  case round =>
    obtain ⟨i, l, css, rfl, hi, hik, hci, hF, hO, HI, HR⟩ := hrel
    obtain ⟨ao, co, he⟩ := hO.shape
    rw [lst_len] at he
    subst he
    have F := hide hF
    have O := hide hO
    have hzz := hF.size
    obtain ⟨n, hn⟩ : ∃ n, gk = n + 1 := ⟨gk - 1, by omega⟩
    subst hn
    obtain ⟨ai, ci, hVi, _, hrow⟩ := H.out.pg.i
    have hil : (icl m.code).length = m.code.length := by simp [icl]
    obtain ⟨gi, oi, rfl, _, hgi, hcell⟩ := hrow i (by rw [hil]; exact hi)
    have p5 := hF.at (p := ⟨pb, 5, none⟩) hpb H.out.c5
    rw [hVi, hil] at p5
    have y0 : wr.cell? ⟨gi, oi + i * 4, none⟩ = some (.int .i64 (m.code[i].op : Nat)) := hF.at (p := ⟨gi, oi + i * 4 + 0, none⟩) hgi (hcell 0 _ (by simp [icl, icell]))
    have y1 : wr.cell? ⟨gi, oi + i * 4 + 1, none⟩ = some (.int .i64 (m.code[i].x : Nat)) := hF.at (p := ⟨gi, oi + i * 4 + 1, none⟩) hgi (hcell 1 _ (by simp [icl, icell]))
    have y2 : wr.cell? ⟨gi, oi + i * 4 + 2, none⟩ = some (.int .i64 (m.code[i].a : Nat)) := hF.at (p := ⟨gi, oi + i * 4 + 2, none⟩) hgi (hcell 2 _ (by simp [icl, icell]))
    have y3 : wr.cell? ⟨gi, oi + i * 4 + 3, none⟩ = some (.int .i64 (m.code[i].b : Nat)) := hF.at (p := ⟨gi, oi + i * 4 + 3, none⟩) hgi (hcell 3 _ (by simp [icl, icell]))
    have hcase := ins_cases OK.out (lblV L) hi n
    have hib2 := (OK.out.code.2.2 i hi).x
    have HTC : Hid ((lst css).length = css.length) := lst_len css
    have hd1 : decide ((i : Int) < (m.code.length : Int)) = true := decide_eq_true (by omega)
    have hd1' : decide (i < m.code.length) = true := decide_eq_true hi
    clear hrow hcell hil hVi hF hO
    generalize m.code[i] = c at *
    obtain ⟨op, x, a, b⟩ := c
    simp only at y0 y1 y2 y3 hcase hib2
    rcases hcase with ⟨rfl, hrun⟩ | ⟨rfl, hxr, hia, han, hrun⟩ | ⟨rfl, hia, han, hib, hbn, hxt, htok, hrun⟩
    · have HE : Hid (runM m (lblV L) m.code.length 0 = l) := by
        show _ = _; rw [← HR.out, hrun, List.append_nil]
      clear HR hrun
      go_wp2
      go_ret
      rw [HE.out]
      exact ⟨_, css, rfl, F.out.alloc _, O.out.frm (S := []) ((Frm.refl [] _).alloc _) (by simp), (HI.out.frm (S := []) ((Frm.refl [] _).alloc _) (by simp)).avoid (by simp)⟩
    · have HR2 : Hid ((l ++ [x]) ++ runM m (lblV L) n a = runM m (lblV L) m.code.length 0) := by
        show _ = _; rw [← HR.out, hrun]; simp
      obtain ⟨cssr, r1, r2⟩ := H.out.pg.r
      obtain ⟨ar, cr, hVr, hrr⟩ := row_at r1 r2
      obtain ⟨gr, orr, csr, rfl, hgr, _, hrel, hcell⟩ := hrr x hxr
      have HS : Hid (hitsM m (l ++ [x]) = hitsM m l ++ [m.routes[x]]) := hitsM_snoc m l x hxr
      have hbl := (OK.out.routes.2 m.routes[x] (List.getElem_mem hxr)).b1
      have hr17 := OK.out.routes.1
      generalize m.routes[x] = hx at *
      obtain ⟨vb, rfl, hvb⟩ := hrel
      obtain ⟨ab, cb, rfl, _⟩ := hvb.str
      have p4 := F.out.at (p := ⟨pb, 4, none⟩) hpb H.out.c4
      rw [hVr] at p4
      have q0 : wr.cell? ⟨gr, orr + x * 5, none⟩ = some (.string (bs hx.rc)) := F.out.at (p := ⟨gr, orr + x * 5 + 0, none⟩) hgr (hcell 0 _ rfl)
      have q1 : wr.cell? ⟨gr, orr + x * 5 + 1, none⟩ = some (.slice ab hx.bl.length cb) := F.out.at (p := ⟨gr, orr + x * 5 + 1, none⟩) hgr (hcell 1 _ rfl)
      have q2 : wr.cell? ⟨gr, orr + x * 5 + 2, none⟩ = some (.int .i64 (hx.wt : Nat)) := F.out.at (p := ⟨gr, orr + x * 5 + 2, none⟩) hgr (hcell 2 _ rfl)
      have q3 : wr.cell? ⟨gr, orr + x * 5 + 3, none⟩ = some (.int .i64 (hx.ev : Nat)) := F.out.at (p := ⟨gr, orr + x * 5 + 3, none⟩) hgr (hcell 3 _ rfl)
      have q4 : wr.cell? ⟨gr, orr + x * 5 + 4, none⟩ = some (.int .i64 (hx.rp : Nat)) := F.out.at (p := ⟨gr, orr + x * 5 + 4, none⟩) hgr (hcell 4 _ rfl)
      have FR : Hid (∀ W, Frm [] w W → Calls Try.prog 51 #[.agg #[.string (bs hx.rc), .slice ab hx.bl.length cb, .int .i64 (hx.wt : Nat), .int .i64 (hx.ev : Nat), .int .i64 (hx.rp : Nat)]] W fun e w' => ∃ g, e = .returned (.agg #[.string (bs hx.rc), .slice (some ⟨g, 0, none⟩) hx.bl.length hx.bl.length, .int .i64 (hx.wt : Nat), .int .i64 (hx.ev : Nat), .int .i64 (hx.rp : Nat)]) ∧ Frm [] W w' ∧ W.heap.size ≤ g ∧ g < w'.heap.size ∧ RW [] 1 w' (.slice (some ⟨g, 0, none⟩) hx.bl.length hx.bl.length) (sc hx.bl)) := fun W f =>
        (pfresh_any hx ab cb W ((hvb.frm f (by simp)).avoid (by simp)) hbl).mono (fun e w' h => h)
      obtain ⟨h1, h2, h3, h4, h5⟩ := hx
      simp only at q0 q1 q2 q3 q4 FR hbl
      have hd2 : decide ((x : Int) < (m.routes.length : Int)) = true := decide_eq_true (by omega)
      have hd2' : decide (x < m.routes.length) = true := decide_eq_true hxr
      have hx0 : 0 ≤ x := Nat.zero_le _
      have hpb2 : pb < wr.heap.size := by omega
      have hgr2 : gr < wr.heap.size := by omega
      have hd3 : decide ((0 : Int) ≤ (x : Int)) = true := decide_eq_true (by omega)
      clear HR hrun hcell hrr r1 r2 hVr hvb
      go_wp2_with fail
      go_quiet (fail)
      go_upto_region 10 with fail
      go_cut [9] (fun v9 wc => True ∧ ∃ (g bh : Nat), v9 = .pointer (some ⟨bh, 0, none⟩) ∧ bh < wc.heap.size ∧ wc.heap[bh]? = some (Obj.cells #[.string (bs h1), .slice (some ⟨g, 0, none⟩) h2.length h2.length, .int .i64 (h3 : Nat), .int .i64 (h4 : Nat), .int .i64 (h5 : Nat)] 75 (0, 0)) ∧ Frm [] w wc ∧ OW 75 5 w.heap.size wc (.slice ao css.length co) (lst css) ∧ RowI hitT ([] ++ (Value.ownBlock (.slice ao css.length co)).toList) wc css (hitsM m l) ∧ RW ([] ++ (Value.ownBlock (.slice ao css.length co)).toList) 1 wc (.slice (some ⟨g, 0, none⟩) h2.length h2.length) (sc h2))
      case first =>
        have FN1 : Hid (Frm [] w ((wr.alloc (Obj.cells #[.int .i64 1, .int .i64 (x : Nat), .int .i64 (a : Nat), .int .i64 (b : Nat)] 109)).drewN (nq + 1))) := (F.out.alloc _).drewN _
        have FN2 : Hid (Frm [] w (((wr.alloc (Obj.cells #[.int .i64 1, .int .i64 (x : Nat), .int .i64 (a : Nat), .int .i64 (b : Nat)] 109)).drewN (nq + 1)).alloc (Obj.cells #[.string { data := #[] }, .slice none 0 0, .int .i64 0, .int .i64 0, .int .i64 0] 75))) := ((F.out.alloc _).drewN _).alloc _
        go_region_with (first | (go_at_call 51; (with_reducible refine (FR.out _ FN1.out).mono ?_); rintro e w2 ⟨g, rfl, hF2, hg, hg2, hR⟩) | (go_at_call 51; (with_reducible refine (FR.out _ FN2.out).mono ?_); rintro e w2 ⟨g, rfl, hF2, hg, hg2, hR⟩; have B2 : w2.heap[wr.heap.size + 1]? = some (Obj.cells hz 75) := (hF2.block (wr.heap.size + 1) (by simp) (by simp)).trans (heap_bd _ _ _ _); have b0 : w2.cell? ⟨wr.heap.size + 1, 0, none⟩ = some (.string ByteArray.empty) := (by simp [World.cell?, B2]); have b1 : w2.cell? ⟨wr.heap.size + 1, 1, none⟩ = some (.slice none 0 0) := (by simp [World.cell?, B2]); have b2 : w2.cell? ⟨wr.heap.size + 1, 2, none⟩ = some (.int .i64 0) := (by simp [World.cell?, B2]); have b3 : w2.cell? ⟨wr.heap.size + 1, 3, none⟩ = some (.int .i64 0) := (by simp [World.cell?, B2]); have b4 : w2.cell? ⟨wr.heap.size + 1, 4, none⟩ = some (.int .i64 0) := (by simp [World.cell?, B2]); have bz : ∀ o, w2.frozen? ⟨wr.heap.size + 1, o, none⟩ = false := (fun o => by simp [World.frozen?, B2]); have B2H := hide B2; clear B2))
        all_goals
          have hob : ∀ r, Value.ownBlock (.slice ao css.length co) = some r → r < wr.heap.size := fun r hr => (O.out.lt hr).2
          have hg3 : wr.heap.size ≤ g := by simp at hg; omega
          have F2 := (F.out.alloc (Obj.cells #[.int .i64 1, .int .i64 (x : Nat), .int .i64 (a : Nat), .int .i64 (b : Nat)] 109)).drewN (nq + 1)
          have hR2 : RW ([] ++ (Value.ownBlock (.slice ao css.length co)).toList) 1 w2 (.slice (some ⟨g, 0, none⟩) h2.length h2.length) (sc h2) := hR.notin (fun hm => by simp at hm; have := hob g hm; omega)
          first
          | (have FA : Frm [] wr (w2.alloc (Obj.cells #[.string (bs h1), .slice (some ⟨g, 0, none⟩) h2.length h2.length, .int .i64 (h3 : Nat), .int .i64 (h4 : Nat), .int .i64 (h5 : Nat)] 75)) := ((((Frm.refl [] wr).alloc _).drewN _).trans hF2).alloc _
             go_wp2
             go_meet
             exact ⟨trivial, g, w2.heap.size, rfl, by simp, heap1 _ _, F.out.trans FA, O.out.frm FA (by simp), HI.out.frm FA (by simp), hR2.frm ((Frm.refl [] _).alloc _) (by simp)⟩)
          | (have FA : Frm [] wr w2 := ((((Frm.refl [] wr).alloc _).drewN _).alloc _).trans hF2
             have B3 := B2H.out
             have hne : Value.ownBlock (.slice ao css.length co) ≠ some (wr.heap.size + 1) := fun e => by have := hob _ e; omega
             have hgn : g ≠ wr.heap.size + 1 := by simp at hg; omega
             go_wp2
             go_meet
             refine ⟨trivial, g, wr.heap.size + 1, rfl, ?_, set5_row _ _ _ _ _ B3, ?_, ?_, ?_, ?_⟩
             · exact Nat.lt_of_lt_of_le (Array.getElem?_eq_some_iff.1 B3).1 (set5_frm _ _ _ _ _ _ _).size
             · exact (F.out.trans FA).over (set5_frm _ _ _ _ _ _ _) (by intro y hy; simp at hy; left; omega)
             · exact (O.out.frm FA (by simp)).far (set5_frm _ _ _ _ _ _ _) hne
             · exact ((((HI.out.avoid (B := (wr.heap.size + 1) :: ([] ++ (Value.ownBlock (.slice ao css.length co)).toList)) (by intro y hy; simp at hy ⊢; rcases hy with hy | hy; right; omega; left; exact hy)).frm FA (by simp)).frm (set5_frm _ _ _ _ _ _ _) (by simp)).avoid (by intro y hy; left; simp at hy ⊢; right; exact hy))
             · exact ((hR.notin (B := (wr.heap.size + 1) :: ([] ++ (Value.ownBlock (.slice ao css.length co)).toList)) (by intro hm; simp at hm; rcases hm with hm | hm; exact hgn hm; have := hob g hm; omega)).frm (set5_frm _ _ _ _ _ _ _) (by simp)).avoid (by intro y hy; left; simp at hy ⊢; right; exact hy))
      case rest =>
        obtain ⟨_, g, bh, rfl, hbh, hB, hFc, hOc, hIc, hRc⟩ := hcut
        have F9 := hide hFc
        have O9 := hide hOc
        have I9 := hide hIc
        have R9 := hide hRc
        have z0 : wc.cell? ⟨bh, 0, none⟩ = some (.string (bs h1)) := by simp [World.cell?, hB]
        have z1 : wc.cell? ⟨bh, 1, none⟩ = some (.slice (some ⟨g, 0, none⟩) h2.length h2.length) := by simp [World.cell?, hB]
        have z2 : wc.cell? ⟨bh, 2, none⟩ = some (.int .i64 (h3 : Nat)) := by simp [World.cell?, hB]
        have z3 : wc.cell? ⟨bh, 3, none⟩ = some (.int .i64 (h4 : Nat)) := by simp [World.cell?, hB]
        have z4 : wc.cell? ⟨bh, 4, none⟩ = some (.int .i64 (h5 : Nat)) := by simp [World.cell?, hB]
        have hzc := hFc.size
        have HCX : Hid (∀ j u, (hcell ⟨h1, h2, h3, h4, h5⟩ (.slice (some ⟨g, 0, none⟩) h2.length h2.length)).toList[j]? = some u → (wc.alloc (Obj.cells #[.string (bs h1), .slice (some ⟨g, 0, none⟩) h2.length h2.length, .int .i64 (h3 : Nat), .int .i64 (h4 : Nat), .int .i64 (h5 : Nat)] 75)).cell? ⟨wc.heap.size, j, none⟩ = some u) := by
          intro j u hu
          have := heap1 wc (Obj.cells #[.string (bs h1), .slice (some ⟨g, 0, none⟩) h2.length h2.length, .int .i64 (h3 : Nat), .int .i64 (h4 : Nat), .int .i64 (h5 : Nat)] 75)
          simp only [World.cell?, this]
          simpa [hcell] using hu
        clear hB hFc hOc hIc hRc FR p4 q0 q1 q2 q3 q4 p5 y0 y1 y2 y3 HI O F
        go_wp2_with (at_builtin; refine wp_appG _ rfl _ _ 34 75 _ 5 64 infoHit Try.underlying34 rfl (by omega) rfl w.heap.size (.slice ao css.length co) (lst css) wc.heap.size (hcell ⟨h1, h2, h3, h4, h5⟩ (.slice (some ⟨g, 0, none⟩) h2.length h2.length)).toList rfl (O9.out.frm (S := []) ((Frm.refl [] _).alloc _) (by simp)) rfl rfl HCX.out (by intro u hu; simp [hcell] at hu; rcases hu with rfl | rfl | rfl | rfl | rfl <;> rfl) (by rw [HTC.out]; omega) (by rw [HTC.out]; omega) (by simp; omega) ?_; intro gg cap2 w4 hown4 hgrow hat hlt4; rw [HTC.out] at hown4 ⊢)
        have F4 : Hid (Frm [] w w4) := (F9.out.alloc _).grown hgrow (fun r hr => .inr (O9.out.lt hr).1)
        have O4 := hide hown4
        have I4 : Hid (RowI hitT ([] ++ [gg]) w4 (css ++ [hcell ⟨h1, h2, h3, h4, h5⟩ (.slice (some ⟨g, 0, none⟩) h2.length h2.length)]) (hitsM m l ++ [⟨h1, h2, h3, h4, h5⟩])) :=
          ((I9.out.frm (S := []) ((Frm.refl [] _).alloc _) (by simp)).snoc ⟨g, rfl, R9.out.frm (S := []) ((Frm.refl [] _).alloc _) (by simp)⟩).app hgrow hat
        clear hgrow hown4 hat I9 R9 HCX z0 z1 z2 z3 z4
        go_roundg n
        case measure => omega
        case rel =>
          have O5 := O4.out
          rw [lst_snoc] at O5
          refine ⟨a, l ++ [x], css ++ [hcell ⟨h1, h2, h3, h4, h5⟩ (.slice (some ⟨g, 0, none⟩) h2.length h2.length)], rfl, han, by omega, by simp; omega, F4.out, O5, ?_, HR2⟩
          show RowI _ _ _ _ _
          rw [HS.out]; exact I4.out
    · have HD : Hid (∀ W, Frm [] w W → Calls Try.prog 52 #[.pointer (some ⟨pb, 0, none⟩), .int .i64 x, vl] W fun e w' => e = .returned (.bool (tstM m (lblV L (m.names.getD m.tests[x].n [])) m.tests[x])) ∧ Frm [] W w') := fun W f =>
        pholds_any W pb V m (H.out.frm f (by simp)) OK.out x hxt vl L (HL.out.frm f (by simp)) HVAL.out
      have HRUN := hide hrun
      have FN : Hid (Frm [] w (wr.alloc (Obj.cells #[.int .i64 2, .int .i64 (x : Nat), .int .i64 (a : Nat), .int .i64 (b : Nat)] 109))) := F.out.alloc _
      have ON := hide (O.out.frm (S := []) ((Frm.refl [] _).alloc (Obj.cells #[.int .i64 2, .int .i64 (x : Nat), .int .i64 (a : Nat), .int .i64 (b : Nat)] 109)) (by simp))
      have IN := hide (HI.out.frm (S := []) ((Frm.refl [] _).alloc (Obj.cells #[.int .i64 2, .int .i64 (x : Nat), .int .i64 (a : Nat), .int .i64 (b : Nat)] 109)) (by simp))
      clear hrun htok
      generalize hbt : tstM m (lblV L (m.names.getD m.tests[x].n [])) m.tests[x] = bt at *
      clear hbt
      have N1 := hide (HD.out _ FN.out)
      go_wp2_with fail
      refine (N1.out).mono ?_
      rintro e w2 ⟨rfl, hF2⟩
      have B2 : w2.heap[wr.heap.size]? = some (Obj.cells #[.int .i64 2, .int .i64 (x : Nat), .int .i64 (a : Nat), .int .i64 (b : Nat)] 109) := (hF2.block wr.heap.size (by simp) (by simp)).trans (heap1 _ _)
      have d3 : w2.cell? ⟨wr.heap.size, 3, none⟩ = some (.int .i64 (b : Nat)) := by simp [World.cell?, B2]
      have F2 := hide (FN.out.trans hF2)
      have O2 := hide (ON.out.frm hF2 (by simp))
      have I2 := hide (IN.out.frm hF2 (by simp))
      clear N1 hF2 B2 FN ON IN O HI HD
      cases bt
      · have HR2 : Hid (l ++ runM m (lblV L) n b = runM m (lblV L) m.code.length 0) := by
          show _ = _; rw [← HR.out, HRUN.out]; rfl
        clear HR HRUN
        go_wp2
        go_roundg n
        case measure => omega
        case rel => exact ⟨b, l, css, rfl, hbn, by omega, by omega, F2.out, O2.out, I2, HR2⟩
      · have HR2 : Hid (l ++ runM m (lblV L) n a = runM m (lblV L) m.code.length 0) := by
          show _ = _; rw [← HR.out, HRUN.out]; rfl
        clear HR HRUN
        go_wp2
        go_roundg n
        case measure => omega
        case rel => exact ⟨a, l, css, rfl, han, by omega, by omega, F2.out, O2.out, I2, HR2⟩
end Go.Proofs.Ythlemieldfbbfab
