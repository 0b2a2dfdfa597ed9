import Derived.Test.YthlemieldfbbfabY1
namespace Go.Proofs.Ythlemieldfbbfab
open Go.RowKit
set_option linter.unusedVariables false
set_option linter.unusedSimpArgs false
set_option linter.unnecessarySimpa false

set_option maxRecDepth 100000 in
set_option maxHeartbeats 4000000 in
theorem rcheck_any (A : List Nat) (w : World) (mb : Nat) (V : V6) (m : Mach) (h : RM A w mb V m) (t : TstM) (ht : TstOK m.names.length m.consts.length m.autos.length t) (vx : Value) (hx : RW A 1 w vx (ic [t.n, t.k, t.x]))
    (vl : Value) (L : List LBL) (hL : LR w vl L) (hok : ∀ a ∈ m.autos, AutOK a) (hv : (lblV L (m.names.getD t.n [])).length ≤ 1048576) :
    Calls Try.prog 33 #[.pointer (some ⟨mb, 0, none⟩), vx, vl] w fun e w' => e = .returned (.bool (tstM m (lblV L (m.names.getD t.n [])) t)) ∧ ∃ q, w' = w.drewN q := by
  obtain ⟨an, cn, hVn, hn⟩ := h.n.str
  obtain ⟨ac, cc, hVc, hc⟩ := h.c.str
  obtain ⟨css, ha1, ha2⟩ := h.a
  obtain ⟨aa, ca, hVa, ha⟩ := row_at ha1 ha2
  obtain ⟨ax, cx, rfl, hxx⟩ := hx.num
  obtain ⟨gx, ox, rfl, hgx, x0⟩ := hxx 0 (by simp)
  obtain ⟨g', o', e', _, x1⟩ := hxx 1 (by simp)
  simp only [Option.some.injEq, Addr.mk.injEq, and_true] at e'
  obtain ⟨rfl, rfl⟩ := e'
  obtain ⟨g', o', e', _, x2⟩ := hxx 2 (by simp)
  simp only [Option.some.injEq, Addr.mk.injEq, and_true] at e'
  obtain ⟨rfl, rfl⟩ := e'
  simp only [List.getElem_cons_zero, List.getElem_cons_succ, Nat.add_zero, List.length_cons, List.length_nil, Nat.zero_add] at x0 x1 x2 ⊢
  obtain ⟨gn, on, rfl, hgn, n0⟩ := hn t.n ht.n
  have hgd : m.names.getD t.n [] = m.names[t.n]'ht.n := by simp [List.getD, ht.n]
  rw [hgd] at hv ⊢
  have RV : Hid (∀ n, Calls Try.prog 54 #[vl, .string (bs (m.names[t.n]'ht.n))] (w.drewN n) fun e w' => e = .returned (.string (bs (lblV L (m.names[t.n]'ht.n)))) ∧ w' = w.drewN n) := fun n => (rvalue_any vl L _ (w.drewN n) (hL.frm ((Frm.refl [] w).drewN n) (by simp))).mono (fun e w' h => ⟨h.1, h.2.symm⟩)
  have m0 := h.row.c0
  have m1 := h.row.c1
  have m2 := h.row.c2
  rw [hVn] at m0
  rw [hVc] at m1
  rw [hVa] at m2
  have hnl := ht.n
  have hk2 := ht.k
  have hx' := ht.x
  have hl := bs_toList
  have HOK := hide hok
  have HC := hide hc
  have HA := hide ha
  generalize hnm : m.names[t.n]'ht.n = nm at *
  have hsz := bs_size (lblV L nm)
  generalize hvv : lblV L nm = v at *
  clear h hn hc ha ha1 ha2 hVn hVc hVa hxx hx hL hok ht hgd hnm hvv
  by_cases hk : t.k = 0
  · have hxl : t.x < m.consts.length := by rw [if_neg (by omega)] at hx'; exact hx'
    obtain ⟨gc, oc, rfl, hgc, k0⟩ := HC.out t.x hxl
    have HV : Hid (tstM m v t = (v == m.consts[t.x])) := by
      show _ = _; unfold tstM; rw [if_pos hk]; simp [List.getD, hxl]
    generalize m.consts[t.x] = cst at *
    rw [hk] at x1
    clear hx' HC HA
    go_enter Try.func33, Try.ntmps33
    go_wp2_with fail
    go_quiet ((go_at_call 54; exact Calls.quiet_of_same (RV.out _)))
    go_wp2_with fail
    go_quiet (fail)
    go_wp2
    go_ret
    rw [HV.out]
    exact ⟨rfl, _, drewN_two _ _ _⟩
  · have hk1 : t.k = 1 := by omega
    have hxl : t.x < m.autos.length := by rw [if_pos hk1] at hx'; exact hx'
    obtain ⟨ga, oa, cs, rfl, hga, _, hrel, hcs⟩ := HA.out t.x hxl
    have OK : Hid (AutOK m.autos[t.x]) := HOK.out _ (List.getElem_mem hxl)
    have HV : Hid (tstM m v t = (m.autos[t.x].acc.getD (autT m.autos[t.x] 0 v) 0 == 1)) := by
      show _ = _; unfold tstM; rw [if_neg hk]; simp [List.getD, hxl]
    generalize m.autos[t.x] = x at *
    obtain ⟨v1, v2, v3, rfl, r1, r2, r3⟩ := hrel
    obtain ⟨a1, c1, rfl, hr1⟩ := r1.num
    obtain ⟨a2, c2, rfl, hr2⟩ := r2.num
    obtain ⟨a3, c3, rfl, hr3⟩ := r3.num
    have q0 : w.cell? ⟨ga, oa + t.x * 4, none⟩ = some (.int .i64 (x.k : Nat)) := hcs 0 _ rfl
    have q1 : w.cell? ⟨ga, oa + t.x * 4 + 1, none⟩ = some (.slice a1 x.cl.length c1) := hcs 1 _ rfl
    have q2 : w.cell? ⟨ga, oa + t.x * 4 + 2, none⟩ = some (.slice a2 x.acc.length c2) := hcs 2 _ rfl
    have q3 : w.cell? ⟨ga, oa + t.x * 4 + 3, none⟩ = some (.slice a3 x.nx.length c3) := hcs 3 _ rfl
    have H1 := hide hr1
    have H2 := hide hr2
    have H3 := hide hr3
    rw [hk1] at x1
    have hkk := OK.out.k2
    have hac := OK.out.s2
    have hs1 := OK.out.s1
    have hcl : x.cl.length = 256 := OK.out.cl
    have HCL := hide hcl
    have hnx : x.nx.length ≤ 10240 := by rw [OK.out.nx]; exact Nat.le_trans (Nat.mul_le_mul OK.out.s2 OK.out.k2) (by decide)
    clear hx' HC HA hcs r1 r2 r3 hr1 hr2 hr3 HOK hcl
    go_enter Try.func33, Try.ntmps33
    go_wp2_with fail
    go_quiet ((go_at_call 54; exact Calls.quiet_of_same (RV.out _)))
    go_wp2_with fail
    go_quiet (fail)
    go_wp2_with fail
    go_loopg [9, 10] v.length (fun k v9 v10 wr => ∃ (i s q : Nat), i + k = v.length ∧ v10 = .int .i64 i ∧ v9 = .int .i64 s ∧ s < x.acc.length ∧ Hid (autT x s (v.drop i) = autT x 0 v) ∧ wr = w.drewN q)
    case atStart => exact ⟨0, 0, _, by omega, rfl, rfl, by omega, rfl, drewN_two _ _ _⟩
    case round =>
      obtain ⟨i, s, q, hik, rfl, rfl, hs, HT, hw⟩ := hrel
      subst hw
      by_cases hlt : i < v.length
      · have hbg : (bs v)[i]'(by rw [hsz]; omega) = v[i] := rfl
        obtain ⟨hr, hnext⟩ := autT_next OK.out hs v[i]
        have HT2 : Hid (autT x (x.nx.getD (s * x.k + x.cl.getD v[i].toNat 0) 0) (v.drop (i + 1)) = autT x 0 v) := by
          have h2 := HT.out
          rw [List.drop_eq_getElem_cons hlt, autT] at h2; exact h2
        have hb : v[i].toNat < 256 := v[i].toNat_lt
        have hbl : v[i].toNat < x.cl.length := by rw [HCL.out]; exact hb
        obtain ⟨g1, o1, rfl, hg1, hcc⟩ := H1.out v[i].toNat hbl
        have hge : x.cl.getD v[i].toNat 0 = x.cl[v[i].toNat]'hbl := by simp [List.getD, hbl]
        have hcs : x.cl[v[i].toNat]'hbl < 256 := by
          have := OK.out.cls (x.cl[v[i].toNat]'hbl) (List.getElem_mem _); omega
        rw [hge] at HT2 hr hnext
        clear HT hge
        generalize x.cl[v[i].toNat]'hbl = mm at *
        generalize v[i] = y at *
        have hsm : s * x.k ≤ 40 * 256 := Nat.mul_le_mul (by omega) hkk
        obtain ⟨p, hp⟩ : ∃ p, p = s * x.k := ⟨_, rfl⟩
        have hpz : (s : Int) * (x.k : Int) = (p : Int) := by rw [hp]; simp
        rw [← hp] at HT2 hsm hr hnext
        clear hp
        obtain ⟨gn', off, rfl, hgn', hcn⟩ := H3.out (p + mm) hr
        have hgd : x.nx.getD (p + mm) 0 = x.nx[p + mm] := by simp [List.getD, hr]
        rw [hgd] at HT2 hnext
        generalize x.nx[p + mm] = z at *
        clear hgd
        go_wp2_with fail
        go_quiet (fail)
        go_wp2_with fail
        go_roundg (gk - 1)
        case measure => omega
        case rel => exact ⟨i + 1, z, _, by omega, by go_num, rfl, hnext, HT2, rfl⟩
      · have HT2 : Hid (s = autT x 0 v) := by
          have h2 := HT.out
          rw [List.drop_eq_nil_of_le (by omega), autT] at h2; exact h2
        clear HT
        obtain ⟨g2, off, rfl, hg2, hca⟩ := H2.out s hs
        have HV2 : Hid (x.acc.getD (autT x 0 v) 0 = x.acc[s]) := by show _ = _; rw [← HT2.out]; simp [List.getD, hs]
        generalize x.acc[s] = z at *
        go_wp2
        go_ret
        rw [HV.out, HV2.out]
        refine ⟨ret_bool ?_, q, rfl⟩
        by_cases hz : z = 1
        · subst hz; rfl
        · rw [beq_eq_false_iff_ne.2 hz, beq_eq_false_iff_ne.2 (by omega)]
end Go.Proofs.Ythlemieldfbbfab
