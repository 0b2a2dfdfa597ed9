import Derived.Test.YthlemieldfbbfabU1
import Derived.Test.YthlemieldfbbfabL2
namespace Go.Proofs.Ythlemieldfbbfab
open Go.RowKit
set_option linter.unusedVariables false
set_option linter.unusedSimpArgs false
set_option linter.unnecessarySimpa false

theorem RW.num {A : List Nat} {w : World} {v : Value} {L : List Nat} (h : RW A 1 w v (ic L)) : ∃ a cap, v = .slice a L.length cap ∧ ∀ (j : Nat) (hj : j < L.length), ∃ g off, a = some ⟨g, off, none⟩ ∧ g < w.heap.size ∧ w.cell? ⟨g, off + j, none⟩ = some (.int .i64 (L[j] : Nat)) := by
  obtain ⟨a, cap, rfl, h1, h2⟩ := h
  refine ⟨a, cap, by rw [ic_len], fun j hj => ?_⟩
  obtain ⟨g, off, e, _, h4, h5⟩ := h2 j (by rw [ic_len]; exact hj)
  refine ⟨g, off, e, h4, ?_⟩
  have := h5 0 (.int .i64 (L[j] : Nat)) (by simp [ic])
  rwa [Nat.mul_one, Nat.add_zero] at this
theorem RW.bool {A : List Nat} {w : World} {v : Value} {L : List Nat} (h : RW A 1 w v (bc L)) : ∃ a cap, v = .slice a L.length cap ∧ ∀ (j : Nat) (hj : j < L.length), ∃ g off, a = some ⟨g, off, none⟩ ∧ g < w.heap.size ∧ w.cell? ⟨g, off + j, none⟩ = some (.bool (L[j] == 1)) := by
  obtain ⟨a, cap, rfl, h1, h2⟩ := h
  refine ⟨a, cap, by rw [bc_len], fun j hj => ?_⟩
  obtain ⟨g, off, e, _, h4, h5⟩ := h2 j (by rw [bc_len]; exact hj)
  refine ⟨g, off, e, h4, ?_⟩
  have := h5 0 (.bool (L[j] == 1)) (by simp [bc])
  rwa [Nat.mul_one, Nat.add_zero] at this
/-- One thing of a row of things that have rows. -/
theorem row_at {α : Type} {I : Inn α} {A : List Nat} {k : Nat} {w : World} {v : Value} {css : List (Array Value)} {xs : List α} (h : RW A k w v (lst css)) (hi : RowI I A w css xs) :
    ∃ a cap, v = .slice a xs.length cap ∧ ∀ (j : Nat) (hj : j < xs.length), ∃ g off cs, a = some ⟨g, off, none⟩ ∧ g < w.heap.size ∧ g ∉ A ∧ I.rel A w cs xs[j] ∧ ∀ c x, cs[c]? = some x → w.cell? ⟨g, off + j * k + c, none⟩ = some x := by
  obtain ⟨a, cap, rfl, h1, h2⟩ := h
  refine ⟨a, cap, by rw [lst_len, hi.1], fun j hj => ?_⟩
  have hjc : j < css.length := by rw [hi.1]; exact hj
  obtain ⟨g, off, e, h3, h4, h5⟩ := h2 j (by rw [lst_len]; exact hjc)
  refine ⟨g, off, css[j], e, h4, h3, hi.2 j _ _ (List.getElem?_eq_getElem hjc) (List.getElem?_eq_getElem hj), fun c x hx => h5 c x ?_⟩
  simp [lst, hx]
theorem autT_next {x : AutM} (ok : AutOK x) {s : Nat} (hs : s < x.acc.length) (c : UInt8) : s * x.k + x.cl.getD c.toNat 0 < x.nx.length ∧ x.nx.getD (s * x.k + x.cl.getD c.toNat 0) 0 < x.acc.length := by
  have hc : c.toNat < x.cl.length := by rw [ok.cl]; exact c.toNat_lt
  have h1 : x.cl.getD c.toNat 0 < x.k := ok.cls _ (by simp [List.getD, hc])
  have h2 : s * x.k + x.k ≤ x.acc.length * x.k := by
    have := Nat.mul_le_mul_right x.k (Nat.succ_le_of_lt hs)
    rwa [Nat.succ_mul] at this
  have h3 : s * x.k + x.cl.getD c.toNat 0 < x.nx.length := by rw [ok.nx]; omega
  refine ⟨h3, ok.nxs _ ?_⟩
  have e : x.nx.getD (s * x.k + x.cl.getD c.toNat 0) 0 = x.nx[s * x.k + x.cl.getD c.toNat 0] := by rw [List.getD_eq_getElem?_getD, List.getElem?_eq_getElem h3]; rfl
  rw [e]; exact List.getElem_mem _

set_option maxRecDepth 100000 in
set_option maxHeartbeats 4000000 in
theorem takesM_any (A : List Nat) (w : World) (g o : Nat) (x : AutM) (va vn : Value) (v : List UInt8) (h : AUm w g o x va vn) (ra : RW A 1 w va (bc x.acc)) (rn : RW A 1 w vn (ic x.nx)) (ok : AutOK x) (hv : v.length ≤ 1048576) :
    Calls Try.prog 70 #[.pointer (some ⟨g, o, none⟩), .string (bs v)] w fun e w' => e = .returned (.bool (x.acc.getD (autT x 0 v) 0 == 1)) ∧ ∃ q, w' = w.drewN q := by
  obtain ⟨aa, ca, rfl, hra⟩ := ra.bool
  obtain ⟨an, cn, rfl, hrn⟩ := rn.num
  have HU := hide h
  have HRA := hide hra
  have HRN := hide hrn
  have OK := hide ok
  have hsz := bs_size v
  have hk := ok.k2
  have hac := ok.s2
  have hnx : x.nx.length ≤ 10240 := by rw [ok.nx]; exact Nat.le_trans (Nat.mul_le_mul ok.s2 ok.k2) (by decide)
  have hs1 := ok.s1
  clear h hra hrn ra rn ok
  go_enter Try.func70, Try.ntmps70
  go_wp2_with fail
  go_loopg [5, 6] v.length (fun k v5 v6 wr => ∃ (i s q : Nat), i + k = v.length ∧ v6 = .int .i64 i ∧ v5 = .int .i64 s ∧ s < x.acc.length ∧ Hid (autT x s (v.drop i) = autT x 0 v) ∧ wr = w.drewN q)
  case atStart => exact ⟨0, 0, 0, by omega, rfl, rfl, by omega, rfl, rfl⟩
  case round =>
    obtain ⟨i, s, q, hik, rfl, rfl, hs, HT, hw⟩ := hrel
    subst hw
    by_cases hlt : i < v.length
    · have c0 := HU.out.c0
      have cN := HU.out.cn
      have hbg : (bs v)[i]'(by rw [hsz]; omega) = v[i] := rfl
      obtain ⟨hr, hnext⟩ := autT_next OK.out hs v[i]
      have HT2 : Hid (autT x (x.nx.getD (s * x.k + x.cl.getD v[i].toNat 0) 0) (v.drop (i + 1)) = autT x 0 v) := by
        have h2 := HT.out
        rw [List.drop_eq_getElem_cons hlt, autT] at h2; exact h2
      have hb : v[i].toNat < 256 := v[i].toNat_lt
      have cc := HU.out.cc _ hb
      have hcs : x.cl.getD v[i].toNat 0 < 256 := by
        have hc : v[i].toNat < x.cl.length := by rw [OK.out.cl]; exact hb
        have := OK.out.cls (x.cl.getD v[i].toNat 0) (by simp [List.getD, hc]); omega
      clear HT
      generalize v[i] = y at *
      generalize x.cl.getD y.toNat 0 = m at *
      have hsm : s * x.k ≤ 40 * 256 := Nat.mul_le_mul (by omega) hk
      obtain ⟨p, hp⟩ : ∃ p, p = s * x.k := ⟨_, rfl⟩
      have hpz : (s : Int) * (x.k : Int) = (p : Int) := by rw [hp]; simp
      rw [← hp] at HT2 hsm hr hnext
      clear hp
      obtain ⟨gn, off, rfl, hgn, hcn⟩ := HRN.out (p + m) hr
      have hgd : x.nx.getD (p + m) 0 = x.nx[p + m] := by simp [List.getD, hr]
      rw [hgd] at HT2 hnext
      generalize x.nx[p + m] = z at *
      have hcn2 : ∀ k, (w.drewN k).cell? ⟨gn, off + (p + m), none⟩ = some (.int .i64 (z : Nat)) := fun k => hcn
      have cN2 : ∀ k, (w.drewN k).cell? ⟨g, o + 258, none⟩ = some (.slice (some ⟨gn, off, none⟩) x.nx.length cn) := fun k => cN
      clear hgd
      go_wp2_with fail
      go_quiet (fail)
      go_wp2_with fail
      go_roundg (gk - 1)
      case measure => omega
      case rel => exact ⟨i + 1, z, _, by omega, by go_num, rfl, hnext, HT2, rfl⟩
    · have HT2 : Hid (s = autT x 0 v) := by
        have h2 := HT.out
        rw [List.drop_eq_nil_of_le (by omega), autT] at h2; exact h2
      clear HT
      have cA := HU.out.ca
      obtain ⟨ga, off, rfl, hga, hca⟩ := HRA.out s hs
      have HV : Hid (x.acc.getD (autT x 0 v) 0 = x.acc[s]) := by show _ = _; rw [← HT2.out]; simp [List.getD, hs]
      generalize x.acc[s] = z at *
      go_wp2
      go_ret
      rw [HV.out]
      exact ⟨rfl, q, rfl⟩
end Go.Proofs.Ythlemieldfbbfab
