import Derived.Test.YtmaoiefkjpgjfaaGreatJ27
import Derived.Test.YtmaoiefkjpgjfaaGreatJ29
set_option linter.unusedVariables false
set_option linter.unusedSimpArgs false
set_option linter.unnecessarySimpa false
namespace Go.Proofs.YtmaoiefkjpgjfaaGreat
set_option linter.unusedVariables false
set_option linter.unusedSimpArgs false

/-- The state i leads, by the k-th byte, where the form that is left is. -/
def RowOK (X : NF) (F : List Nat) (St : List (List Nat)) (nx : List Nat) (i : Nat) : Prop :=
  ∀ (u : List Nat), St[i]? = some u → ∀ (k c : Nat), F[k]? = some c → ∃ j v, nx[i * F.length + k]? = some j ∧ St[j]? = some v ∧ dW X v = dW X (u ++ [c])

theorem idW_at {X : NF} (hX : wf X) (St : List (List Nat)) (v : List Nat) : (idW X St v = St.length) ∨ ∃ u, St[idW X St v]? = some u ∧ dW X u = dW X v := by
  by_cases h : idW X St v < St.length
  · refine .inr ⟨St[idW X St v], List.getElem?_eq_getElem h, ?_⟩
    have := List.findIdx_getElem (xs := St) (p := fun u => name (dW X u) == name (dW X v)) (w := h)
    exact name_inj (dW_wf hX _) (dW_wf hX _) (beq_iff_eq.1 this)
  · have := idW_le X St v
    exact .inl (by omega)
theorem rowW_spec {X : NF} (hX : wf X) (w : List Nat) : ∀ (F : List Nat) (St : List (List Nat)) (nx : List Nat) (St' : List (List Nat)) (nx' : List Nat), rowW X w F St nx = (true, St', nx') →
    St <+: St' ∧ ∃ js, nx' = nx ++ js ∧ js.length = F.length ∧ ∀ (k c : Nat), F[k]? = some c → ∃ j v, js[k]? = some j ∧ St'[j]? = some v ∧ dW X v = dW X (w ++ [c])
  | [], St, nx, St', nx', h => by
    simp [rowW] at h
    obtain ⟨rfl, rfl⟩ := h
    exact ⟨List.prefix_refl _, [], by simp, rfl, fun k c hk => by simp at hk⟩
  | c :: F, St, nx, St', nx', h => by
    unfold rowW at h
    split at h
    · simp at h
    · rename_i hne
      obtain ⟨hp, js, h1, h2, h3⟩ := rowW_spec hX w F _ _ St' nx' h
      have hsp : St <+: (if idW X St (w ++ [c]) = St.length then St ++ [w ++ [c]] else St) := by
        split
        · exact List.prefix_append _ _
        · exact List.prefix_refl _
      have h0 : ∃ v, (if idW X St (w ++ [c]) = St.length then St ++ [w ++ [c]] else St)[idW X St (w ++ [c])]? = some v ∧ dW X v = dW X (w ++ [c]) := by
        rcases idW_at hX St (w ++ [c]) with e | ⟨u, e1, e2⟩
        · refine ⟨w ++ [c], ?_, rfl⟩
          rw [if_pos e, e]; simp
        · exact ⟨u, pre_get hsp e1, e2⟩
      refine ⟨hsp.trans hp, idW X St (w ++ [c]) :: js, by rw [h1]; simp, by simp [h2], ?_⟩
      intro k c' hk
      cases k with
      | zero =>
        simp at hk; subst hk
        obtain ⟨v, e1, e2⟩ := h0
        exact ⟨_, v, by simp, pre_get hp e1, e2⟩
      | succ k =>
        obtain ⟨j, v, e1, e2, e3⟩ := h3 k c' (by simpa using hk)
        exact ⟨j, v, by simpa using e1, e2, e3⟩
theorem RowOK.mono {X : NF} {F : List Nat} {St St' : List (List Nat)} {nx nx' : List Nat} {i : Nat} (h : RowOK X F St nx i) (hi : i < St.length) (hs : St <+: St') (hn : nx <+: nx') : RowOK X F St' nx' i := by
  intro u hu k c hk
  have hu' : St[i]? = some u := by
    obtain ⟨t, rfl⟩ := hs
    rw [List.getElem?_append_left hi] at hu; exact hu
  obtain ⟨j, v, e1, e2, e3⟩ := h u hu' k c hk
  exact ⟨j, v, pre_get hn e1, pre_get hs e2, e3⟩
theorem autW_spec {X : NF} (hX : wf X) (F : List Nat) : ∀ (k i : Nat) (St : List (List Nat)) (nx : List Nat) (St' : List (List Nat)) (nx' : List Nat), autW X F k i St nx = (true, St', nx') → i + k = 41 → WB St → nx.length = i * F.length → i ≤ St.length → (∀ i', i' < i → RowOK X F St nx i') →
    St <+: St' ∧ nx'.length = St'.length * F.length ∧ ∀ i', i' < St'.length → RowOK X F St' nx' i'
  | 0, i, St, nx, St', nx', h, hik, hwb, hnx, hil, hr => by
    have := hwb.1; omega
  | k + 1, i, St, nx, St', nx', h, hik, hwb, hnx, hil, hr => by
    unfold autW at h
    split at h
    · rename_i hn
      simp at h
      obtain ⟨rfl, rfl⟩ := h
      have hge : St.length ≤ i := by rw [List.getElem?_eq_none_iff] at hn; exact hn
      have : i = St.length := by omega
      subst this
      exact ⟨List.prefix_refl _, hnx, hr⟩
    · rename_i w hw
      have hlt := (List.getElem?_eq_some_iff.1 hw).1
      split at h
      · simp at h
      · rename_i St1 nx1 hrw
        obtain ⟨hp, js, h1, h2, h3⟩ := rowW_spec hX w F St nx St1 nx1 hrw
        have hwb1 := rowW_wb X w i F St nx hwb hw
        rw [hrw] at hwb1
        have hpl := hp.length_le
        have hpn : nx <+: nx1 := by rw [h1]; exact List.prefix_append _ _
        obtain ⟨g1, g2, g3⟩ := autW_spec hX F k (i + 1) St1 nx1 St' nx' h (by omega) hwb1 (by rw [h1, List.length_append, h2, hnx, Nat.add_mul]; omega) (by omega) (fun i' hi' => by
          by_cases hlt' : i' < i
          · exact (hr i' hlt').mono (by omega) hp hpn
          · have : i' = i := by omega
            subst this
            intro u hu kk c hk
            have : u = w := by rw [pre_get hp hw] at hu; simpa using hu.symm
            subst this
            obtain ⟨j, v, e1, e2, e3⟩ := h3 kk c hk
            refine ⟨j, v, ?_, e2, e3⟩
            rw [h1, List.getElem?_append_right (by omega), show i' * F.length + kk - nx.length = kk by omega]
            exact e1)
        exact ⟨hp.trans g1, g2, g3⟩
theorem autR_spec {X : NF} (hX : wf X) {F : List Nat} {St : List (List Nat)} {nx : List Nat} (h : autR X F = (true, St, nx)) : St[0]? = some [] ∧ nx.length = St.length * F.length ∧ St.length ≤ 40 ∧ ∀ i, i < St.length → RowOK X F St nx i := by
  have hw := autR_wb X F
  rw [h] at hw
  obtain ⟨h1, h2, h3⟩ := autW_spec hX F 41 0 [[]] [] St nx h rfl WB.one (by simp) (by simp) (fun i hi => by omega)
  exact ⟨pre_get h1 rfl, h2, hw.1, h3⟩

/-- The automaton's run: F the classes' first bytes, cl the class of a byte. -/
def runS (n : Nat) (cl : Nat → Nat) (nx : List Nat) (s : Nat) : List Nat → Nat
  | [] => s
  | b :: v => runS n cl nx (nx.getD (s * n + cl b) 0) v
theorem run_ok {X : NF} (hX : wf X) {F : List Nat} {St : List (List Nat)} {nx : List Nat} (h : autR X F = (true, St, nx)) {cl : Nat → Nat} (hcl : ∀ b, b < 256 → ∃ f, F[cl b]? = some f ∧ Alk f b X) :
    ∀ (v u w : List Nat) (s : Nat), (∀ b ∈ v, b < 256) → St[s]? = some u → dW X u = dW X w → ∃ u', St[runS F.length cl nx s v]? = some u' ∧ dW X u' = dW X (w ++ v)
  | [], u, w, s, _, hs, e => ⟨u, hs, by simpa using e⟩
  | b :: v, u, w, s, hb, hs, e => by
    obtain ⟨f, hf, ha⟩ := hcl b (hb b (by simp))
    obtain ⟨j, u2, e1, e2, e3⟩ := (autR_spec hX h).2.2.2 s (List.getElem?_eq_some_iff.1 hs).1 u hs (cl b) f hf
    have hst : nx.getD (s * F.length + cl b) 0 = j := by simp [List.getD, e1]
    have e4 : dW X u2 = dW X (w ++ [b]) := by
      rw [e3, dW_snoc, e, dW_snoc]
      exact left_alk _ (alk_dW ha w)
    obtain ⟨u', g1, g2⟩ := run_ok hX h hcl v u2 (w ++ [b]) j (fun x hx => hb x (by simp [hx])) e2 e4
    refine ⟨u', ?_, by simpa using g2⟩
    rw [runS, hst]; exact g1
/-- THE AUTOMATON TAKES WHAT THE EXPRESSION TAKES. -/
theorem run_takes {e : RX} (ho : okx e) {F : List Nat} {St : List (List Nat)} {nx : List Nat} (h : autR (nrm e) F = (true, St, nx)) {cl : Nat → Nat} (hcl : ∀ b, b < 256 → ∃ f, F[cl b]? = some f ∧ ∀ s ∈ setsOf e, s.testBit f = s.testBit b) (v : List Nat) (hv : ∀ b ∈ v, b < 256) :
    ∃ t : Bool, (St.map fun u => nul (dW (nrm e) u))[runS F.length cl nx 0 v]? = some t ∧ (t = true ↔ Rg e v) := by
  have hX := (nrm_BdE ho).1.1
  obtain ⟨u', g1, g2⟩ := run_ok hX h (fun b hb => by
    obtain ⟨f, h1, h2⟩ := hcl b hb
    exact ⟨f, h1, alk_nrm h2⟩) v [] [] 0 hv (autR_spec hX h).1 rfl
  refine ⟨nul (dW (nrm e) u'), by simp [g1], ?_⟩
  rw [g2, List.nil_append, dW_lg hX, nrm_lg ho]
end Go.Proofs.YtmaoiefkjpgjfaaGreat
namespace Go.Proofs.YtmaoiefkjpgjfaaGreat
open Go.RowKit

theorem fstK_pre (S : List Nat) : ∀ (k n : Nat), fstK S n <+: fstK S (n + k)
  | 0, n => List.prefix_refl _
  | k + 1, n => by
    refine (fstK_pre S k n).trans ?_
    show fstK S (n + k) <+: fstK S (n + k + 1)
    simp only [fstK]
    split
    · exact List.prefix_append _ _
    · exact List.prefix_refl _
/-- A byte's class has a first byte that no set tells from it. -/
theorem cls_first (S : List Nat) (b : Nat) (hb : b < 256) : ∃ f, (fstK S 256)[clsOf S (fstK S b) b]? = some f ∧ ∀ s ∈ S, s.testBit f = s.testBit b := by
  have hp : fstK S (b + 1) <+: fstK S 256 := by have := fstK_pre S (255 - b) (b + 1); rw [show b + 1 + (255 - b) = 256 by omega] at this; exact this
  by_cases h : clsOf S (fstK S b) b < (fstK S b).length
  · have hf := List.findIdx_getElem (xs := fstK S b) (p := fun f => !(apart S f b)) (w := h)
    have hp2 : fstK S b <+: fstK S 256 := by have := fstK_pre S (256 - b) b; rw [show b + (256 - b) = 256 by omega] at this; exact this
    refine ⟨_, pre_get hp2 (List.getElem?_eq_getElem h), ?_⟩
    intro s hs
    have h2 : apart S (fstK S b)[clsOf S (fstK S b) b] b = false := by
      have h3 : (!(apart S (fstK S b)[clsOf S (fstK S b) b] b)) = true := hf
      cases hq : apart S (fstK S b)[clsOf S (fstK S b) b] b
      · rfl
      · rw [hq] at h3; simp at h3
    unfold apart at h2
    rw [List.any_eq_false] at h2
    have := h2 s hs
    simpa using this
  · have he : clsOf S (fstK S b) b = (fstK S b).length := Nat.le_antisymm (clsOf_le _ _ _) (by omega)
    refine ⟨b, pre_get hp ?_, fun s _ => rfl⟩
    simp only [fstK]
    rw [he]
    simp
/-- The class of a byte. -/
def clB (e : RX) (b : Nat) : Nat := (clsE e).getD b 0
theorem clB_eq (e : RX) (b : Nat) (hb : b < 256) : clB e b = clsOf (setsOf e) (fstK (setsOf e) b) b := by
  unfold clB clsE clsL
  simp [List.getD, hb]
/-- THE PROGRAM'S AUTOMATON TAKES WHAT THE EXPRESSION TAKES. -/
theorem autE_takes {e : RX} (ho : okx e) (h : (autE e).1 = true) (v : List Nat) (hv : ∀ b ∈ v, b < 256) :
    ∃ t : Bool, ((autE e).2.1.map fun u => nul (dW (nrm e) u))[runS (fstE e).length (clB e) (autE e).2.2 0 v]? = some t ∧ (t = true ↔ Rg e v) := by
  obtain ⟨St, nx, hE⟩ : ∃ St nx, autE e = (true, St, nx) := ⟨(autE e).2.1, (autE e).2.2, by rw [← h]⟩
  have hE2 : autR (nrm e) (fstE e) = (true, St, nx) := hE
  rw [hE]
  refine run_takes ho hE2 (fun b hb => ?_) v hv
  rw [clB_eq e b hb]
  exact cls_first (setsOf e) b hb
end Go.Proofs.YtmaoiefkjpgjfaaGreat
namespace Go.Proofs.YtmaoiefkjpgjfaaGreat
open Go.RowKit

/-- An automaton, wherever it lies. -/
structure AU (w : World) (g o : Nat) (n : Nat) (cl : List Nat) (va vn : Value) (acc : List Bool) (nx : List Nat) : Prop where
  c0 : w.cell? ⟨g, o, none⟩ = some (.int .i64 n)
  cc : ∀ c, c < 256 → w.cell? ⟨g, o + 1 + c, none⟩ = some (.int .u8 (cl.getD c 0))
  ca : w.cell? ⟨g, o + 257, none⟩ = some va
  cn : w.cell? ⟨g, o + 258, none⟩ = some vn
  ra : ∃ a cap, va = .slice a acc.length cap ∧ ∀ (j : Nat) (h : j < acc.length), ∃ g off, a = some ⟨g, off, none⟩ ∧ g < w.heap.size ∧ w.cell? ⟨g, off + j, none⟩ = some (.bool acc[j])
  rn : NL .i64 w vn nx
  n1 : n ≤ 256
  xs : ∀ x ∈ nx, x ≤ 1000000
  cs : ∀ c, c < 256 → cl.getD c 0 ≤ 255
  ln : nx.length ≤ 1000000 ∧ acc.length ≤ 1000000
/-- What it answers. -/
def tkP (n : Nat) (cl : List Nat) (acc : List Bool) (nx : List Nat) (s : Nat) : List UInt8 → Bool
  | [] => acc.getD s false
  | b :: v => if s * n + cl.getD b.toNat 0 < nx.length then tkP n cl acc nx (nx.getD (s * n + cl.getD b.toNat 0) 0) v else false

theorem AU.drewN {w : World} {g o n : Nat} {cl : List Nat} {va vn : Value} {acc : List Bool} {nx : List Nat} (k : Nat) (h : AU w g o n cl va vn acc nx) : AU (w.drewN k) g o n cl va vn acc nx := ⟨h.c0, h.cc, h.ca, h.cn, h.ra, h.rn, h.n1, h.xs, h.cs, h.ln⟩

set_option maxRecDepth 100000 in
set_option maxHeartbeats 4000000 in
theorem takes_any (w : World) (g o n : Nat) (cl : List Nat) (va vn : Value) (acc : List Bool) (nx : List Nat) (v : List UInt8) (h : AU w g o n cl va vn acc nx) (hv : v.length ≤ 1048576) :
    Calls Tryz.prog 39 #[.pointer (some ⟨g, o, none⟩), .string (bs v)] w fun e w' => e = .returned (.bool (tkP n cl acc nx 0 v)) ∧ Frm [] w w' := by
  obtain ⟨aa, ca, rfl, hra⟩ := h.ra
  obtain ⟨an, cn, rfl, hrn⟩ := h.rn
  have HU := hide h
  have HRA := hide hra
  have HRN := hide hrn
  have hsz := bs_size v
  have hn1 := h.n1
  have hln := h.ln
  clear h hra hrn
  go_enter Tryz.func39, Tryz.ntmps39
  go_wp2_with fail
  go_loopg [5, 6] v.length (fun k v5 v6 wr => ∃ (i s q : Nat), i + k = v.length ∧ v6 = .int .i64 i ∧ v5 = .int .i64 s ∧ s ≤ 1000000 ∧ Hid (tkP n cl acc nx s (v.drop i) = tkP n cl acc nx 0 v) ∧ wr = w.drewN q)
  case atStart => exact ⟨0, 0, 0, by omega, rfl, rfl, by omega, rfl, rfl⟩
  case round =>
    obtain ⟨i, s, q, hik, rfl, rfl, hs, HT, hw⟩ := hrel
    subst hw
    have U := hide (HU.out.drewN q)
    by_cases hlt : i < v.length
    · have c0 := HU.out.c0
      have cN := HU.out.cn
      have HD : Hid (v.drop i = v[i] :: v.drop (i + 1)) := List.drop_eq_getElem_cons hlt
      have hbg : (bs v)[i]'(by rw [hsz]; omega) = v[i] := rfl
      have HT2 : Hid ((if s * n + cl.getD v[i].toNat 0 < nx.length then tkP n cl acc nx (nx.getD (s * n + cl.getD v[i].toNat 0) 0) (v.drop (i + 1)) else false) = tkP n cl acc nx 0 v) := by
        have h2 := HT.out
        rw [HD.out, tkP] at h2; exact h2
      have hb : v[i].toNat < 256 := v[i].toNat_lt
      have cc := HU.out.cc _ hb
      have hcs := U.out.cs _ hb
      clear HT HD
      generalize v[i] = x at *
      generalize cl.getD x.toNat 0 = m at *
      have hsm : s * n ≤ 1000000 * 256 := Nat.mul_le_mul hs hn1
      obtain ⟨p, hp⟩ : ∃ p, p = s * n := ⟨_, rfl⟩
      have hpz : (s : Int) * (n : Int) = (p : Int) := by rw [hp]; simp
      rw [← hp] at HT2 hsm
      clear hp
      by_cases hr : p + m < nx.length
      · have HT3 : Hid (tkP n cl acc nx (nx.getD (p + m) 0) (v.drop (i + 1)) = tkP n cl acc nx 0 v) := by have h2 := HT2.out; rw [if_pos hr] at h2; exact h2
        obtain ⟨gn, off, rfl, hgn, hcn⟩ := HRN.out (p + m) hr
        have hx2 : nx[p + m] ≤ 1000000 := U.out.xs _ (List.getElem_mem hr)
        have hgd : nx.getD (p + m) 0 = nx[p + m] := by simp [List.getD, hr]
        rw [hgd] at HT3
        generalize nx[p + m] = y at *
        have hcn2 : ∀ k, (w.drewN k).cell? ⟨gn, off + (p + m), none⟩ = some (.int .i64 (y : Nat)) := fun k => hcn
        have cN2 : ∀ k, (w.drewN k).cell? ⟨g, o + 258, none⟩ = some (.slice (some ⟨gn, off, none⟩) nx.length cn) := fun k => cN
        clear HT2 hgd
        go_wp2_with fail
        go_quiet (fail)
        go_wp2_with fail
        go_roundg (gk - 1)
        case measure => omega
        case rel => exact ⟨i + 1, y, _, by omega, by go_num, rfl, hx2, HT3, rfl⟩
      · have HT3 : Hid (tkP n cl acc nx 0 v = false) := by have h2 := HT2.out; rw [if_neg hr] at h2; exact h2.symm
        clear HT2
        go_wp2_with fail
        go_quiet (fail)
        go_wp2
        go_ret
        rw [HT3.out]
        exact ⟨rfl, (Frm.refl _ _).drewN _⟩
    · have HT2 : Hid (acc.getD s false = tkP n cl acc nx 0 v) := by
        have h2 := HT.out
        rw [List.drop_eq_nil_of_le (by omega), tkP] at h2; exact h2
      clear HT
      have cA := HU.out.ca
      by_cases hsl : s < acc.length
      · obtain ⟨ga, off, rfl, hga, hca⟩ := HRA.out s hsl
        have hgd : acc.getD s false = acc[s] := by simp [List.getD, hsl]
        rw [hgd] at HT2
        generalize acc[s] = y at *
        clear hgd
        go_wp2
        go_ret
        rw [← HT2.out]
        exact ⟨rfl, (Frm.refl _ _).drewN _⟩
      · have hgd : acc.getD s false = false := by simp [List.getD, hsl]
        rw [hgd] at HT2
        clear hgd
        go_wp2
        go_ret
        rw [← HT2.out]
        exact ⟨rfl, (Frm.refl _ _).drewN _⟩
end Go.Proofs.YtmaoiefkjpgjfaaGreat
namespace Go.Proofs.YtmaoiefkjpgjfaaGreat
open Go.RowKit

theorem tkP_run {X : NF} (hX : wf X) {F : List Nat} {St : List (List Nat)} {nx : List Nat} (h : autR X F = (true, St, nx)) {cl : List Nat} (acc : List Bool) (hcl : ∀ b, b < 256 → ∃ f, F[cl.getD b 0]? = some f) :
    ∀ (v : List UInt8) (s : Nat), s < St.length → tkP F.length cl acc nx s v = acc.getD (runS F.length (fun b => cl.getD b 0) nx s (v.map (·.toNat))) false
  | [], s, _ => rfl
  | b :: v, s, hs => by
    obtain ⟨f, hf⟩ := hcl b.toNat b.toNat_lt
    obtain ⟨j, u2, e1, e2, _⟩ := (autR_spec hX h).2.2.2 s hs St[s] (List.getElem?_eq_getElem hs) _ f hf
    have hlt := (List.getElem?_eq_some_iff.1 e1).1
    have hg : nx.getD (s * F.length + cl.getD b.toNat 0) 0 = j := by rw [List.getD_eq_getElem?_getD, e1]; rfl
    rw [tkP, if_pos hlt, hg]
    simp only [List.map_cons, runS, hg]
    exact tkP_run hX h acc hcl v j (List.getElem?_eq_some_iff.1 e2).1
/-- A compiled automaton takes what its expression takes. -/
theorem tk_takes {e : RX} (ho : okx e) (h : (autE e).1 = true) (v : List UInt8) :
    tkP (fstE e).length (clsE e) ((autE e).2.1.map fun u => nul (dW (nrm e) u)) (autE e).2.2 0 v = true ↔ Rg e (v.map (·.toNat)) := by
  obtain ⟨St, nx, hE⟩ : ∃ St nx, autE e = (true, St, nx) := ⟨(autE e).2.1, (autE e).2.2, by rw [← h]⟩
  have hE2 : autR (nrm e) (fstE e) = (true, St, nx) := hE
  have hX := (nrm_BdE ho).1.1
  obtain ⟨t, h1, h2⟩ := autE_takes ho h (v.map (·.toNat)) (fun b hb => by
    obtain ⟨x, _, rfl⟩ := List.mem_map.1 hb; exact x.toNat_lt)
  rw [hE] at h1 ⊢
  have h0 := (autR_spec hX hE2).1
  rw [tkP_run hX hE2 _ (fun b hb => by
    obtain ⟨f, hf, _⟩ := cls_first (setsOf e) b hb
    refine ⟨f, ?_⟩
    have := clB_eq e b hb
    unfold clB at this
    rw [this]; exact hf) v 0 (List.getElem?_eq_some_iff.1 h0).1]
  have e3 : runS (fstE e).length (fun b => (clsE e).getD b 0) nx 0 (v.map (·.toNat)) = runS (fstE e).length (clB e) nx 0 (v.map (·.toNat)) := rfl
  rw [e3, ← h2]
  simp only [List.getD_eq_getElem?_getD, h1, Option.getD_some]
/-- What a compiled automaton is like. -/
theorem autE_shape {e : RX} (ho : okx e) (h : (autE e).1 = true) : (autE e).2.1.length ≤ 40 ∧ (autE e).2.2.length = (autE e).2.1.length * (fstE e).length ∧ (fstE e).length ≤ 256 ∧ (∀ x ∈ (autE e).2.2, x < (autE e).2.1.length) ∧ (clsE e).length = 256 ∧ (∀ b, b < 256 → (clsE e).getD b 0 < (fstE e).length) ∧ 1 ≤ (autE e).2.1.length := by
  obtain ⟨St, nx, hE⟩ : ∃ St nx, autE e = (true, St, nx) := ⟨(autE e).2.1, (autE e).2.2, by rw [← h]⟩
  have hE2 : autR (nrm e) (fstE e) = (true, St, nx) := hE
  have hX := (nrm_BdE ho).1.1
  obtain ⟨s1, s2, s3, s4⟩ := autR_spec hX hE2
  have hF : (fstE e).length ≤ 256 := (fstK_le (setsOf e) 256).1
  rw [hE]
  refine ⟨s3, s2, hF, ?_, clsL_len _ _, ?_, (List.getElem?_eq_some_iff.1 s1).1⟩
  · intro x hx
    obtain ⟨p, hp⟩ := List.getElem?_of_mem hx
    have hpl := (List.getElem?_eq_some_iff.1 hp).1
    have hpos : 0 < (fstE e).length := by
      rcases Nat.eq_zero_or_pos (fstE e).length with z | z
      · simp only at hpl; rw [s2, z] at hpl; simp at hpl
      · exact z
    have hi : p / (fstE e).length < St.length := by
      rw [Nat.div_lt_iff_lt_mul hpos, ← s2]; exact hpl
    have hk : p % (fstE e).length < (fstE e).length := Nat.mod_lt _ hpos
    obtain ⟨j, v, e1, e2, _⟩ := s4 (p / (fstE e).length) hi _ (List.getElem?_eq_getElem hi) (p % (fstE e).length) _ (List.getElem?_eq_getElem hk)
    have : p / (fstE e).length * (fstE e).length + p % (fstE e).length = p := by rw [Nat.mul_comm]; exact Nat.div_add_mod _ _
    rw [this] at e1
    have hxj : x = j := by
      have h3 : nx[p]? = some x := hp
      rw [e1] at h3; simpa using h3.symm
    rw [hxj]
    exact (List.getElem?_eq_some_iff.1 e2).1
  · intro b hb
    obtain ⟨f, hf, _⟩ := cls_first (setsOf e) b hb
    have := clB_eq e b hb
    unfold clB at this
    rw [this]
    exact (List.getElem?_eq_some_iff.1 hf).1
end Go.Proofs.YtmaoiefkjpgjfaaGreat
