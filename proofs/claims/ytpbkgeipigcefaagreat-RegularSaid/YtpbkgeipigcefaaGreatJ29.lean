import Derived.Test.YtpbkgeipigcefaaGreatJ26
import Derived.Test.YtpbkgeipigcefaaGreatJ28
import Derived.Test.YtpbkgeipigcefaaGreatJ1
set_option linter.unusedVariables false
set_option linter.unusedSimpArgs false
set_option linter.unnecessarySimpa false
namespace Go.Proofs.YtpbkgeipigcefaaGreat
set_option linter.unusedVariables false
set_option linter.unusedSimpArgs false

/-- The state i leads, by the k-th byte, where the form that is left is. -/
def RowOK (X : NF) (F : List Nat) (St : List (List Nat)) (nx : List Nat) (i : Nat) : Prop :=
  ∀ (u : List Nat), St[i]? = some u → ∀ (k c : Nat), F[k]? = some c → ∃ j v, nx[i * F.length + k]? = some j ∧ St[j]? = some v ∧ dW X v = dW X (u ++ [c])

theorem idW_at {X : NF} (hX : wf X) (St : List (List Nat)) (v : List Nat) : (idW X St v = St.length) ∨ ∃ u, St[idW X St v]? = some u ∧ dW X u = dW X v := by
  by_cases h : idW X St v < St.length
  · refine .inr ⟨St[idW X St v], List.getElem?_eq_getElem h, ?_⟩
    have := List.findIdx_getElem (xs := St) (p := fun u => name (dW X u) == name (dW X v)) (w := h)
    exact name_inj (dW_wf hX _) (dW_wf hX _) (beq_iff_eq.1 this)
  · have := idW_le X St v
    exact .inl (by omega)
theorem rowW_spec {X : NF} (hX : wf X) (w : List Nat) : ∀ (F : List Nat) (St : List (List Nat)) (nx : List Nat) (St' : List (List Nat)) (nx' : List Nat), rowW X w F St nx = (true, St', nx') →
    St <+: St' ∧ ∃ js, nx' = nx ++ js ∧ js.length = F.length ∧ ∀ (k c : Nat), F[k]? = some c → ∃ j v, js[k]? = some j ∧ St'[j]? = some v ∧ dW X v = dW X (w ++ [c])
  | [], St, nx, St', nx', h => by
    simp [rowW] at h
    obtain ⟨rfl, rfl⟩ := h
    exact ⟨List.prefix_refl _, [], by simp, rfl, fun k c hk => by simp at hk⟩
  | c :: F, St, nx, St', nx', h => by
    unfold rowW at h
    split at h
    · simp at h
    · rename_i hne
      obtain ⟨hp, js, h1, h2, h3⟩ := rowW_spec hX w F _ _ St' nx' h
      have hsp : St <+: (if idW X St (w ++ [c]) = St.length then St ++ [w ++ [c]] else St) := by
        split
        · exact List.prefix_append _ _
        · exact List.prefix_refl _
      have h0 : ∃ v, (if idW X St (w ++ [c]) = St.length then St ++ [w ++ [c]] else St)[idW X St (w ++ [c])]? = some v ∧ dW X v = dW X (w ++ [c]) := by
        rcases idW_at hX St (w ++ [c]) with e | ⟨u, e1, e2⟩
        · refine ⟨w ++ [c], ?_, rfl⟩
          rw [if_pos e, e]; simp
        · exact ⟨u, pre_get hsp e1, e2⟩
      refine ⟨hsp.trans hp, idW X St (w ++ [c]) :: js, by rw [h1]; simp, by simp [h2], ?_⟩
      intro k c' hk
      cases k with
      | zero =>
        simp at hk; subst hk
        obtain ⟨v, e1, e2⟩ := h0
        exact ⟨_, v, by simp, pre_get hp e1, e2⟩
      | succ k =>
        obtain ⟨j, v, e1, e2, e3⟩ := h3 k c' (by simpa using hk)
        exact ⟨j, v, by simpa using e1, e2, e3⟩
theorem RowOK.mono {X : NF} {F : List Nat} {St St' : List (List Nat)} {nx nx' : List Nat} {i : Nat} (h : RowOK X F St nx i) (hi : i < St.length) (hs : St <+: St') (hn : nx <+: nx') : RowOK X F St' nx' i := by
  intro u hu k c hk
  have hu' : St[i]? = some u := by
    obtain ⟨t, rfl⟩ := hs
    rw [List.getElem?_append_left hi] at hu; exact hu
  obtain ⟨j, v, e1, e2, e3⟩ := h u hu' k c hk
  exact ⟨j, v, pre_get hn e1, pre_get hs e2, e3⟩
theorem autW_spec {X : NF} (hX : wf X) (F : List Nat) : ∀ (k i : Nat) (St : List (List Nat)) (nx : List Nat) (St' : List (List Nat)) (nx' : List Nat), autW X F k i St nx = (true, St', nx') → i + k = 41 → WB St → nx.length = i * F.length → i ≤ St.length → (∀ i', i' < i → RowOK X F St nx i') →
    St <+: St' ∧ nx'.length = St'.length * F.length ∧ ∀ i', i' < St'.length → RowOK X F St' nx' i'
  | 0, i, St, nx, St', nx', h, hik, hwb, hnx, hil, hr => by
    have := hwb.1; omega
  | k + 1, i, St, nx, St', nx', h, hik, hwb, hnx, hil, hr => by
    unfold autW at h
    split at h
    · rename_i hn
      simp at h
      obtain ⟨rfl, rfl⟩ := h
      have hge : St.length ≤ i := by rw [List.getElem?_eq_none_iff] at hn; exact hn
      have : i = St.length := by omega
      subst this
      exact ⟨List.prefix_refl _, hnx, hr⟩
    · rename_i w hw
      have hlt := (List.getElem?_eq_some_iff.1 hw).1
      split at h
      · simp at h
      · rename_i St1 nx1 hrw
        obtain ⟨hp, js, h1, h2, h3⟩ := rowW_spec hX w F St nx St1 nx1 hrw
        have hwb1 := rowW_wb X w i F St nx hwb hw
        rw [hrw] at hwb1
        have hpl := hp.length_le
        have hpn : nx <+: nx1 := by rw [h1]; exact List.prefix_append _ _
        obtain ⟨g1, g2, g3⟩ := autW_spec hX F k (i + 1) St1 nx1 St' nx' h (by omega) hwb1 (by rw [h1, List.length_append, h2, hnx, Nat.add_mul]; omega) (by omega) (fun i' hi' => by
          by_cases hlt' : i' < i
          · exact (hr i' hlt').mono (by omega) hp hpn
          · have : i' = i := by omega
            subst this
            intro u hu kk c hk
            have : u = w := by rw [pre_get hp hw] at hu; simpa using hu.symm
            subst this
            obtain ⟨j, v, e1, e2, e3⟩ := h3 kk c hk
            refine ⟨j, v, ?_, e2, e3⟩
            rw [h1, List.getElem?_append_right (by omega), show i' * F.length + kk - nx.length = kk by omega]
            exact e1)
        exact ⟨hp.trans g1, g2, g3⟩
theorem autR_spec {X : NF} (hX : wf X) {F : List Nat} {St : List (List Nat)} {nx : List Nat} (h : autR X F = (true, St, nx)) : St[0]? = some [] ∧ nx.length = St.length * F.length ∧ St.length ≤ 40 ∧ ∀ i, i < St.length → RowOK X F St nx i := by
  have hw := autR_wb X F
  rw [h] at hw
  obtain ⟨h1, h2, h3⟩ := autW_spec hX F 41 0 [[]] [] St nx h rfl WB.one (by simp) (by simp) (fun i hi => by omega)
  exact ⟨pre_get h1 rfl, h2, hw.1, h3⟩

def runS (n : Nat) (cl : Nat → Nat) (nx : List Nat) (s : Nat) : List Nat → Nat
  | [] => s
  | b :: v => runS n cl nx (nx.getD (s * n + cl b) 0) v
theorem run_ok {X : NF} (hX : wf X) {F : List Nat} {St : List (List Nat)} {nx : List Nat} (h : autR X F = (true, St, nx)) {cl : Nat → Nat} (hcl : ∀ b, b < 256 → ∃ f, F[cl b]? = some f ∧ Alk f b X) :
    ∀ (v u w : List Nat) (s : Nat), (∀ b ∈ v, b < 256) → St[s]? = some u → dW X u = dW X w → ∃ u', St[runS F.length cl nx s v]? = some u' ∧ dW X u' = dW X (w ++ v)
  | [], u, w, s, _, hs, e => ⟨u, hs, by simpa using e⟩
  | b :: v, u, w, s, hb, hs, e => by
    obtain ⟨f, hf, ha⟩ := hcl b (hb b (by simp))
    obtain ⟨j, u2, e1, e2, e3⟩ := (autR_spec hX h).2.2.2 s (List.getElem?_eq_some_iff.1 hs).1 u hs (cl b) f hf
    have hst : nx.getD (s * F.length + cl b) 0 = j := by simp [List.getD, e1]
    have e4 : dW X u2 = dW X (w ++ [b]) := by
      rw [e3, dW_snoc, e, dW_snoc]
      exact left_alk _ (alk_dW ha w)
    obtain ⟨u', g1, g2⟩ := run_ok hX h hcl v u2 (w ++ [b]) j (fun x hx => hb x (by simp [hx])) e2 e4
    refine ⟨u', ?_, by simpa using g2⟩
    rw [runS, hst]; exact g1
theorem run_takes {e : RX} (ho : okx e) {F : List Nat} {St : List (List Nat)} {nx : List Nat} (h : autR (nrm e) F = (true, St, nx)) {cl : Nat → Nat} (hcl : ∀ b, b < 256 → ∃ f, F[cl b]? = some f ∧ ∀ s ∈ setsOf e, s.testBit f = s.testBit b) (v : List Nat) (hv : ∀ b ∈ v, b < 256) :
    ∃ t : Bool, (St.map fun u => nul (dW (nrm e) u))[runS F.length cl nx 0 v]? = some t ∧ (t = true ↔ Rg e v) := by
  have hX := (nrm_BdE ho).1.1
  obtain ⟨u', g1, g2⟩ := run_ok hX h (fun b hb => by
    obtain ⟨f, h1, h2⟩ := hcl b hb
    exact ⟨f, h1, alk_nrm h2⟩) v [] [] 0 hv (autR_spec hX h).1 rfl
  refine ⟨nul (dW (nrm e) u'), by simp [g1], ?_⟩
  rw [g2, List.nil_append, dW_lg hX, nrm_lg ho]
end Go.Proofs.YtpbkgeipigcefaaGreat

namespace Go.Proofs.YtpbkgeipigcefaaGreat
open Go.RowKit

theorem fstK_pre (S : List Nat) : ∀ (k n : Nat), fstK S n <+: fstK S (n + k)
  | 0, n => List.prefix_refl _
  | k + 1, n => by
    refine (fstK_pre S k n).trans ?_
    show fstK S (n + k) <+: fstK S (n + k + 1)
    simp only [fstK]
    split
    · exact List.prefix_append _ _
    · exact List.prefix_refl _
theorem cls_first (S : List Nat) (b : Nat) (hb : b < 256) : ∃ f, (fstK S 256)[clsOf S (fstK S b) b]? = some f ∧ ∀ s ∈ S, s.testBit f = s.testBit b := by
  have hp : fstK S (b + 1) <+: fstK S 256 := by have := fstK_pre S (255 - b) (b + 1); rw [show b + 1 + (255 - b) = 256 by omega] at this; exact this
  by_cases h : clsOf S (fstK S b) b < (fstK S b).length
  · have hf := List.findIdx_getElem (xs := fstK S b) (p := fun f => !(apart S f b)) (w := h)
    have hp2 : fstK S b <+: fstK S 256 := by have := fstK_pre S (256 - b) b; rw [show b + (256 - b) = 256 by omega] at this; exact this
    refine ⟨_, pre_get hp2 (List.getElem?_eq_getElem h), ?_⟩
    intro s hs
    have h2 : apart S (fstK S b)[clsOf S (fstK S b) b] b = false := by
      have h3 : (!(apart S (fstK S b)[clsOf S (fstK S b) b] b)) = true := hf
      cases hq : apart S (fstK S b)[clsOf S (fstK S b) b] b
      · rfl
      · rw [hq] at h3; simp at h3
    unfold apart at h2
    rw [List.any_eq_false] at h2
    have := h2 s hs
    simpa using this
  · have he : clsOf S (fstK S b) b = (fstK S b).length := Nat.le_antisymm (clsOf_le _ _ _) (by omega)
    refine ⟨b, pre_get hp ?_, fun s _ => rfl⟩
    simp only [fstK]
    rw [he]
    simp
def clB (e : RX) (b : Nat) : Nat := (clsE e).getD b 0
theorem clB_eq (e : RX) (b : Nat) (hb : b < 256) : clB e b = clsOf (setsOf e) (fstK (setsOf e) b) b := by
  unfold clB clsE clsL
  simp [List.getD, hb]
theorem autE_takes {e : RX} (ho : okx e) (h : (autE e).1 = true) (v : List Nat) (hv : ∀ b ∈ v, b < 256) :
    ∃ t : Bool, ((autE e).2.1.map fun u => nul (dW (nrm e) u))[runS (fstE e).length (clB e) (autE e).2.2 0 v]? = some t ∧ (t = true ↔ Rg e v) := by
  obtain ⟨St, nx, hE⟩ : ∃ St nx, autE e = (true, St, nx) := ⟨(autE e).2.1, (autE e).2.2, by rw [← h]⟩
  have hE2 : autR (nrm e) (fstE e) = (true, St, nx) := hE
  rw [hE]
  refine run_takes ho hE2 (fun b hb => ?_) v hv
  rw [clB_eq e b hb]
  exact cls_first (setsOf e) b hb
end Go.Proofs.YtpbkgeipigcefaaGreat

namespace Go.Proofs.YtpbkgeipigcefaaGreat
open Go.RowKit

structure AU (w : World) (g o : Nat) (n : Nat) (cl : List Nat) (va vn : Value) (acc : List Bool) (nx : List Nat) : Prop where
  c0 : w.cell? ⟨g, o, none⟩ = some (.int .i64 n)
  cc : ∀ c, c < 256 → w.cell? ⟨g, o + 1 + c, none⟩ = some (.int .u8 (cl.getD c 0))
  ca : w.cell? ⟨g, o + 257, none⟩ = some va
  cn : w.cell? ⟨g, o + 258, none⟩ = some vn
  ra : ∃ a cap, va = .slice a acc.length cap ∧ ∀ (j : Nat) (h : j < acc.length), ∃ g off, a = some ⟨g, off, none⟩ ∧ g < w.heap.size ∧ w.cell? ⟨g, off + j, none⟩ = some (.bool acc[j])
  rn : NL .i64 w vn nx
  n1 : n ≤ 256
  xs : ∀ x ∈ nx, x ≤ 1000000
  cs : ∀ c, c < 256 → cl.getD c 0 ≤ 255
  ln : nx.length ≤ 1000000 ∧ acc.length ≤ 1000000
def tkP (n : Nat) (cl : List Nat) (acc : List Bool) (nx : List Nat) (s : Nat) : List UInt8 → Bool
  | [] => acc.getD s false
  | b :: v => if s * n + cl.getD b.toNat 0 < nx.length then tkP n cl acc nx (nx.getD (s * n + cl.getD b.toNat 0) 0) v else false

theorem AU.drewN {w : World} {g o n : Nat} {cl : List Nat} {va vn : Value} {acc : List Bool} {nx : List Nat} (k : Nat) (h : AU w g o n cl va vn acc nx) : AU (w.drewN k) g o n cl va vn acc nx := ⟨h.c0, h.cc, h.ca, h.cn, h.ra, h.rn, h.n1, h.xs, h.cs, h.ln⟩

end Go.Proofs.YtpbkgeipigcefaaGreat

namespace Go.Proofs.YtpbkgeipigcefaaGreat
open Go.RowKit

theorem tkP_run {X : NF} (hX : wf X) {F : List Nat} {St : List (List Nat)} {nx : List Nat} (h : autR X F = (true, St, nx)) {cl : List Nat} (acc : List Bool) (hcl : ∀ b, b < 256 → ∃ f, F[cl.getD b 0]? = some f) :
    ∀ (v : List UInt8) (s : Nat), s < St.length → tkP F.length cl acc nx s v = acc.getD (runS F.length (fun b => cl.getD b 0) nx s (v.map (·.toNat))) false
  | [], s, _ => rfl
  | b :: v, s, hs => by
    obtain ⟨f, hf⟩ := hcl b.toNat b.toNat_lt
    obtain ⟨j, u2, e1, e2, _⟩ := (autR_spec hX h).2.2.2 s hs St[s] (List.getElem?_eq_getElem hs) _ f hf
    have hlt := (List.getElem?_eq_some_iff.1 e1).1
    have hg : nx.getD (s * F.length + cl.getD b.toNat 0) 0 = j := by rw [List.getD_eq_getElem?_getD, e1]; rfl
    rw [tkP, if_pos hlt, hg]
    simp only [List.map_cons, runS, hg]
    exact tkP_run hX h acc hcl v j (List.getElem?_eq_some_iff.1 e2).1
theorem tk_takes {e : RX} (ho : okx e) (h : (autE e).1 = true) (v : List UInt8) :
    tkP (fstE e).length (clsE e) ((autE e).2.1.map fun u => nul (dW (nrm e) u)) (autE e).2.2 0 v = true ↔ Rg e (v.map (·.toNat)) := by
  obtain ⟨St, nx, hE⟩ : ∃ St nx, autE e = (true, St, nx) := ⟨(autE e).2.1, (autE e).2.2, by rw [← h]⟩
  have hE2 : autR (nrm e) (fstE e) = (true, St, nx) := hE
  have hX := (nrm_BdE ho).1.1
  obtain ⟨t, h1, h2⟩ := autE_takes ho h (v.map (·.toNat)) (fun b hb => by
    obtain ⟨x, _, rfl⟩ := List.mem_map.1 hb; exact x.toNat_lt)
  rw [hE] at h1 ⊢
  have h0 := (autR_spec hX hE2).1
  rw [tkP_run hX hE2 _ (fun b hb => by
    obtain ⟨f, hf, _⟩ := cls_first (setsOf e) b hb
    refine ⟨f, ?_⟩
    have := clB_eq e b hb
    unfold clB at this
    rw [this]; exact hf) v 0 (List.getElem?_eq_some_iff.1 h0).1]
  have e3 : runS (fstE e).length (fun b => (clsE e).getD b 0) nx 0 (v.map (·.toNat)) = runS (fstE e).length (clB e) nx 0 (v.map (·.toNat)) := rfl
  rw [e3, ← h2]
  simp only [List.getD_eq_getElem?_getD, h1, Option.getD_some]
theorem autE_shape {e : RX} (ho : okx e) (h : (autE e).1 = true) : (autE e).2.1.length ≤ 40 ∧ (autE e).2.2.length = (autE e).2.1.length * (fstE e).length ∧ (fstE e).length ≤ 256 ∧ (∀ x ∈ (autE e).2.2, x < (autE e).2.1.length) ∧ (clsE e).length = 256 ∧ (∀ b, b < 256 → (clsE e).getD b 0 < (fstE e).length) ∧ 1 ≤ (autE e).2.1.length := by
  obtain ⟨St, nx, hE⟩ : ∃ St nx, autE e = (true, St, nx) := ⟨(autE e).2.1, (autE e).2.2, by rw [← h]⟩
  have hE2 : autR (nrm e) (fstE e) = (true, St, nx) := hE
  have hX := (nrm_BdE ho).1.1
  obtain ⟨s1, s2, s3, s4⟩ := autR_spec hX hE2
  have hF : (fstE e).length ≤ 256 := (fstK_le (setsOf e) 256).1
  rw [hE]
  refine ⟨s3, s2, hF, ?_, clsL_len _ _, ?_, (List.getElem?_eq_some_iff.1 s1).1⟩
  · intro x hx
    obtain ⟨p, hp⟩ := List.getElem?_of_mem hx
    have hpl := (List.getElem?_eq_some_iff.1 hp).1
    have hpos : 0 < (fstE e).length := by
      rcases Nat.eq_zero_or_pos (fstE e).length with z | z
      · simp only at hpl; rw [s2, z] at hpl; simp at hpl
      · exact z
    have hi : p / (fstE e).length < St.length := by
      rw [Nat.div_lt_iff_lt_mul hpos, ← s2]; exact hpl
    have hk : p % (fstE e).length < (fstE e).length := Nat.mod_lt _ hpos
    obtain ⟨j, v, e1, e2, _⟩ := s4 (p / (fstE e).length) hi _ (List.getElem?_eq_getElem hi) (p % (fstE e).length) _ (List.getElem?_eq_getElem hk)
    have : p / (fstE e).length * (fstE e).length + p % (fstE e).length = p := by rw [Nat.mul_comm]; exact Nat.div_add_mod _ _
    rw [this] at e1
    have hxj : x = j := by
      have h3 : nx[p]? = some x := hp
      rw [e1] at h3; simpa using h3.symm
    rw [hxj]
    exact (List.getElem?_eq_some_iff.1 e2).1
  · intro b hb
    obtain ⟨f, hf, _⟩ := cls_first (setsOf e) b hb
    have := clB_eq e b hb
    unfold clB at this
    rw [this]
    exact (List.getElem?_eq_some_iff.1 hf).1
end Go.Proofs.YtpbkgeipigcefaaGreat

namespace Go.Proofs.YtpbkgeipigcefaaGreat
open Go.RowKit

def nb : Nat → Nat → List UInt8
  | 0, _ => []
  | n + 1, v => nb n (v / 256) ++ [UInt8.ofNat (v % 256)]
structure AutM where
  k : Nat
  cl : List Nat
  acc : List Nat
  nx : List Nat
structure TstM where
  n : Nat
  k : Nat
  x : Nat
structure HitM where
  rc : List UInt8
  bl : List (List UInt8)
  wt : Nat
  ev : Nat
  rp : Nat
structure InM where
  op : Nat
  x : Nat
  a : Nat
  b : Nat
def stands (nr nt n i : Nat) (c : InM) : Bool :=
  match c.op with
  | 0 => c.x == 0 && c.a == 0 && c.b == 0
  | 1 => decide (c.x < nr) && (decide (i < c.a) && decide (c.a < n)) && c.b == 0
  | 2 => decide (c.x < nt) && (decide (i < c.a) && decide (c.a < n)) && (decide (i < c.b) && decide (c.b < n))
  | _ => false
structure Mach where
  names : List (List UInt8)
  consts : List (List UInt8)
  autos : List AutM
  tests : List TstM
  routes : List HitM
  code : List InM
def okName (n : List UInt8) : Prop := n.length < 9 ∧ isNameL n = true
structure AutOK (a : AutM) : Prop where
  s1 : 1 ≤ a.acc.length
  s2 : a.acc.length ≤ 40
  k1 : 1 ≤ a.k
  k2 : a.k ≤ 256
  cl : a.cl.length = 256
  cls : ∀ c ∈ a.cl, c < a.k
  acc : ∀ c ∈ a.acc, c < 2
  nx : a.nx.length = a.acc.length * a.k
  nxs : ∀ c ∈ a.nx, c < a.acc.length
structure TstOK (nn nc na : Nat) (t : TstM) : Prop where
  n : t.n < nn
  k : t.k < 2
  x : t.x < if t.k = 1 then na else nc
structure HitOK (h : HitM) : Prop where
  rc : okName h.rc
  b1 : h.bl.length < 5
  b2 : ∀ n ∈ h.bl, okName n
  wt : h.wt < 100000
  ev : h.ev < 100000
  rp : h.rp < 100000
structure InOK (nr nt n i : Nat) (c : InM) : Prop where
  s : stands nr nt n i c = true
  op : c.op < 3
  x : c.x < 256
  a : c.a < 65536
  b : c.b < 65536
structure MOK (m : Mach) : Prop where
  names : m.names.length < 256 ∧ ∀ n ∈ m.names, okName n
  consts : m.consts.length < 256 ∧ ∀ n ∈ m.consts, n.length < 41
  autos : m.autos.length < 256 ∧ ∀ a ∈ m.autos, AutOK a
  tests : m.tests.length < 256 ∧ ∀ t ∈ m.tests, TstOK m.names.length m.consts.length m.autos.length t
  routes : m.routes.length < 17 ∧ ∀ h ∈ m.routes, HitOK h
  code : 1 ≤ m.code.length ∧ m.code.length < 65536 ∧ ∀ j (h : j < m.code.length), InOK m.routes.length m.tests.length m.code.length j m.code[j]
def autT (a : AutM) (s : Nat) : List UInt8 → Nat
  | [] => s
  | b :: v => autT a (a.nx.getD (s * a.k + a.cl.getD b.toNat 0) 0) v
def tstM (m : Mach) (v : List UInt8) (t : TstM) : Bool :=
  if t.k = 0 then v == m.consts.getD t.x [] else (m.autos.getD t.x ⟨0, [], [], []⟩).acc.getD (autT (m.autos.getD t.x ⟨0, [], [], []⟩) 0 v) 0 == 1
def runM (m : Mach) (V : List UInt8 → List UInt8) : Nat → Nat → List Nat
  | 0, _ => []
  | n + 1, k => match m.code[k]? with
    | some c => match c.op with
      | 0 => []
      | 1 => c.x :: runM m V n c.a
      | _ => match m.tests[c.x]? with
        | some t => runM m V n (if tstM m (V (m.names.getD t.n [])) t then c.a else c.b)
        | none => []
    | none => []

end Go.Proofs.YtpbkgeipigcefaaGreat

namespace Go.Proofs.YtpbkgeipigcefaaGreat
open Go.RowKit

def RW (A : List Nat) (k : Nat) (w : World) (v : Value) (vs : List (List Value)) : Prop :=
  ∃ a cap, v = .slice a vs.length cap ∧ vs.length ≤ cap ∧ ∀ (j : Nat) (h : j < vs.length), ∃ g off, a = some ⟨g, off, none⟩ ∧ g ∉ A ∧ g < w.heap.size ∧ ∀ c x, vs[j][c]? = some x → w.cell? ⟨g, off + j * k + c, none⟩ = some x
theorem RW.frm {A S : List Nat} {k : Nat} {w w' : World} {v : Value} {vs : List (List Value)} (h : RW A k w v vs) (f : Frm S w w') (hS : ∀ g ∈ S, g ∈ A) : RW A k w' v vs := by
  obtain ⟨a, cap, rfl, h1, h2⟩ := h
  refine ⟨a, cap, rfl, h1, fun j hj => ?_⟩
  obtain ⟨g, off, rfl, h3, h4, h5⟩ := h2 j hj
  exact ⟨g, off, rfl, h3, Nat.lt_of_lt_of_le h4 f.size, fun c x hx => (f.cell (p := ⟨g, off + j * k + c, none⟩) h4 (fun hm => h3 (hS g hm))).trans (h5 c x hx)⟩
theorem RW.grown {A : List Nat} {k : Nat} {w w' : World} {v : Value} {vs : List (List Value)} {row : Option Nat} (h : RW A k w v vs) (hg : w.grownBy w' row) (hr : ∀ r, row = some r → r ∈ A) : RW A k w' v vs :=
  h.frm (S := A) ((Frm.refl A w).grown hg (fun r e => .inl (hr r e))) (fun _ h => h)
theorem RW.avoid {A B : List Nat} {k : Nat} {w : World} {v : Value} {vs : List (List Value)} (h : RW A k w v vs) (hB : ∀ g ∈ B, g ∈ A ∨ w.heap.size ≤ g) : RW B k w v vs := by
  obtain ⟨a, cap, rfl, h1, h2⟩ := h
  refine ⟨a, cap, rfl, h1, fun j hj => ?_⟩
  obtain ⟨g, off, rfl, h3, h4, h5⟩ := h2 j hj
  refine ⟨g, off, rfl, fun hm => ?_, h4, h5⟩
  rcases hB g hm with h | h
  · exact h3 h
  · omega
theorem RW.nil (A : List Nat) (k : Nat) (w : World) : RW A k w (.slice none 0 0) [] := ⟨none, 0, rfl, Nat.le_refl _, fun j hj => absurd hj (by simp)⟩

def OW (e : TypeId) (k base : Nat) (w : World) (v : Value) (vs : List (List Value)) : Prop := w.ownsRow base e k v vs.length vs.flatten ∧ ∀ x ∈ vs, x.length = k
theorem OW.nil (e : TypeId) (k base : Nat) (w : World) : OW e k base w (.slice none 0 0) [] := ⟨World.ownsRow_nil w base e k, by simp⟩
theorem OW.frm {e : TypeId} {k base : Nat} {S : List Nat} {w w' : World} {v : Value} {vs : List (List Value)} (h : OW e k base w v vs) (f : Frm S w w') (hS : ∀ g ∈ S, g < base) : OW e k base w' v vs := ⟨own_frm h.1 f hS, h.2⟩
theorem OW.shape {e : TypeId} {k base : Nat} {w : World} {v : Value} {vs : List (List Value)} (h : OW e k base w v vs) : ∃ a cap, v = .slice a vs.length cap := by
  rcases h.1.2 with ⟨e, h0⟩ | ⟨g, cap, cur, e, _⟩
  · exact ⟨none, 0, by rw [e, h0]⟩
  · exact ⟨_, _, e⟩
theorem OW.lt {e : TypeId} {k base : Nat} {w : World} {v : Value} {vs : List (List Value)} (h : OW e k base w v vs) {g : Nat} (hg : v.ownBlock = some g) : base ≤ g ∧ g < w.heap.size := h.1.lt g hg
theorem OW.empty (e : TypeId) (k base : Nat) (w : World) (hb : base ≤ w.heap.size) : OW e k base (w.alloc (.cells #[] e)) (.slice (some ⟨w.heap.size, 0, none⟩) 0 0) [] := by
  refine ⟨⟨by simp, .inr ⟨w.heap.size, 0, #[], rfl, hb, ?_, Nat.le_refl _, by unfold maxLen; omega, by simp, by simp⟩⟩, by simp⟩
  show (w.heap.push (.cells #[] e))[w.heap.size]? = _
  simp
theorem vflat_get {k : Nat} : ∀ (vs : List (List Value)), (∀ x ∈ vs, x.length = k) → ∀ (j : Nat) (h : j < vs.length) (c : Nat) (x : Value), vs[j][c]? = some x → vs.flatten[j * k + c]? = some x
  | [], _, j, h, _, _, _ => absurd h (by simp)
  | y :: vs, hk, 0, _, c, x, hx => by
    have hx' : y[c]? = some x := hx
    have hc : c < y.length := (List.getElem?_eq_some_iff.1 hx').1
    rw [List.flatten_cons, Nat.zero_mul, Nat.zero_add, List.getElem?_append_left hc]; exact hx'
  | y :: vs, hk, j + 1, h, c, x, hx => by
    have hy := hk y (by simp)
    have hm : (j + 1) * k = j * k + k := Nat.succ_mul j k
    rw [List.flatten_cons, List.getElem?_append_right (by omega), show (j + 1) * k + c - y.length = j * k + c by omega]
    exact vflat_get vs (fun z hz => hk z (by simp [hz])) j (by simpa using h) c x (by simpa using hx)
theorem OW.rw {e : TypeId} {k base : Nat} {w : World} {v : Value} {vs : List (List Value)} (h : OW e k base w v vs) {A : List Nat} (hA : ∀ g, v.ownBlock = some g → g ∉ A) : RW A k w v vs := by
  rcases h.1.2 with ⟨rfl, h0⟩ | ⟨g, cap, cur, rfl, hb, hg, hn, hc, hcs, ht⟩
  · rw [List.length_eq_zero_iff.1 h0]; exact RW.nil _ _ _
  · refine ⟨_, cap, rfl, hn, fun j hj => ⟨g, 0, rfl, hA g rfl, (Array.getElem?_eq_some_iff.1 hg).1, fun c x hx => ?_⟩⟩
    have := World.ownsRow.cells h.1 (g := g) rfl (j * k + c) x (vflat_get vs h.2 j hj c x hx)
    rwa [add0, show j * k + c = 0 + j * k + c by omega] at this
theorem info_parts2 {e : TypeId} {z : Value} {k b : Nat} (h : (Tryz.prog.info? e).map (fun i => (i.zero, i.size, i.bytes)) = some (some z, k, b)) : ∃ i, Tryz.prog.info? e = some i ∧ i.zero = some z ∧ i.size = k ∧ i.bytes = b := by
  cases hi : Tryz.prog.info? e with
  | none => rw [hi] at h; cases h
  | some i =>
    rw [hi] at h
    simp only [Option.map_some, Option.some.injEq, Prod.mk.injEq] at h
    exact ⟨i, rfl, h.1, h.2.1, h.2.2⟩
theorem wp_appG {ops : Array Oper} {rest : List Oper} {o : Oper} {a : Act} {Q : Exit → Act → World → Prop} (w : World) (hgd : o.guard = none) (s x : Operand) (t e : TypeId) (z : Value) (k by1 : Nat)
    (hinfo : (Tryz.prog.info? e).map (fun i => (i.zero, i.size, i.bytes)) = some (some z, k, by1)) (ht : Tryz.prog.underlying t = some (.slice e)) (hzs : z.cells.size = k) (hsz : 0 < k)
    (ho : o.op = .call { callee := .builtin .append, args := #[s, x], argTypes := #[t, t] })
    (base : Nat) (v : Value) (vs : List (List Value)) (b1 : Nat) (cs : List Value) (hs : a.eval s = v) (hown : OW e k base w v vs) (hx : a.eval x = .slice (some ⟨b1, 0, none⟩) 1 1)
    (hcl : cs.length = k) (hc : ∀ j u, cs[j]? = some u → w.cell? ⟨b1, j, none⟩ = some u) (hv : ∀ u ∈ cs, u.oneCell' = true) (hlen : (vs.length + 1) * by1 ≤ 140737488355328) (hlen2 : vs.length ≤ 140737488355328) (hbase : base ≤ w.heap.size)
    (h : ∀ g cap w', OW e k base w' (.slice (some ⟨g, 0, none⟩) (vs.length + 1) cap) (vs ++ [cs]) → w.grownBy w' v.ownBlock → (v.ownBlock = some g ∨ g = w.heap.size) → g < w'.heap.size → wpList Tryz.prog ops Q rest (a.put o.dst (.slice (some ⟨g, 0, none⟩) (vs.length + 1) cap)) w') :
    wpList Tryz.prog ops Q (o :: rest) a w := by
  obtain ⟨i0, hi, hz0, hz1, hz2⟩ := info_parts2 hinfo
  refine wpList_append_lies w hgd s x t ho base e i0 z k by1 ht hi hz0 hz1 hz2 hzs hsz v vs.length vs.flatten hs hown.1 ⟨b1, 0, none⟩ 1 1 cs hx (by rw [hcl]; omega) ?_ hv (by decide) (by unfold maxLen; omega) hlen hbase w.heap.size rfl ?_
  · intro j u hj
    rw [add0]; exact hc j u hj
  · intro g cap w' h1 h2 h3 h4
    refine h g cap w' ⟨?_, ?_⟩ h2 h3 h4
    · rw [List.flatten_append, List.flatten_singleton, List.length_append]; exact h1
    · intro y hy
      rw [List.mem_append, List.mem_singleton] at hy
      rcases hy with hy | rfl
      · exact hown.2 y hy
      · exact hcl
end Go.Proofs.YtpbkgeipigcefaaGreat

