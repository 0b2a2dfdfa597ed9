import Derived.Test.YtpbkgeipigcefaaGreatJ41
import Derived.Test.YtpbkgeipigcefaaGreatJ29
import Derived.Test.YtpbkgeipigcefaaGreatJ40
import Derived.Test.YtpbkgeipigcefaaGreatJ1
import Derived.Test.YtpbkgeipigcefaaGreatJ30
import Derived.Test.YtpbkgeipigcefaaGreatJ2
set_option linter.unusedVariables false
set_option linter.unusedSimpArgs false
set_option linter.unnecessarySimpa false
namespace Go.Proofs.YtpbkgeipigcefaaGreat
open Go.RowKit

structure CSok (s : CS) : Prop where
  n : ∀ x ∈ s.n, okName x
  c : ∀ x ∈ s.c, x.length < 41
  a : ∀ x ∈ s.a, AutOK x
  xa : s.x.length = s.a.length
  t : ∀ t ∈ s.t, TstOK s.n.length s.c.length s.a.length t
  q : ∀ l ∈ s.q, ∀ c ∈ l, c.1 < s.t.length
  ql : ∀ l ∈ s.q, l.length ≤ 4
theorem TstOK.mono {nn nc na nn' nc' na' : Nat} {t : TstM} (h : TstOK nn nc na t) (h1 : nn ≤ nn') (h2 : nc ≤ nc') (h3 : na ≤ na') : TstOK nn' nc' na' t := by
  refine ⟨by have := h.n; omega, h.k, ?_⟩
  have := h.x
  split <;> rename_i e <;> simp only [e, if_true, if_false] at this <;> omega
theorem addx_ge (L : List (List UInt8)) (x : List UInt8) : L.length ≤ (addx L x).length := by unfold addx; split <;> simp
theorem addt_ge (L : List TstM) (x : TstM) : L.length ≤ (addt L x).length := by unfold addt; split <;> simp
theorem fdx_lt (L : List (List UInt8)) (x : List UInt8) : fdx L x < (addx L x).length := by
  have := fdx_le L x
  unfold addx; split
  · simp; omega
  · omega
theorem fdt_lt (L : List TstM) (x : TstM) : fdt L x < (addt L x).length := by
  have := fdt_le L x
  unfold addt; split
  · simp; omega
  · omega
theorem mem_addx {L : List (List UInt8)} {x y : List UInt8} (h : y ∈ addx L x) : y ∈ L ∨ y = x := by
  unfold addx at h; split at h
  · simpa using h
  · exact .inl h
theorem mem_addt {L : List TstM} {x y : TstM} (h : y ∈ addt L x) : y ∈ L ∨ y = x := by
  unfold addt at h; split at h
  · simpa using h
  · exact .inl h
theorem ptest_ok {re : List UInt8 → Nat} {aut : List UInt8 → AutM} (ha : ∀ v, re v = 0 → AutOK (aut v)) {s s1 : CS} {t : TstM} (h : CSok s) {m : CM} (hm : GoodM m) (he : ptest re aut s m = some (t, s1)) :
    CSok { s1 with t := addt s1.t t } ∧ s1.t = s.t ∧ s1.q = s.q := by
  have hn := addx_ge s.n m.1
  have hc := addx_ge s.c m.2.2
  have on : ∀ x ∈ addx s.n m.1, okName x := fun x hx => by
    rcases mem_addx hx with e | rfl
    · exact h.n x e
    · exact ⟨by have := isNameL_len hm.name; omega, hm.name⟩
  have oc : ∀ x ∈ addx s.c m.2.2, x.length < 41 := fun x hx => by
    rcases mem_addx hx with e | rfl
    · exact h.c x e
    · have := hm.val; omega
  have oq : ∀ t, ∀ l ∈ s.q, ∀ c ∈ l, c.1 < (addt s.t t).length := fun t l hl c hc => by
    have := h.q l hl c hc
    have := addt_ge s.t t
    omega
  unfold ptest at he
  split at he
  · split at he
    · rename_i hx
      cases he
      refine ⟨⟨on, h.c, h.a, h.xa, fun y hy => ?_, oq _, h.ql⟩, rfl, rfl⟩
      rcases mem_addt hy with e | rfl
      · exact (h.t y e).mono hn (Nat.le_refl _) (Nat.le_refl _)
      · exact ⟨fdx_lt _ _, by simp, by simp only [if_true]; rw [← h.xa]; exact hx⟩
    · rename_i hx
      split at he
      · rename_i hre
        cases he
        refine ⟨⟨on, h.c, fun y hy => ?_, by simp [h.xa], fun y hy => ?_, oq _, h.ql⟩, rfl, rfl⟩
        · rcases List.mem_append.1 hy with e | e
          · exact h.a y e
          · rw [List.mem_singleton.1 e]; exact ha _ hre
        · rcases mem_addt hy with e | rfl
          · exact (h.t y e).mono hn (Nat.le_refl _) (by simp)
          · exact ⟨fdx_lt _ _, by simp, by simp only [if_true, List.length_append, List.length_singleton]; have := fdx_le s.x m.2.2; have := h.xa; omega⟩
      · cases he
  · cases he
    refine ⟨⟨on, oc, h.a, h.xa, fun y hy => ?_, oq _, h.ql⟩, rfl, rfl⟩
    rcases mem_addt hy with e | rfl
    · exact (h.t y e).mono hn hc (Nat.le_refl _)
    · exact ⟨fdx_lt _ _, by simp, by simp only [Nat.zero_ne_one, if_false]; exact fdx_lt _ _⟩
theorem pmat_ok {re : List UInt8 → Nat} {aut : List UInt8 → AutM} (ha : ∀ v, re v = 0 → AutOK (aut v)) : ∀ (M : List CM) (s : CS) (acc : List (Nat × Bool)) {l : List (Nat × Bool)} {s1 : CS}, CSok s → (∀ m ∈ M, GoodM m) → (∀ c ∈ acc, c.1 < s.t.length) → pmat re aut s acc M = .ok (l, s1) → CSok s1 ∧ (∀ c ∈ l, c.1 < s1.t.length) ∧ l.length = acc.length + M.length
  | [], s, acc, l, s1, h, _, h2, e => by
    rw [pmat] at e
    cases e
    exact ⟨h, h2, rfl⟩
  | m :: r, s, acc, l, s1, h, hM, h2, e => by
    rw [pmat] at e
    split at e
    · cases e
    · rename_i t s2 ht
      obtain ⟨g1, g2, g3⟩ := ptest_ok ha h (hM m (by simp)) ht
      obtain ⟨k1, k2, k3⟩ := pmat_ok ha r _ _ g1 (fun x hx => hM x (by simp [hx])) (fun c hc => by
        rcases List.mem_append.1 hc with e1 | e1
        · have := h2 c e1
          have h3 := addt_ge s2.t t
          rw [g2] at h3
          show c.1 < (addt s2.t t).length
          rw [g2]; omega
        · rw [List.mem_singleton.1 e1]; exact fdt_lt _ _) e
      exact ⟨k1, k2, by rw [k3]; simp; omega⟩
theorem pmat_tge {re : List UInt8 → Nat} {aut : List UInt8 → AutM} : ∀ (M : List CM) (s : CS) (acc : List (Nat × Bool)) {l : List (Nat × Bool)} {s1 : CS}, pmat re aut s acc M = .ok (l, s1) → s1.q = s.q
  | [], s, acc, l, s1, e => by
    rw [pmat] at e
    cases e
    rfl
  | m :: r, s, acc, l, s1, e => by
    rw [pmat] at e
    split at e
    · cases e
    · rename_i t s2 ht
      rw [pmat_tge r _ _ e]
      unfold ptest at ht
      split at ht
      · split at ht
        · cases ht; rfl
        · split at ht
          · cases ht; rfl
          · cases ht
      · cases ht; rfl
theorem pread_ok {re : List UInt8 → Nat} {aut : List UInt8 → AutM} (ha : ∀ v, re v = 0 → AutOK (aut v)) : ∀ (C : List CR) (s : CS) (i k : Nat) {s1 : CS}, CSok s → CSB s k → (∀ c ∈ C, GoodCR c) → pread re aut s i C = .ok s1 → CSok s1 ∧ CSB s1 (k + 4 * C.length) ∧ s1.q.length = s.q.length + C.length
  | [], s, i, k, s1, h, hb, _, e => by
    rw [pread] at e
    cases e
    exact ⟨h, hb, rfl⟩
  | c :: r, s, i, k, s1, h, hb, hC, e => by
    rw [pread] at e
    have hc := hC c (by simp)
    split at e
    · cases e
    · rename_i l s2 hl
      obtain ⟨g1, g2, g3⟩ := pmat_ok ha c.ifs s [] h hc.ifs (by simp) hl
      obtain ⟨b1, b2, b3⟩ := pmat_cb c.ifs s [] k hb hl
      have hil := hc.ifl
      simp at g3
      have b4 : CSB { s2 with q := s2.q ++ [l] } (k + 4) := ⟨by have := b1.n; simp only; omega, by have := b1.c; simp only; omega, by have := b1.x; simp only; omega, by have := b1.a; simp only; omega, by have := b1.t; simp only; omega⟩
      obtain ⟨k1, k2, k3⟩ := pread_ok ha r { s2 with q := s2.q ++ [l] } (i + 1) (k + 4) ⟨g1.n, g1.c, g1.a, g1.xa, g1.t, fun x hx => by
        rcases List.mem_append.1 hx with e1 | e1
        · exact g1.q x e1
        · rw [List.mem_singleton.1 e1]; exact g2, fun x hx => by
        rcases List.mem_append.1 hx with e1 | e1
        · exact g1.ql x e1
        · rw [List.mem_singleton.1 e1]; omega⟩ b4 (fun x hx => hC x (by simp [hx])) e
      refine ⟨k1, ?_, ?_⟩
      · rw [List.length_cons, show k + 4 * (r.length + 1) = k + 4 + 4 * r.length by omega]; exact k2
      · rw [k3]; simp [b2]; omega
theorem tld_lt {x : Int} {y : Nat} (h : -1 ≤ x ∧ x ≤ 99999) (hy : y < 100000) : tld x y < 100000 := by
  unfold tld; split <;> omega
theorem hitB_ok {ab : HitM} {c : CR} (hc : GoodCR c) (h : HitOK ab ∨ c.rc ≠ [45]) (hb : ab.bl.length < 5 ∧ (∀ n ∈ ab.bl, okName n) ∧ ab.wt < 100000 ∧ ab.ev < 100000 ∧ ab.rp < 100000) : HitOK (hitB ab c) := by
  have on : ∀ n, isNameL n = true → okName n := fun n hn => ⟨by have := isNameL_len hn; omega, hn⟩
  refine ⟨?_, ?_, ?_, tld_lt hc.wt hb.2.2.1, tld_lt hc.ev hb.2.2.2.1, tld_lt hc.rp hb.2.2.2.2⟩
  · show okName (if c.rc == [45] then ab.rc else c.rc)
    by_cases e : c.rc = [45]
    · rw [if_pos (by simp [e])]
      rcases h with h | h
      · exact h.rc
      · exact absurd e h
    · rw [if_neg (by simp [e])]
      exact on _ (hc.rc.resolve_left e)
  · show (if c.tb then c.bys else ab.bl).length < 5
    split
    · have := hc.byl; omega
    · exact hb.1
  · show ∀ n ∈ (if c.tb then c.bys else ab.bl), okName n
    split
    · exact fun n hn => on n (hc.bys n hn)
    · exact hb.2.1
theorem hitsN_ok {C : List CR} (hs : Steps C) (hg : ∀ c ∈ C, GoodCR c) : ∀ i, i ≤ C.length → ∀ h ∈ hitsN C i, HitOK h
  | 0, _ => by simp [hitsN]
  | i + 1, hi => by
    intro h hh
    rw [hitsN] at hh
    have ih := hitsN_ok hs hg i (by omega)
    rcases List.mem_append.1 hh with e | e
    · exact ih h e
    · rw [List.getElem?_eq_getElem (by omega)] at e
      have e := List.mem_singleton.1 e
      subst e
      have hc := hg C[i] (List.getElem_mem _)
      cases i with
      | zero =>
        have h0 := (hs.1 C[0] (List.getElem?_eq_getElem (by omega))).2
        refine hitB_ok hc (.inr h0) ?_
        unfold aboveH
        have : par C 0 = none := by
          cases hp : par C 0 with
          | none => rfl
          | some p => exact absurd (par_lt hp) (by omega)
        rw [this]
        simp [rootH]
      | succ i =>
        obtain ⟨p, hp⟩ := par_of hs i (by omega)
        have hpl := par_lt hp
        have hm : aboveH C (hitsN C (i + 1)) (i + 1) ∈ hitsN C (i + 1) := by
          unfold aboveH
          rw [hp]
          simp only
          rw [List.getD_eq_getElem?_getD, List.getElem?_eq_getElem (by rw [hitsN_len]; exact hpl)]
          exact List.getElem_mem _
        have ho := ih _ hm
        exact hitB_ok hc (.inl ho) ⟨ho.b1, ho.b2, ho.wt, ho.ev, ho.rp⟩
theorem cRead_steps {t : List UInt8} {L : List (List UInt8)} {C : List CR} (h : cRead t = .ok (L, C)) : Steps C := by
  have h0 := (cRead_tree h).2.1
  unfold cRead at h
  split at h
  · cases h
  · split at h
    · cases h
    · split at h
      · cases h
      · rename_i L' C' _ h1
        split at h
        · cases h
        · cases h
          have h2 : treeGo C 0 ((0 : Nat) : Int) = 0 := by
            have : treeF C = treeGo C 0 0 := by unfold treeF; rw [if_neg]; cases C with | nil => simp at h0 | cons => simp
            have e : treeGo C 0 0 = 0 := by omega
            exact e
          obtain ⟨g1, g2⟩ := treeGo_steps C 0 0 h2
          exact ⟨fun c hc => (g1 c hc).1 rfl, g2⟩
theorem mok_of {re : List UInt8 → Nat} {aut : List UInt8 → AutM} (ha : ∀ v, re v = 0 → AutOK (aut v)) {t : List UInt8} {L : List (List UInt8)} {C : List CR} {s : CS} (ht : t.length ≤ 1048576) (h : cRead t = .ok (L, C)) (hp : pread re aut cs0 0 C = .ok s) : MOK (compM C s) := by
  obtain ⟨h1, h2, h3, h4⟩ := cRead_tree h
  have hg := (cRead1_good t L C ht h1).2.2
  obtain ⟨k1, k2, k3⟩ := pread_ok ha C cs0 0 0 ⟨by simp [cs0], by simp [cs0], by simp [cs0], rfl, by simp [cs0], by simp [cs0], by simp [cs0]⟩ ⟨by simp [cs0], by simp [cs0], by simp [cs0], by simp [cs0], by simp [cs0]⟩ hg hp
  have hst := cRead_steps h
  refine ⟨⟨by have := k2.n; show s.n.length < 256; omega, k1.n⟩, ⟨by have := k2.c; show s.c.length < 256; omega, k1.c⟩, ⟨by have := k2.a; show s.a.length < 256; omega, k1.a⟩, ⟨by have := k2.t; show s.t.length < 256; omega, k1.t⟩, ⟨by show (hitsN C C.length).length < 17; rw [hitsN_len]; omega, hitsN_ok hst hg C.length (Nat.le_refl _)⟩, ?_⟩
  have hne : C.isEmpty = false := by cases C with | nil => simp at h2 | cons => rfl
  have hg0 : GL [⟨0, 0, 0, 0⟩] := by
    intro i hi
    simp at hi
    subst hi
    exact .inl rfl
  obtain ⟨r1, r2, r3⟩ := layR_good C s.q 6 0 0 [⟨0, 0, 0, 0⟩] hg0 (by simp)
  have r4 := layR_gx C (nt := s.t.length) k1.q 6 0 0 [⟨0, 0, 0, 0⟩] h2 (by intro x hx; rw [List.mem_singleton.1 hx]; exact .inl ⟨rfl, rfl, rfl, rfl⟩)
  have r5 := laid_short h3 h2 k1.ql
  have e1 : (compM C s).code = turnM (layR C s.q 6 0 0 [⟨0, 0, 0, 0⟩]).2 (layR C s.q 6 0 0 [⟨0, 0, 0, 0⟩]).1 := by
    show codeM C s.q = _
    unfold codeM
    rw [hne]; rfl
  have e2 : (compM C s).routes.length = C.length := hitsN_len C C.length
  have e3 : (compM C s).tests.length = s.t.length := rfl
  rw [e1, e2, e3]
  obtain ⟨t1, t2⟩ := turnM_len r1 _ r2
  refine ⟨t1, by omega, fun j hj => ?_⟩
  have hk2 := k2.t
  have hs := turnM_ok r1 r4 _ r2 j hj
  generalize hx : (turnM (layR C s.q 6 0 0 [⟨0, 0, 0, 0⟩]).2 (layR C s.q 6 0 0 [⟨0, 0, 0, 0⟩]).1)[j] = x at hs ⊢
  clear hx
  generalize (turnM (layR C s.q 6 0 0 [⟨0, 0, 0, 0⟩]).2 (layR C s.q 6 0 0 [⟨0, 0, 0, 0⟩]).1).length = N at *
  have hs0 := hs
  unfold stands at hs
  split at hs
  · rename_i e; simp at hs; exact ⟨hs0, by omega, by omega, by omega, by omega⟩
  · rename_i e; simp at hs; exact ⟨hs0, by omega, by omega, by omega, by omega⟩
  · rename_i e; simp at hs; exact ⟨hs0, by omega, by omega, by omega, by omega⟩
  · cases hs
end Go.Proofs.YtpbkgeipigcefaaGreat

namespace Go.Proofs.YtpbkgeipigcefaaGreat
open Go.RowKit

def autC (v : List UInt8) : AutM := match pWhole v with
  | some e => ⟨(fstE e).length, clsE e, (autE e).2.1.map fun u => if nul (dW (nrm e) u) then 1 else 0, (autE e).2.2⟩
  | none => ⟨0, [], [], []⟩
theorem reC_zero {v : List UInt8} (h : reC v = 0) : ∃ e, pWhole v = some e ∧ (autE e).1 = true ∧ plcG e ≤ 40 := by
  unfold reC at h
  split at h
  · cases h
  · rename_i e he
    split at h
    · cases h
    · split at h
      · rename_i h1 h2; exact ⟨e, he, h2, by omega⟩
      · cases h
theorem autC_ok (v : List UInt8) (h : reC v = 0) : AutOK (autC v) := by
  obtain ⟨e, he, h1, _⟩ := reC_zero h
  obtain ⟨s1, s2, s3, s4, s5, s6, s7⟩ := autE_shape (pWhole_good he).1 h1
  have h0 := s6 0 (by omega)
  have hv : autC v = ⟨(fstE e).length, clsE e, (autE e).2.1.map fun u => if nul (dW (nrm e) u) then 1 else 0, (autE e).2.2⟩ := by unfold autC; rw [he]
  rw [hv]
  generalize fstE e = F at *
  generalize clsE e = K at *
  generalize autE e = A at *
  refine ⟨by simpa using s7, by simpa using s1, by show 1 ≤ F.length; omega, s3, s5, fun c hc => ?_, fun c hc => ?_, by simpa using s2, by simpa using s4⟩
  · obtain ⟨b, hb, rfl⟩ := List.getElem_of_mem hc
    have := s6 b (by simp only [s5] at hb; exact hb)
    rw [List.getD_eq_getElem?_getD, List.getElem?_eq_getElem hb] at this
    exact this
  · obtain ⟨u, _, rfl⟩ := List.mem_map.1 hc
    split <;> omega
theorem rcp_all (v : List UInt8) (hv : v.length ≤ 40) : RCP reC autC v := by
  intro w
  refine (xCompile_any v w hv).mono ?_
  rintro e w' ⟨hF, cs, h1, h2, rfl, h3, h4⟩
  refine ⟨hF, cs, h1, h2, rfl, fun h0 A hA => ?_⟩
  obtain ⟨x, hx, _, _⟩ := reC_zero h0
  obtain ⟨va, vn, rfl, hq, hi⟩ := h4 x hx h0
  refine ⟨rfl, fun n c y hc hy => ?_⟩
  have hn : n = 0 := by
    cases n with
    | zero => rfl
    | succ n => simp at hc
  subst hn
  simp only [List.getElem?_cons_zero, Option.some.injEq] at hc hy
  subst hc hy
  have OB : OW 4 1 w.heap.size w' va (bc (autC v).acc) := by
    refine ⟨?_, fun y hy => by obtain ⟨_, _, rfl⟩ := List.mem_map.1 hy; rfl⟩
    have e1 : (bc (autC v).acc).flatten = ((autE x).2.1.map fun u => nul (dW (nrm x) u)).map fun b => Value.bool b := by
      unfold autC bc; rw [hx]
      simp only [List.map_map]
      rw [← List.flatMap_def]
      induction (autE x).2.1 with
      | nil => rfl
      | cons a r ih => simp only [List.flatMap_cons, List.map_cons, ih, Function.comp]; cases nul (dW (nrm x) a) <;> rfl
    rw [e1, show (bc (autC v).acc).length = ((autE x).2.1.map fun u => nul (dW (nrm x) u)).length by unfold autC bc; rw [hx]; simp]
    exact hq
  have OI : OW 3 1 w.heap.size w' vn (ic (autC v).nx) := by
    refine ⟨?_, fun y hy => by obtain ⟨_, _, rfl⟩ := List.mem_map.1 hy; rfl⟩
    have e1 : (ic (autC v).nx).flatten = nv .i64 (autE x).2.2 := by
      unfold autC ic nv; rw [hx]
      simp only
      induction (autE x).2.2 with
      | nil => rfl
      | cons a r ih => simp only [List.map_cons, List.flatten_cons, ih]; rfl
    rw [e1, show (ic (autC v).nx).length = (autE x).2.2.length by unfold autC ic; rw [hx]; simp]
    exact hi
  have far : ∀ {ty : TypeId} {u : Value} {vs : List (List Value)}, OW ty 1 w.heap.size w' u vs → ∀ g, u.ownBlock = some g → g ∉ A := by
    intro ty u vs h g hg hm
    have := (h.1.lt g hg).1
    have := hA g hm
    omega
  refine ⟨va, vn, ?_, OB.rw (far OB), OI.rw (far OI)⟩
  unfold acell autC
  rw [hx]
def CMQ (t : List UInt8) (w : World) (e : Ending) (w' : World) : Prop :=
  Frm [] w w' ∧ (((cRes reC t).1 ≠ 0 ∧ e = .returned (.tuple #[.pointer none, .int .i64 ((cRes reC t).1 : Nat), .int .i64 ((cRes reC t).2 : Nat)])) ∨
  (∃ L C s V pb, cRes reC t = (0, 0) ∧ cRead t = .ok (L, C) ∧ pread reC autC cs0 0 C = .ok s ∧ e = .returned (.tuple #[.pointer (some ⟨pb, 0, none⟩), .int .i64 0, .int .i64 0]) ∧ PR [] w' pb V (compM C s) ∧ MOK (compM C s) ∧ w.heap.size ≤ pb))
theorem compile_any (t : List UInt8) (w : World) (ht : t.length ≤ 1048576) : Calls Tryz.prog 25 #[.string (bs t)] w (CMQ t w) := by
  refine (aCompile_any reC autC t w ht (fun L C h c hc m hm _ => rcp_all _ ?_)).mono ?_
  · have h1 := (cRead_tree h).1
    exact ((cRead1_good t L C ht h1).2.2 c hc).ifs m hm |>.val
  · rintro e w' ⟨hF, h | ⟨L, C, s, V, pb, h1, h2, h3, rfl, h4, h5, h6⟩⟩
    · exact ⟨hF, .inl h⟩
    · exact ⟨hF, .inr ⟨L, C, s, V, pb, h1, h2, h3, rfl, ⟨h4, h5, by simp⟩, mok_of autC_ok ht h2 h3, h6⟩⟩
end Go.Proofs.YtpbkgeipigcefaaGreat

namespace Go.Proofs.YtpbkgeipigcefaaGreat
open Go.RowKit

def szL : Nat → List LBL → Nat
  | n, [] => n
  | n, x :: r => if n ≤ 16384 then szL (n + x.1.length + x.2.length) r else n
theorem szL_le : ∀ (L : List LBL) (n : Nat), n ≤ szL n L
  | [], n => Nat.le_refl _
  | x :: r, n => by
    unfold szL
    split
    · have := szL_le r (n + x.1.length + x.2.length)
      omega
    · exact Nat.le_refl _
theorem szL_all : ∀ (L : List LBL) (n : Nat), szL n L ≤ 16384 → ∀ x ∈ L, x.1.length ≤ 16384 ∧ x.2.length ≤ 16384
  | [], n, _ => by simp
  | y :: r, n, h => by
    have hn := Nat.le_trans (szL_le (y :: r) n) h
    unfold szL at h
    rw [if_pos hn] at h
    have h2 := szL_le r (n + y.1.length + y.2.length)
    intro x hx
    rcases List.mem_cons.1 hx with rfl | hx
    · omega
    · exact szL_all r _ h x hx
def LQ (w : World) (a : Option Addr) (L : List LBL) : Prop :=
  ∀ (j : Nat) (h : j < L.length), ∃ g off, a = some ⟨g, off, none⟩ ∧ g < w.heap.size ∧ w.cell? ⟨g, off + j * 2, none⟩ = some (.string (bs L[j].1)) ∧ w.cell? ⟨g, off + j * 2 + 1, none⟩ = some (.string (bs L[j].2))
theorem LQ.lr {w : World} {a : Option Addr} {L : List LBL} (h : LQ w a L) (cap : Nat) (hl : L.length ≤ 1048576) : LR w (.slice a L.length cap) L := ⟨a, cap, rfl, hl, h⟩
theorem LQ.frm {w w' : World} {a : Option Addr} {L : List LBL} (h : LQ w a L) (f : Frm [] w w') : LQ w' a L := by
  intro j hj
  obtain ⟨g, off, rfl, h2, h3, h4⟩ := h j hj
  exact ⟨g, off, rfl, Nat.lt_of_lt_of_le h2 f.size, (f.cell (p := ⟨g, off + j * 2, none⟩) h2 (by simp)).trans h3, (f.cell (p := ⟨g, off + j * 2 + 1, none⟩) h2 (by simp)).trans h4⟩
end Go.Proofs.YtpbkgeipigcefaaGreat

namespace Go.Proofs.YtpbkgeipigcefaaGreat
open Go.RowKit

def pickN (c : Int) (n : Nat) : Nat := ((if c < 0 then -(c + 1) else c) % n).toNat
theorem pickN_lt (c : Int) (n : Nat) (hn : 0 < n) : pickN c n < n := by
  unfold pickN
  have := Int.emod_lt_of_pos (if c < 0 then -(c + 1) else c) (show (0 : Int) < n by omega)
  have := Int.emod_nonneg (if c < 0 then -(c + 1) else c) (show (n : Int) ≠ 0 by omega)
  omega
set_option maxRecDepth 100000 in
set_option maxHeartbeats 1000000 in
theorem kpick_any (c : Int) (n : Nat) (hn : 0 < n) (hn2 : n ≤ 1048576) (w : World) (h0 : -9223372036854775808 ≤ c) (h1 : c ≤ 9223372036854775807) :
    Calls Tryz.prog 27 #[.int .i64 c, .int .i64 n] w fun e w' => e = .returned (.int .i64 (pickN c n : Nat)) ∧ w = w' := by
  have hne : ((n : Int) == 0) = false := by rw [beq_eq_false_iff_ne]; omega
  have hne1 : (n : Int) ≠ 0 := by omega
  by_cases hc : c < 0
  · have hd : decide (c < 0) = true := decide_eq_true hc
    have Hx : Hid ((pickN c n : Int) = Int.tmod (-(c + 1)) n) := by
      show _ = _; unfold pickN; rw [if_pos hc, Int.tmod_eq_emod_of_nonneg (by omega)]
      have := Int.emod_nonneg (-(c + 1)) hne1
      omega
    have hb1 := Int.tmod_lt_of_pos (-(c + 1)) (show (0 : Int) < n by omega)
    have hb2 : 0 ≤ Int.tmod (-(c + 1)) n := Int.tmod_nonneg _ (by omega)
    go_enter Tryz.func27, Tryz.ntmps27
    go_wp2
    go_ret
    refine ⟨ret_int ?_, rfl⟩
    rw [Hx.out]
    try rw [Int.neg_tmod]
  · have hd : decide (c < 0) = false := decide_eq_false hc
    have Hx : Hid ((pickN c n : Int) = Int.tmod c n) := by
      show _ = _; unfold pickN; rw [if_neg hc, Int.tmod_eq_emod_of_nonneg (by omega)]
      have := Int.emod_nonneg c hne1
      omega
    have hb1 := Int.tmod_lt_of_pos c (show (0 : Int) < n by omega)
    have hb2 : 0 ≤ Int.tmod c n := Int.tmod_nonneg _ (by omega)
    go_enter Tryz.func27, Tryz.ntmps27
    go_wp2
    go_ret
    refine ⟨ret_int ?_, rfl⟩
    rw [Hx.out]
    exact (Int.tmod_eq_emod_of_nonneg (by omega)).symm
theorem kn_all : ∀ x ∈ knD, cRes reC x.1 = (0, 0) := by
  intro x hx
  have : knD.all (fun x => cRes reC x.1 == (0, 0)) = true := by decide +kernel
  have := List.all_eq_true.1 this x hx
  simpa using this
theorem kn_len : ∀ x ∈ knD, x.1.length ≤ 1048576 := by
  intro x hx
  have : knD.all (fun x => decide (x.1.length ≤ 1048576)) = true := by decide +kernel
  have := List.all_eq_true.1 this x hx
  simpa using this

set_option maxRecDepth 100000 in
set_option maxHeartbeats 2000000 in
theorem stands_any (c : Int) (w : World) (h0 : -9223372036854775808 ≤ c) (h1 : c ≤ 9223372036854775807) :
    Calls Tryz.prog 14 #[.int .i64 c] w fun e w' => e = .returned (.bool true) ∧ Frm [] w w' := by
  have N1 := hide (knowns_any w)
  have NP : Hid (∀ W, Calls Tryz.prog 27 #[.int .i64 c, .int .i64 16] W fun e w' => e = .returned (.int .i64 (pickN c 16 : Nat)) ∧ W = w') := fun W => kpick_any c 16 (by omega) (by omega) W h0 h1
  have hk := pickN_lt c 16 (by omega)
  obtain ⟨x, hx⟩ : ∃ x, knD[pickN c 16]? = some x := ⟨_, List.getElem?_eq_getElem (show pickN c 16 < knD.length from hk)⟩
  have HXm := hide (List.mem_of_getElem? hx)
  have HX := hide hx
  clear hx
  go_enter Tryz.func14, Tryz.ntmps14
  go_wp2_with fail
  refine (N1.out).mono ?_
  clear N1
  rintro e w1 ⟨hF, g, rfl, hg, hKN⟩
  have F := hide hF
  obtain ⟨a, cap, c0, _, _, _, _⟩ := hKN _ _ HX.out
  have HC := hide (compile_any x.1 w1 (kn_len x HXm.out))
  clear hF hKN HX
  generalize pickN c 16 = k at *
  have hd1 : decide ((k : Int) < 0) = false := decide_eq_false (by omega)
  have hd2 : decide ((k : Int) < 16) = true := decide_eq_true (by omega)
  go_wp2_with fail
  refine (NP.out _).mono ?_
  clear NP
  rintro e w2 ⟨rfl, rfl⟩
  go_wp2_with fail
  refine (HC.out).mono ?_
  clear HC
  rintro e w3 ⟨hF3, ⟨h1, rfl⟩ | ⟨Ln, C, s, V, pb, h1, h2, h3, rfl, h4, h5, h6⟩⟩
  · rw [kn_all x HXm.out] at h1; exact absurd rfl h1
  · have F3 := hide (F.out.trans hF3)
    clear hF3 h1 h2 h3 h4 h5
    go_wp2
    go_ret
    exact ⟨rfl, F3.out⟩
end Go.Proofs.YtpbkgeipigcefaaGreat

namespace Go.Proofs.YtpbkgeipigcefaaGreat
open Go.RowKit

structure DK (w0 : World) (w : World) (db : Nat) (t : List UInt8) (a : Option Addr) (cap : Nat) (L : List LBL) (Ln : List (List UInt8)) (C : List CR) (s : CS) (V : V6) (pb : Nat) : Prop where
  row : w.heap[db]? = some (.cells #[.string (bs t), .pointer (some ⟨pb, 0, none⟩), .slice a L.length cap] 46 (0, 0))
  new : w0.heap.size ≤ db
  tl : t.length ≤ 16384
  ll : L.length ≤ 16384
  ls : ∀ x ∈ L, x.1.length ≤ 16384 ∧ x.2.length ≤ 16384
  res : cRes reC t = (0, 0)
  rd : cRead t = .ok (Ln, C)
  pr : pread reC autC cs0 0 C = .ok s
  pg : PR [] w pb V (compM C s)
  ok : MOK (compM C s)
  lr : LQ w a L
  cap : L.length ≤ cap
theorem DK.frm {w0 w w' : World} {db : Nat} {t : List UInt8} {a : Option Addr} {cap : Nat} {L : List LBL} {Ln : List (List UInt8)} {C : List CR} {s : CS} {V : V6} {pb : Nat} (h : DK w0 w db t a cap L Ln C s V pb) (f : Frm [] w w') : DK w0 w' db t a cap L Ln C s V pb :=
  ⟨(f.block db (Array.getElem?_eq_some_iff.1 h.row).1 (by simp)).trans h.row, h.new, h.tl, h.ll, h.ls, h.res, h.rd, h.pr, h.pg.frm f (by simp), h.ok, h.lr.frm f, h.cap⟩
def ATQ (t : List UInt8) (a : Option Addr) (cap : Nat) (L : List LBL) (w : World) (e : Ending) (w' : World) : Prop :=
  Frm [] w w' ∧ (e = .returned (.pointer none) ∨ ∃ db Ln C s V pb, e = .returned (.pointer (some ⟨db, 0, none⟩)) ∧ DK w w' db t a cap L Ln C s V pb)

set_option maxRecDepth 100000 in
set_option maxHeartbeats 4000000 in
theorem kat_any (w : World) (a : Option Addr) (cap : Nat) (L : List LBL) (h : LQ w a L) (hN : L.length ≤ 4398046511104) (hs : ∀ x ∈ L, x.1.length ≤ 140737488355328 ∧ x.2.length ≤ 140737488355328) (hcap : L.length ≤ cap) (r : List UInt8) (hr : r.length ≤ 140737488355328) :
    Calls Tryz.prog 13 #[.string (bs r), .slice a L.length cap] w (ATQ r a cap L w) := by
  have H := hide h
  have HS := hide hs
  have hl := bs_toList
  have hz := bs_size
  have HCM : Hid (r.length ≤ 1048576 → ∀ q, Calls Tryz.prog 25 #[.string (bs r)] (w.drewN q) (CMQ r (w.drewN q))) := fun h q => compile_any r (w.drewN q) h
  clear h hs
  go_enter Tryz.func13, Tryz.ntmps13
  go_wp2_with fail
  go_loopg [5, 6] L.length (fun k v3 v4 wr => ∃ j n q : Nat, j + k = L.length ∧ v4 = .int .i64 j ∧ v3 = .int .i64 n ∧ n ≤ 562949953421312 ∧ wr = w.drewN q ∧ Hid (szL n (L.drop j) = szL (r.length + L.length) L))
  case atStart => exact ⟨0, r.length + L.length, 0, by omega, rfl, by go_num, by omega, rfl, by show _ = _; simp⟩
  case round =>
    obtain ⟨j, n, q, hjk, rfl, rfl, hn, hw, HF⟩ := hrel
    subst hw
    by_cases hlt : j < L.length
    · have hd1 : decide ((j : Int) < (L.length : Int)) = true := decide_eq_true (by omega)
      by_cases hn2 : n ≤ 16384
      · have hd2 : decide ((n : Int) ≤ 16384) = true := decide_eq_true (by omega)
        have hd2' : decide (n ≤ 16384) = true := decide_eq_true hn2
        obtain ⟨g, off, rfl, hg, hc1, hc2⟩ := H.out j hlt
        have hx := HS.out L[j] (List.getElem_mem hlt)
        have HF2 : Hid (szL (n + L[j].1.length + L[j].2.length) (L.drop (j + 1)) = szL (r.length + L.length) L) := by
          show _ = _
          rw [← HF.out, List.drop_eq_getElem_cons hlt, szL, if_pos hn2]
        clear HF
        generalize L[j] = x at *
        obtain ⟨nm, vl⟩ := x
        simp only at hc1 hc2 hx HF2
        have hz1 := bs_size nm
        have hz2 := bs_size vl
        go_wp2_with fail
        go_quiet (fail)
        go_wp2
        go_roundg (gk - 1)
        case measure => omega
        case rel => exact ⟨j + 1, n + nm.length + vl.length, _, by omega, by go_num, by go_num, by omega, rfl, HF2⟩
      · have hd2 : decide ((n : Int) ≤ 16384) = false := decide_eq_false (by omega)
        have hd2' : decide (n ≤ 16384) = false := decide_eq_false hn2
        have hd3 : decide ((16384 : Int) < (n : Int)) = true := decide_eq_true (by omega)
        have hd3' : decide (16384 < n) = true := decide_eq_true (by omega)
        clear HF HCM
        go_wp2
        go_ret
        exact ⟨(Frm.refl [] w).drewN q, .inl rfl⟩
    · have hd1 : decide ((j : Int) < (L.length : Int)) = false := decide_eq_false (by omega)
      have HV : Hid (szL (r.length + L.length) L = n) := by
        show _ = _
        rw [← HF.out, List.drop_eq_nil_of_le (by omega)]; rfl
      clear HF
      by_cases hn2 : n ≤ 16384
      · have hd3 : decide ((16384 : Int) < (n : Int)) = false := decide_eq_false (by omega)
        have hd3' : decide (16384 < n) = false := decide_eq_false (by omega)
        have h1 := szL_le L (r.length + L.length)
        rw [HV.out] at h1
        have HLS := hide (szL_all L (r.length + L.length) (by rw [HV.out]; exact hn2))
        have N1 := hide (HCM.out (by omega) q)
        clear HCM HV
        go_wp2_with fail
        refine (N1.out).mono ?_
        clear N1
        rintro e w' ⟨hF, ⟨h1, rfl⟩ | ⟨Ln, C, s, V, pb, q1, q2, q3, rfl, q4, q5, q6⟩⟩
        · have F := hide (((Frm.refl [] w).drewN q).trans hF)
          have hne : (((cRes reC r).1 : Int) != 0) = true := by rw [bne_iff_ne]; omega
          generalize (cRes reC r).1 = n1 at *
          generalize (cRes reC r).2 = n2 at *
          clear hF h1
          go_wp2
          go_ret
          exact ⟨F.out, .inl rfl⟩
        · have F := hide (((Frm.refl [] w).drewN q).trans hF)
          have Q1 := hide q1
          have Q2 := hide q2
          have Q3 := hide q3
          have Q4 := hide q4
          have Q5 := hide q5
          clear hF q1 q2 q3 q4 q5
          go_wp2
          go_ret
          have FA : Frm [] w' (w'.alloc (Obj.cells #[.string (bs r), .pointer (some ⟨pb, 0, none⟩), .slice a L.length cap] 46)) := (Frm.refl [] w').alloc _
          exact ⟨F.out.trans FA, .inr ⟨w'.heap.size, Ln, C, s, V, pb, rfl, heap1 _ _, F.out.size, by omega, by omega, HLS.out, Q1.out, Q2.out, Q3.out, Q4.out.frm FA (by simp), Q5.out, H.out.frm (F.out.trans FA), hcap⟩⟩
      · have hd3 : decide ((16384 : Int) < (n : Int)) = true := decide_eq_true (by omega)
        have hd3' : decide (16384 < n) = true := decide_eq_true (by omega)
        clear HCM
        go_wp2
        go_ret
        exact ⟨(Frm.refl [] w).drewN q, .inl rfl⟩
end Go.Proofs.YtpbkgeipigcefaaGreat

namespace Go.Proofs.YtpbkgeipigcefaaGreat
open Go.RowKit

def lnsGo : List UInt8 → List UInt8 → List (List UInt8)
  | [], _ => []
  | c :: r, cur => if c == 10 then (cur ++ [10]) :: lnsGo r [] else lnsGo r (cur ++ [c])
def lnsK (t : List UInt8) : List (List UInt8) := lnsGo t []
theorem take_drop_snoc (t : List UInt8) (a j : Nat) (ha : a ≤ j) (hj : j < t.length) : (t.take (j + 1)).drop a = (t.take j).drop a ++ [t[j]] := by
  rw [List.take_succ_eq_append_getElem hj, List.drop_append_of_le_length (by simp; omega)]

set_option maxRecDepth 100000 in
set_option maxHeartbeats 4000000 in
theorem lines_any (t : List UInt8) (w : World) (ht : t.length ≤ 100000) :
    Calls Tryz.prog 29 #[.string (bs t)] w fun e w' => ∃ v, e = .returned v ∧ Frm [] w w' ∧ RW [] 1 w' v (sc (lnsK t)) := by
  have hsz := bs_size
  have hx := bs_extract
  go_enter Tryz.func29, Tryz.ntmps29
  go_wp2_with fail
  go_loopg [3, 4, 5] t.length (fun k vo vf vi wr => ∃ (j f : Nat) (acc : List (List UInt8)), j + k = t.length ∧ vi = .int .i64 j ∧ vf = .int .i64 f ∧ f ≤ j ∧ OW 9 1 w.heap.size wr vo (sc acc) ∧ Frm [] w wr ∧ acc.length ≤ j ∧ Hid (acc ++ lnsGo (t.drop j) ((t.take j).drop f) = lnsK t))
  case atStart => exact ⟨0, 0, [], by omega, rfl, rfl, Nat.le_refl _, OW.nil _ _ _ _, Frm.refl _ _, by simp, by show _ = _; simp [lnsK]⟩
  case round =>
    obtain ⟨j, f, acc, hjk, rfl, rfl, hfj, hO, hF, hacc, HI⟩ := hrel
    obtain ⟨ao, co, he⟩ := hO.shape
    rw [sc_len] at he
    subst he
    have F := hide hF
    have O := hide hO
    have hz := hF.size
    clear hF hO
    by_cases hlt : j < t.length
    · have hd1 : decide ((j : Int) < (t.length : Int)) = true := decide_eq_true (by omega)
      have hbg2 : (bs t)[j]'(by rw [hsz]; omega) = t[j] := rfl
      have hsn := take_drop_snoc t f j hfj hlt
      have hI := HI.out
      rw [List.drop_eq_getElem_cons hlt, lnsGo] at hI
      clear HI
      cases hc : (t[j] == 10)
      · have HI2 : Hid (acc ++ lnsGo (t.drop (j + 1)) ((t.take (j + 1)).drop f) = lnsK t) := by
          show _ = _
          rw [hsn]
          rw [hc] at hI
          exact hI
        have hcd : ((t[j].toNat : Int) == 10) = false := by
          rw [beq_eq_false_iff_ne] at hc ⊢
          intro h
          exact hc (UInt8.toNat_inj.1 (by show t[j].toNat = 10; omega))
        clear hI hsn
        generalize t[j] = c at *
        go_wp2
        go_roundg (gk - 1)
        case measure => omega
        case rel => exact ⟨j + 1, f, acc, by omega, by go_num, rfl, by omega, O.out, F.out, by omega, HI2⟩
      · have hcv : t[j] = 10 := by simpa using hc
        have HI2 : Hid ((acc ++ [(t.take (j + 1)).drop f]) ++ lnsGo (t.drop (j + 1)) ((t.take (j + 1)).drop (j + 1)) = lnsK t) := by
          show _ = _
          rw [hsn, hcv, show List.drop (j + 1) (List.take (j + 1) t) = [] from List.drop_eq_nil_of_le (by simp; omega)]
          rw [hc] at hI
          simpa using hI
        have hcd : ((t[j].toNat : Int) == 10) = true := by rw [hcv]; rfl
        clear hI hsn hcv hc
        generalize t[j] = c at *
        generalize hy : (t.take (j + 1)).drop f = y at *
        go_wp2_with (first | (at_builtin; refine wp_appSc _ rfl _ _ rfl w.heap.size (.slice ao acc.length co) acc wr.heap.size y rfl (O.out.frm (S := []) ((Frm.refl [] _).alloc _) (by simp)) rfl (by simp) (by omega) (by simp; omega) ?_; intro g2 cap2 w3 hs3 hg3 hor3 hlt3; have O3 := hide hs3; have G3 := hide hg3; clear hs3 hg3 hor3))
        go_roundg (gk - 1)
        case measure => omega
        case rel =>
          have hob : ∀ r, Value.ownBlock (.slice ao acc.length co) = some r → w.heap.size ≤ r := fun r hr => (O.out.lt hr).1
          exact ⟨j + 1, j + 1, acc ++ [y], by omega, by go_num, by go_num, Nat.le_refl _, O3.out, (F.out.alloc _).grown G3.out (fun r hr => .inr (hob r hr)), by simp; omega, HI2⟩
    · have hd1 : decide ((j : Int) < (t.length : Int)) = false := decide_eq_false (by omega)
      have HE : Hid (lnsK t = acc) := by
        show _ = _
        rw [← HI.out, List.drop_eq_nil_of_le (by omega)]
        simp [lnsGo]
      clear HI
      go_wp2
      go_ret
      refine ⟨_, rfl, F.out, ?_⟩
      rw [HE.out]
      exact O.out.rw (by simp)
end Go.Proofs.YtpbkgeipigcefaaGreat

namespace Go.Proofs.YtpbkgeipigcefaaGreat
open Go.RowKit

theorem toNat_beq (x y : UInt8) : ((x.toNat : Int) == (y.toNat : Int)) = (x == y) := by
  rw [Bool.eq_iff_iff, beq_iff_eq, beq_iff_eq]
  constructor
  · intro h; exact UInt8.toNat_inj.1 (Int.ofNat_inj.1 h)
  · intro h; rw [h]
end Go.Proofs.YtpbkgeipigcefaaGreat

