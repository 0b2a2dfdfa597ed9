import Derived.Test.YtmaoiefkjpgjfaaGreatJ43
import Derived.Test.YtmaoiefkjpgjfaaGreatJ30
import Derived.Test.YtmaoiefkjpgjfaaGreatJ42
import Derived.Test.YtmaoiefkjpgjfaaGreatJ31
import Derived.Test.YtmaoiefkjpgjfaaGreatJ1
import Derived.Test.YtmaoiefkjpgjfaaGreatJ32
set_option linter.unusedVariables false
set_option linter.unusedSimpArgs false
set_option linter.unnecessarySimpa false
namespace Go.Proofs.YtmaoiefkjpgjfaaGreat
open Go.RowKit

/-- What a compiler has is well formed. -/
structure CSok (s : CS) : Prop where
  n : ∀ x ∈ s.n, okName x
  c : ∀ x ∈ s.c, x.length < 41
  a : ∀ x ∈ s.a, AutOK x
  xa : s.x.length = s.a.length
  t : ∀ t ∈ s.t, TstOK s.n.length s.c.length s.a.length t
  q : ∀ l ∈ s.q, ∀ c ∈ l, c.1 < s.t.length
  ql : ∀ l ∈ s.q, l.length ≤ 4
theorem TstOK.mono {nn nc na nn' nc' na' : Nat} {t : TstM} (h : TstOK nn nc na t) (h1 : nn ≤ nn') (h2 : nc ≤ nc') (h3 : na ≤ na') : TstOK nn' nc' na' t := by
  refine ⟨by have := h.n; omega, h.k, ?_⟩
  have := h.x
  split <;> rename_i e <;> simp only [e, if_true, if_false] at this <;> omega
theorem addx_ge (L : List (List UInt8)) (x : List UInt8) : L.length ≤ (addx L x).length := by unfold addx; split <;> simp
theorem addt_ge (L : List TstM) (x : TstM) : L.length ≤ (addt L x).length := by unfold addt; split <;> simp
theorem fdx_lt (L : List (List UInt8)) (x : List UInt8) : fdx L x < (addx L x).length := by
  have := fdx_le L x
  unfold addx; split
  · simp; omega
  · omega
theorem fdt_lt (L : List TstM) (x : TstM) : fdt L x < (addt L x).length := by
  have := fdt_le L x
  unfold addt; split
  · simp; omega
  · omega
theorem mem_addx {L : List (List UInt8)} {x y : List UInt8} (h : y ∈ addx L x) : y ∈ L ∨ y = x := by
  unfold addx at h; split at h
  · simpa using h
  · exact .inl h
theorem mem_addt {L : List TstM} {x y : TstM} (h : y ∈ addt L x) : y ∈ L ∨ y = x := by
  unfold addt at h; split at h
  · simpa using h
  · exact .inl h
theorem ptest_ok {re : List UInt8 → Nat} {aut : List UInt8 → AutM} (ha : ∀ v, re v = 0 → AutOK (aut v)) {s s1 : CS} {t : TstM} (h : CSok s) {m : CM} (hm : GoodM m) (he : ptest re aut s m = some (t, s1)) :
    CSok { s1 with t := addt s1.t t } ∧ s1.t = s.t ∧ s1.q = s.q := by
  have hn := addx_ge s.n m.1
  have hc := addx_ge s.c m.2.2
  have on : ∀ x ∈ addx s.n m.1, okName x := fun x hx => by
    rcases mem_addx hx with e | rfl
    · exact h.n x e
    · exact ⟨by have := isNameL_len hm.name; omega, hm.name⟩
  have oc : ∀ x ∈ addx s.c m.2.2, x.length < 41 := fun x hx => by
    rcases mem_addx hx with e | rfl
    · exact h.c x e
    · have := hm.val; omega
  have oq : ∀ t, ∀ l ∈ s.q, ∀ c ∈ l, c.1 < (addt s.t t).length := fun t l hl c hc => by
    have := h.q l hl c hc
    have := addt_ge s.t t
    omega
  unfold ptest at he
  split at he
  · split at he
    · rename_i hx
      cases he
      refine ⟨⟨on, h.c, h.a, h.xa, fun y hy => ?_, oq _, h.ql⟩, rfl, rfl⟩
      rcases mem_addt hy with e | rfl
      · exact (h.t y e).mono hn (Nat.le_refl _) (Nat.le_refl _)
      · exact ⟨fdx_lt _ _, by simp, by simp only [if_true]; rw [← h.xa]; exact hx⟩
    · rename_i hx
      split at he
      · rename_i hre
        cases he
        refine ⟨⟨on, h.c, fun y hy => ?_, by simp [h.xa], fun y hy => ?_, oq _, h.ql⟩, rfl, rfl⟩
        · rcases List.mem_append.1 hy with e | e
          · exact h.a y e
          · rw [List.mem_singleton.1 e]; exact ha _ hre
        · rcases mem_addt hy with e | rfl
          · exact (h.t y e).mono hn (Nat.le_refl _) (by simp)
          · exact ⟨fdx_lt _ _, by simp, by simp only [if_true, List.length_append, List.length_singleton]; have := fdx_le s.x m.2.2; have := h.xa; omega⟩
      · cases he
  · cases he
    refine ⟨⟨on, oc, h.a, h.xa, fun y hy => ?_, oq _, h.ql⟩, rfl, rfl⟩
    rcases mem_addt hy with e | rfl
    · exact (h.t y e).mono hn hc (Nat.le_refl _)
    · exact ⟨fdx_lt _ _, by simp, by simp only [Nat.zero_ne_one, if_false]; exact fdx_lt _ _⟩
theorem pmat_ok {re : List UInt8 → Nat} {aut : List UInt8 → AutM} (ha : ∀ v, re v = 0 → AutOK (aut v)) : ∀ (M : List CM) (s : CS) (acc : List (Nat × Bool)) {l : List (Nat × Bool)} {s1 : CS}, CSok s → (∀ m ∈ M, GoodM m) → (∀ c ∈ acc, c.1 < s.t.length) → pmat re aut s acc M = .ok (l, s1) → CSok s1 ∧ (∀ c ∈ l, c.1 < s1.t.length) ∧ l.length = acc.length + M.length
  | [], s, acc, l, s1, h, _, h2, e => by
    rw [pmat] at e
    cases e
    exact ⟨h, h2, rfl⟩
  | m :: r, s, acc, l, s1, h, hM, h2, e => by
    rw [pmat] at e
    split at e
    · cases e
    · rename_i t s2 ht
      obtain ⟨g1, g2, g3⟩ := ptest_ok ha h (hM m (by simp)) ht
      obtain ⟨k1, k2, k3⟩ := pmat_ok ha r _ _ g1 (fun x hx => hM x (by simp [hx])) (fun c hc => by
        rcases List.mem_append.1 hc with e1 | e1
        · have := h2 c e1
          have h3 := addt_ge s2.t t
          rw [g2] at h3
          show c.1 < (addt s2.t t).length
          rw [g2]; omega
        · rw [List.mem_singleton.1 e1]; exact fdt_lt _ _) e
      exact ⟨k1, k2, by rw [k3]; simp; omega⟩
theorem pmat_tge {re : List UInt8 → Nat} {aut : List UInt8 → AutM} : ∀ (M : List CM) (s : CS) (acc : List (Nat × Bool)) {l : List (Nat × Bool)} {s1 : CS}, pmat re aut s acc M = .ok (l, s1) → s1.q = s.q
  | [], s, acc, l, s1, e => by
    rw [pmat] at e
    cases e
    rfl
  | m :: r, s, acc, l, s1, e => by
    rw [pmat] at e
    split at e
    · cases e
    · rename_i t s2 ht
      rw [pmat_tge r _ _ e]
      unfold ptest at ht
      split at ht
      · split at ht
        · cases ht; rfl
        · split at ht
          · cases ht; rfl
          · cases ht
      · cases ht; rfl
theorem pread_ok {re : List UInt8 → Nat} {aut : List UInt8 → AutM} (ha : ∀ v, re v = 0 → AutOK (aut v)) : ∀ (C : List CR) (s : CS) (i k : Nat) {s1 : CS}, CSok s → CSB s k → (∀ c ∈ C, GoodCR c) → pread re aut s i C = .ok s1 → CSok s1 ∧ CSB s1 (k + 4 * C.length) ∧ s1.q.length = s.q.length + C.length
  | [], s, i, k, s1, h, hb, _, e => by
    rw [pread] at e
    cases e
    exact ⟨h, hb, rfl⟩
  | c :: r, s, i, k, s1, h, hb, hC, e => by
    rw [pread] at e
    have hc := hC c (by simp)
    split at e
    · cases e
    · rename_i l s2 hl
      obtain ⟨g1, g2, g3⟩ := pmat_ok ha c.ifs s [] h hc.ifs (by simp) hl
      obtain ⟨b1, b2, b3⟩ := pmat_cb c.ifs s [] k hb hl
      have hil := hc.ifl
      simp at g3
      have b4 : CSB { s2 with q := s2.q ++ [l] } (k + 4) := ⟨by have := b1.n; simp only; omega, by have := b1.c; simp only; omega, by have := b1.x; simp only; omega, by have := b1.a; simp only; omega, by have := b1.t; simp only; omega⟩
      obtain ⟨k1, k2, k3⟩ := pread_ok ha r { s2 with q := s2.q ++ [l] } (i + 1) (k + 4) ⟨g1.n, g1.c, g1.a, g1.xa, g1.t, fun x hx => by
        rcases List.mem_append.1 hx with e1 | e1
        · exact g1.q x e1
        · rw [List.mem_singleton.1 e1]; exact g2, fun x hx => by
        rcases List.mem_append.1 hx with e1 | e1
        · exact g1.ql x e1
        · rw [List.mem_singleton.1 e1]; omega⟩ b4 (fun x hx => hC x (by simp [hx])) e
      refine ⟨k1, ?_, ?_⟩
      · rw [List.length_cons, show k + 4 * (r.length + 1) = k + 4 + 4 * r.length by omega]; exact k2
      · rw [k3]; simp [b2]; omega
theorem parGo_lt {C : List CR} {d : Nat} : ∀ (i : Nat) {p : Nat}, parGo C d i = some p → p < i
  | 0, p, h => by cases h
  | i + 1, p, h => by
    rw [parGo] at h
    split at h
    · cases h; omega
    · have := parGo_lt i h; omega
theorem tld_lt {x : Int} {y : Nat} (h : -1 ≤ x ∧ x ≤ 99999) (hy : y < 100000) : tld x y < 100000 := by
  unfold tld; split <;> omega
theorem hitB_ok {ab : HitM} {c : CR} (hc : GoodCR c) (h : HitOK ab ∨ c.rc ≠ [45]) (hb : ab.bl.length < 5 ∧ (∀ n ∈ ab.bl, okName n) ∧ ab.wt < 100000 ∧ ab.ev < 100000 ∧ ab.rp < 100000) : HitOK (hitB ab c) := by
  have on : ∀ n, isNameL n = true → okName n := fun n hn => ⟨by have := isNameL_len hn; omega, hn⟩
  refine ⟨?_, ?_, ?_, tld_lt hc.wt hb.2.2.1, tld_lt hc.ev hb.2.2.2.1, tld_lt hc.rp hb.2.2.2.2⟩
  · show okName (if c.rc == [45] then ab.rc else c.rc)
    by_cases e : c.rc = [45]
    · rw [if_pos (by simp [e])]
      rcases h with h | h
      · exact h.rc
      · exact absurd e h
    · rw [if_neg (by simp [e])]
      exact on _ (hc.rc.resolve_left e)
  · show (if c.tb then c.bys else ab.bl).length < 5
    split
    · have := hc.byl; omega
    · exact hb.1
  · show ∀ n ∈ (if c.tb then c.bys else ab.bl), okName n
    split
    · exact fun n hn => on n (hc.bys n hn)
    · exact hb.2.1
theorem hitsN_ok {C : List CR} (hs : Steps C) (hg : ∀ c ∈ C, GoodCR c) : ∀ i, i ≤ C.length → ∀ h ∈ hitsN C i, HitOK h
  | 0, _ => by simp [hitsN]
  | i + 1, hi => by
    intro h hh
    rw [hitsN] at hh
    have ih := hitsN_ok hs hg i (by omega)
    rcases List.mem_append.1 hh with e | e
    · exact ih h e
    · rw [List.getElem?_eq_getElem (by omega)] at e
      have e := List.mem_singleton.1 e
      subst e
      have hc := hg C[i] (List.getElem_mem _)
      cases i with
      | zero =>
        have h0 := (hs.1 C[0] (List.getElem?_eq_getElem (by omega))).2
        refine hitB_ok hc (.inr h0) ?_
        unfold aboveH
        have : par C 0 = none := by
          cases hp : par C 0 with
          | none => rfl
          | some p => exact absurd (par_lt hp) (by omega)
        rw [this]
        simp [rootH]
      | succ i =>
        obtain ⟨p, hp⟩ := par_of hs i (by omega)
        have hpl := par_lt hp
        have hm : aboveH C (hitsN C (i + 1)) (i + 1) ∈ hitsN C (i + 1) := by
          unfold aboveH
          rw [hp]
          simp only
          rw [List.getD_eq_getElem?_getD, List.getElem?_eq_getElem (by rw [hitsN_len]; exact hpl)]
          exact List.getElem_mem _
        have ho := ih _ hm
        exact hitB_ok hc (.inl ho) ⟨ho.b1, ho.b2, ho.wt, ho.ev, ho.rp⟩
theorem cRead_steps {t : List UInt8} {L : List (List UInt8)} {C : List CR} (h : cRead t = .ok (L, C)) : Steps C := by
  have h0 := (cRead_tree h).2.1
  unfold cRead at h
  split at h
  · cases h
  · split at h
    · cases h
    · split at h
      · cases h
      · rename_i L' C' _ h1
        split at h
        · cases h
        · cases h
          have h2 : treeGo C 0 ((0 : Nat) : Int) = 0 := by
            have : treeF C = treeGo C 0 0 := by unfold treeF; rw [if_neg]; cases C with | nil => simp at h0 | cons => simp
            have e : treeGo C 0 0 = 0 := by omega
            exact e
          obtain ⟨g1, g2⟩ := treeGo_steps C 0 0 h2
          exact ⟨fun c hc => (g1 c hc).1 rfl, g2⟩
/-- A compiled program is one that may be loaded. -/
theorem mok_of {re : List UInt8 → Nat} {aut : List UInt8 → AutM} (ha : ∀ v, re v = 0 → AutOK (aut v)) {t : List UInt8} {L : List (List UInt8)} {C : List CR} {s : CS} (ht : t.length ≤ 1048576) (h : cRead t = .ok (L, C)) (hp : pread re aut cs0 0 C = .ok s) : MOK (compM C s) := by
  obtain ⟨h1, h2, h3, h4⟩ := cRead_tree h
  have hg := (cRead1_good t L C ht h1).2.2
  obtain ⟨k1, k2, k3⟩ := pread_ok ha C cs0 0 0 ⟨by simp [cs0], by simp [cs0], by simp [cs0], rfl, by simp [cs0], by simp [cs0], by simp [cs0]⟩ ⟨by simp [cs0], by simp [cs0], by simp [cs0], by simp [cs0], by simp [cs0]⟩ hg hp
  have hst := cRead_steps h
  refine ⟨⟨by have := k2.n; show s.n.length < 256; omega, k1.n⟩, ⟨by have := k2.c; show s.c.length < 256; omega, k1.c⟩, ⟨by have := k2.a; show s.a.length < 256; omega, k1.a⟩, ⟨by have := k2.t; show s.t.length < 256; omega, k1.t⟩, ⟨by show (hitsN C C.length).length < 17; rw [hitsN_len]; omega, hitsN_ok hst hg C.length (Nat.le_refl _)⟩, ?_⟩
  have hne : C.isEmpty = false := by cases C with | nil => simp at h2 | cons => rfl
  have hg0 : GL [⟨0, 0, 0, 0⟩] := by
    intro i hi
    simp at hi
    subst hi
    exact .inl rfl
  obtain ⟨r1, r2, r3⟩ := layR_good C s.q 6 0 0 [⟨0, 0, 0, 0⟩] hg0 (by simp)
  have r4 := layR_gx C (nt := s.t.length) k1.q 6 0 0 [⟨0, 0, 0, 0⟩] h2 (by intro x hx; rw [List.mem_singleton.1 hx]; exact .inl ⟨rfl, rfl, rfl, rfl⟩)
  have r5 := laid_short h3 h2 k1.ql
  have e1 : (compM C s).code = turnM (layR C s.q 6 0 0 [⟨0, 0, 0, 0⟩]).2 (layR C s.q 6 0 0 [⟨0, 0, 0, 0⟩]).1 := by
    show codeM C s.q = _
    unfold codeM
    rw [hne]; rfl
  have e2 : (compM C s).routes.length = C.length := hitsN_len C C.length
  have e3 : (compM C s).tests.length = s.t.length := rfl
  rw [e1, e2, e3]
  obtain ⟨t1, t2⟩ := turnM_len r1 _ r2
  refine ⟨t1, by omega, fun j hj => ?_⟩
  have hk2 := k2.t
  have hs := turnM_ok r1 r4 _ r2 j hj
  generalize hx : (turnM (layR C s.q 6 0 0 [⟨0, 0, 0, 0⟩]).2 (layR C s.q 6 0 0 [⟨0, 0, 0, 0⟩]).1)[j] = x at hs ⊢
  clear hx
  generalize (turnM (layR C s.q 6 0 0 [⟨0, 0, 0, 0⟩]).2 (layR C s.q 6 0 0 [⟨0, 0, 0, 0⟩]).1).length = N at *
  have hs0 := hs
  unfold stands at hs
  split at hs
  · rename_i e; simp at hs; exact ⟨hs0, by omega, by omega, by omega, by omega⟩
  · rename_i e; simp at hs; exact ⟨hs0, by omega, by omega, by omega, by omega⟩
  · rename_i e; simp at hs; exact ⟨hs0, by omega, by omega, by omega, by omega⟩
  · cases hs
end Go.Proofs.YtmaoiefkjpgjfaaGreat
namespace Go.Proofs.YtmaoiefkjpgjfaaGreat
open Go.RowKit

/-- The automaton of an expression, as a program has it. -/
def autC (v : List UInt8) : AutM := match pWhole v with
  | some e => ⟨(fstE e).length, clsE e, (autE e).2.1.map fun u => if nul (dW (nrm e) u) then 1 else 0, (autE e).2.2⟩
  | none => ⟨0, [], [], []⟩
theorem reC_zero {v : List UInt8} (h : reC v = 0) : ∃ e, pWhole v = some e ∧ (autE e).1 = true ∧ plcG e ≤ 40 := by
  unfold reC at h
  split at h
  · cases h
  · rename_i e he
    split at h
    · cases h
    · split at h
      · rename_i h1 h2; exact ⟨e, he, h2, by omega⟩
      · cases h
theorem autC_ok (v : List UInt8) (h : reC v = 0) : AutOK (autC v) := by
  obtain ⟨e, he, h1, _⟩ := reC_zero h
  obtain ⟨s1, s2, s3, s4, s5, s6, s7⟩ := autE_shape (pWhole_good he).1 h1
  have h0 := s6 0 (by omega)
  have hv : autC v = ⟨(fstE e).length, clsE e, (autE e).2.1.map fun u => if nul (dW (nrm e) u) then 1 else 0, (autE e).2.2⟩ := by unfold autC; rw [he]
  rw [hv]
  generalize fstE e = F at *
  generalize clsE e = K at *
  generalize autE e = A at *
  refine ⟨by simpa using s7, by simpa using s1, by show 1 ≤ F.length; omega, s3, s5, fun c hc => ?_, fun c hc => ?_, by simpa using s2, by simpa using s4⟩
  · obtain ⟨b, hb, rfl⟩ := List.getElem_of_mem hc
    have := s6 b (by simp only [s5] at hb; exact hb)
    rw [List.getD_eq_getElem?_getD, List.getElem?_eq_getElem hb] at this
    exact this
  · obtain ⟨u, _, rfl⟩ := List.mem_map.1 hc
    split <;> omega
theorem rcp_all (v : List UInt8) (hv : v.length ≤ 40) : RCP reC autC v := by
  intro w
  refine (xCompile_any v w hv).mono ?_
  rintro e w' ⟨hF, cs, h1, h2, rfl, h3, h4⟩
  refine ⟨hF, cs, h1, h2, rfl, fun h0 A hA => ?_⟩
  obtain ⟨x, hx, _, _⟩ := reC_zero h0
  obtain ⟨va, vn, rfl, hq, hi⟩ := h4 x hx h0
  refine ⟨rfl, fun n c y hc hy => ?_⟩
  have hn : n = 0 := by
    cases n with
    | zero => rfl
    | succ n => simp at hc
  subst hn
  simp only [List.getElem?_cons_zero, Option.some.injEq] at hc hy
  subst hc hy
  have OB : OW 4 1 w.heap.size w' va (bc (autC v).acc) := by
    refine ⟨?_, fun y hy => by obtain ⟨_, _, rfl⟩ := List.mem_map.1 hy; rfl⟩
    have e1 : (bc (autC v).acc).flatten = ((autE x).2.1.map fun u => nul (dW (nrm x) u)).map fun b => Value.bool b := by
      unfold autC bc; rw [hx]
      simp only [List.map_map]
      rw [← List.flatMap_def]
      induction (autE x).2.1 with
      | nil => rfl
      | cons a r ih => simp only [List.flatMap_cons, List.map_cons, ih, Function.comp]; cases nul (dW (nrm x) a) <;> rfl
    rw [e1, show (bc (autC v).acc).length = ((autE x).2.1.map fun u => nul (dW (nrm x) u)).length by unfold autC bc; rw [hx]; simp]
    exact hq
  have OI : OW 3 1 w.heap.size w' vn (ic (autC v).nx) := by
    refine ⟨?_, fun y hy => by obtain ⟨_, _, rfl⟩ := List.mem_map.1 hy; rfl⟩
    have e1 : (ic (autC v).nx).flatten = nv .i64 (autE x).2.2 := by
      unfold autC ic nv; rw [hx]
      simp only
      induction (autE x).2.2 with
      | nil => rfl
      | cons a r ih => simp only [List.map_cons, List.flatten_cons, ih]; rfl
    rw [e1, show (ic (autC v).nx).length = (autE x).2.2.length by unfold autC ic; rw [hx]; simp]
    exact hi
  have far : ∀ {ty : TypeId} {u : Value} {vs : List (List Value)}, OW ty 1 w.heap.size w' u vs → ∀ g, u.ownBlock = some g → g ∉ A := by
    intro ty u vs h g hg hm
    have := (h.1.lt g hg).1
    have := hA g hm
    omega
  refine ⟨va, vn, ?_, OB.rw (far OB), OI.rw (far OI)⟩
  unfold acell autC
  rw [hx]
/-- Compile: the fault, or a program that may be run. -/
def CMQ (t : List UInt8) (w : World) (e : Ending) (w' : World) : Prop :=
  Frm [] w w' ∧ (((cRes reC t).1 ≠ 0 ∧ e = .returned (.tuple #[.pointer none, .int .i64 ((cRes reC t).1 : Nat), .int .i64 ((cRes reC t).2 : Nat)])) ∨
  (∃ L C s V pb, cRes reC t = (0, 0) ∧ cRead t = .ok (L, C) ∧ pread reC autC cs0 0 C = .ok s ∧ e = .returned (.tuple #[.pointer (some ⟨pb, 0, none⟩), .int .i64 0, .int .i64 0]) ∧ PR [] w' pb V (compM C s) ∧ MOK (compM C s) ∧ w.heap.size ≤ pb))
theorem compile_any (t : List UInt8) (w : World) (ht : t.length ≤ 1048576) : Calls Tryz.prog 5 #[.string (bs t)] w (CMQ t w) := by
  refine (aCompile_any reC autC t w ht (fun L C h c hc m hm _ => rcp_all _ ?_)).mono ?_
  · have h1 := (cRead_tree h).1
    exact ((cRead1_good t L C ht h1).2.2 c hc).ifs m hm |>.val
  · rintro e w' ⟨hF, h | ⟨L, C, s, V, pb, h1, h2, h3, rfl, h4, h5, h6⟩⟩
    · exact ⟨hF, .inl h⟩
    · exact ⟨hF, .inr ⟨L, C, s, V, pb, h1, h2, h3, rfl, ⟨h4, h5, by simp⟩, mok_of autC_ok ht h2 h3, h6⟩⟩
end Go.Proofs.YtmaoiefkjpgjfaaGreat
namespace Go.Proofs.YtmaoiefkjpgjfaaGreat
open Go.RowKit

/-- What is sent, by the routes' numbers. -/
def hitsM (m : Mach) (l : List Nat) : List HitM := l.map fun i => m.routes.getD i ⟨[], [], 0, 0, 0⟩
theorem hitsM_snoc (m : Mach) (l : List Nat) (i : Nat) (hi : i < m.routes.length) : hitsM m (l ++ [i]) = hitsM m l ++ [m.routes[i]] := by simp [hitsM, List.getD, hi]
theorem ins_cases {m : Mach} (ok : MOK m) (V : List UInt8 → List UInt8) {k : Nat} (hk : k < m.code.length) (n : Nat) :
    (m.code[k].op = 0 ∧ runM m V (n + 1) k = []) ∨
    (m.code[k].op = 1 ∧ m.code[k].x < m.routes.length ∧ k < m.code[k].a ∧ m.code[k].a < m.code.length ∧ runM m V (n + 1) k = m.code[k].x :: runM m V n m.code[k].a) ∨
    (m.code[k].op = 2 ∧ k < m.code[k].a ∧ m.code[k].a < m.code.length ∧ k < m.code[k].b ∧ m.code[k].b < m.code.length ∧ ∃ hx : m.code[k].x < m.tests.length, TstOK m.names.length m.consts.length m.autos.length m.tests[m.code[k].x] ∧
      runM m V (n + 1) k = runM m V n (if tstM m (V (m.names.getD m.tests[m.code[k].x].n [])) m.tests[m.code[k].x] then m.code[k].a else m.code[k].b)) := by
  have h := ok.code.2.2 k hk
  have hs := h.s
  have ho := h.op
  have hc : m.code[k]? = some m.code[k] := List.getElem?_eq_getElem hk
  generalize m.code[k] = c at *
  obtain ⟨op, x, a, b⟩ := c
  simp only at ho ⊢
  match op, ho with
  | 0, _ => exact .inl ⟨rfl, by rw [runM, hc]; rfl⟩
  | 1, _ =>
    simp [stands] at hs
    exact .inr (.inl ⟨rfl, hs.1.1, hs.1.2.1, hs.1.2.2, by rw [runM, hc]; rfl⟩)
  | 2, _ =>
    simp [stands] at hs
    refine .inr (.inr ⟨rfl, hs.1.2.1, hs.1.2.2, hs.2.1, hs.2.2, hs.1.1, ok.tests.2 _ (List.getElem_mem _), ?_⟩)
    rw [runM, hc]
    simp only [List.getElem?_eq_getElem hs.1.1]
end Go.Proofs.YtmaoiefkjpgjfaaGreat
namespace Go.Proofs.YtmaoiefkjpgjfaaGreat
open Go.RowKit

/-- A label: its name, its value. -/
abbrev LBL : Type := List UInt8 × List UInt8
/-- A list of labels that is read: each at its place. -/
def LR (w : World) (v : Value) (L : List LBL) : Prop :=
  ∃ a cap, v = .slice a L.length cap ∧ L.length ≤ 1048576 ∧ ∀ (j : Nat) (h : j < L.length), ∃ g off, a = some ⟨g, off, none⟩ ∧ g < w.heap.size ∧ w.cell? ⟨g, off + j * 2, none⟩ = some (.string (bs L[j].1)) ∧ w.cell? ⟨g, off + j * 2 + 1, none⟩ = some (.string (bs L[j].2))
theorem LR.frm {S : List Nat} {w w' : World} {v : Value} {L : List LBL} (h : LR w v L) (f : Frm S w w') (hS : ∀ a n c, v = .slice (some a) n c → a.block ∉ S) : LR w' v L := by
  obtain ⟨a, cap, rfl, h0, h1⟩ := h
  refine ⟨a, cap, rfl, h0, ?_⟩
  intro j hj
  obtain ⟨g, off, rfl, h2, h3, h4⟩ := h1 j hj
  have hg := hS ⟨g, off, none⟩ _ _ rfl
  exact ⟨g, off, rfl, Nat.lt_of_lt_of_le h2 f.size, (f.cell (p := ⟨g, off + j * 2, none⟩) h2 hg).trans h3, (f.cell (p := ⟨g, off + j * 2 + 1, none⟩) h2 hg).trans h4⟩
/-- The value of a name; the empty text: none. -/
def lblV (L : List LBL) (n : List UInt8) : List UInt8 := match L.find? (fun x => x.1 == n) with | some x => x.2 | none => []
/-- Are these labels? -/
def labsB : List LBL → List LBL → Bool
  | _, [] => true
  | P, x :: r => isNameL x.1 && decide (x.2.length ≤ 40) && !(P.any fun y => y.1 == x.1) && labsB (P ++ [x]) r
def labsOK (L : List LBL) : Bool := decide (L.length ≤ 12) && labsB [] L
theorem labsB_at (L : List LBL) (j : Nat) (hj : j < L.length) : labsB (L.take j) (L.drop j) = (isNameL L[j].1 && decide (L[j].2.length ≤ 40) && !((L.take j).any fun y => y.1 == L[j].1) && labsB (L.take (j + 1)) (L.drop (j + 1))) := by
  have e : L.take (j + 1) = L.take j ++ [L[j]] := by rw [List.take_add_one, List.getElem?_eq_getElem hj]; rfl
  rw [List.drop_eq_getElem_cons hj, labsB, e]
end Go.Proofs.YtmaoiefkjpgjfaaGreat
namespace Go.Proofs.YtmaoiefkjpgjfaaGreat
open Go.RowKit

theorem LR.take {w : World} {a : Option Addr} {n cap : Nat} {L : List LBL} (h : LR w (.slice a n cap) L) (j : Nat) (hj : j ≤ L.length) : LR w (.slice a j cap) (L.take j) := by
  obtain ⟨a', c', e, h0, h1⟩ := h
  simp at e
  obtain ⟨rfl, rfl, rfl⟩ := e
  have hl : (L.take j).length = j := by simp; omega
  refine ⟨a, cap, by rw [hl], by omega, ?_⟩
  intro i hi
  rw [hl] at hi
  obtain ⟨g, off, rfl, h2, h3, h4⟩ := h1 i (by omega)
  exact ⟨g, off, rfl, h2, by rw [List.getElem_take]; exact h3, by rw [List.getElem_take]; exact h4⟩


set_option maxRecDepth 100000 in
set_option maxHeartbeats 1000000 in
theorem valueOf_any (v : Value) (L : List LBL) (n : List UInt8) (w : World) (h : LR w v L) :
    Calls Tryz.prog 38 #[v, .string (bs n)] w fun e w' => e = .returned (.string (bs (lblV L n))) ∧ Frm [] w w' := by
  obtain ⟨a, cap, rfl, h0, h1⟩ := h
  have H1 := hide h1
  have hl := bs_toList
  clear h1
  go_enter Tryz.func38, Tryz.ntmps38
  go_wp2_with fail
  go_loopg [9] L.length (fun k vi wr => ∃ j : Nat, j + k = L.length ∧ vi = .int .i64 j ∧ Frm [] w wr ∧ Hid ((L.drop j).find? (fun x => x.1 == n) = L.find? (fun x => x.1 == n)))
  case atStart => exact ⟨0, by omega, rfl, Frm.refl _ _, by show _ = _; simp⟩
  case round =>
    obtain ⟨j, hj, rfl, hfr, HF⟩ := hrel
    have F := hide hfr
    clear hfr
    by_cases hlt : j < L.length
    · obtain ⟨g, off, rfl, hg, hc1, hc2⟩ := H1.out j hlt
      have hf := HF.out
      rw [List.drop_eq_getElem_cons hlt, List.find?_cons] at hf
      have q1 := (F.out.cell (p := ⟨g, off + j * 2, none⟩) hg (by simp)).trans hc1
      have q2 := (F.out.cell (p := ⟨g, off + j * 2 + 1, none⟩) hg (by simp)).trans hc2
      clear hc1 hc2
      generalize L[j] = x at *
      obtain ⟨nm, vl⟩ := x
      simp only at q1 q2 hf
      cases he : (nm == n)
      · rw [he] at hf
        have HF2 := hide hf
        clear hf HF
        go_wp2
        go_roundg (gk - 1)
        case measure => omega
        case rel => exact ⟨j + 1, by omega, by go_num, F.out.alloc _, HF2⟩
      · rw [he] at hf
        have HV : Hid (lblV L n = vl) := by show _ = _; unfold lblV; rw [← hf]
        clear hf HF
        go_wp2
        go_ret
        rw [HV.out]
        exact ⟨rfl, F.out.alloc _⟩
    · have HV : Hid (lblV L n = []) := by
        show _ = _
        unfold lblV
        rw [← HF.out, List.drop_eq_nil_of_le (by omega)]
        rfl
      clear HF
      go_wp2
      go_ret
      rw [HV.out]
      exact ⟨rfl, F.out⟩

set_option maxRecDepth 100000 in
set_option maxHeartbeats 1000000 in
theorem isNamed_any (v : Value) (L : List LBL) (n : List UInt8) (w : World) (h : LR w v L) :
    Calls Tryz.prog 22 #[v, .string (bs n)] w fun e w' => e = .returned (.bool (L.any fun x => x.1 == n)) ∧ Frm [] w w' := by
  obtain ⟨a, cap, rfl, h0, h1⟩ := h
  have H1 := hide h1
  have hl := bs_toList
  clear h1
  go_enter Tryz.func22, Tryz.ntmps22
  go_wp2_with fail
  go_loopg [9] L.length (fun k vi wr => ∃ j : Nat, j + k = L.length ∧ vi = .int .i64 j ∧ Frm [] w wr ∧ Hid (((L.drop j).any fun x => x.1 == n) = L.any fun x => x.1 == n))
  case atStart => exact ⟨0, by omega, rfl, Frm.refl _ _, by show _ = _; simp⟩
  case round =>
    obtain ⟨j, hj, rfl, hfr, HF⟩ := hrel
    have F := hide hfr
    clear hfr
    by_cases hlt : j < L.length
    · obtain ⟨g, off, rfl, hg, hc1, hc2⟩ := H1.out j hlt
      have hf := HF.out
      rw [List.drop_eq_getElem_cons hlt, List.any_cons] at hf
      have q1 := (F.out.cell (p := ⟨g, off + j * 2, none⟩) hg (by simp)).trans hc1
      have q2 := (F.out.cell (p := ⟨g, off + j * 2 + 1, none⟩) hg (by simp)).trans hc2
      clear hc1 hc2
      generalize L[j] = x at *
      obtain ⟨nm, vl⟩ := x
      simp only at q1 q2 hf
      cases he : (nm == n)
      · rw [he, Bool.false_or] at hf
        have HF2 := hide hf
        clear hf HF
        go_wp2
        go_roundg (gk - 1)
        case measure => omega
        case rel => exact ⟨j + 1, by omega, by go_num, F.out.alloc _, HF2⟩
      · rw [he, Bool.true_or] at hf
        have HV := hide hf
        clear hf HF
        go_wp2
        go_ret
        rw [← HV.out]
        exact ⟨rfl, F.out.alloc _⟩
    · have HV : Hid ((L.any fun x => x.1 == n) = false) := by
        show _ = _
        rw [← HF.out, List.drop_eq_nil_of_le (by omega)]
        rfl
      clear HF
      go_wp2
      go_ret
      rw [HV.out]
      exact ⟨rfl, F.out⟩
end Go.Proofs.YtmaoiefkjpgjfaaGreat
namespace Go.Proofs.YtmaoiefkjpgjfaaGreat
open Go.RowKit

theorem autT_next {x : AutM} (ok : AutOK x) {s : Nat} (hs : s < x.acc.length) (c : UInt8) : s * x.k + x.cl.getD c.toNat 0 < x.nx.length ∧ x.nx.getD (s * x.k + x.cl.getD c.toNat 0) 0 < x.acc.length := by
  have hc : c.toNat < x.cl.length := by rw [ok.cl]; exact c.toNat_lt
  have h1 : x.cl.getD c.toNat 0 < x.k := ok.cls _ (by simp [List.getD, hc])
  have h2 : s * x.k + x.k ≤ x.acc.length * x.k := by
    have := Nat.mul_le_mul_right x.k (Nat.succ_le_of_lt hs)
    rwa [Nat.succ_mul] at this
  have h3 : s * x.k + x.cl.getD c.toNat 0 < x.nx.length := by rw [ok.nx]; omega
  refine ⟨h3, ok.nxs _ ?_⟩
  have e : x.nx.getD (s * x.k + x.cl.getD c.toNat 0) 0 = x.nx[s * x.k + x.cl.getD c.toNat 0] := by rw [List.getD_eq_getElem?_getD, List.getElem?_eq_getElem h3]; rfl
  rw [e]; exact List.getElem_mem _

set_option maxRecDepth 100000 in
set_option maxHeartbeats 4000000 in
theorem takesM_any (A : List Nat) (w : World) (g o : Nat) (x : AutM) (va vn : Value) (v : List UInt8) (h : AUm w g o x va vn) (ra : RW A 1 w va (bc x.acc)) (rn : RW A 1 w vn (ic x.nx)) (ok : AutOK x) (hv : v.length ≤ 1048576) :
    Calls Tryz.prog 39 #[.pointer (some ⟨g, o, none⟩), .string (bs v)] w fun e w' => e = .returned (.bool (x.acc.getD (autT x 0 v) 0 == 1)) ∧ ∃ q, w' = w.drewN q := by
  obtain ⟨aa, ca, rfl, hra⟩ := ra.bool
  obtain ⟨an, cn, rfl, hrn⟩ := rn.num
  have HU := hide h
  have HRA := hide hra
  have HRN := hide hrn
  have OK := hide ok
  have hsz := bs_size v
  have hk := ok.k2
  have hac := ok.s2
  have hnx : x.nx.length ≤ 10240 := by rw [ok.nx]; exact Nat.le_trans (Nat.mul_le_mul ok.s2 ok.k2) (by decide)
  have hs1 := ok.s1
  clear h hra hrn ra rn ok
  go_enter Tryz.func39, Tryz.ntmps39
  go_wp2_with fail
  go_loopg [5, 6] v.length (fun k v5 v6 wr => ∃ (i s q : Nat), i + k = v.length ∧ v6 = .int .i64 i ∧ v5 = .int .i64 s ∧ s < x.acc.length ∧ Hid (autT x s (v.drop i) = autT x 0 v) ∧ wr = w.drewN q)
  case atStart => exact ⟨0, 0, 0, by omega, rfl, rfl, by omega, rfl, rfl⟩
  case round =>
    obtain ⟨i, s, q, hik, rfl, rfl, hs, HT, hw⟩ := hrel
    subst hw
    by_cases hlt : i < v.length
    · have c0 := HU.out.c0
      have cN := HU.out.cn
      have hbg : (bs v)[i]'(by rw [hsz]; omega) = v[i] := rfl
      obtain ⟨hr, hnext⟩ := autT_next OK.out hs v[i]
      have HT2 : Hid (autT x (x.nx.getD (s * x.k + x.cl.getD v[i].toNat 0) 0) (v.drop (i + 1)) = autT x 0 v) := by
        have h2 := HT.out
        rw [List.drop_eq_getElem_cons hlt, autT] at h2; exact h2
      have hb : v[i].toNat < 256 := v[i].toNat_lt
      have cc := HU.out.cc _ hb
      have hcs : x.cl.getD v[i].toNat 0 < 256 := by
        have hc : v[i].toNat < x.cl.length := by rw [OK.out.cl]; exact hb
        have := OK.out.cls (x.cl.getD v[i].toNat 0) (by simp [List.getD, hc]); omega
      clear HT
      generalize v[i] = y at *
      generalize x.cl.getD y.toNat 0 = m at *
      have hsm : s * x.k ≤ 40 * 256 := Nat.mul_le_mul (by omega) hk
      obtain ⟨p, hp⟩ : ∃ p, p = s * x.k := ⟨_, rfl⟩
      have hpz : (s : Int) * (x.k : Int) = (p : Int) := by rw [hp]; simp
      rw [← hp] at HT2 hsm hr hnext
      clear hp
      obtain ⟨gn, off, rfl, hgn, hcn⟩ := HRN.out (p + m) hr
      have hgd : x.nx.getD (p + m) 0 = x.nx[p + m] := by simp [List.getD, hr]
      rw [hgd] at HT2 hnext
      generalize x.nx[p + m] = z at *
      have hcn2 : ∀ k, (w.drewN k).cell? ⟨gn, off + (p + m), none⟩ = some (.int .i64 (z : Nat)) := fun k => hcn
      have cN2 : ∀ k, (w.drewN k).cell? ⟨g, o + 258, none⟩ = some (.slice (some ⟨gn, off, none⟩) x.nx.length cn) := fun k => cN
      clear hgd
      go_wp2_with fail
      go_quiet (fail)
      go_wp2_with fail
      go_roundg (gk - 1)
      case measure => omega
      case rel => exact ⟨i + 1, z, _, by omega, by go_num, rfl, hnext, HT2, rfl⟩
    · have HT2 : Hid (s = autT x 0 v) := by
        have h2 := HT.out
        rw [List.drop_eq_nil_of_le (by omega), autT] at h2; exact h2
      clear HT
      have cA := HU.out.ca
      obtain ⟨ga, off, rfl, hga, hca⟩ := HRA.out s hs
      have HV : Hid (x.acc.getD (autT x 0 v) 0 = x.acc[s]) := by show _ = _; rw [← HT2.out]; simp [List.getD, hs]
      generalize x.acc[s] = z at *
      go_wp2
      go_ret
      rw [HV.out]
      exact ⟨rfl, q, rfl⟩
end Go.Proofs.YtmaoiefkjpgjfaaGreat
