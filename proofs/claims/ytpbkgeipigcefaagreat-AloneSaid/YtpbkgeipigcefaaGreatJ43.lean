import Derived.Test.YtpbkgeipigcefaaGreatJ39
import Derived.Test.YtpbkgeipigcefaaGreatJ42
import Derived.Test.YtpbkgeipigcefaaGreatJ40
import Derived.Test.YtpbkgeipigcefaaGreatJ2
import Derived.Test.YtpbkgeipigcefaaGreatJ1
import Derived.Test.YtpbkgeipigcefaaGreatJ4
set_option linter.unusedVariables false
set_option linter.unusedSimpArgs false
set_option linter.unnecessarySimpa false
namespace Go.Proofs.YtpbkgeipigcefaaGreat
open Go.RowKit

def takesA (a : AutM) (v : List UInt8) : Bool := a.acc.getD (autT a 0 v) 0 == 1
def mHolds (aut : List UInt8 → AutM) (V : List UInt8 → List UInt8) (m : CM) : Bool :=
  if m.2.1 = 0 then V m.1 == m.2.2 else if m.2.1 = 1 then !(V m.1 == m.2.2) else if m.2.1 = 2 then takesA (aut m.2.2) (V m.1) else !(takesA (aut m.2.2) (V m.1))
def stM (s : CS) (V : List UInt8 → List UInt8) (t : TstM) : Bool :=
  if t.k = 0 then V (s.n.getD t.n []) == s.c.getD t.x [] else takesA (s.a.getD t.x ⟨0, [], [], []⟩) (V (s.n.getD t.n []))
def stT (s : CS) (V : List UInt8 → List UInt8) (x : Nat) : Bool := match s.t[x]? with | some t => stM s V t | none => false
theorem tT_comp (C : List CR) (s : CS) (V : List UInt8 → List UInt8) : tT (compM C s) V = stT s V := rfl
structure CSle (s s' : CS) : Prop where
  n : s.n <+: s'.n
  c : s.c <+: s'.c
  a : s.a <+: s'.a
  t : s.t <+: s'.t
theorem CSle.refl (s : CS) : CSle s s := ⟨List.prefix_refl _, List.prefix_refl _, List.prefix_refl _, List.prefix_refl _⟩
theorem CSle.trans {s s1 s2 : CS} (h : CSle s s1) (k : CSle s1 s2) : CSle s s2 := ⟨h.n.trans k.n, h.c.trans k.c, h.a.trans k.a, h.t.trans k.t⟩
theorem pre_getD {α : Type} {l l' : List α} (h : l <+: l') (d : α) {i : Nat} (hi : i < l.length) : l'.getD i d = l.getD i d := by
  obtain ⟨r, rfl⟩ := h
  simp [List.getD, List.getElem?_append_left hi]
theorem preS_get {α : Type} {l l' : List α} (h : l <+: l') {i : Nat} {x : α} (hi : l[i]? = some x) : l'[i]? = some x := by
  obtain ⟨r, rfl⟩ := h
  rw [List.getElem?_append_left (List.getElem?_eq_some_iff.1 hi).1]; exact hi
theorem stM_le {s s' : CS} (h : CSle s s') (V : List UInt8 → List UInt8) {t : TstM} (ok : TstOK s.n.length s.c.length s.a.length t) : stM s' V t = stM s V t := by
  have hx := ok.x
  unfold stM
  rw [pre_getD h.n [] ok.n]
  by_cases hk : t.k = 0
  · rw [if_neg (by omega)] at hx
    rw [if_pos hk, if_pos hk, pre_getD h.c [] hx]
  · rw [if_pos (by have := ok.k; omega)] at hx
    rw [if_neg hk, if_neg hk, pre_getD h.a _ hx]
theorem addx_pre (L : List (List UInt8)) (x : List UInt8) : L <+: addx L x := by unfold addx; split; exact List.prefix_append _ _; exact List.prefix_refl _
theorem addt_pre (L : List TstM) (x : TstM) : L <+: addt L x := by unfold addt; split; exact List.prefix_append _ _; exact List.prefix_refl _
theorem fdx_get (L : List (List UInt8)) (x : List UInt8) (h : fdx L x < L.length) : L[fdx L x] = x := by
  have := List.findIdx_getElem (p := (· == x)) (xs := L) (w := h)
  exact eq_of_beq this
theorem addx_get (L : List (List UInt8)) (x : List UInt8) : (addx L x)[fdx L x]? = some x := by
  unfold addx
  split
  · rename_i h; rw [h]; simp
  · rename_i h
    have h1 := fdx_le L x
    have h2 : fdx L x < L.length := by omega
    rw [List.getElem?_eq_getElem h2, fdx_get L x h2]
theorem addt_get (L : List TstM) (x : TstM) : (addt L x)[fdt L x]? = some x := by
  unfold addt
  split
  · rename_i h; rw [h]; simp
  · rename_i h
    have h1 := fdt_le L x
    have h2 : fdt L x < L.length := by omega
    have h3 := List.findIdx_getElem (p := (tEq · x)) (xs := L) (w := h2)
    rw [List.getElem?_eq_getElem h2]
    have h4 : tEq L[fdt L x] x = true := h3
    generalize L[fdt L x] = y at *
    obtain ⟨a, b, c⟩ := y
    obtain ⟨d, e, f⟩ := x
    simp [tEq] at h4
    simp [h4]
theorem getD_ofS {α : Type} {l : List α} {i : Nat} {x d : α} (h : l[i]? = some x) : l.getD i d = x := by simp [List.getD, h]
def XA (aut : List UInt8 → AutM) (s : CS) : Prop := ∀ (i : Nat) (v : List UInt8), s.x[i]? = some v → s.a[i]? = some (aut v)
def bHolds (aut : List UInt8 → AutM) (V : List UInt8 → List UInt8) (m : CM) : Bool := if m.2.1 = 2 ∨ m.2.1 = 3 then takesA (aut m.2.2) (V m.1) else V m.1 == m.2.2
theorem mHolds_b (aut : List UInt8 → AutM) (V : List UInt8 → List UInt8) {m : CM} (hm : m.2.1 ≤ 3) : mHolds aut V m = (bHolds aut V m == cholds m) := by
  obtain ⟨n, k, v⟩ := m
  simp only at hm
  rcases (show k = 0 ∨ k = 1 ∨ k = 2 ∨ k = 3 by omega) with rfl | rfl | rfl | rfl <;> simp [mHolds, bHolds, cholds]
theorem ptest_run {re : List UInt8 → Nat} {aut : List UInt8 → AutM} {s s1 : CS} {t : TstM} (h : CSok s) (hxa : XA aut s) {m : CM} (he : ptest re aut s m = some (t, s1)) (V : List UInt8 → List UInt8) :
    CSle s s1 ∧ XA aut s1 ∧ stM s1 V t = bHolds aut V m := by
  unfold ptest at he
  have hn := getD_ofS (d := []) (addx_get s.n m.1)
  split at he
  · rename_i hk
    split at he
    · rename_i hx
      cases he
      refine ⟨⟨addx_pre _ _, List.prefix_refl _, List.prefix_refl _, List.prefix_refl _⟩, hxa, ?_⟩
      have ha := hxa (fdx s.x m.2.2) m.2.2 (by rw [List.getElem?_eq_getElem hx, fdx_get _ _ hx])
      unfold stM bHolds
      rw [if_neg (by simp), if_pos hk]
      simp only
      rw [hn, getD_ofS ha]
    · rename_i hx
      split at he
      · cases he
        have hl : fdx s.x m.2.2 = s.x.length := by have := fdx_le s.x m.2.2; omega
        have hxa2 : XA aut { s with n := addx s.n m.1, x := s.x ++ [m.2.2], a := s.a ++ [aut m.2.2] } := by
          intro i v hi
          simp only at hi ⊢
          by_cases h1 : i < s.x.length
          · rw [List.getElem?_append_left h1] at hi
            rw [List.getElem?_append_left (by rw [← h.xa]; exact h1)]
            exact hxa i v hi
          · have h2 : i = s.x.length := by
              have := (List.getElem?_eq_some_iff.1 hi).1
              simp at this; omega
            subst h2
            simp at hi
            subst hi
            rw [h.xa]; simp
        refine ⟨⟨addx_pre _ _, List.prefix_refl _, List.prefix_append _ _, List.prefix_refl _⟩, hxa2, ?_⟩
        have ha : (s.a ++ [aut m.2.2])[fdx s.x m.2.2]? = some (aut m.2.2) := by rw [hl, h.xa]; simp
        unfold stM bHolds
        rw [if_neg (by simp), if_pos hk]
        simp only
        rw [hn, getD_ofS ha]
      · cases he
  · rename_i hk
    cases he
    refine ⟨⟨addx_pre _ _, addx_pre _ _, List.prefix_refl _, List.prefix_refl _⟩, hxa, ?_⟩
    unfold stM bHolds
    rw [if_pos rfl, if_neg hk]
    simp only
    rw [hn, getD_ofS (addx_get s.c m.2.2)]
theorem pmat_run {re : List UInt8 → Nat} {aut : List UInt8 → AutM} (ha : ∀ v, re v = 0 → AutOK (aut v)) (V : List UInt8 → List UInt8) : ∀ (M : List CM) (s : CS) (acc : List (Nat × Bool)) {l : List (Nat × Bool)} {s1 : CS}, CSok s → XA aut s → (∀ m ∈ M, GoodM m) → pmat re aut s acc M = .ok (l, s1) →
    CSle s s1 ∧ XA aut s1 ∧ ∃ l', l = acc ++ l' ∧ ∀ s', CSle s1 s' → allT (stT s' V) l' = M.all (mHolds aut V)
  | [], s, acc, l, s1, h, hx, _, e => by
    rw [pmat] at e
    cases e
    exact ⟨CSle.refl _, hx, [], by simp, fun s' _ => rfl⟩
  | m :: r, s, acc, l, s1, h, hx, hM, e => by
    rw [pmat] at e
    split at e
    · cases e
    · rename_i t s2 ht
      obtain ⟨g1, g2, g3⟩ := ptest_ok ha h (hM m (by simp)) ht
      obtain ⟨r1, r2, r3⟩ := ptest_run h hx ht V
      have le2 : CSle s2 { s2 with t := addt s2.t t } := ⟨List.prefix_refl _, List.prefix_refl _, List.prefix_refl _, addt_pre _ _⟩
      obtain ⟨k1, k2, l', k3, k4⟩ := pmat_run ha V r _ _ g1 r2 (fun x hx => hM x (by simp [hx])) e
      refine ⟨(r1.trans le2).trans k1, k2, (fdt s2.t t, cholds m) :: l', by rw [k3]; simp, fun s' hs' => ?_⟩
      have htg := addt_get s2.t t
      have hts : s'.t[fdt s2.t t]? = some t := preS_get hs'.t (preS_get k1.t htg)
      have ok : TstOK s2.n.length s2.c.length s2.a.length t := g1.t t (List.mem_of_getElem? htg)
      have e1 : stT s' V (fdt s2.t t) = bHolds aut V m := by
        unfold stT
        rw [hts]
        simp only
        rw [stM_le ((le2.trans k1).trans hs') V ok, r3]
      show (stT s' V (fdt s2.t t) == cholds m && allT (stT s' V) l') = _
      rw [k4 s' hs', e1, List.all_cons, mHolds_b aut V (hM m (by simp)).kind]
theorem pread_run {re : List UInt8 → Nat} {aut : List UInt8 → AutM} (ha : ∀ v, re v = 0 → AutOK (aut v)) (V : List UInt8 → List UInt8) : ∀ (C : List CR) (s : CS) (i : Nat) {s1 : CS}, CSok s → XA aut s → (∀ c ∈ C, GoodCR c) → pread re aut s i C = .ok s1 →
    CSle s s1 ∧ s.q <+: s1.q ∧ ∀ (j : Nat) (c : CR), C[j]? = some c → ∀ s', CSle s1 s' → allT (stT s' V) (s1.q.getD (s.q.length + j) []) = c.ifs.all (mHolds aut V)
  | [], s, i, s1, h, hx, _, e => by
    rw [pread] at e
    cases e
    exact ⟨CSle.refl _, List.prefix_refl _, fun j c hj => by simp at hj⟩
  | c :: r, s, i, s1, h, hx, hC, e => by
    rw [pread] at e
    have hc := hC c (by simp)
    split at e
    · cases e
    · rename_i l s2 hl
      obtain ⟨g1, g2, g3⟩ := pmat_ok ha c.ifs s [] h hc.ifs (by simp) hl
      obtain ⟨r1, r2, l', r3, r4⟩ := pmat_run ha V c.ifs s [] h hx hc.ifs hl
      have hq := pmat_tge c.ifs s [] hl
      have hil := hc.ifl
      simp at g3 r3
      subst r3
      obtain ⟨k1, k2, k3⟩ := pread_run ha V r { s2 with q := s2.q ++ [l] } (i + 1) ⟨g1.n, g1.c, g1.a, g1.xa, g1.t, fun x hx => by
        rcases List.mem_append.1 hx with e1 | e1
        · exact g1.q x e1
        · rw [List.mem_singleton.1 e1]; exact g2, fun x hx => by
        rcases List.mem_append.1 hx with e1 | e1
        · exact g1.ql x e1
        · rw [List.mem_singleton.1 e1]; omega⟩ r2 (fun x hx => hC x (by simp [hx])) e
      have le2 : CSle s2 { s2 with q := s2.q ++ [l] } := ⟨List.prefix_refl _, List.prefix_refl _, List.prefix_refl _, List.prefix_refl _⟩
      simp only [hq] at k2 k3
      refine ⟨(r1.trans le2).trans k1, (List.prefix_append _ _).trans k2, fun j c' hj s' hs' => ?_⟩
      cases j with
      | zero =>
        simp at hj
        subst hj
        have : s1.q[s.q.length + 0]? = some l := preS_get k2 (by simp)
        rw [getD_ofS this]
        exact r4 s' ((le2.trans k1).trans hs')
      | succ j =>
        have := k3 j c' (by simpa using hj) s' hs'
        rw [List.length_append, List.length_singleton] at this
        rw [show s.q.length + (j + 1) = s.q.length + 1 + j by omega]
        exact this
def hold (aut : List UInt8 → AutM) (V : List UInt8 → List UInt8) (C : List CR) (c : Nat) : Bool := match C[c]? with | some x => x.ifs.all (mHolds aut V) | none => false
def walkH (H : Nat → Bool) (C : List CR) (S : Nat → List Nat) : List Nat → List Nat
  | [] => []
  | c :: r => if H c then S c ++ (if (C[c]?.map (·.co)) = some true then walkH H C S r else []) else walkH H C S r
def sentH (H : Nat → Bool) (C : List CR) : Nat → Nat → List Nat
  | 0, _ => []
  | f + 1, r => if (kids C r).any H then walkH H C (sentH H C f) (kids C r) else [r]
theorem walkK_H {T : Nat → Bool} {C : List CR} {q : List (List (Nat × Bool))} {H : Nat → Bool} {S S' : Nat → List Nat} : ∀ K : List Nat, (∀ c ∈ K, allT T (q.getD c []) = H c ∧ S c = S' c) → walkK T C q S K = walkH H C S' K
  | [], _ => rfl
  | c :: r, h => by
    rw [walkK, walkH, (h c (by simp)).1, (h c (by simp)).2, walkK_H r (fun x hx => h x (by simp [hx]))]
theorem sent_H {T : Nat → Bool} {C : List CR} {q : List (List (Nat × Bool))} {H : Nat → Bool} (h : ∀ c, c < C.length → allT T (q.getD c []) = H c) : ∀ f r, sent T C q f r = sentH H C f r
  | 0, _ => rfl
  | f + 1, r => by
    have hk : ∀ c ∈ kids C r, allT T (q.getD c []) = H c ∧ sent T C q f c = sentH H C f c := fun c hc => ⟨h c (mem_kids' hc).1, sent_H h f c⟩
    rw [sent, sentH, walkK_H _ hk]
    have : (kids C r).any (fun c => allT T (q.getD c [])) = (kids C r).any H := by
      rw [Bool.eq_iff_iff, List.any_eq_true, List.any_eq_true]
      constructor
      · rintro ⟨x, hx, e⟩; exact ⟨x, hx, by rw [← (hk x hx).1]; exact e⟩
      · rintro ⟨x, hx, e⟩; exact ⟨x, hx, by rw [(hk x hx).1]; exact e⟩
    rw [this]
theorem run_comp {re : List UInt8 → Nat} {aut : List UInt8 → AutM} (ha : ∀ v, re v = 0 → AutOK (aut v)) {t : List UInt8} {L : List (List UInt8)} {C : List CR} {s : CS} (ht : t.length ≤ 1048576) (h : cRead t = .ok (L, C)) (hp : pread re aut cs0 0 C = .ok s) (V : List UInt8 → List UInt8) :
    runM (compM C s) V (compM C s).code.length 0 = sentH (hold aut V C) C 6 0 := by
  obtain ⟨h1, h2, h3, h4⟩ := cRead_tree h
  have hg := (cRead1_good t L C ht h1).2.2
  have ok0 : CSok cs0 := ⟨by simp [cs0], by simp [cs0], by simp [cs0], rfl, by simp [cs0], by simp [cs0], by simp [cs0]⟩
  obtain ⟨k1, k2, k3⟩ := pread_ok ha C cs0 0 0 ok0 ⟨by simp [cs0], by simp [cs0], by simp [cs0], by simp [cs0], by simp [cs0]⟩ hg hp
  obtain ⟨_, _, p3⟩ := pread_run ha V C cs0 0 ok0 (fun i v hi => by simp [cs0] at hi) hg hp
  have hne : C.isEmpty = false := by cases C with | nil => simp at h2 | cons => rfl
  have hg0 : GL [⟨0, 0, 0, 0⟩] := by
    intro i hi
    simp at hi
    subst hi
    exact .inl rfl
  obtain ⟨r1, r2, r3⟩ := layR_good C s.q 6 0 0 [⟨0, 0, 0, 0⟩] hg0 (by simp)
  have r4 := layR_gx C (nt := s.t.length) k1.q 6 0 0 [⟨0, 0, 0, 0⟩] h2 (by intro x hx; rw [List.mem_singleton.1 hx]; exact .inl ⟨rfl, rfl, rfl, rfl⟩)
  have e1 : (compM C s).code = turnM (layR C s.q 6 0 0 [⟨0, 0, 0, 0⟩]).2 (layR C s.q 6 0 0 [⟨0, 0, 0, 0⟩]).1 := by
    show codeM C s.q = _
    unfold codeM
    rw [hne]; rfl
  rw [turn_run (m := compM C s) r1 (nr := C.length) r4 _ r2 e1 V, (layR_run _ C s.q 6 0 0 [⟨0, 0, 0, 0⟩] hg0 (by simp)).2, tT_comp]
  have : rl (stT s V) [(⟨0, 0, 0, 0⟩ : InM)] 0 = [] := rfl
  rw [this, List.append_nil]
  refine sent_H (fun c hc => ?_) 6 0
  have := p3 c C[c] (List.getElem?_eq_getElem hc) s (CSle.refl _)
  unfold hold
  rw [List.getElem?_eq_getElem hc]
  rw [show cs0.q.length + c = c from Nat.zero_add c] at this
  exact this
end Go.Proofs.YtpbkgeipigcefaaGreat

namespace Go.Proofs.YtpbkgeipigcefaaGreat
open Go.RowKit

def hitsC (C : List CR) (V : List UInt8 → List UInt8) : List HitM := (sentH (hold autC V C) C 6 0).map fun i => (hitsN C C.length).getD i ⟨[], [], 0, 0, 0⟩
theorem hitsA_comp {t : List UInt8} {L : List (List UInt8)} {C : List CR} {s : CS} (ht : t.length ≤ 1048576) (h : cRead t = .ok (L, C)) (hp : pread reC autC cs0 0 C = .ok s) (A : List LBL) : hitsA (compM C s) A = hitsC C (lblV A) := by
  unfold hitsA
  rw [run_comp autC_ok ht h hp (lblV A)]
  rfl
end Go.Proofs.YtpbkgeipigcefaaGreat

namespace Go.Proofs.YtpbkgeipigcefaaGreat
open Go.RowKit

end Go.Proofs.YtpbkgeipigcefaaGreat

namespace Go.Proofs.YtpbkgeipigcefaaGreat
open Go.RowKit

end Go.Proofs.YtpbkgeipigcefaaGreat

namespace Go.Proofs.YtpbkgeipigcefaaGreat
open Go.RowKit

theorem bl_lt : ∀ (x y : List UInt8), Op.bytesLess x y = decide (x < y) := by
  intro x
  induction x with
  | nil => intro y; cases y <;> simp [Op.bytesLess]
  | cons a x ih =>
    intro y
    cases y with
    | nil => simp [Op.bytesLess]
    | cons b y =>
      rw [Op.bytesLess, ih y, Bool.eq_iff_iff]
      simp only [List.cons_lt_cons_iff, Bool.or_eq_true, Bool.and_eq_true, decide_eq_true_eq, beq_iff_eq]
def ins (n : List UInt8) : List (List UInt8) → List (List UInt8)
  | [] => [n]
  | x :: L => if n < x then n :: x :: L else x :: ins n L
theorem ins_mem (n : List UInt8) : ∀ (A : List (List UInt8)) (x : List UInt8), x ∈ ins n A → x = n ∨ x ∈ A
  | [], x, h => by simp [ins] at h; exact .inl h
  | y :: A, x, h => by
    unfold ins at h
    by_cases hy : n < y
    · rw [if_pos hy] at h
      rw [List.mem_cons] at h; exact h
    · rw [if_neg hy] at h
      rw [List.mem_cons] at h
      rcases h with h | h
      · exact .inr (by simp [h])
      · rcases ins_mem n A x h with h | h
        · exact .inl h
        · exact .inr (by simp [h])
def Asc (A : List (List UInt8)) : Prop := A.Pairwise (fun x y => x < y)
theorem tri (x y : List UInt8) (h1 : ¬ x < y) (h2 : x ≠ y) : y < x := by
  have h3 : y ≤ x := List.not_lt.1 h1
  apply Classical.byContradiction
  intro h4
  exact h2 (List.le_antisymm (List.not_lt.1 h4) h3)
theorem ins_asc (n : List UInt8) : ∀ (A : List (List UInt8)), Asc A → n ∉ A → Asc (ins n A)
  | [], _, _ => by simp [ins, Asc]
  | x :: A, h, hn => by
    unfold Asc at h
    rw [List.pairwise_cons] at h
    unfold ins
    by_cases hx : n < x
    · rw [if_pos hx]
      refine List.pairwise_cons.2 ⟨fun y hy => ?_, List.pairwise_cons.2 h⟩
      rw [List.mem_cons] at hy
      rcases hy with rfl | hy
      · exact hx
      · exact List.lt_trans hx (h.1 y hy)
    · rw [if_neg hx]
      refine List.pairwise_cons.2 ⟨fun y hy => ?_, ins_asc n A h.2 (fun hm => hn (by simp [hm]))⟩
      rcases ins_mem n A y hy with rfl | hy
      · exact tri _ _ hx (fun e => hn (by simp [e]))
      · exact h.1 y hy
end Go.Proofs.YtpbkgeipigcefaaGreat

namespace Go.Proofs.YtpbkgeipigcefaaGreat
open Go.RowKit

theorem wnGo_true (n : List UInt8) : ∀ (L a : List (List UInt8)), wnGo n L (a, true) = (a ++ L, true)
  | [], a => by simp [wnGo]
  | x :: L, a => by unfold wnGo; simp only [Bool.not_true, Bool.false_and]; rw [if_neg (by simp), wnGo_true n L]; simp
theorem wnGo_false (n : List UInt8) : ∀ (L a : List (List UInt8)), (if (wnGo n L (a, false)).2 then (wnGo n L (a, false)).1 else (wnGo n L (a, false)).1 ++ [n]) = a ++ ins n L
  | [], a => by simp [wnGo, ins]
  | x :: L, a => by
    have e : wnGo n (x :: L) (a, false) = wnGo n L (if n < x then (a ++ [n] ++ [x], true) else (a ++ [x], false)) := by
      conv => lhs; unfold wnGo
      rw [bl_lt]; simp
    rw [e]
    unfold ins
    by_cases h : n < x
    · simp only [if_pos h]; rw [wnGo_true]; simp
    · simp only [if_neg h]
      have := wnGo_false n L (a ++ [x])
      rw [this]; simp
theorem withN_ins (L : List (List UInt8)) (n : List UInt8) : withN L n = ins n L := by
  have := wnGo_false n L []
  unfold withN; rw [this]; rfl
theorem rise_asc : ∀ (L acc : List (List UInt8)), Asc acc → Asc (L.foldl rise1 acc)
  | [], acc, h => h
  | n :: L, acc, h => by
    simp only [List.foldl_cons]
    refine rise_asc L _ ?_
    unfold rise1
    by_cases hc : acc.contains n = true
    · rw [if_pos hc]; exact h
    · rw [if_neg hc, withN_ins]
      exact ins_asc n acc h (fun hm => hc (by simpa using hm))
end Go.Proofs.YtpbkgeipigcefaaGreat

namespace Go.Proofs.YtpbkgeipigcefaaGreat
open Go.RowKit

/-! Lines: a text that is read, line by line. -/
theorem mapM_cons' {α β : Type} (f : α → Option β) (a : α) (l : List α) : (a :: l).mapM f = match f a with | none => none | some b => match l.mapM f with | none => none | some bs => some (b :: bs) := by
  rw [List.mapM_cons]
  cases f a with
  | none => rfl
  | some b => cases l.mapM f <;> rfl
def rtL (l : List UInt8) : Option CR := sRoute l.dropLast
theorem rl2 : ∀ (t : List UInt8) (ln : Nat) (cur : List UInt8) (R : List (List UInt8)) (C : List CR) (R' : List (List UInt8)) (C' : List CR), 2 ≤ ln →
    (rlGo t ln cur R C = .ok (R', C') ↔ R' = R ∧ (lnsGo t cur).flatten = cur ++ t ∧ ∃ Cs, (lnsGo t cur).mapM rtL = some Cs ∧ C' = C ++ Cs)
  | [], ln, cur, R, C, R', C', h => by
    rw [rlGo, lnsGo]
    have : (ln == 1) = false := by simp; omega
    rw [this, Bool.or_false]
    cases cur with
    | nil =>
      simp
      constructor
      · rintro ⟨rfl, rfl⟩; exact ⟨rfl, rfl⟩
      · rintro ⟨rfl, rfl⟩; exact ⟨rfl, rfl⟩
    | cons c r => simp
  | c :: r, ln, cur, R, C, R', C', h => by
    rw [rlGo, lnsGo]
    by_cases hc : c = 10
    · subst hc
      have : (ln == 1) = false := by simp; omega
      simp only [beq_self_eq_true, if_true, this, Bool.false_eq_true, if_false]
      rw [mapM_cons']
      have hrt : rtL (cur ++ [10]) = sRoute cur := by unfold rtL; rw [List.dropLast_concat]
      rw [hrt]
      cases hs : sRoute cur with
      | none => simp
      | some x =>
        simp only
        rw [rl2 r (ln + 1) [] R (C ++ [x]) R' C' (by omega)]
        simp only [List.flatten_cons, List.append_assoc, List.nil_append, List.append_cancel_left_eq]
        constructor
        · rintro ⟨h1, h2, Cs, h3, h4⟩
          refine ⟨h1, by rw [h2]; rfl, x :: Cs, by rw [h3], by rw [h4]; rfl⟩
        · rintro ⟨h1, h2, Cs, h3, h4⟩
          refine ⟨h1, by simpa using h2, ?_⟩
          cases hm : (lnsGo r []).mapM rtL with
          | none => rw [hm] at h3; cases h3
          | some Ds => rw [hm] at h3; cases h3; exact ⟨Ds, rfl, h4⟩
    · have hc' : (c == 10) = false := by simpa using hc
      rw [hc']
      simp only [Bool.false_eq_true, if_false]
      rw [rl2 r ln (cur ++ [c]) R C R' C' h]
      simp
theorem rl1 : ∀ (t cur : List UInt8) (R : List (List UInt8)) (C : List CR) (R' : List (List UInt8)) (C' : List CR),
    (rlGo t 1 cur R C = .ok (R', C') ↔ (lnsGo t cur).flatten = cur ++ t ∧ ∃ l0 ls Cs, lnsGo t cur = l0 :: ls ∧ sRecvs l0.dropLast = some R' ∧ ls.mapM rtL = some Cs ∧ C' = C ++ Cs)
  | [], cur, R, C, R', C' => by
    rw [rlGo, lnsGo]
    simp
  | c :: r, cur, R, C, R', C' => by
    rw [rlGo, lnsGo]
    by_cases hc : c = 10
    · subst hc
      simp only [beq_self_eq_true, if_true]
      constructor
      · intro h
        cases hs : sRecvs cur with
        | none => rw [hs] at h; cases h
        | some R1 =>
          rw [hs] at h
          obtain ⟨h1, h2, Cs, h3, h4⟩ := (rl2 r 2 [] R1 C R' C' (by omega)).1 h
          refine ⟨by simp [h2], cur ++ [10], lnsGo r [], Cs, rfl, by rw [List.dropLast_concat, hs, h1], h3, h4⟩
      · rintro ⟨h1, l0, ls, Cs, h2, h3, h4, h5⟩
        cases h2
        rw [List.dropLast_concat] at h3
        rw [h3]
        exact (rl2 r 2 [] R' C R' C' (by omega)).2 ⟨rfl, by simpa using h1, Cs, h4, h5⟩
    · have hc' : (c == 10) = false := by simpa using hc
      rw [hc']
      simp only [Bool.false_eq_true, if_false]
      rw [rl1 r (cur ++ [c]) R C R' C']
      simp
theorem cRead1_lines (t : List UInt8) (L : List (List UInt8)) (C : List CR) : cRead1 t = .ok (L, C) ↔ (lnsK t).flatten = t ∧ ∃ l0 ls, lnsK t = l0 :: ls ∧ sRecvs l0.dropLast = some L ∧ ls.mapM rtL = some C := by
  unfold cRead1 lnsK
  rw [rl1]
  simp only [List.nil_append]
  constructor
  · rintro ⟨h1, l0, ls, Cs, h2, h3, h4, rfl⟩; exact ⟨h1, l0, ls, h2, h3, h4⟩
  · rintro ⟨h1, l0, ls, h2, h3, h4⟩; exact ⟨h1, l0, ls, C, h2, h3, h4, rfl⟩
theorem mapM_len {α β : Type} (f : α → Option β) : ∀ (l : List α) (m : List β), l.mapM f = some m → m.length = l.length
  | [], m, h => by simp at h; subst h; rfl
  | a :: l, m, h => by
    rw [mapM_cons'] at h
    split at h
    · cases h
    · split at h
      · cases h
      · rename_i bs hb
        cases h
        simp [mapM_len f l bs hb]
theorem lns_end : ∀ (t cur : List UInt8), ∀ l ∈ lnsGo t cur, ∃ x, l = x ++ [10]
  | [], cur, l, h => by simp [lnsGo] at h
  | c :: r, cur, l, h => by
    rw [lnsGo] at h
    split at h
    · rcases List.mem_cons.1 h with rfl | h
      · exact ⟨cur, rfl⟩
      · exact lns_end r [] l h
    · exact lns_end r _ l h
/-! The first line: the receivers. -/
theorem take_drop_while (p : UInt8 → Bool) (l : List UInt8) : l.takeWhile p ++ l.dropWhile p = l := List.takeWhile_append_dropWhile
theorem recL_text : ∀ (k : Nat) (acc : List (List UInt8)) (l : List UInt8) (L : List (List UInt8)), recL k acc l = some L → ∃ M, L = acc ++ M ∧ l = M.flatMap fun n => 32 :: n
  | 0, acc, l, L, h => by simp [recL] at h
  | k + 1, acc, l, L, h => by
    unfold recL at h
    split at h
    · rename_i h1
      dsimp only at h
      split at h
      · cases h
      · obtain ⟨M, e1, e2⟩ := recL_text k _ _ L h
        refine ⟨(sRest [32] l).takeWhile nmB :: M, by rw [e1]; simp, ?_⟩
        have hl : l = 32 :: sRest [32] l := by
          cases l with
          | nil => simp [sTake] at h1
          | cons c r =>
            simp [sTake] at h1
            subst h1
            simp [sRest]
        rw [List.flatMap_cons, ← e2, List.cons_append, take_drop_while]
        exact hl
    · split at h
      · rename_i h2
        cases h
        simp at h2
        exact ⟨[], by simp, by simp [h2.2]⟩
      · cases h
theorem sRecvs_text {l : List UInt8} {L : List (List UInt8)} (h : sRecvs l = some L) : l = kRecv ++ L.flatMap fun n => 32 :: n := by
  unfold sRecvs at h
  split at h
  · rename_i h1
    obtain ⟨M, e1, e2⟩ := recL_text _ _ _ _ h
    rw [List.nil_append] at e1
    subst e1
    unfold sTake at h1
    unfold sRest at e2
    rw [if_pos h1] at e2
    rw [← e2]
    obtain ⟨r, hr⟩ := List.isPrefixOf_iff_prefix.1 h1
    rw [← hr]; simp
  · cases h
theorem nameGo_ok {L : List (List UInt8)} : ∀ (C : List CR) (i : Nat), nameGo L C i = 0 → ∀ c ∈ C, c.rc = [45] ∨ c.rc ∈ L
  | [], i, _, c, h => by simp at h
  | x :: r, i, h, c, hc => by
    rw [nameGo] at h
    split at h
    · cases h
    · rename_i h1
      rcases List.mem_cons.1 hc with rfl | hc
      · by_cases e : c.rc = [45]
        · exact .inl e
        · right
          have e' : (c.rc == [45]) = false := by simpa using e
          rw [e'] at h1
          simpa using h1
      · exact nameGo_ok r (i + 1) h c hc
theorem cRead_names {t : List UInt8} {L : List (List UInt8)} {C : List CR} (h : cRead t = .ok (L, C)) : nameF L C = 0 := by
  unfold cRead at h
  split at h
  · cases h
  · split at h
    · cases h
    · split at h
      · cases h
      · split at h
        · cases h
        · rename_i h1
          cases h
          omega
theorem sBy_asc (l : List UInt8) : Asc (sBy l).names := by
  unfold sBy
  split
  · dsimp only
    split
    · exact List.Pairwise.nil
    · exact rise_asc _ [] List.Pairwise.nil
  · exact List.Pairwise.nil
theorem rtL_asc {l : List UInt8} {c : CR} (h : rtL l = some c) : Asc c.bys := by
  obtain ⟨_, _, _, _, _, _, rfl⟩ := sRoute_some _ _ h
  exact sBy_asc _
theorem mapM_mem {α β : Type} (f : α → Option β) : ∀ (l : List α) (m : List β), l.mapM f = some m → ∀ b ∈ m, ∃ a ∈ l, f a = some b
  | [], m, h, b, hb => by simp at h; subst h; simp at hb
  | a :: l, m, h, b, hb => by
    rw [mapM_cons'] at h
    split at h
    · cases h
    · rename_i x hx
      split at h
      · cases h
      · rename_i bs hbs
        cases h
        rcases List.mem_cons.1 hb with rfl | hb
        · exact ⟨a, by simp, hx⟩
        · obtain ⟨y, hy, hf⟩ := mapM_mem f l bs hbs b hb
          exact ⟨y, by simp [hy], hf⟩
structure HitG (L : List (List UInt8)) (h : HitM) : Prop where
  rc : h.rc ∈ L
  bl : Asc h.bl
theorem hitsN_g {L : List (List UInt8)} {C : List CR} (hs : Steps C) (hn : ∀ c ∈ C, c.rc = [45] ∨ c.rc ∈ L) (ha : ∀ c ∈ C, Asc c.bys) : ∀ i, i ≤ C.length → ∀ h ∈ hitsN C i, HitG L h
  | 0, _ => by simp [hitsN]
  | i + 1, hi => by
    intro h hh
    rw [hitsN] at hh
    have ih := hitsN_g hs hn ha i (by omega)
    rcases List.mem_append.1 hh with e | e
    · exact ih h e
    · rw [List.getElem?_eq_getElem (by omega)] at e
      have e := List.mem_singleton.1 e
      subst e
      have hc := hn C[i] (List.getElem_mem _)
      have hb := ha C[i] (List.getElem_mem _)
      have key : ∀ ab : HitM, (C[i].rc = [45] → ab.rc ∈ L) → Asc ab.bl → HitG L (hitB ab C[i]) := by
        intro ab h1 h2
        refine ⟨?_, ?_⟩
        · show (if C[i].rc == [45] then ab.rc else C[i].rc) ∈ L
          by_cases e : C[i].rc = [45]
          · rw [if_pos (by simp [e])]; exact h1 e
          · rw [if_neg (by simp [e])]; exact hc.resolve_left e
        · show Asc (if C[i].tb then C[i].bys else ab.bl)
          split
          · exact hb
          · exact h2
      cases i with
      | zero =>
        have h0 := (hs.1 C[0] (List.getElem?_eq_getElem (by omega))).2
        refine key _ (fun e => absurd e h0) ?_
        unfold aboveH
        have : par C 0 = none := by
          cases hp : par C 0 with
          | none => rfl
          | some p => exact absurd (par_lt hp) (by omega)
        rw [this]
        exact List.Pairwise.nil
      | succ i =>
        obtain ⟨p, hp⟩ := par_of hs i (by omega)
        have hpl := par_lt hp
        have hm : aboveH C (hitsN C (i + 1)) (i + 1) ∈ hitsN C (i + 1) := by
          unfold aboveH
          rw [hp]
          simp only
          rw [List.getD_eq_getElem?_getD, List.getElem?_eq_getElem (by rw [hitsN_len]; exact hpl)]
          exact List.getElem_mem _
        have ho := ih _ hm
        exact key _ (fun _ => ho.rc) ho.bl
end Go.Proofs.YtpbkgeipigcefaaGreat

namespace Go.Proofs.YtpbkgeipigcefaaGreat
open Go.RowKit

set_option maxRecDepth 100000 in
set_option maxHeartbeats 2000000 in
theorem kgood_any (w : World) (pb : Nat) (V : V6) (m : Mach) (h : PR [] w pb V m) (ok : MOK m) (a : Option Addr) (k cap : Nat) (L : List LBL) (hL : LR w (.slice a k cap) L) (hv : LV L) (hcap : L.length ≤ cap) :
    Calls Tryz.prog 31 #[.pointer (some ⟨pb, 0, none⟩), .slice a k cap] w fun e w' => e = .returned (.bool (labsOK L)) ∧ Frm [] w w' := by
  have N1 := hide (route_any w pb V m h ok a k cap L hL hv hcap)
  clear h ok hL hv
  go_enter Tryz.func31, Tryz.ntmps31
  go_wp2_with fail
  refine (N1.out).mono ?_
  clear N1
  rintro e w1 ⟨hF, ⟨hl, rfl⟩ | ⟨hl, vh, rfl, hH⟩⟩
  · have F := hide hF
    have HL := hide hl
    clear hF hl
    go_wp2
    go_ret
    exact ⟨by rw [HL.out]; rfl, F.out⟩
  · have F := hide hF
    have HL := hide hl
    obtain ⟨ah, ch, rfl, _, _⟩ := hH
    clear hF hl
    go_wp2
    go_ret
    exact ⟨by rw [HL.out]; rfl, F.out⟩

theorem recL_ne : ∀ (k : Nat) (acc : List (List UInt8)) (l : List UInt8) (L : List (List UInt8)), recL k acc l = some L → L ≠ []
  | 0, acc, l, L, h => by simp [recL] at h
  | k + 1, acc, l, L, h => by
    unfold recL at h
    split at h
    · dsimp only at h
      split at h
      · cases h
      · exact recL_ne k _ _ L h
    · split at h
      · rename_i h2
        cases h
        simp at h2
        exact List.length_pos_iff.1 h2.1
      · cases h
theorem nm_not {n : List UInt8} (h : isNameL n = true) : ∀ c ∈ n, c ≠ 32 ∧ c ≠ 10 := by
  intro c hc
  unfold isNameL at h
  rw [Bool.and_eq_true] at h
  have h2 := List.all_eq_true.1 h.2 c hc
  constructor
  · rintro rfl; revert h2; decide
  · rintro rfl; revert h2; decide
theorem first_line {t : List UInt8} {Ln : List (List UInt8)} {C : List CR} (ht : t.length ≤ 1048576) (h : cRead1 t = .ok (Ln, C)) : ∃ n M l0 ls c r, Ln = n :: M ∧ lnsK t = l0 :: ls ∧ l0 = kRecv ++ 32 :: (n ++ c :: r) ∧ (c = 32 ∨ c = 10) ∧ isNameL n = true ∧ ls.mapM rtL = some C ∧ l0 = kRecv ++ (Ln.flatMap fun n => 32 :: n) ++ [10] := by
  obtain ⟨_, l0, ls, e1, e2, e3⟩ := (cRead1_lines t Ln C).1 h
  have hg := (cRead1_good t Ln C ht h).1
  obtain ⟨x0, hx0⟩ := lns_end t [] l0 (by show l0 ∈ lnsK t; rw [e1]; simp)
  have hrt := sRecvs_text e2
  rw [hx0, List.dropLast_concat] at hrt
  have hne : Ln ≠ [] := by
    unfold sRecvs at e2
    split at e2
    · exact recL_ne _ _ _ _ e2
    · cases e2
  have hl0 : l0 = kRecv ++ (Ln.flatMap fun n => 32 :: n) ++ [10] := by rw [hx0, hrt]
  cases Ln with
  | nil => exact absurd rfl hne
  | cons n M =>
    cases M with
    | nil => exact ⟨n, [], l0, ls, 10, [], rfl, e1, by rw [hl0]; simp, .inr rfl, hg n (by simp), e3, hl0⟩
    | cons m M => exact ⟨n, m :: M, l0, ls, 32, m ++ (M.flatMap fun n => 32 :: n) ++ [10], rfl, e1, by rw [hl0]; simp, .inl rfl, hg n (by simp), e3, hl0⟩

set_option maxRecDepth 100000 in
set_option maxHeartbeats 4000000 in
theorem kfirst_any {w0 w : World} {db : Nat} {t : List UInt8} {a : Option Addr} {cap : Nat} {L : List LBL} {Ln : List (List UInt8)} {C : List CR} {s : CS} {V : V6} {pb : Nat} (h : DK w0 w db t a cap L Ln C s V pb) {n : List UInt8} {M : List (List UInt8)} (hn : Ln = n :: M) :
    Calls Tryz.prog 32 #[.pointer (some ⟨db, 0, none⟩)] w fun e w' => e = .returned (.string (bs n)) ∧ Frm [] w w' := by
  have htl := h.tl
  obtain ⟨n', M', l0, ls, c, r, e1, e2, e3, e4, e5, -, -⟩ := first_line (by omega) (cRead_tree h.rd).1
  rw [hn] at e1
  simp only [List.cons.injEq] at e1
  obtain ⟨rfl, rfl⟩ := e1
  have r0 : w.cell? ⟨db, 0, none⟩ = some (.string (bs t)) := by simp [World.cell?, h.row]
  have N1 := hide (lines_any t w (by omega))
  have hnl := isNameL_len e5
  have HNM := hide (nm_not e5)
  have hlen : l0.length = 11 + n.length + r.length := by rw [e3]; simp [kRecv]; omega
  have HAt : Hid (∀ j (hj : j < n.length), l0[10 + j]? = some n[j]) := by
    intro j hj
    rw [e3, show kRecv ++ 32 :: (n ++ c :: r) = (kRecv ++ [32]) ++ (n ++ c :: r) by simp, List.getElem?_append_right (by simp [kRecv]), List.getElem?_append_left (by simp [kRecv]; omega)]
    rw [show 10 + j - (kRecv ++ [(32 : UInt8)]).length = j by simp [kRecv]]
    exact List.getElem?_eq_getElem hj
  have HEn : Hid (l0[10 + n.length]? = some c) := by
    show _ = _
    rw [e3, show kRecv ++ 32 :: (n ++ c :: r) = (kRecv ++ [32] ++ n) ++ (c :: r) by simp, List.getElem?_append_right (by simp [kRecv]; omega)]
    rw [show 10 + n.length - (kRecv ++ [(32 : UInt8)] ++ n).length = 0 by simp [kRecv]; omega]
    rfl
  have hll : (lnsK t).length ≤ t.length := lnsGo_len t []
  have HL0 : Hid ((lnsK t)[0]? = some l0) := by show _ = _; rw [e2]; rfl
  have hlb : l0.length ≤ 20000 := by
    have h1 : l0.length ≤ (lnsK t).flatten.length := by rw [e2]; simp
    rw [((cRead1_lines t Ln C).1 (cRead_tree h.rd).1).1] at h1
    omega
  have hsz := bs_size
  have hx := bs_extract
  have hap := bs_append
  have k0 : ({ data := #[] } : ByteArray) = bs [] := rfl
  clear h e3 e5 e2 hn
  go_enter Tryz.func32, Tryz.ntmps32
  go_wp2_with fail
  refine (N1.out).mono ?_
  clear N1
  rintro e w1 ⟨v, rfl, hF, hR⟩
  have F := hide hF
  obtain ⟨al, cl, rfl, hr⟩ := hR.str
  have h0l : 0 < (lnsK t).length := (List.getElem?_eq_some_iff.1 HL0.out).1
  obtain ⟨g, o, rfl, hg, c0⟩ := hr 0 h0l
  have hf1 : (lnsK t)[0] = l0 := (List.getElem?_eq_some_iff.1 HL0.out).2
  rw [hf1, Nat.add_zero] at c0
  have hd0 : decide ((0 : Int) < ((lnsK t).length : Int)) = true := decide_eq_true (by omega)
  clear hF hR hr hf1 HL0
  generalize (lnsK t).length = nl at *
  go_wp2_with fail
  go_loopg [4, 5] n.length (fun k vt vi wr => ∃ j : Nat, j + k = n.length ∧ vi = .int .i64 ((10 + j : Nat) : Int) ∧ vt = .string (bs (n.take j)) ∧ wr = w1)
  case atStart => exact ⟨0, by omega, rfl, by rw [k0]; rfl, rfl⟩
  case round =>
    obtain ⟨j, hjk, rfl, rfl, hw⟩ := hrel
    subst hw
    by_cases hlt : j < n.length
    · have hat := HAt.out j hlt
      have hjl : 10 + j < l0.length := by omega
      have hge : l0[10 + j] = n[j] := by rw [List.getElem?_eq_getElem hjl] at hat; exact Option.some.inj hat
      have hb1 : (bs l0)[10 + j]'(by rw [hsz]; omega) = l0[10 + j] := rfl
      have hnm := HNM.out n[j] (List.getElem_mem hlt)
      have hsn := take_drop_snoc l0 (10 + j) (10 + j) (Nat.le_refl _) hjl
      rw [List.drop_eq_nil_of_le (by simp; omega : (l0.take (10 + j)).length ≤ 10 + j), List.nil_append, hge] at hsn
      rw [hge] at hb1
      have HT : Hid (n.take j ++ [n[j]] = n.take (j + 1)) := (List.take_succ_eq_append_getElem hlt).symm
      have q1 : ((n[j].toNat : Int) != 32) = true := by
        rw [bne_iff_ne]; intro he; exact hnm.1 (UInt8.toNat_inj.1 (by show n[j].toNat = 32; omega))
      have q2 : ((n[j].toNat : Int) != 10) = true := by
        rw [bne_iff_ne]; intro he; exact hnm.2 (UInt8.toNat_inj.1 (by show n[j].toNat = 10; omega))
      have hd1 : decide (((10 + j : Nat) : Int) < (l0.length : Int)) = true := decide_eq_true (by omega)
      have htk : (n.take j).length ≤ 8 := by simp; omega
      clear hat hge hnm
      generalize n[j] = cj at *
      generalize hn0 : n.take j = T at *
      go_wp2
      go_roundg (gk - 1)
      case measure => omega
      case rel => exact ⟨j + 1, by omega, by go_num, by rw [← HT.out], rfl⟩
    · have hjn : j = n.length := by omega
      subst hjn
      have hat := HEn.out
      have hjl : 10 + n.length < l0.length := by omega
      have hge : l0[10 + n.length] = c := by rw [List.getElem?_eq_getElem hjl] at hat; exact Option.some.inj hat
      have hb1 : (bs l0)[10 + n.length]'(by rw [hsz]; omega) = c := hge
      have HT : Hid (n.take n.length = n) := List.take_length
      have hd1 : decide (((10 + n.length : Nat) : Int) < (l0.length : Int)) = true := decide_eq_true (by omega)
      rw [HT.out]
      clear hat hge HAt HEn
      rcases e4 with rfl | rfl
      all_goals
        go_wp2
        go_ret
        exact ⟨rfl, F.out⟩
end Go.Proofs.YtpbkgeipigcefaaGreat

