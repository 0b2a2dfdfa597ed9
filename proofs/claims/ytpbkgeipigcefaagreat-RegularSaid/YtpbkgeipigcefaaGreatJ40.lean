import Derived.Test.YtpbkgeipigcefaaGreatJ31
import Derived.Test.YtpbkgeipigcefaaGreatJ39
set_option linter.unusedVariables false
set_option linter.unusedSimpArgs false
set_option linter.unnecessarySimpa false
namespace Go.Proofs.YtpbkgeipigcefaaGreat
open Go.RowKit

structure NumOK (N : List Int) (i c : Nat) : Prop where
  b : ∀ j, i ≤ j → 0 ≤ N.getD j (-1) → N.getD j (-1) < c
  d : ∀ j j', i ≤ j → j < j' → 0 ≤ N.getD j (-1) → 0 ≤ N.getD j' (-1) → N.getD j' (-1) < N.getD j (-1)
  s : ∀ k : Nat, k < c → ∃ j, i ≤ j ∧ N.getD j (-1) = (k : Int)
theorem numGo_num (l : List InM) : ∀ i (R : List Bool) (N : List Int) (c : Nat), i ≤ l.length → N.length = l.length → NumOK N i c → ∃ c', NumOK (numGo l i R N c) 0 c'
  | 0, R, N, c, _, _, h => ⟨c, h⟩
  | i + 1, R, N, c, hi, hN, h => by
    have hset : ∀ (v : Int) (j : Nat), j ≠ i → (N.set i v).getD j (-1) = N.getD j (-1) := fun v j hj => getD_set_ne _ _ _ _ _ (fun e => hj e.symm)
    have heq : ∀ v : Int, (N.set i v).getD i (-1) = v := fun v => getD_set_eq _ _ _ _ (by omega)
    rw [numGo]
    split
    · obtain ⟨x, hx⟩ : ∃ x, l[i]? = some x := ⟨l[i], List.getElem?_eq_getElem (by omega)⟩
      simp only [hx]
      refine numGo_num l i _ (N.set i (c : Int)) (c + 1) (by omega) (by simp [hN]) ⟨?_, ?_, ?_⟩
      · intro j hj h0
        by_cases e : j = i
        · subst e; rw [heq]; omega
        · rw [hset _ _ e] at h0 ⊢
          have := h.b j (by omega) h0
          omega
      · intro j j' hj hjj h0 h1
        have e' : j' ≠ i := by omega
        rw [hset _ _ e'] at h1 ⊢
        by_cases e : j = i
        · subst e; rw [heq]
          exact h.b j' (by omega) h1
        · rw [hset _ _ e] at h0 ⊢
          exact h.d j j' (by omega) hjj h0 h1
      · intro k hk
        by_cases e : k = c
        · exact ⟨i, Nat.le_refl _, by rw [heq, e]⟩
        · obtain ⟨j, hj, hjk⟩ := h.s k (by omega)
          exact ⟨j, by omega, by rw [hset _ _ (by omega)]; exact hjk⟩
    · refine numGo_num l i R (N.set i (-1)) c (by omega) (by simp [hN]) ⟨?_, ?_, ?_⟩
      · intro j hj h0
        by_cases e : j = i
        · subst e; rw [heq] at h0; omega
        · rw [hset _ _ e] at h0 ⊢
          exact h.b j (by omega) h0
      · intro j j' hj hjj h0 h1
        have e' : j' ≠ i := by omega
        rw [hset _ _ e'] at h1 ⊢
        by_cases e : j = i
        · subst e; rw [heq] at h0; omega
        · rw [hset _ _ e] at h0 ⊢
          exact h.d j j' (by omega) hjj h0 h1
      · intro k hk
        obtain ⟨j, hj, hjk⟩ := h.s k hk
        exact ⟨j, by omega, by rw [hset _ _ (by omega)]; exact hjk⟩
theorem numsOf_num (l : List InM) (first : Nat) : ∃ c, NumOK (numsOf l first) 0 c := by
  unfold numsOf
  refine numGo_num l l.length _ _ 0 (Nat.le_refl _) (by simp) ⟨?_, ?_, ?_⟩
  · intro j hj h0
    rw [List.getD_eq_getElem?_getD, List.getElem?_eq_none (by simpa using hj)] at h0
    simp at h0
  · intro j j' hj _ h0
    rw [List.getD_eq_getElem?_getD, List.getElem?_eq_none (by simpa using hj)] at h0
    simp at h0
  · intro k hk; omega
theorem numGo_hi {l : List InM} (hl : GL l) (first : Nat) : ∀ i (R : List Bool) (N : List Int) (c : Nat), i ≤ l.length → N.length = l.length → (∀ j, first < j → j < i → R.getD j false = false) → (∀ j, first < j → i ≤ j → N.getD j (-1) < 0) → ∀ j, first < j → (numGo l i R N c).getD j (-1) < 0
  | 0, R, N, c, _, _, _, h => fun j hj => h j hj (by omega)
  | i + 1, R, N, c, hi, hN, hR, h => by
    rw [numGo]
    split
    · rename_i hRi
      obtain ⟨x, hx⟩ : ∃ x, l[i]? = some x := ⟨l[i], List.getElem?_eq_getElem (by omega)⟩
      have hif : i ≤ first := by
        rcases Nat.lt_or_ge first i with h1 | h1
        · rw [hR i h1 (by omega)] at hRi; cases hRi
        · exact h1
      simp only [hx]
      have hgl := hl i (by omega)
      have hx' : l[i]'(by omega) = x := by rw [List.getElem?_eq_getElem (by omega)] at hx; exact Option.some.inj hx
      rw [hx'] at hgl
      refine numGo_hi hl first i _ _ _ (by omega) (by simp [hN]) (fun j hj hji => by omega) (fun j hj hij => ?_)
      rw [getD_set_ne _ _ _ _ _ (by omega)]
      exact h j hj (by omega)
    · refine numGo_hi hl first i _ _ _ (by omega) (by simp [hN]) (fun j hj hji => hR j hj (by omega)) (fun j hj hij => ?_)
      by_cases e : j = i
      · subst e; rw [getD_set_eq _ _ _ _ (by omega)]; omega
      · rw [getD_set_ne _ _ _ _ _ (by omega)]
        exact h j hj (by omega)
theorem numsOf_hi {l : List InM} (hl : GL l) (first : Nat) : ∀ j, first < j → (numsOf l first).getD j (-1) < 0 := by
  unfold numsOf
  refine numGo_hi hl first l.length _ _ 0 (Nat.le_refl _) (by simp) (fun j hj hjl => ?_) (fun j hj hjl => ?_)
  · rw [getD_set_ne _ _ _ _ _ (by omega)]
    simp [List.getD, hjl]
  · rw [List.getD_eq_getElem?_getD, List.getElem?_eq_none (by simpa using hjl)]
    simp
structure TurnOK (l : List InM) (N : List Int) (i : Nat) (out : List InM) : Prop where
  a : ∀ (j : Nat) (x : InM), i ≤ j → l[j]? = some x → 0 ≤ N.getD j (-1) → out[(N.getD j (-1)).toNat]? = some (turnI N x)
  s : ∀ k : Nat, k < out.length → ∃ j, i ≤ j ∧ N.getD j (-1) = (k : Int)
  b : ∀ j, i ≤ j → 0 ≤ N.getD j (-1) → N.getD j (-1) < out.length
theorem getD_any (N : List Int) (j : Nat) (h : j < N.length) : N.getD j 0 = N.getD j (-1) := by simp [List.getD, h]
theorem turnGo_ok {l : List InM} {N : List Int} {c : Nat} (hN : NumOK N 0 c) (hl : N.length = l.length) : ∀ i out, i ≤ l.length → TurnOK l N i out → TurnOK l N 0 (turnGo l N i out)
  | 0, out, _, h => h
  | i + 1, out, hi, h => by
    rw [turnGo, getD_any N i (by omega)]
    split
    · rename_i hneg
      refine turnGo_ok hN hl i out (by omega) ⟨?_, ?_, ?_⟩
      · intro j x hj hx h0
        by_cases e : j = i
        · subst e; omega
        · exact h.a j x (by omega) hx h0
      · intro k hk
        obtain ⟨j, hj, hjk⟩ := h.s k hk
        exact ⟨j, by omega, hjk⟩
      · intro j hj h0
        by_cases e : j = i
        · subst e; omega
        · exact h.b j (by omega) h0
    · rename_i hpos
      obtain ⟨x, hx⟩ : ∃ x, l[i]? = some x := ⟨l[i], List.getElem?_eq_getElem (by omega)⟩
      simp only [hx]
      have h0 : 0 ≤ N.getD i (-1) := by omega
      have hlen : N.getD i (-1) = (out.length : Int) := by
        rcases Int.lt_trichotomy (N.getD i (-1)) (out.length : Int) with h1 | h1 | h1
        · obtain ⟨k, hk⟩ := Int.eq_ofNat_of_zero_le h0
          obtain ⟨j, hj, hjk⟩ := h.s k (by omega)
          have := hN.d i j (by omega) (by omega) h0 (by rw [hjk]; omega)
          omega
        · exact h1
        · obtain ⟨j, _, hjk⟩ := hN.s out.length (by have := hN.b i (by omega) h0; omega)
          rcases Nat.lt_trichotomy j i with e | e | e
          · have := hN.d j i (by omega) e (by rw [hjk]; omega) h0
            omega
          · subst e; omega
          · have := h.b j (by omega) (by rw [hjk]; omega)
            omega
      refine turnGo_ok hN hl i _ (by omega) ⟨?_, ?_, ?_⟩
      · intro j y hj hy hj0
        by_cases e : j = i
        · subst e
          rw [hx] at hy; cases hy
          rw [hlen]
          simp
        · have h3 := h.a j y (by omega) hy hj0
          have h4 := (List.getElem?_eq_some_iff.1 h3).1
          rw [List.getElem?_append_left h4]
          exact h3
      · intro k hk
        simp at hk
        by_cases e : k = out.length
        · exact ⟨i, Nat.le_refl _, by rw [hlen, e]⟩
        · obtain ⟨j, hj, hjk⟩ := h.s k (by omega)
          exact ⟨j, by omega, hjk⟩
      · intro j hj hj0
        simp only [List.length_append, List.length_singleton]
        by_cases e : j = i
        · subst e; omega
        · have := h.b j (by omega) hj0
          omega
end Go.Proofs.YtpbkgeipigcefaaGreat

namespace Go.Proofs.YtpbkgeipigcefaaGreat
open Go.RowKit

def GXi (nr nt : Nat) (x : InM) : Prop := (x.op = 0 ∧ x.x = 0 ∧ x.a = 0 ∧ x.b = 0) ∨ (x.op = 1 ∧ x.x < nr ∧ x.b = 0) ∨ (x.op = 2 ∧ x.x < nt)
def GXl (nr nt : Nat) (l : List InM) : Prop := ∀ x ∈ l, GXi nr nt x
theorem GXl.snoc {nr nt : Nat} {l : List InM} {x : InM} (h : GXl nr nt l) (hx : GXi nr nt x) : GXl nr nt (l ++ [x]) := by
  intro y hy
  rcases List.mem_append.1 hy with hy | hy
  · exact h y hy
  · rw [List.mem_singleton.1 hy]; exact hx
theorem layChk_gx {nr nt : Nat} {l : List InM} (h : GXl nr nt l) (y n : Nat) : ∀ q : List (Nat × Bool), (∀ c ∈ q, c.1 < nt) → GXl nr nt (layChk q y n l).2
  | [], _ => h
  | c :: r, hq => by
    rw [layChk]
    refine (layChk_gx h y n r (fun x hx => hq x (by simp [hx]))).snoc ?_
    have := hq c (by simp)
    split <;> exact .inr (.inr ⟨rfl, this⟩)
theorem getD_tests {nt : Nat} {q : List (List (Nat × Bool))} (hq : ∀ x ∈ q, ∀ c ∈ x, c.1 < nt) (k : Nat) : ∀ c ∈ q.getD k [], c.1 < nt := by
  intro c hc
  by_cases h : k < q.length
  · rw [List.getD_eq_getElem?_getD, List.getElem?_eq_getElem h] at hc
    exact hq _ (List.getElem_mem h) c hc
  · rw [List.getD_eq_getElem?_getD, List.getElem?_eq_none (by omega)] at hc
    simp at hc
theorem lay1_gx {nr nt : Nat} {rec : Nat → Nat → List InM → Nat × List InM} (K0 : List Nat) (hr : ∀ c ∈ K0, ∀ d l, GXl nr nt l → GXl nr nt (rec c d l).2) (C : List CR) {q : List (List (Nat × Bool))} (hq : ∀ x ∈ q, ∀ c ∈ x, c.1 < nt) (d : Nat) {l : List InM} (h : GXl nr nt l) : ∀ K : List Nat, (∀ c ∈ K, c ∈ K0) → GXl nr nt (lay1 rec C q d l K).2.2
  | [], _ => h
  | c :: r, hK => by
    rw [lay1]
    exact layChk_gx (hr c (hK c (by simp)) _ _ (lay1_gx K0 hr C hq d h r (fun x hx => hK x (by simp [hx])))) _ _ _ (getD_tests hq c)
theorem lay2_gx {nr nt : Nat} {q : List (List (Nat × Bool))} (hq : ∀ x ∈ q, ∀ c ∈ x, c.1 < nt) (first : Nat) {l : List InM} (h : GXl nr nt l) : ∀ Z : List (Nat × Nat), GXl nr nt (lay2 q first l Z).2
  | [] => h
  | z :: r => by
    rw [lay2]
    exact layChk_gx (lay2_gx hq first h r) _ _ _ (getD_tests hq z.1)
theorem layR_gx {nt : Nat} (C : List CR) {q : List (List (Nat × Bool))} (hq : ∀ x ∈ q, ∀ c ∈ x, c.1 < nt) : ∀ f r d l, r < C.length → GXl C.length nt l → GXl C.length nt (layR C q f r d l).2
  | 0, _, _, _, _, h => h
  | f + 1, r, d, l, hr, h => by
    rw [layR]
    refine lay2_gx hq _ (GXl.snoc ?_ (.inr (.inl ⟨rfl, hr, rfl⟩))) _
    refine lay1_gx (kids C r) (fun c hc d l hl => layR_gx C hq f c d l ?_ hl) C hq d h (kids C r) (fun c hc => hc)
    unfold kids at hc
    rw [List.mem_filter, List.mem_range] at hc
    exact hc.1
theorem turnM_ok {nr nt : Nat} {l : List InM} (hl : GL l) (hx : GXl nr nt l) (first : Nat) (hf : first < l.length) : ∀ k (h : k < (turnM l first).length), stands nr nt (turnM l first).length k (turnM l first)[k] = true := by
  obtain ⟨c, hN⟩ := numsOf_num l first
  have hlen := numsOf_len l first
  have hsp := numsOf_spec hl first
  have hhi := numsOf_hi hl first
  have hT : TurnOK l (numsOf l first) 0 (turnM l first) := by
    refine turnGo_ok hN hlen (first + 1) [] (by omega) ⟨fun j x hj _ h0 => ?_, fun k hk => by simp at hk, fun j hj h0 => ?_⟩
    · have := hhi j (by omega); omega
    · have := hhi j (by omega); omega
  generalize numsOf l first = N at *
  generalize turnM l first = out at *
  intro k hk
  obtain ⟨j, _, hjk⟩ := hT.s k hk
  have hj : j < N.length := by
    rcases Nat.lt_or_ge j N.length with h1 | h1
    · exact h1
    · rw [List.getD_eq_getElem?_getD, List.getElem?_eq_none h1] at hjk
      simp at hjk
  have hjl : l[j]? = some l[j] := List.getElem?_eq_getElem (by omega)
  have ho := hT.a j _ (by omega) hjl (by omega)
  rw [hjk, Int.toNat_natCast, List.getElem?_eq_getElem hk] at ho
  rw [Option.some.inj ho]
  have hg := hl j (by omega)
  have hxx := hx l[j] (List.getElem_mem _)
  obtain ⟨s1, s2⟩ := hsp j _ hjl (by rw [getD_any N j hj]; omega)
  generalize l[j] = y at *
  obtain ⟨op, xn, a, b⟩ := y
  simp only [GXi] at hxx
  simp only at hg s1 s2
  have tgt : ∀ t, t < j → 0 ≤ N.getD t 0 → k < (N.getD t 0).toNat ∧ (N.getD t 0).toNat < out.length := by
    intro t ht h0
    rw [getD_any N t (by omega)] at h0 ⊢
    have h1 := hN.d t j (by omega) ht h0 (by omega)
    have h2 := hT.b t (by omega) h0
    omega
  rcases hxx with ⟨rfl, rfl, rfl, rfl⟩ | ⟨rfl, h1, rfl⟩ | ⟨rfl, h1⟩
  · simp [turnI, stands]
  · have ha := tgt a (by omega) (s1 (by omega))
    simp only [turnI, stands]
    generalize (N.getD a 0).toNat = ta at *
    simp [h1, ha]
  · have ha := tgt a (by omega) (s1 (by omega))
    have hb := tgt b (by omega) (s2 rfl)
    simp only [turnI, stands]
    generalize (N.getD a 0).toNat = ta at *
    generalize (N.getD b 0).toNat = tb at *
    simp [h1, ha, hb]
end Go.Proofs.YtpbkgeipigcefaaGreat

namespace Go.Proofs.YtpbkgeipigcefaaGreat
open Go.RowKit

theorem nodup_le : ∀ (n : Nat) (l : List Nat), l.Nodup → (∀ x ∈ l, x < n) → l.length ≤ n
  | 0, l, _, h => by
    cases l with
    | nil => simp
    | cons a r => have := h a (by simp); omega
  | n + 1, l, hd, h => by
    by_cases hm : n ∈ l
    · have h1 := nodup_le n (l.erase n) (hd.erase n) (fun x hx => by
        have h2 := h x (List.mem_of_mem_erase hx)
        have h3 : x ≠ n := fun e => by subst e; exact hd.not_mem_erase hx
        omega)
      rw [List.length_erase_of_mem hm] at h1
      omega
    · have h1 := nodup_le n l hd (fun x hx => by
        have h2 := h x hx
        have h3 : x ≠ n := fun e => by subst e; exact hm hx
        omega)
      omega
theorem layChk_len' (y n : Nat) (l : List InM) : ∀ q : List (Nat × Bool), (layChk q y n l).2.length = l.length + q.length
  | [] => rfl
  | c :: r => by simp [layChk, layChk_len' y n l r]; omega
def cntR (C : List CR) (q : List (List (Nat × Bool))) : Nat → Nat → Nat
  | 0, _ => 0
  | f + 1, r => 1 + ((kids C r).map fun c => cntR C q f c + 2 * (q.getD c []).length).sum
theorem lay1_len {rec : Nat → Nat → List InM → Nat × List InM} {g : Nat → Nat} (hr : ∀ c d l, (rec c d l).2.length = l.length + g c) (C : List CR) (q : List (List (Nat × Bool))) (d : Nat) (l : List InM) : ∀ K : List Nat, (lay1 rec C q d l K).2.2.length = l.length + (K.map fun c => g c + (q.getD c []).length).sum ∧ (lay1 rec C q d l K).2.1.length = K.length
  | [] => ⟨by simp [lay1], rfl⟩
  | c :: r => by
    obtain ⟨h1, h2⟩ := lay1_len hr C q d l r
    rw [lay1]
    refine ⟨?_, by simp [h2]⟩
    show (layChk _ _ _ _).2.length = _
    rw [layChk_len', hr, h1]
    simp only [List.map_cons, List.sum_cons]
    omega
theorem lay2_len (q : List (List (Nat × Bool))) (first : Nat) (l : List InM) : ∀ (K bg : List Nat), bg.length = K.length → (lay2 q first l (K.zip bg)).2.length = l.length + (K.map fun c => (q.getD c []).length).sum
  | [], _, _ => by simp [lay2]
  | c :: r, [], h => by simp at h
  | c :: r, b :: bg, h => by
    have h1 := lay2_len q first l r bg (by simpa using h)
    rw [List.zip_cons_cons, lay2, layChk_len', h1]
    simp only [List.map_cons, List.sum_cons]
    omega
theorem sum_two (f g : Nat → Nat) : ∀ K : List Nat, (K.map f).sum + (K.map g).sum = (K.map fun c => f c + g c).sum
  | [] => rfl
  | c :: r => by
    have := sum_two f g r
    simp only [List.map_cons, List.sum_cons]
    omega
theorem layR_len (C : List CR) (q : List (List (Nat × Bool))) : ∀ f r d l, (layR C q f r d l).2.length = l.length + cntR C q f r
  | 0, _, _, l => by simp [layR, cntR]
  | f + 1, r, d, l => by
    obtain ⟨h1, h2⟩ := lay1_len (layR_len C q f) C q d l (kids C r)
    rw [layR]
    generalize lay1 (layR C q f) C q d l (kids C r) = x at *
    show (lay2 _ _ _ _).2.length = _
    rw [lay2_len q _ _ (kids C r) x.2.1 h2, List.length_append, h1, cntR]
    have h3 := sum_two (fun c => cntR C q f c + (q.getD c []).length) (fun c => (q.getD c []).length) (kids C r)
    have h4 : (kids C r).map (fun c => cntR C q f c + 2 * (q.getD c []).length) = (kids C r).map fun c => cntR C q f c + (q.getD c []).length + (q.getD c []).length := by
      congr 1; funext c; omega
    rw [h4, ← h3]
    simp only [List.length_singleton]
    omega
theorem kids_nodup (C : List CR) (r : Nat) : (kids C r).Nodup := by
  unfold kids
  exact List.Pairwise.filter _ List.nodup_range
theorem mem_kids' {C : List CR} {r c : Nat} (h : c ∈ kids C r) : c < C.length ∧ par C c = some r := by
  unfold kids at h
  rw [List.mem_filter, List.mem_range] at h
  simp at h
  exact ⟨h.1, h.2.2⟩
theorem level_nodup (C : List CR) (K : List Nat) (h : K.Nodup) : (K.flatMap (kids C)).Nodup := by
  unfold List.Nodup at *
  rw [List.pairwise_flatMap]
  refine ⟨fun a _ => kids_nodup C a, h.imp ?_⟩
  intro a b hab x hx y hy e
  subst e
  have h1 := (mem_kids' hx).2
  have h2 := (mem_kids' hy).2
  rw [h1] at h2
  exact hab (Option.some.inj h2)
theorem sum_le (f : Nat → Nat) (m : Nat) : ∀ K : List Nat, (∀ c ∈ K, f c ≤ m) → (K.map f).sum ≤ K.length * m
  | [], _ => by simp
  | c :: r, h => by
    have h1 := sum_le f m r (fun x hx => h x (by simp [hx]))
    have h2 := h c (by simp)
    simp only [List.map_cons, List.sum_cons, List.length_cons, Nat.add_mul]
    omega
theorem sum_level (C : List CR) (g : Nat → Nat) : ∀ K : List Nat, (K.map fun r => 1 + ((kids C r).map g).sum).sum = K.length + ((K.flatMap (kids C)).map g).sum
  | [] => rfl
  | c :: r => by
    have := sum_level C g r
    simp only [List.map_cons, List.sum_cons, List.flatMap_cons, List.map_append, List.sum_append, List.length_cons]
    omega
theorem cntR_le {C : List CR} (hC : C.length ≤ 16) {q : List (List (Nat × Bool))} (hq : ∀ x ∈ q, x.length ≤ 4) : ∀ (f : Nat) (K : List Nat), K.Nodup → (∀ c ∈ K, c < C.length) → (K.map (cntR C q f)).sum ≤ f * 144
  | 0, K, _, _ => by
    have := sum_le (cntR C q 0) 0 K (fun c _ => by simp [cntR])
    simpa using this
  | f + 1, K, hd, hK => by
    have h1 := cntR_le hC hq f (K.flatMap (kids C)) (level_nodup C K hd) (fun c hc => by
      obtain ⟨r, _, h2⟩ := List.mem_flatMap.1 hc
      exact (mem_kids' h2).1)
    have hl := nodup_le C.length K hd hK
    have hl2 := nodup_le C.length (K.flatMap (kids C)) (level_nodup C K hd) (fun c hc => by
      obtain ⟨r, _, h2⟩ := List.mem_flatMap.1 hc
      exact (mem_kids' h2).1)
    have e : (K.map (cntR C q (f + 1))) = K.map fun r => 1 + ((kids C r).map fun c => cntR C q f c + 2 * (q.getD c []).length).sum := rfl
    rw [e, sum_level C (fun c => cntR C q f c + 2 * (q.getD c []).length), ← sum_two]
    have h3 := sum_le (fun c => 2 * (q.getD c []).length) 8 (K.flatMap (kids C)) (fun c _ => by
      by_cases h : c < q.length
      · have := hq q[c] (List.getElem_mem h)
        simp [List.getD, h]; omega
      · simp [List.getD, h])
    rw [Nat.add_mul]
    omega
theorem laid_short {C : List CR} (hC : C.length ≤ 16) (hne : 0 < C.length) {q : List (List (Nat × Bool))} (hq : ∀ x ∈ q, x.length ≤ 4) : (layR C q 6 0 0 [⟨0, 0, 0, 0⟩]).2.length ≤ 865 := by
  rw [layR_len]
  have := cntR_le hC hq 6 [0] (by simp) (by simpa using hne)
  simp at this ⊢
  omega
end Go.Proofs.YtpbkgeipigcefaaGreat

namespace Go.Proofs.YtpbkgeipigcefaaGreat
open Go.RowKit

theorem numGo_keep (l : List InM) (first : Nat) : ∀ i (R : List Bool) (N : List Int) (c : Nat), i ≤ first → 0 ≤ N.getD first (-1) → 0 ≤ (numGo l i R N c).getD first (-1)
  | 0, R, N, c, _, h => h
  | i + 1, R, N, c, hi, h => by
    rw [numGo]
    split
    · split
      · exact numGo_keep l first i _ _ _ (by omega) (by rw [getD_set_ne _ _ _ _ _ (by omega)]; exact h)
      · exact h
    · exact numGo_keep l first i _ _ _ (by omega) (by rw [getD_set_ne _ _ _ _ _ (by omega)]; exact h)
theorem numGo_first (l : List InM) (first : Nat) (hf : first < l.length) : ∀ i (R : List Bool) (N : List Int) (c : Nat), first < i → i ≤ l.length → N.length = l.length → R.length = l.length → R.getD first false = true → 0 ≤ (numGo l i R N c).getD first (-1)
  | 0, R, N, c, h, _, _, _, _ => by omega
  | i + 1, R, N, c, h, hi, hN, hR, h1 => by
    rw [numGo]
    by_cases e : first = i
    · subst e
      rw [if_pos h1, List.getElem?_eq_getElem hf]
      exact numGo_keep l first first _ _ _ (Nat.le_refl _) (by rw [getD_set_eq _ _ _ _ (by omega)]; omega)
    · split
      · rw [List.getElem?_eq_getElem (by omega)]
        refine numGo_first l first hf i _ _ _ (by omega) (by omega) (by simp [hN]) (by split; exact hR; split; simp [hR]; simp [hR]) ?_
        split
        · exact h1
        · split
          · exact getD_set_true _ _ _ (getD_set_true _ _ _ h1)
          · exact getD_set_true _ _ _ h1
      · exact numGo_first l first hf i _ _ _ (by omega) (by omega) (by simp [hN]) hR h1
theorem turnGo_le (l : List InM) (N : List Int) : ∀ i out, (turnGo l N i out).length ≤ out.length + i
  | 0, out => by simp [turnGo]
  | i + 1, out => by
    rw [turnGo]
    split
    · have := turnGo_le l N i out; omega
    · split
      · rename_i x _
        have := turnGo_le l N i (out ++ [turnI N x])
        simp only [List.length_append, List.length_singleton] at this
        refine Nat.le_trans this (by omega)
      · omega
theorem turnM_len {l : List InM} (hl : GL l) (first : Nat) (hf : first < l.length) : 1 ≤ (turnM l first).length ∧ (turnM l first).length ≤ l.length := by
  refine ⟨?_, ?_⟩
  · obtain ⟨c, hN⟩ := numsOf_num l first
    have hlen := numsOf_len l first
    have hhi := numsOf_hi hl first
    have h0 : 0 ≤ (numsOf l first).getD first (-1) := by
      unfold numsOf
      exact numGo_first l first hf l.length _ _ 0 hf (Nat.le_refl _) (by simp) (by simp) (getD_set_eq _ _ _ _ (by simpa using hf))
    have hT : TurnOK l (numsOf l first) 0 (turnM l first) := by
      refine turnGo_ok hN hlen (first + 1) [] (by omega) ⟨fun j x hj _ h0 => ?_, fun k hk => by simp at hk, fun j hj h0 => ?_⟩
      · have := hhi j (by omega); omega
      · have := hhi j (by omega); omega
    have := hT.b first (by omega) h0
    omega
  · have := turnGo_le l (numsOf l first) (first + 1) []
    unfold turnM
    simp at this
    omega
end Go.Proofs.YtpbkgeipigcefaaGreat

namespace Go.Proofs.YtpbkgeipigcefaaGreat
open Go.RowKit

def Steps (C : List CR) : Prop := (∀ c, C[0]? = some c → c.d = 0 ∧ c.rc ≠ [45]) ∧ ∀ (i : Nat) (a b : CR), C[i]? = some a → C[i + 1]? = some b → 1 ≤ b.d ∧ b.d ≤ a.d + 1
theorem treeGo_steps : ∀ (C : List CR) (i : Nat) (da : Nat), treeGo C i da = 0 → (∀ c, C[0]? = some c → (i = 0 → c.d = 0 ∧ c.rc ≠ [45]) ∧ (i ≠ 0 → 1 ≤ c.d ∧ c.d ≤ da + 1)) ∧ ∀ (k : Nat) (a b : CR), C[k]? = some a → C[k + 1]? = some b → 1 ≤ b.d ∧ b.d ≤ a.d + 1
  | [], i, da, _ => ⟨by simp, by simp⟩
  | c :: r, i, da, h => by
    unfold treeGo at h
    cases hb : (!(if (i == 0) = true then rootOk c else followOk c.d da) || decide (16 ≤ i))
    · rw [hb] at h
      simp only [Bool.false_eq_true, if_false] at h
      have hb1 : (if (i == 0) = true then rootOk c else followOk c.d da) = true := by
        cases hx : (if (i == 0) = true then rootOk c else followOk c.d da)
        · rw [hx] at hb; simp at hb
        · rfl
      obtain ⟨h1, h2⟩ := treeGo_steps r (i + 1) c.d h
      refine ⟨fun x hx => ?_, fun k a b ha hb2 => ?_⟩
      · simp at hx
        subst hx
        refine ⟨fun e => ?_, fun e => ?_⟩
        · rw [if_pos (by simp [e])] at hb1
          simp [rootOk] at hb1
          exact ⟨by omega, hb1.2⟩
        · rw [if_neg (by simp [e])] at hb1
          simp [followOk] at hb1
          omega
      · cases k with
        | zero =>
          simp at ha hb2
          subst ha
          exact (h1 b (by simpa using hb2)).2 (by omega)
        | succ k => exact h2 k a b (by simpa using ha) (by simpa using hb2)
    · rw [hb] at h
      simp at h
theorem steps_all {C : List CR} (h : Steps C) : ∀ (i : Nat) (c : CR), C[i]? = some c → ∀ e, e ≤ c.d → ∃ j x, j ≤ i ∧ C[j]? = some x ∧ x.d = e
  | 0, c, hc, e, he => by
    have := (h.1 c hc).1
    exact ⟨0, c, Nat.le_refl _, hc, by omega⟩
  | i + 1, c, hc, e, he => by
    by_cases e1 : e = c.d
    · exact ⟨i + 1, c, Nat.le_refl _, hc, e1.symm⟩
    · have hil : i < C.length := by have := (List.getElem?_eq_some_iff.1 hc).1; omega
      have h2 := (h.2 i C[i] c (List.getElem?_eq_getElem hil) hc).2
      obtain ⟨j, x, hj, hx, hxe⟩ := steps_all h i C[i] (List.getElem?_eq_getElem hil) e (by omega)
      exact ⟨j, x, by omega, hx, hxe⟩
theorem parGo_of {C : List CR} {d : Nat} : ∀ (i j : Nat) (x : CR), j < i → C[j]? = some x → x.d + 1 = d → ∃ p, parGo C d i = some p
  | 0, j, x, h, _, _ => by omega
  | i + 1, j, x, h, hx, hd => by
    rw [parGo]
    by_cases e : (C[i]?.map fun c => c.d + 1) = some d
    · rw [if_pos e]; exact ⟨i, rfl⟩
    · rw [if_neg e]
      refine parGo_of i j x ?_ hx hd
      rcases Nat.lt_or_ge j i with h1 | h1
      · exact h1
      · have : j = i := by omega
        subst this
        rw [hx] at e
        exact absurd (by simp [hd]) e
theorem par_of {C : List CR} (h : Steps C) (i : Nat) (hi : i + 1 < C.length) : ∃ p, par C (i + 1) = some p := by
  unfold par
  rw [List.getElem?_eq_getElem hi]
  have h1 := (h.2 i C[i] C[i + 1] (List.getElem?_eq_getElem (by omega)) (List.getElem?_eq_getElem hi))
  obtain ⟨j, x, hj, hx, hxe⟩ := steps_all h i C[i] (List.getElem?_eq_getElem (by omega)) (C[i + 1].d - 1) (by omega)
  exact parGo_of (i + 1) j x (by omega) hx (by omega)
end Go.Proofs.YtpbkgeipigcefaaGreat

namespace Go.Proofs.YtpbkgeipigcefaaGreat
open Go.RowKit

structure CSok (s : CS) : Prop where
  n : ∀ x ∈ s.n, okName x
  c : ∀ x ∈ s.c, x.length < 41
  a : ∀ x ∈ s.a, AutOK x
  xa : s.x.length = s.a.length
  t : ∀ t ∈ s.t, TstOK s.n.length s.c.length s.a.length t
  q : ∀ l ∈ s.q, ∀ c ∈ l, c.1 < s.t.length
  ql : ∀ l ∈ s.q, l.length ≤ 4
theorem TstOK.mono {nn nc na nn' nc' na' : Nat} {t : TstM} (h : TstOK nn nc na t) (h1 : nn ≤ nn') (h2 : nc ≤ nc') (h3 : na ≤ na') : TstOK nn' nc' na' t := by
  refine ⟨by have := h.n; omega, h.k, ?_⟩
  have := h.x
  split <;> rename_i e <;> simp only [e, if_true, if_false] at this <;> omega
theorem addx_ge (L : List (List UInt8)) (x : List UInt8) : L.length ≤ (addx L x).length := by unfold addx; split <;> simp
theorem addt_ge (L : List TstM) (x : TstM) : L.length ≤ (addt L x).length := by unfold addt; split <;> simp
theorem fdx_lt (L : List (List UInt8)) (x : List UInt8) : fdx L x < (addx L x).length := by
  have := fdx_le L x
  unfold addx; split
  · simp; omega
  · omega
theorem fdt_lt (L : List TstM) (x : TstM) : fdt L x < (addt L x).length := by
  have := fdt_le L x
  unfold addt; split
  · simp; omega
  · omega
theorem mem_addx {L : List (List UInt8)} {x y : List UInt8} (h : y ∈ addx L x) : y ∈ L ∨ y = x := by
  unfold addx at h; split at h
  · simpa using h
  · exact .inl h
theorem mem_addt {L : List TstM} {x y : TstM} (h : y ∈ addt L x) : y ∈ L ∨ y = x := by
  unfold addt at h; split at h
  · simpa using h
  · exact .inl h
theorem ptest_ok {re : List UInt8 → Nat} {aut : List UInt8 → AutM} (ha : ∀ v, re v = 0 → AutOK (aut v)) {s s1 : CS} {t : TstM} (h : CSok s) {m : CM} (hm : GoodM m) (he : ptest re aut s m = some (t, s1)) :
    CSok { s1 with t := addt s1.t t } ∧ s1.t = s.t ∧ s1.q = s.q := by
  have hn := addx_ge s.n m.1
  have hc := addx_ge s.c m.2.2
  have on : ∀ x ∈ addx s.n m.1, okName x := fun x hx => by
    rcases mem_addx hx with e | rfl
    · exact h.n x e
    · exact ⟨by have := isNameL_len hm.name; omega, hm.name⟩
  have oc : ∀ x ∈ addx s.c m.2.2, x.length < 41 := fun x hx => by
    rcases mem_addx hx with e | rfl
    · exact h.c x e
    · have := hm.val; omega
  have oq : ∀ t, ∀ l ∈ s.q, ∀ c ∈ l, c.1 < (addt s.t t).length := fun t l hl c hc => by
    have := h.q l hl c hc
    have := addt_ge s.t t
    omega
  unfold ptest at he
  split at he
  · split at he
    · rename_i hx
      cases he
      refine ⟨⟨on, h.c, h.a, h.xa, fun y hy => ?_, oq _, h.ql⟩, rfl, rfl⟩
      rcases mem_addt hy with e | rfl
      · exact (h.t y e).mono hn (Nat.le_refl _) (Nat.le_refl _)
      · exact ⟨fdx_lt _ _, by simp, by simp only [if_true]; rw [← h.xa]; exact hx⟩
    · rename_i hx
      split at he
      · rename_i hre
        cases he
        refine ⟨⟨on, h.c, fun y hy => ?_, by simp [h.xa], fun y hy => ?_, oq _, h.ql⟩, rfl, rfl⟩
        · rcases List.mem_append.1 hy with e | e
          · exact h.a y e
          · rw [List.mem_singleton.1 e]; exact ha _ hre
        · rcases mem_addt hy with e | rfl
          · exact (h.t y e).mono hn (Nat.le_refl _) (by simp)
          · exact ⟨fdx_lt _ _, by simp, by simp only [if_true, List.length_append, List.length_singleton]; have := fdx_le s.x m.2.2; have := h.xa; omega⟩
      · cases he
  · cases he
    refine ⟨⟨on, oc, h.a, h.xa, fun y hy => ?_, oq _, h.ql⟩, rfl, rfl⟩
    rcases mem_addt hy with e | rfl
    · exact (h.t y e).mono hn hc (Nat.le_refl _)
    · exact ⟨fdx_lt _ _, by simp, by simp only [Nat.zero_ne_one, if_false]; exact fdx_lt _ _⟩
theorem pmat_ok {re : List UInt8 → Nat} {aut : List UInt8 → AutM} (ha : ∀ v, re v = 0 → AutOK (aut v)) : ∀ (M : List CM) (s : CS) (acc : List (Nat × Bool)) {l : List (Nat × Bool)} {s1 : CS}, CSok s → (∀ m ∈ M, GoodM m) → (∀ c ∈ acc, c.1 < s.t.length) → pmat re aut s acc M = .ok (l, s1) → CSok s1 ∧ (∀ c ∈ l, c.1 < s1.t.length) ∧ l.length = acc.length + M.length
  | [], s, acc, l, s1, h, _, h2, e => by
    rw [pmat] at e
    cases e
    exact ⟨h, h2, rfl⟩
  | m :: r, s, acc, l, s1, h, hM, h2, e => by
    rw [pmat] at e
    split at e
    · cases e
    · rename_i t s2 ht
      obtain ⟨g1, g2, g3⟩ := ptest_ok ha h (hM m (by simp)) ht
      obtain ⟨k1, k2, k3⟩ := pmat_ok ha r _ _ g1 (fun x hx => hM x (by simp [hx])) (fun c hc => by
        rcases List.mem_append.1 hc with e1 | e1
        · have := h2 c e1
          have h3 := addt_ge s2.t t
          rw [g2] at h3
          show c.1 < (addt s2.t t).length
          rw [g2]; omega
        · rw [List.mem_singleton.1 e1]; exact fdt_lt _ _) e
      exact ⟨k1, k2, by rw [k3]; simp; omega⟩
theorem pmat_tge {re : List UInt8 → Nat} {aut : List UInt8 → AutM} : ∀ (M : List CM) (s : CS) (acc : List (Nat × Bool)) {l : List (Nat × Bool)} {s1 : CS}, pmat re aut s acc M = .ok (l, s1) → s1.q = s.q
  | [], s, acc, l, s1, e => by
    rw [pmat] at e
    cases e
    rfl
  | m :: r, s, acc, l, s1, e => by
    rw [pmat] at e
    split at e
    · cases e
    · rename_i t s2 ht
      rw [pmat_tge r _ _ e]
      unfold ptest at ht
      split at ht
      · split at ht
        · cases ht; rfl
        · split at ht
          · cases ht; rfl
          · cases ht
      · cases ht; rfl
theorem pread_ok {re : List UInt8 → Nat} {aut : List UInt8 → AutM} (ha : ∀ v, re v = 0 → AutOK (aut v)) : ∀ (C : List CR) (s : CS) (i k : Nat) {s1 : CS}, CSok s → CSB s k → (∀ c ∈ C, GoodCR c) → pread re aut s i C = .ok s1 → CSok s1 ∧ CSB s1 (k + 4 * C.length) ∧ s1.q.length = s.q.length + C.length
  | [], s, i, k, s1, h, hb, _, e => by
    rw [pread] at e
    cases e
    exact ⟨h, hb, rfl⟩
  | c :: r, s, i, k, s1, h, hb, hC, e => by
    rw [pread] at e
    have hc := hC c (by simp)
    split at e
    · cases e
    · rename_i l s2 hl
      obtain ⟨g1, g2, g3⟩ := pmat_ok ha c.ifs s [] h hc.ifs (by simp) hl
      obtain ⟨b1, b2, b3⟩ := pmat_cb c.ifs s [] k hb hl
      have hil := hc.ifl
      simp at g3
      have b4 : CSB { s2 with q := s2.q ++ [l] } (k + 4) := ⟨by have := b1.n; simp only; omega, by have := b1.c; simp only; omega, by have := b1.x; simp only; omega, by have := b1.a; simp only; omega, by have := b1.t; simp only; omega⟩
      obtain ⟨k1, k2, k3⟩ := pread_ok ha r { s2 with q := s2.q ++ [l] } (i + 1) (k + 4) ⟨g1.n, g1.c, g1.a, g1.xa, g1.t, fun x hx => by
        rcases List.mem_append.1 hx with e1 | e1
        · exact g1.q x e1
        · rw [List.mem_singleton.1 e1]; exact g2, fun x hx => by
        rcases List.mem_append.1 hx with e1 | e1
        · exact g1.ql x e1
        · rw [List.mem_singleton.1 e1]; omega⟩ b4 (fun x hx => hC x (by simp [hx])) e
      refine ⟨k1, ?_, ?_⟩
      · rw [List.length_cons, show k + 4 * (r.length + 1) = k + 4 + 4 * r.length by omega]; exact k2
      · rw [k3]; simp [b2]; omega
theorem tld_lt {x : Int} {y : Nat} (h : -1 ≤ x ∧ x ≤ 99999) (hy : y < 100000) : tld x y < 100000 := by
  unfold tld; split <;> omega
theorem hitB_ok {ab : HitM} {c : CR} (hc : GoodCR c) (h : HitOK ab ∨ c.rc ≠ [45]) (hb : ab.bl.length < 5 ∧ (∀ n ∈ ab.bl, okName n) ∧ ab.wt < 100000 ∧ ab.ev < 100000 ∧ ab.rp < 100000) : HitOK (hitB ab c) := by
  have on : ∀ n, isNameL n = true → okName n := fun n hn => ⟨by have := isNameL_len hn; omega, hn⟩
  refine ⟨?_, ?_, ?_, tld_lt hc.wt hb.2.2.1, tld_lt hc.ev hb.2.2.2.1, tld_lt hc.rp hb.2.2.2.2⟩
  · show okName (if c.rc == [45] then ab.rc else c.rc)
    by_cases e : c.rc = [45]
    · rw [if_pos (by simp [e])]
      rcases h with h | h
      · exact h.rc
      · exact absurd e h
    · rw [if_neg (by simp [e])]
      exact on _ (hc.rc.resolve_left e)
  · show (if c.tb then c.bys else ab.bl).length < 5
    split
    · have := hc.byl; omega
    · exact hb.1
  · show ∀ n ∈ (if c.tb then c.bys else ab.bl), okName n
    split
    · exact fun n hn => on n (hc.bys n hn)
    · exact hb.2.1
theorem hitsN_ok {C : List CR} (hs : Steps C) (hg : ∀ c ∈ C, GoodCR c) : ∀ i, i ≤ C.length → ∀ h ∈ hitsN C i, HitOK h
  | 0, _ => by simp [hitsN]
  | i + 1, hi => by
    intro h hh
    rw [hitsN] at hh
    have ih := hitsN_ok hs hg i (by omega)
    rcases List.mem_append.1 hh with e | e
    · exact ih h e
    · rw [List.getElem?_eq_getElem (by omega)] at e
      have e := List.mem_singleton.1 e
      subst e
      have hc := hg C[i] (List.getElem_mem _)
      cases i with
      | zero =>
        have h0 := (hs.1 C[0] (List.getElem?_eq_getElem (by omega))).2
        refine hitB_ok hc (.inr h0) ?_
        unfold aboveH
        have : par C 0 = none := by
          cases hp : par C 0 with
          | none => rfl
          | some p => exact absurd (par_lt hp) (by omega)
        rw [this]
        simp [rootH]
      | succ i =>
        obtain ⟨p, hp⟩ := par_of hs i (by omega)
        have hpl := par_lt hp
        have hm : aboveH C (hitsN C (i + 1)) (i + 1) ∈ hitsN C (i + 1) := by
          unfold aboveH
          rw [hp]
          simp only
          rw [List.getD_eq_getElem?_getD, List.getElem?_eq_getElem (by rw [hitsN_len]; exact hpl)]
          exact List.getElem_mem _
        have ho := ih _ hm
        exact hitB_ok hc (.inl ho) ⟨ho.b1, ho.b2, ho.wt, ho.ev, ho.rp⟩
theorem cRead_steps {t : List UInt8} {L : List (List UInt8)} {C : List CR} (h : cRead t = .ok (L, C)) : Steps C := by
  have h0 := (cRead_tree h).2.1
  unfold cRead at h
  split at h
  · cases h
  · split at h
    · cases h
    · split at h
      · cases h
      · rename_i L' C' _ h1
        split at h
        · cases h
        · cases h
          have h2 : treeGo C 0 ((0 : Nat) : Int) = 0 := by
            have : treeF C = treeGo C 0 0 := by unfold treeF; rw [if_neg]; cases C with | nil => simp at h0 | cons => simp
            have e : treeGo C 0 0 = 0 := by omega
            exact e
          obtain ⟨g1, g2⟩ := treeGo_steps C 0 0 h2
          exact ⟨fun c hc => (g1 c hc).1 rfl, g2⟩
theorem mok_of {re : List UInt8 → Nat} {aut : List UInt8 → AutM} (ha : ∀ v, re v = 0 → AutOK (aut v)) {t : List UInt8} {L : List (List UInt8)} {C : List CR} {s : CS} (ht : t.length ≤ 1048576) (h : cRead t = .ok (L, C)) (hp : pread re aut cs0 0 C = .ok s) : MOK (compM C s) := by
  obtain ⟨h1, h2, h3, h4⟩ := cRead_tree h
  have hg := (cRead1_good t L C ht h1).2.2
  obtain ⟨k1, k2, k3⟩ := pread_ok ha C cs0 0 0 ⟨by simp [cs0], by simp [cs0], by simp [cs0], rfl, by simp [cs0], by simp [cs0], by simp [cs0]⟩ ⟨by simp [cs0], by simp [cs0], by simp [cs0], by simp [cs0], by simp [cs0]⟩ hg hp
  have hst := cRead_steps h
  refine ⟨⟨by have := k2.n; show s.n.length < 256; omega, k1.n⟩, ⟨by have := k2.c; show s.c.length < 256; omega, k1.c⟩, ⟨by have := k2.a; show s.a.length < 256; omega, k1.a⟩, ⟨by have := k2.t; show s.t.length < 256; omega, k1.t⟩, ⟨by show (hitsN C C.length).length < 17; rw [hitsN_len]; omega, hitsN_ok hst hg C.length (Nat.le_refl _)⟩, ?_⟩
  have hne : C.isEmpty = false := by cases C with | nil => simp at h2 | cons => rfl
  have hg0 : GL [⟨0, 0, 0, 0⟩] := by
    intro i hi
    simp at hi
    subst hi
    exact .inl rfl
  obtain ⟨r1, r2, r3⟩ := layR_good C s.q 6 0 0 [⟨0, 0, 0, 0⟩] hg0 (by simp)
  have r4 := layR_gx C (nt := s.t.length) k1.q 6 0 0 [⟨0, 0, 0, 0⟩] h2 (by intro x hx; rw [List.mem_singleton.1 hx]; exact .inl ⟨rfl, rfl, rfl, rfl⟩)
  have r5 := laid_short h3 h2 k1.ql
  have e1 : (compM C s).code = turnM (layR C s.q 6 0 0 [⟨0, 0, 0, 0⟩]).2 (layR C s.q 6 0 0 [⟨0, 0, 0, 0⟩]).1 := by
    show codeM C s.q = _
    unfold codeM
    rw [hne]; rfl
  have e2 : (compM C s).routes.length = C.length := hitsN_len C C.length
  have e3 : (compM C s).tests.length = s.t.length := rfl
  rw [e1, e2, e3]
  obtain ⟨t1, t2⟩ := turnM_len r1 _ r2
  refine ⟨t1, by omega, fun j hj => ?_⟩
  have hk2 := k2.t
  have hs := turnM_ok r1 r4 _ r2 j hj
  generalize hx : (turnM (layR C s.q 6 0 0 [⟨0, 0, 0, 0⟩]).2 (layR C s.q 6 0 0 [⟨0, 0, 0, 0⟩]).1)[j] = x at hs ⊢
  clear hx
  generalize (turnM (layR C s.q 6 0 0 [⟨0, 0, 0, 0⟩]).2 (layR C s.q 6 0 0 [⟨0, 0, 0, 0⟩]).1).length = N at *
  have hs0 := hs
  unfold stands at hs
  split at hs
  · rename_i e; simp at hs; exact ⟨hs0, by omega, by omega, by omega, by omega⟩
  · rename_i e; simp at hs; exact ⟨hs0, by omega, by omega, by omega, by omega⟩
  · rename_i e; simp at hs; exact ⟨hs0, by omega, by omega, by omega, by omega⟩
  · cases hs
end Go.Proofs.YtpbkgeipigcefaaGreat

