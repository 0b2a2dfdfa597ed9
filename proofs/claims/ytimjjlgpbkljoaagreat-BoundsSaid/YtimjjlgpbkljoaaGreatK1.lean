import Derived.Test.YtimjjlgpbkljoaaGreatK0
namespace Go.Proofs.YtimjjlgpbkljoaaGreat
open Go.RowKit
set_option linter.unusedVariables false
set_option linter.unusedSimpArgs false
set_option linter.unnecessarySimpa false

theorem fdx_at {L : List (List UInt8)} {x : List UInt8} {j : Nat} (hj : j < L.length) (h : ∀ i (hi : i < j), (L[i] == x) = false) (he : (L[j] == x) = true) : fdx L x = j := by
  unfold fdx
  rw [List.findIdx_eq hj]
  exact ⟨he, fun i hi => h i hi⟩
theorem fdx_none {L : List (List UInt8)} {x : List UInt8} (h : ∀ i (hi : i < L.length), (L[i] == x) = false) : fdx L x = L.length := by
  unfold fdx
  rw [List.findIdx_eq_length]
  intro y hy
  obtain ⟨i, hi, rfl⟩ := List.mem_iff_getElem.1 hy
  exact h i hi
theorem fdx_le (L : List (List UInt8)) (x : List UInt8) : fdx L x ≤ L.length := List.findIdx_le_length
theorem fdt_at {L : List TstM} {x : TstM} {j : Nat} (hj : j < L.length) (h : ∀ i (hi : i < j), tEq L[i] x = false) (he : tEq L[j] x = true) : fdt L x = j := by
  unfold fdt
  rw [List.findIdx_eq hj]
  exact ⟨he, fun i hi => h i hi⟩
theorem fdt_none {L : List TstM} {x : TstM} (h : ∀ i (hi : i < L.length), tEq L[i] x = false) : fdt L x = L.length := by
  unfold fdt
  rw [List.findIdx_eq_length]
  intro y hy
  obtain ⟨i, hi, rfl⟩ := List.mem_iff_getElem.1 hy
  exact h i hi
theorem fdt_le (L : List TstM) (x : TstM) : fdt L x ≤ L.length := List.findIdx_le_length

/-- Instructions that go on at earlier ones alone. -/
def GL (l : List InM) : Prop := ∀ i (h : i < l.length), l[i].op = 0 ∨ (l[i].op = 1 ∧ l[i].a < i) ∨ (l[i].op = 2 ∧ l[i].a < i ∧ l[i].b < i)
theorem GL.snoc {l : List InM} {x : InM} (h : GL l) (hx : x.op = 0 ∨ (x.op = 1 ∧ x.a < l.length) ∨ (x.op = 2 ∧ x.a < l.length ∧ x.b < l.length)) : GL (l ++ [x]) := by
  intro i hi
  simp at hi
  by_cases hl : i < l.length
  · rw [List.getElem_append_left hl]; exact h i hl
  · obtain rfl : i = l.length := by omega
    simpa using hx
theorem layChk_good {l : List InM} (h : GL l) {y n : Nat} (hy : y < l.length) (hn : n < l.length) : ∀ q : List (Nat × Bool), GL (layChk q y n l).2 ∧ (layChk q y n l).1 < (layChk q y n l).2.length ∧ (layChk q y n l).2.length = l.length + q.length
  | [] => ⟨h, hy, rfl⟩
  | c :: r => by
    obtain ⟨h1, h2, h3⟩ := layChk_good h hy hn r
    refine ⟨?_, by simp [layChk], by simp [layChk]; omega⟩
    rw [layChk]
    refine h1.snoc ?_
    split
    · exact .inr (.inr ⟨rfl, h2, by show n < _; omega⟩)
    · exact .inr (.inr ⟨rfl, by show n < _; omega, h2⟩)
/-- What lays a route well. -/
def RG (rec : Nat → Nat → List InM → Nat × List InM) : Prop := ∀ c d l, GL l → d < l.length → GL (rec c d l).2 ∧ (rec c d l).1 < (rec c d l).2.length ∧ l.length ≤ (rec c d l).2.length
theorem lay1_good {rec : Nat → Nat → List InM → Nat × List InM} (hr : RG rec) (C : List CR) (q : List (List (Nat × Bool))) {d : Nat} {l : List InM} (h : GL l) (hd : d < l.length) : ∀ K : List Nat,
    GL (lay1 rec C q d l K).2.2 ∧ (lay1 rec C q d l K).1 < (lay1 rec C q d l K).2.2.length ∧ l.length ≤ (lay1 rec C q d l K).2.2.length ∧ (∀ b ∈ (lay1 rec C q d l K).2.1, b < (lay1 rec C q d l K).2.2.length) ∧ (lay1 rec C q d l K).2.1.length = K.length
  | [] => ⟨h, hd, Nat.le_refl _, by simp [lay1], rfl⟩
  | c :: r => by
    obtain ⟨h1, h2, h3, h4, h5⟩ := lay1_good hr C q h hd r
    rw [lay1]
    generalize lay1 rec C q d l r = x at *
    obtain ⟨g1, g2, g3⟩ := hr c (if (C[c]?.map (·.co)) = some true then x.1 else d) x.2.2 h1 (by split <;> omega)
    generalize rec c (if (C[c]?.map (·.co)) = some true then x.1 else d) x.2.2 = b at *
    obtain ⟨k1, k2, k3⟩ := layChk_good g1 g2 (by omega : x.1 < b.2.length) (q.getD c [])
    refine ⟨k1, k2, by show l.length ≤ (layChk _ _ _ _).2.length; omega, ?_, by simp [h5]⟩
    intro y hy
    show y < (layChk _ _ _ _).2.length
    rcases List.mem_cons.1 hy with rfl | hy
    · omega
    · have := h4 y hy; omega
theorem lay2_good (q : List (List (Nat × Bool))) {first : Nat} {l : List InM} (h : GL l) (hf : first < l.length) : ∀ Z : List (Nat × Nat), (∀ z ∈ Z, z.2 < l.length) → GL (lay2 q first l Z).2 ∧ (lay2 q first l Z).1 < (lay2 q first l Z).2.length ∧ l.length ≤ (lay2 q first l Z).2.length
  | [], _ => ⟨h, hf, Nat.le_refl _⟩
  | z :: r, hz => by
    obtain ⟨h1, h2, h3⟩ := lay2_good q h hf r (fun y hy => hz y (by simp [hy]))
    have := hz z (by simp)
    rw [lay2]
    generalize lay2 q first l r = x at *
    obtain ⟨k1, k2, k3⟩ := layChk_good h1 (by omega : z.2 < x.2.length) h2 (q.getD z.1 [])
    exact ⟨k1, k2, by omega⟩
theorem layR_good (C : List CR) (q : List (List (Nat × Bool))) : ∀ f, RG (layR C q f)
  | 0 => fun c d l h hd => ⟨h, hd, Nat.le_refl _⟩
  | f + 1 => fun r d l h hd => by
    obtain ⟨h1, h2, h3, h4, h5⟩ := lay1_good (layR_good C q f) C q h hd (kids C r)
    rw [layR]
    generalize lay1 (layR C q f) C q d l (kids C r) = x at *
    obtain ⟨k1, k2, k3⟩ := lay2_good q (first := x.2.2.length) (l := x.2.2 ++ [⟨1, r, d, 0⟩]) (h1.snoc (.inr (.inl ⟨rfl, by show d < _; omega⟩))) (by simp) ((kids C r).zip x.2.1) (by
      intro z hz
      have := h4 z.2 (List.of_mem_zip hz).2
      simp; omega)
    exact ⟨k1, k2, by simp at k3; omega⟩

/-- Those who come to an instruction come to its number. -/
theorem numGo_len (l : List InM) : ∀ i R N c, (numGo l i R N c).length = N.length
  | 0, _, _, _ => rfl
  | i + 1, R, N, c => by
    rw [numGo]
    split
    · split
      · rw [numGo_len]; simp
      · rfl
    · rw [numGo_len]; simp
def numT (i : Nat) (R : List Bool) (N : List Int) (t : Nat) : Prop := if t < i then R.getD t false = true else 0 ≤ N.getD t 0
def numP (l : List InM) (i : Nat) (R : List Bool) (N : List Int) : Prop := ∀ j x, i ≤ j → l[j]? = some x → 0 ≤ N.getD j 0 → (x.op ≠ 0 → numT i R N x.a) ∧ (x.op = 2 → numT i R N x.b)
theorem getD_set_ne {α : Type} (L : List α) (i j : Nat) (x d : α) (h : i ≠ j) : (L.set i x).getD j d = L.getD j d := by simp [List.getD, List.getElem?_set_ne h]
theorem getD_set_eq {α : Type} (L : List α) (i : Nat) (x d : α) (h : i < L.length) : (L.set i x).getD i d = x := by simp [List.getD, h]
theorem getD_set_true (R : List Bool) (i j : Nat) (h : R.getD j false = true) : (R.set i true).getD j false = true := by
  by_cases e : i = j
  · subst e
    have : i < R.length := by
      rcases Nat.lt_or_ge i R.length with h1 | h1
      · exact h1
      · simp [List.getD, h1] at h
    exact getD_set_eq R i true false this
  · rw [getD_set_ne _ _ _ _ _ e]; exact h
theorem numGo_spec {l : List InM} (hl : GL l) : ∀ i (R : List Bool) (N : List Int) (c : Nat), i ≤ l.length → R.length = l.length → N.length = l.length → numP l i R N → numP l 0 R (numGo l i R N c)
  | 0, R, N, c, _, _, _, h => h
  | i + 1, R, N, c, hi, hR, hN, h => by
    rw [numGo]
    obtain ⟨x, hx⟩ : ∃ x, l[i]? = some x := ⟨l[i], List.getElem?_eq_getElem (by omega)⟩
    have hgl := hl i (by omega)
    have hx' : l[i]'(by omega) = x := by rw [List.getElem?_eq_getElem (by omega)] at hx; exact Option.some.inj hx
    rw [hx'] at hgl
    -- the targets of those behind i, seen one step on
    have step : ∀ (R' : List Bool) (v : Int), R'.length = l.length → (∀ t, R.getD t false = true → R'.getD t false = true) → (R.getD i false = true → 0 ≤ v) → ∀ t, numT (i + 1) R N t → numT i R' (N.set i v) t := by
      intro R' v hR' hm hv t ht
      unfold numT at ht ⊢
      by_cases h1 : t < i
      · rw [if_pos h1]; rw [if_pos (by omega)] at ht; exact hm t ht
      · rw [if_neg h1]
        by_cases h2 : t = i
        · subst h2
          rw [if_pos (by omega)] at ht
          rw [getD_set_eq _ _ _ _ (by omega)]; exact hv ht
        · rw [if_neg (by omega)] at ht
          rw [getD_set_ne _ _ _ _ _ (by omega)]; exact ht
    split
    · rename_i hRi
      simp only [hx]
      have fin : ∀ R' : List Bool, R'.length = l.length → (∀ t, R.getD t false = true → R'.getD t false = true) → (x.op ≠ 0 → R'.getD x.a false = true) → (x.op = 2 → R'.getD x.b false = true) → numP l 0 R (numGo l i R' (N.set i (c : Int)) (c + 1)) := by
        intro R' hR' hm ha hb
        have hP : numP l i R' (N.set i (c : Int)) := by
          intro j y hij hy hN0
          by_cases hj : j = i
          · subst hj
            rw [hx] at hy; cases hy
            constructor
            · intro ho
              unfold numT
              rw [if_pos (by rcases hgl with h1 | h1 | h1; exact absurd h1 ho; exact h1.2; exact h1.2.1)]
              exact ha ho
            · intro ho
              unfold numT
              rw [if_pos (by rcases hgl with h1 | h1 | h1; omega; omega; exact h1.2.2)]
              exact hb ho
          · rw [getD_set_ne _ _ _ _ _ (by omega)] at hN0
            obtain ⟨k1, k2⟩ := h j y (by omega) hy hN0
            exact ⟨fun ho => step R' c hR' hm (fun _ => by omega) _ (k1 ho), fun ho => step R' c hR' hm (fun _ => by omega) _ (k2 ho)⟩
        have := numGo_spec hl i R' (N.set i (c : Int)) (c + 1) (by omega) hR' (by simp [hN]) hP
        intro j y h0 hy hN0
        obtain ⟨k1, k2⟩ := this j y h0 hy hN0
        exact ⟨fun ho => by simpa [numT] using k1 ho, fun ho => by simpa [numT] using k2 ho⟩
      by_cases h0 : x.op = 0
      · rw [if_pos h0]
        exact fin R hR (fun t ht => ht) (fun ho => absurd h0 ho) (fun ho => by omega)
      · rw [if_neg h0]
        have hal : x.a < l.length := by rcases hgl with h1 | h1 | h1; exact absurd h1 h0; omega; omega
        by_cases h2 : x.op = 2
        · rw [if_pos h2]
          have hbl : x.b < l.length := by rcases hgl with h1 | h1 | h1 <;> omega
          refine fin _ (by simp [hR]) (fun t ht => getD_set_true _ _ _ (getD_set_true _ _ _ ht)) (fun _ => getD_set_true _ _ _ (getD_set_eq _ _ _ _ (by omega))) (fun _ => getD_set_eq _ _ _ _ (by simp; omega))
        · rw [if_neg h2]
          exact fin _ (by simp [hR]) (fun t ht => getD_set_true _ _ _ ht) (fun _ => getD_set_eq _ _ _ _ (by omega)) (fun ho => absurd ho h2)
    · rename_i hRi
      have hP : numP l i R (N.set i (-1)) := by
        intro j y hij hy hN0
        by_cases hj : j = i
        · subst hj
          rw [getD_set_eq _ _ _ _ (by omega)] at hN0
          omega
        · rw [getD_set_ne _ _ _ _ _ (by omega)] at hN0
          obtain ⟨k1, k2⟩ := h j y (by omega) hy hN0
          exact ⟨fun ho => step R (-1) hR (fun t ht => ht) (fun hc => absurd hc hRi) _ (k1 ho), fun ho => step R (-1) hR (fun t ht => ht) (fun hc => absurd hc hRi) _ (k2 ho)⟩
      exact numGo_spec hl i R (N.set i (-1)) c (by omega) hR (by simp [hN]) hP
theorem numsOf_len (l : List InM) (first : Nat) : (numsOf l first).length = l.length := by unfold numsOf; rw [numGo_len]; simp
theorem numsOf_spec {l : List InM} (hl : GL l) (first : Nat) (j : Nat) (x : InM) (hj : l[j]? = some x) (h0 : 0 ≤ (numsOf l first).getD j 0) : (x.op ≠ 0 → 0 ≤ (numsOf l first).getD x.a 0) ∧ (x.op = 2 → 0 ≤ (numsOf l first).getD x.b 0) := by
  have hP : numP l l.length ((List.replicate l.length false).set first true) (List.replicate l.length 0) := by
    intro j y h1 h2
    have := (List.getElem?_eq_some_iff.1 h2).1
    omega
  have := numGo_spec hl l.length ((List.replicate l.length false).set first true) (List.replicate l.length 0) 0 (Nat.le_refl _) (by simp) (by simp) hP j x (by omega) hj h0
  unfold numsOf
  simpa [numT] using this
end Go.Proofs.YtimjjlgpbkljoaaGreat
