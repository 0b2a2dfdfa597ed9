import Derived.Test.YtpbkgeipigcefaaGreatJ30
set_option linter.unusedVariables false
set_option linter.unusedSimpArgs false
set_option linter.unnecessarySimpa false
namespace Go.Proofs.YtpbkgeipigcefaaGreat
open Go.RowKit

theorem fdx_at {L : List (List UInt8)} {x : List UInt8} {j : Nat} (hj : j < L.length) (h : ∀ i (hi : i < j), (L[i] == x) = false) (he : (L[j] == x) = true) : fdx L x = j := by
  unfold fdx
  rw [List.findIdx_eq hj]
  exact ⟨he, fun i hi => h i hi⟩
theorem fdx_none {L : List (List UInt8)} {x : List UInt8} (h : ∀ i (hi : i < L.length), (L[i] == x) = false) : fdx L x = L.length := by
  unfold fdx
  rw [List.findIdx_eq_length]
  intro y hy
  obtain ⟨i, hi, rfl⟩ := List.mem_iff_getElem.1 hy
  exact h i hi
theorem fdx_le (L : List (List UInt8)) (x : List UInt8) : fdx L x ≤ L.length := List.findIdx_le_length
theorem fdt_at {L : List TstM} {x : TstM} {j : Nat} (hj : j < L.length) (h : ∀ i (hi : i < j), tEq L[i] x = false) (he : tEq L[j] x = true) : fdt L x = j := by
  unfold fdt
  rw [List.findIdx_eq hj]
  exact ⟨he, fun i hi => h i hi⟩
theorem fdt_none {L : List TstM} {x : TstM} (h : ∀ i (hi : i < L.length), tEq L[i] x = false) : fdt L x = L.length := by
  unfold fdt
  rw [List.findIdx_eq_length]
  intro y hy
  obtain ⟨i, hi, rfl⟩ := List.mem_iff_getElem.1 hy
  exact h i hi
theorem fdt_le (L : List TstM) (x : TstM) : fdt L x ≤ L.length := List.findIdx_le_length

def GL (l : List InM) : Prop := ∀ i (h : i < l.length), l[i].op = 0 ∨ (l[i].op = 1 ∧ l[i].a < i) ∨ (l[i].op = 2 ∧ l[i].a < i ∧ l[i].b < i)
theorem GL.snoc {l : List InM} {x : InM} (h : GL l) (hx : x.op = 0 ∨ (x.op = 1 ∧ x.a < l.length) ∨ (x.op = 2 ∧ x.a < l.length ∧ x.b < l.length)) : GL (l ++ [x]) := by
  intro i hi
  simp at hi
  by_cases hl : i < l.length
  · rw [List.getElem_append_left hl]; exact h i hl
  · obtain rfl : i = l.length := by omega
    simpa using hx
theorem layChk_good {l : List InM} (h : GL l) {y n : Nat} (hy : y < l.length) (hn : n < l.length) : ∀ q : List (Nat × Bool), GL (layChk q y n l).2 ∧ (layChk q y n l).1 < (layChk q y n l).2.length ∧ (layChk q y n l).2.length = l.length + q.length
  | [] => ⟨h, hy, rfl⟩
  | c :: r => by
    obtain ⟨h1, h2, h3⟩ := layChk_good h hy hn r
    refine ⟨?_, by simp [layChk], by simp [layChk]; omega⟩
    rw [layChk]
    refine h1.snoc ?_
    split
    · exact .inr (.inr ⟨rfl, h2, by show n < _; omega⟩)
    · exact .inr (.inr ⟨rfl, by show n < _; omega, h2⟩)
def RG (rec : Nat → Nat → List InM → Nat × List InM) : Prop := ∀ c d l, GL l → d < l.length → GL (rec c d l).2 ∧ (rec c d l).1 < (rec c d l).2.length ∧ l.length ≤ (rec c d l).2.length
theorem lay1_good {rec : Nat → Nat → List InM → Nat × List InM} (hr : RG rec) (C : List CR) (q : List (List (Nat × Bool))) {d : Nat} {l : List InM} (h : GL l) (hd : d < l.length) : ∀ K : List Nat,
    GL (lay1 rec C q d l K).2.2 ∧ (lay1 rec C q d l K).1 < (lay1 rec C q d l K).2.2.length ∧ l.length ≤ (lay1 rec C q d l K).2.2.length ∧ (∀ b ∈ (lay1 rec C q d l K).2.1, b < (lay1 rec C q d l K).2.2.length) ∧ (lay1 rec C q d l K).2.1.length = K.length
  | [] => ⟨h, hd, Nat.le_refl _, by simp [lay1], rfl⟩
  | c :: r => by
    obtain ⟨h1, h2, h3, h4, h5⟩ := lay1_good hr C q h hd r
    rw [lay1]
    generalize lay1 rec C q d l r = x at *
    obtain ⟨g1, g2, g3⟩ := hr c (if (C[c]?.map (·.co)) = some true then x.1 else d) x.2.2 h1 (by split <;> omega)
    generalize rec c (if (C[c]?.map (·.co)) = some true then x.1 else d) x.2.2 = b at *
    obtain ⟨k1, k2, k3⟩ := layChk_good g1 g2 (by omega : x.1 < b.2.length) (q.getD c [])
    refine ⟨k1, k2, by show l.length ≤ (layChk _ _ _ _).2.length; omega, ?_, by simp [h5]⟩
    intro y hy
    show y < (layChk _ _ _ _).2.length
    rcases List.mem_cons.1 hy with rfl | hy
    · omega
    · have := h4 y hy; omega
theorem lay2_good (q : List (List (Nat × Bool))) {first : Nat} {l : List InM} (h : GL l) (hf : first < l.length) : ∀ Z : List (Nat × Nat), (∀ z ∈ Z, z.2 < l.length) → GL (lay2 q first l Z).2 ∧ (lay2 q first l Z).1 < (lay2 q first l Z).2.length ∧ l.length ≤ (lay2 q first l Z).2.length
  | [], _ => ⟨h, hf, Nat.le_refl _⟩
  | z :: r, hz => by
    obtain ⟨h1, h2, h3⟩ := lay2_good q h hf r (fun y hy => hz y (by simp [hy]))
    have := hz z (by simp)
    rw [lay2]
    generalize lay2 q first l r = x at *
    obtain ⟨k1, k2, k3⟩ := layChk_good h1 (by omega : z.2 < x.2.length) h2 (q.getD z.1 [])
    exact ⟨k1, k2, by omega⟩
theorem layR_good (C : List CR) (q : List (List (Nat × Bool))) : ∀ f, RG (layR C q f)
  | 0 => fun c d l h hd => ⟨h, hd, Nat.le_refl _⟩
  | f + 1 => fun r d l h hd => by
    obtain ⟨h1, h2, h3, h4, h5⟩ := lay1_good (layR_good C q f) C q h hd (kids C r)
    rw [layR]
    generalize lay1 (layR C q f) C q d l (kids C r) = x at *
    obtain ⟨k1, k2, k3⟩ := lay2_good q (first := x.2.2.length) (l := x.2.2 ++ [⟨1, r, d, 0⟩]) (h1.snoc (.inr (.inl ⟨rfl, by show d < _; omega⟩))) (by simp) ((kids C r).zip x.2.1) (by
      intro z hz
      have := h4 z.2 (List.of_mem_zip hz).2
      simp; omega)
    exact ⟨k1, k2, by simp at k3; omega⟩

theorem numGo_len (l : List InM) : ∀ i R N c, (numGo l i R N c).length = N.length
  | 0, _, _, _ => rfl
  | i + 1, R, N, c => by
    rw [numGo]
    split
    · split
      · rw [numGo_len]; simp
      · rfl
    · rw [numGo_len]; simp
def numT (i : Nat) (R : List Bool) (N : List Int) (t : Nat) : Prop := if t < i then R.getD t false = true else 0 ≤ N.getD t 0
def numP (l : List InM) (i : Nat) (R : List Bool) (N : List Int) : Prop := ∀ j x, i ≤ j → l[j]? = some x → 0 ≤ N.getD j 0 → (x.op ≠ 0 → numT i R N x.a) ∧ (x.op = 2 → numT i R N x.b)
theorem getD_set_ne {α : Type} (L : List α) (i j : Nat) (x d : α) (h : i ≠ j) : (L.set i x).getD j d = L.getD j d := by simp [List.getD, List.getElem?_set_ne h]
theorem getD_set_eq {α : Type} (L : List α) (i : Nat) (x d : α) (h : i < L.length) : (L.set i x).getD i d = x := by simp [List.getD, h]
theorem getD_set_true (R : List Bool) (i j : Nat) (h : R.getD j false = true) : (R.set i true).getD j false = true := by
  by_cases e : i = j
  · subst e
    have : i < R.length := by
      rcases Nat.lt_or_ge i R.length with h1 | h1
      · exact h1
      · simp [List.getD, h1] at h
    exact getD_set_eq R i true false this
  · rw [getD_set_ne _ _ _ _ _ e]; exact h
theorem numGo_spec {l : List InM} (hl : GL l) : ∀ i (R : List Bool) (N : List Int) (c : Nat), i ≤ l.length → R.length = l.length → N.length = l.length → numP l i R N → numP l 0 R (numGo l i R N c)
  | 0, R, N, c, _, _, _, h => h
  | i + 1, R, N, c, hi, hR, hN, h => by
    rw [numGo]
    obtain ⟨x, hx⟩ : ∃ x, l[i]? = some x := ⟨l[i], List.getElem?_eq_getElem (by omega)⟩
    have hgl := hl i (by omega)
    have hx' : l[i]'(by omega) = x := by rw [List.getElem?_eq_getElem (by omega)] at hx; exact Option.some.inj hx
    rw [hx'] at hgl
    -- the targets of those behind i, seen one step on
    have step : ∀ (R' : List Bool) (v : Int), R'.length = l.length → (∀ t, R.getD t false = true → R'.getD t false = true) → (R.getD i false = true → 0 ≤ v) → ∀ t, numT (i + 1) R N t → numT i R' (N.set i v) t := by
      intro R' v hR' hm hv t ht
      unfold numT at ht ⊢
      by_cases h1 : t < i
      · rw [if_pos h1]; rw [if_pos (by omega)] at ht; exact hm t ht
      · rw [if_neg h1]
        by_cases h2 : t = i
        · subst h2
          rw [if_pos (by omega)] at ht
          rw [getD_set_eq _ _ _ _ (by omega)]; exact hv ht
        · rw [if_neg (by omega)] at ht
          rw [getD_set_ne _ _ _ _ _ (by omega)]; exact ht
    split
    · rename_i hRi
      simp only [hx]
      have fin : ∀ R' : List Bool, R'.length = l.length → (∀ t, R.getD t false = true → R'.getD t false = true) → (x.op ≠ 0 → R'.getD x.a false = true) → (x.op = 2 → R'.getD x.b false = true) → numP l 0 R (numGo l i R' (N.set i (c : Int)) (c + 1)) := by
        intro R' hR' hm ha hb
        have hP : numP l i R' (N.set i (c : Int)) := by
          intro j y hij hy hN0
          by_cases hj : j = i
          · subst hj
            rw [hx] at hy; cases hy
            constructor
            · intro ho
              unfold numT
              rw [if_pos (by rcases hgl with h1 | h1 | h1; exact absurd h1 ho; exact h1.2; exact h1.2.1)]
              exact ha ho
            · intro ho
              unfold numT
              rw [if_pos (by rcases hgl with h1 | h1 | h1; omega; omega; exact h1.2.2)]
              exact hb ho
          · rw [getD_set_ne _ _ _ _ _ (by omega)] at hN0
            obtain ⟨k1, k2⟩ := h j y (by omega) hy hN0
            exact ⟨fun ho => step R' c hR' hm (fun _ => by omega) _ (k1 ho), fun ho => step R' c hR' hm (fun _ => by omega) _ (k2 ho)⟩
        have := numGo_spec hl i R' (N.set i (c : Int)) (c + 1) (by omega) hR' (by simp [hN]) hP
        intro j y h0 hy hN0
        obtain ⟨k1, k2⟩ := this j y h0 hy hN0
        exact ⟨fun ho => by simpa [numT] using k1 ho, fun ho => by simpa [numT] using k2 ho⟩
      by_cases h0 : x.op = 0
      · rw [if_pos h0]
        exact fin R hR (fun t ht => ht) (fun ho => absurd h0 ho) (fun ho => by omega)
      · rw [if_neg h0]
        have hal : x.a < l.length := by rcases hgl with h1 | h1 | h1; exact absurd h1 h0; omega; omega
        by_cases h2 : x.op = 2
        · rw [if_pos h2]
          have hbl : x.b < l.length := by rcases hgl with h1 | h1 | h1 <;> omega
          refine fin _ (by simp [hR]) (fun t ht => getD_set_true _ _ _ (getD_set_true _ _ _ ht)) (fun _ => getD_set_true _ _ _ (getD_set_eq _ _ _ _ (by omega))) (fun _ => getD_set_eq _ _ _ _ (by simp; omega))
        · rw [if_neg h2]
          exact fin _ (by simp [hR]) (fun t ht => getD_set_true _ _ _ ht) (fun _ => getD_set_eq _ _ _ _ (by omega)) (fun ho => absurd ho h2)
    · rename_i hRi
      have hP : numP l i R (N.set i (-1)) := by
        intro j y hij hy hN0
        by_cases hj : j = i
        · subst hj
          rw [getD_set_eq _ _ _ _ (by omega)] at hN0
          omega
        · rw [getD_set_ne _ _ _ _ _ (by omega)] at hN0
          obtain ⟨k1, k2⟩ := h j y (by omega) hy hN0
          exact ⟨fun ho => step R (-1) hR (fun t ht => ht) (fun hc => absurd hc hRi) _ (k1 ho), fun ho => step R (-1) hR (fun t ht => ht) (fun hc => absurd hc hRi) _ (k2 ho)⟩
      exact numGo_spec hl i R (N.set i (-1)) c (by omega) hR (by simp [hN]) hP
theorem numsOf_len (l : List InM) (first : Nat) : (numsOf l first).length = l.length := by unfold numsOf; rw [numGo_len]; simp
theorem numsOf_spec {l : List InM} (hl : GL l) (first : Nat) (j : Nat) (x : InM) (hj : l[j]? = some x) (h0 : 0 ≤ (numsOf l first).getD j 0) : (x.op ≠ 0 → 0 ≤ (numsOf l first).getD x.a 0) ∧ (x.op = 2 → 0 ≤ (numsOf l first).getD x.b 0) := by
  have hP : numP l l.length ((List.replicate l.length false).set first true) (List.replicate l.length 0) := by
    intro j y h1 h2
    have := (List.getElem?_eq_some_iff.1 h2).1
    omega
  have := numGo_spec hl l.length ((List.replicate l.length false).set first true) (List.replicate l.length 0) 0 (Nat.le_refl _) (by simp) (by simp) hP j x (by omega) hj h0
  unfold numsOf
  simpa [numT] using this
end Go.Proofs.YtpbkgeipigcefaaGreat

namespace Go.Proofs.YtpbkgeipigcefaaGreat
open Go.RowKit

structure RD where
  ty : TypeId
  k : Nat
  v : Value
  vs : List (List Value)
structure RWS (base : Nat) (w : World) (rs : List RD) : Prop where
  o : ∀ (i : Nat) (r : RD), rs[i]? = some r → OW r.ty r.k base w r.v r.vs
  d : ∀ (i j : Nat) (r s : RD), i ≠ j → rs[i]? = some r → rs[j]? = some s → ∀ g, r.v.ownBlock = some g → s.v.ownBlock ≠ some g
def owns (rs : List RD) : List Nat := rs.flatMap fun r => r.v.ownBlock.toList
theorem mem_owns {rs : List RD} {g : Nat} : g ∈ owns rs ↔ ∃ (i : Nat) (r : RD), rs[i]? = some r ∧ r.v.ownBlock = some g := by
  unfold owns
  rw [List.mem_flatMap]
  constructor
  · rintro ⟨r, hr, hg⟩
    obtain ⟨i, hi, rfl⟩ := List.mem_iff_getElem.1 hr
    exact ⟨i, rs[i], List.getElem?_eq_getElem hi, by simpa using hg⟩
  · rintro ⟨i, r, hi, hg⟩
    exact ⟨r, List.mem_of_getElem? hi, by simp [hg]⟩
theorem OW.farG {e : TypeId} {k base : Nat} {w w' : World} {v : Value} {vs : List (List Value)} {row : Option Nat} (h : OW e k base w v vs) (hg : w.grownBy w' row) (hb : ∀ g, row = some g → v.ownBlock ≠ some g) : OW e k base w' v vs := by
  refine ⟨⟨h.1.1, ?_⟩, h.2⟩
  rcases h.1.2 with hn | ⟨g, cap, cur, rfl, hbg, hgg, rest⟩
  · exact .inl hn
  · refine .inr ⟨g, cap, cur, rfl, hbg, ?_, rest⟩
    rw [hg.block g (Array.getElem?_eq_some_iff.1 hgg).1 (fun e => hb g e.symm rfl)]
    exact hgg
theorem RWS.frm {base : Nat} {S : List Nat} {w w' : World} {rs : List RD} (h : RWS base w rs) (f : Frm S w w') (hS : ∀ g ∈ S, g < base) : RWS base w' rs := ⟨fun i r hr => (h.o i r hr).frm f hS, h.d⟩
theorem RWS.grow {base gg : Nat} {w w' : World} {rs : List RD} (h : RWS base w rs) (i : Nat) {r r' : RD} (hi : rs[i]? = some r) (hg : w.grownBy w' r.v.ownBlock) (ho : OW r'.ty r'.k base w' r'.v r'.vs) (hb : r'.v.ownBlock = some gg) (ha : r.v.ownBlock = some gg ∨ gg = w.heap.size) : RWS base w' (rs.set i r') := by
  have hil : i < rs.length := (List.getElem?_eq_some_iff.1 hi).1
  have get : ∀ (j : Nat) (s : RD), (rs.set i r')[j]? = some s → (j = i ∧ s = r') ∨ (j ≠ i ∧ rs[j]? = some s) := by
    intro j s hs
    by_cases e : j = i
    · subst e
      rw [List.getElem?_set_self hil] at hs
      exact .inl ⟨rfl, (Option.some.inj hs).symm⟩
    · rw [List.getElem?_set_ne (fun h => e h.symm)] at hs
      exact .inr ⟨e, hs⟩
  have nw : ∀ (j : Nat) (s : RD), j ≠ i → rs[j]? = some s → s.v.ownBlock ≠ some gg := by
    intro j s hj hs e
    rcases ha with ha | ha
    · exact h.d i j r s (fun k => hj k.symm) hi hs gg ha e
    · have := (h.o j s hs).lt e; omega
  refine ⟨fun j s hs => ?_, fun j k a b hjk hj hk g hga => ?_⟩
  · rcases get j s hs with ⟨_, rfl⟩ | ⟨hj, hs⟩
    · exact ho
    · exact (h.o j s hs).farG hg (fun g hr => h.d i j r s (fun k => hj k.symm) hi hs g hr)
  · rcases get j a hj with ⟨rfl, rfl⟩ | ⟨hj1, hj2⟩ <;> rcases get k b hk with ⟨rfl, rfl⟩ | ⟨hk1, hk2⟩
    · exact absurd rfl hjk
    · rw [hb] at hga; cases hga; exact nw k b hk1 hk2
    · intro e; rw [hb] at e; cases e; exact nw j a hj1 hj2 hga
    · exact h.d j k a b hjk hj2 hk2 g hga
theorem RowI.turn {α : Type} {I : Inn α} {A B : List Nat} {gg : Nat} {w w' : World} {row : Option Nat} {css : List (Array Value)} {xs : List α} (h : RowI I A w css xs) (hg : w.grownBy w' row) (hr : ∀ r, row = some r → r ∈ A) (ha : row = some gg ∨ gg = w.heap.size) (hB : ∀ g ∈ B, g ∈ A ∨ g = gg) : RowI I B w' css xs := by
  have h1 : RowI I (A ++ [w.heap.size]) w css xs := h.avoid (by intro g hm; simp at hm; rcases hm with hm | hm; exact .inl hm; exact .inr (by omega))
  have h2 : RowI I (A ++ [w.heap.size]) w' css xs := h1.frm (S := row.toList) ((Frm.refl row.toList w).grown hg (fun r hr => .inl (by simp [hr]))) (by intro g hm; simp at hm; simp [hr g hm])
  refine h2.avoid (fun g hm => .inl ?_)
  rcases hB g hm with hm | rfl
  · simp [hm]
  · rcases ha with ha | ha
    · simp [hr _ ha]
    · simp [ha]
def cc (L : List (Nat × Bool)) : List (List Value) := L.map fun c => [.int .i64 (c.1 : Nat), .bool c.2]
theorem cc_len (L : List (Nat × Bool)) : (cc L).length = L.length := by simp [cc]
theorem cc_snoc (L : List (Nat × Bool)) (c : Nat × Bool) : cc L ++ [[.int .i64 (c.1 : Nat), .bool c.2]] = cc (L ++ [c]) := by simp [cc]
def conI : Inn (List (Nat × Bool)) where
  rel A w cs x := ∃ vb, cs = #[vb] ∧ RW A 2 w vb (cc x)
  frm := by
    rintro A S w w' cs x ⟨vb, h1, h2⟩ f hS
    exact ⟨vb, h1, h2.frm f hS⟩
  avoid := by
    rintro A B w cs x ⟨vb, h1, h2⟩ hB
    exact ⟨vb, h1, h2.avoid hB⟩
structure KG (Z : List Nat) (w0 : World) (kb : Nat) (w : World) (rs : List RD) (ca : List (Array Value)) (sa : List AutM) (cq : List (Array Value)) (sq : List (List (Nat × Bool))) : Prop where
  fr : Frm [kb] w0 w
  lo : kb < w0.heap.size
  rw : RWS w0.heap.size w rs
  ai : RowI autI (Z ++ kb :: owns rs) w ca sa
  qi : RowI conI (Z ++ kb :: owns rs) w cq sq
theorem KG.frm {Z : List Nat} {w0 : World} {kb : Nat} {S : List Nat} {w w' : World} {rs : List RD} {ca : List (Array Value)} {sa : List AutM} {cq : List (Array Value)} {sq : List (List (Nat × Bool))} (h : KG Z w0 kb w rs ca sa cq sq) (f : Frm S w w') (hS : ∀ g ∈ S, g = kb) : KG Z w0 kb w' rs ca sa cq sq :=
  ⟨h.fr.over f (fun x hx => .inr (by simp [hS x hx])), h.lo, h.rw.frm f (fun g hg => by rw [hS g hg]; exact h.lo), h.ai.frm f (fun g hg => by simp [hS g hg]), h.qi.frm f (fun g hg => by simp [hS g hg])⟩
theorem KG.addZ {Z : List Nat} {w0 : World} {kb : Nat} {w : World} {rs : List RD} {ca : List (Array Value)} {sa : List AutM} {cq : List (Array Value)} {sq : List (List (Nat × Bool))} (h : KG Z w0 kb w rs ca sa cq sq) {b : Nat} (hb : w.heap.size ≤ b) : KG (b :: Z) w0 kb w rs ca sa cq sq :=
  ⟨h.fr, h.lo, h.rw, h.ai.avoid (fun g hg => by simp at hg ⊢; rcases hg with rfl | hg; exact .inr hb; exact .inl hg), h.qi.avoid (fun g hg => by simp at hg ⊢; rcases hg with rfl | hg; exact .inr hb; exact .inl hg)⟩
theorem KG.lessZ {Z : List Nat} {w0 : World} {kb : Nat} {w : World} {rs : List RD} {ca : List (Array Value)} {sa : List AutM} {cq : List (Array Value)} {sq : List (List (Nat × Bool))} {b : Nat} (h : KG (b :: Z) w0 kb w rs ca sa cq sq) : KG Z w0 kb w rs ca sa cq sq :=
  ⟨h.fr, h.lo, h.rw, h.ai.avoid (fun g hg => .inl (by simp at hg ⊢; exact .inr hg)), h.qi.avoid (fun g hg => .inl (by simp at hg ⊢; exact .inr hg))⟩
theorem KG.off {Z : List Nat} {w0 : World} {kb : Nat} {S : List Nat} {w w' : World} {rs : List RD} {ca : List (Array Value)} {sa : List AutM} {cq : List (Array Value)} {sq : List (List (Nat × Bool))} (h : KG Z w0 kb w rs ca sa cq sq) (f : Frm S w w') (hZ : ∀ g ∈ S, g ∈ Z) (h0 : ∀ g ∈ S, w0.heap.size ≤ g) (ho : ∀ g ∈ S, g ∉ owns rs) : KG Z w0 kb w' rs ca sa cq sq := by
  refine ⟨h.fr.over f (fun x hx => .inl (h0 x hx)), h.lo, ⟨fun i r hr => ?_, h.rw.d⟩, h.ai.frm f (fun g hg => by simp [hZ g hg]), h.qi.frm f (fun g hg => by simp [hZ g hg])⟩
  have ow := h.rw.o i r hr
  refine ⟨⟨ow.1.1, ?_⟩, ow.2⟩
  rcases ow.1.2 with hn | ⟨g, cap, cur, e, hbg, hgg, rest⟩
  · exact .inl hn
  · refine .inr ⟨g, cap, cur, e, hbg, ?_, rest⟩
    rw [f.block g (Array.getElem?_eq_some_iff.1 hgg).1 (fun hm => ho g hm (mem_owns.2 ⟨i, r, hr, by rw [e]; rfl⟩))]
    exact hgg
theorem KG.grow {Z : List Nat} {w0 : World} {kb gg : Nat} {w w' : World} {rs : List RD} {ca : List (Array Value)} {sa : List AutM} {cq : List (Array Value)} {sq : List (List (Nat × Bool))} (h : KG Z w0 kb w rs ca sa cq sq) (i : Nat) {r r' : RD} (hi : rs[i]? = some r) (hg : w.grownBy w' r.v.ownBlock) (ho : OW r'.ty r'.k w0.heap.size w' r'.v r'.vs) (hb : r'.v.ownBlock = some gg) (ha : r.v.ownBlock = some gg ∨ gg = w.heap.size) : KG Z w0 kb w' (rs.set i r') ca sa cq sq := by
  have hil : i < rs.length := (List.getElem?_eq_some_iff.1 hi).1
  have hr : ∀ g, r.v.ownBlock = some g → g ∈ Z ++ kb :: owns rs := fun g e => List.mem_append.2 (.inr (List.mem_cons.2 (.inr (mem_owns.2 ⟨i, r, hi, e⟩))))
  have hB : ∀ g ∈ Z ++ kb :: owns (rs.set i r'), g ∈ Z ++ kb :: owns rs ∨ g = gg := by
    intro g hm
    rcases List.mem_append.1 hm with hm | hm
    · exact .inl (List.mem_append.2 (.inl hm))
    rcases List.mem_cons.1 hm with rfl | hm
    · exact .inl (by simp)
    · obtain ⟨j, s, hj, hs⟩ := mem_owns.1 hm
      by_cases e : j = i
      · subst e
        rw [List.getElem?_set_self hil] at hj
        cases hj
        rw [hb] at hs
        exact .inr (Option.some.inj hs).symm
      · rw [List.getElem?_set_ne (fun h => e h.symm)] at hj
        exact .inl (List.mem_append.2 (.inr (List.mem_cons.2 (.inr (mem_owns.2 ⟨j, s, hj, hs⟩)))))
  exact ⟨h.fr.grown hg (fun g e => .inr ((h.rw.o i r hi).lt e).1), h.lo, h.rw.grow i hi hg ho hb ha, h.ai.turn hg hr ha hB, h.qi.turn hg hr ha hB⟩

structure V4 where
  rt : Value
  x : Value
  q : Value
  l : Value
abbrev kcell (V : V6) (U : V4) : Array Value := #[V.n, V.c, V.a, V.t, V.r, V.i, U.rt, U.x, U.q, U.l]
def KR (w : World) (b : Nat) (V : V6) (U : V4) : Prop := w.heap[b]? = some (.cells (kcell V U) 93 (0, 0))
theorem KR.c {w : World} {b : Nat} {V : V6} {U : V4} (h : KR w b V U) (i : Nat) : w.cell? ⟨b, i, none⟩ = (kcell V U)[i]? := by
  unfold KR at h
  simp [World.cell?, h]
theorem KR.fz {w : World} {b : Nat} {V : V6} {U : V4} (h : KR w b V U) (o : Nat) : w.frozen? ⟨b, o, none⟩ = false := by
  unfold KR at h
  simp [World.frozen?, h]
theorem KR.lt {w : World} {b : Nat} {V : V6} {U : V4} (h : KR w b V U) : b < w.heap.size := (Array.getElem?_eq_some_iff.1 h).1
theorem KR.frm {S : List Nat} {w w' : World} {b : Nat} {V : V6} {U : V4} (h : KR w b V U) (f : Frm S w w') (hS : b ∉ S) : KR w' b V U := (f.block b h.lt hS).trans h
theorem KR.grown {w w' : World} {b : Nat} {V : V6} {U : V4} {row : Option Nat} (h : KR w b V U) (hg : w.grownBy w' row) (hr : ∀ r, row = some r → r ≠ b) : KR w' b V U := (hg.block b h.lt (fun e => hr b e.symm rfl)).trans h
theorem KR.set {w : World} {b : Nat} {V V' : V6} {U U' : V4} (h : KR w b V U) (i : Nat) (v : Value) (e : (kcell V U).setIfInBounds i v = kcell V' U') : KR (w.setCell ⟨b, i, none⟩ v) b V' U' := by
  unfold KR at h ⊢
  rw [← e]
  simp [World.setCell, Array.getElem?_modify, h]

abbrev krs (V : V6) (U : V4) (s : CS) (ca cq : List (Array Value)) : List RD :=
  [⟨9, 1, V.n, sc s.n⟩, ⟨9, 1, V.c, sc s.c⟩, ⟨9, 1, U.x, sc s.x⟩, ⟨133, 259, V.a, lst ca⟩, ⟨117, 3, V.t, tc s.t⟩, ⟨113, 1, U.q, lst cq⟩]
structure KS (Z : List Nat) (w0 : World) (kb : Nat) (w : World) (V : V6) (U : V4) (s : CS) : Prop where
  row : KR w kb V U
  g : ∃ ca cq, KG Z w0 kb w (krs V U s ca cq) ca s.a cq s.q
theorem KS.frm {Z : List Nat} {w0 : World} {kb : Nat} {w w' : World} {V : V6} {U : V4} {s : CS} (h : KS Z w0 kb w V U s) (f : Frm [] w w') : KS Z w0 kb w' V U s := by
  obtain ⟨ca, cq, g⟩ := h.g
  exact ⟨h.row.frm f (by simp), ca, cq, g.frm f (by simp)⟩
theorem KS.addZ {Z : List Nat} {w0 : World} {kb : Nat} {w : World} {V : V6} {U : V4} {s : CS} (h : KS Z w0 kb w V U s) {b : Nat} (hb : w.heap.size ≤ b) : KS (b :: Z) w0 kb w V U s := by
  obtain ⟨ca, cq, g⟩ := h.g
  exact ⟨h.row, ca, cq, g.addZ hb⟩
theorem KS.lessZ {Z : List Nat} {w0 : World} {kb b : Nat} {w : World} {V : V6} {U : V4} {s : CS} (h : KS (b :: Z) w0 kb w V U s) : KS Z w0 kb w V U s := by
  obtain ⟨ca, cq, g⟩ := h.g
  exact ⟨h.row, ca, cq, g.lessZ⟩
end Go.Proofs.YtpbkgeipigcefaaGreat

namespace Go.Proofs.YtpbkgeipigcefaaGreat
open Go.RowKit

set_option maxRecDepth 100000 in
set_option maxHeartbeats 1000000 in
theorem find_any (w : World) (v : Value) (A : List Nat) (L : List (List UInt8)) (x : List UInt8) (h : RW A 1 w v (sc L)) (hL : L.length ≤ 1048576) :
    Calls Tryz.prog 71 #[v, .string (bs x)] w fun e w' => e = .returned (.int .i64 (fdx L x : Nat)) ∧ w = w' := by
  obtain ⟨a, c, rfl, r⟩ := h.str
  have R := hide r
  have hl := bs_toList
  clear h r
  go_enter Tryz.func71, Tryz.ntmps71
  go_wp2_with fail
  go_loopg [9] L.length (fun k v9 wr => ∃ j : Nat, j + k = L.length ∧ v9 = .int .i64 j ∧ wr = w ∧ Hid (∀ i (hi : i < j) (hl : i < L.length), (L[i] == x) = false))
  case atStart => exact ⟨0, by omega, rfl, rfl, fun i hi => by omega⟩
  case round =>
    obtain ⟨j, hjk, rfl, hw, HF⟩ := hrel
    subst hw
    by_cases hlt : j < L.length
    · have hd1 : decide ((j : Int) < (L.length : Int)) = true := decide_eq_true (by omega)
      obtain ⟨g, off, rfl, hg, k1⟩ := R.out j hlt
      cases he : (L[j] == x)
      · have HF2 : Hid (∀ i (hi : i < j + 1) (hl : i < L.length), (L[i] == x) = false) := fun i hi hil => by
          by_cases e : i = j
          · subst e; exact he
          · exact HF.out i (by omega) hil
        generalize L[j] = s at *
        clear HF
        go_wp2
        go_roundg (gk - 1)
        case measure => omega
        case rel => exact ⟨j + 1, by omega, by go_num, rfl, HF2⟩
      · have HV : Hid (fdx L x = j) := fdx_at hlt (fun i hi => HF.out i hi (by omega)) he
        generalize L[j] = s at *
        clear HF
        go_wp2
        go_ret
        rw [HV.out]
        exact ⟨rfl, rfl⟩
    · have hd1 : decide ((j : Int) < (L.length : Int)) = false := decide_eq_false (by omega)
      have HV : Hid (fdx L x = L.length) := fdx_none (fun i hi => HF.out i (by omega) hi)
      clear HF
      go_wp2
      go_ret
      rw [HV.out]
      exact ⟨rfl, rfl⟩

def rcl (c : CR) (vby vif : Value) : Array Value := #[.int .i64 (c.d : Nat), .string (bs c.rc), .bool c.tb, vby, .int .i64 c.wt, .int .i64 c.ev, .int .i64 c.rp, vif, .bool c.co]
def mtc (L : List CM) : List (List Value) := L.map mcells
def rtI : Inn CR where
  rel A w cs c := ∃ vby vif, cs = rcl c vby vif ∧ RW A 1 w vby (sc c.bys) ∧ RW A 3 w vif (mtc c.ifs)
  frm := by
    rintro A S w w' cs x ⟨v1, v2, h1, h2, h3⟩ f hS
    exact ⟨v1, v2, h1, h2.frm f hS, h3.frm f hS⟩
  avoid := by
    rintro A B w cs x ⟨v1, v2, h1, h2, h3⟩ hB
    exact ⟨v1, v2, h1, h2.avoid hB, h3.avoid hB⟩
def RTS (A : List Nat) (w : World) (v : Value) (C : List CR) : Prop := ∃ css, RW A 9 w v (lst css) ∧ RowI rtI A w css C
theorem RTS.frm {A S : List Nat} {w w' : World} {v : Value} {C : List CR} (h : RTS A w v C) (f : Frm S w w') (hS : ∀ g ∈ S, g ∈ A) : RTS A w' v C := by
  obtain ⟨css, h1, h2⟩ := h
  exact ⟨css, h1.frm f hS, h2.frm f hS⟩
def parI (C : List CR) (i : Nat) : Int := match par C i with | some p => (p : Int) | none => -1

set_option maxRecDepth 100000 in
set_option maxHeartbeats 1000000 in
theorem parentOf_any (w : World) (v : Value) (A : List Nat) (C : List CR) (h : RTS A w v C) (hC : C.length ≤ 1048576) (hd : ∀ c ∈ C, c.d ≤ 1048576) (i : Nat) (hi : i < C.length) :
    Calls Tryz.prog 60 #[v, .int .i64 i] w fun e w' => e = .returned (.int .i64 (parI C i)) ∧ ∃ q, w' = w.drewN q := by
  obtain ⟨css, h1, h2⟩ := h
  obtain ⟨a, cp, rfl, r⟩ := row_at h1 h2
  obtain ⟨g, off, cs, rfl, hg, _, ⟨vby, vif, rfl, _⟩, k1⟩ := r i hi
  have p0 : w.cell? ⟨g, off + i * 9, none⟩ = some (.int .i64 (C[i].d : Nat)) := k1 0 _ rfl
  have HP : Hid (parI C i = match parGo C C[i].d i with | some p => (p : Int) | none => -1) := by
    show _ = _; unfold parI par; rw [List.getElem?_eq_getElem hi]
  have hdi := hd C[i] (List.getElem_mem hi)
  have R := hide r
  have HD := hide hd
  have hd0 : decide ((i : Int) < 0) = false := decide_eq_false (by omega)
  have hd0' : decide ((C.length : Int) ≤ (i : Int)) = false := decide_eq_false (by omega)
  generalize hdd : C[i].d = dd at *
  clear h1 h2 r k1 hdd hd
  go_enter Tryz.func60, Tryz.ntmps60
  go_wp2_with fail
  go_loopg [5] i (fun k v5 wr => ∃ (j q : Nat) (x : Int), j ≤ i ∧ k = j ∧ v5 = .int .i64 x ∧ x = (j : Int) - 1 ∧ wr = w.drewN q ∧ Hid (parGo C dd j = parGo C dd i))
  case atStart => exact ⟨i, 0, _, by omega, rfl, rfl, by omega, rfl, by show _ = _; rfl⟩
  case round =>
    obtain ⟨j, q, x, hji, rfl, rfl, hx, hw, HF⟩ := hrel
    subst hw
    rcases gk with _ | n
    · obtain rfl : x = -1 := by omega
      clear hx
      have HV : Hid (parI C i = -1) := by show _ = _; rw [HP.out, ← HF.out]; rfl
      clear HF HP
      go_wp2
      go_ret
      rw [HV.out]
      exact ⟨rfl, q, rfl⟩
    · obtain rfl : x = (n : Int) := by omega
      clear hx
      obtain ⟨g', off', cs, e, _, _, ⟨vby, vif, rfl, _⟩, k1⟩ := R.out n (by omega)
      simp only [Option.some.injEq, Addr.mk.injEq, and_true] at e
      obtain ⟨rfl, rfl⟩ := e
      have q0 : w.cell? ⟨g, off + n * 9, none⟩ = some (.int .i64 (C[n].d : Nat)) := k1 0 _ rfl
      have hdn := HD.out C[n] (List.getElem_mem _)
      have hgo : parGo C dd (n + 1) = if C[n].d + 1 = dd then some n else parGo C dd n := by
        rw [parGo, List.getElem?_eq_getElem (by omega)]; simp
      generalize C[n].d = dn at *
      by_cases he : dn + 1 = dd
      · have HV : Hid (parI C i = (n : Int)) := by
          show _ = _; rw [HP.out, ← HF.out, hgo, if_pos he]
        have hb : ((dn : Int) == (dd : Int) - 1) = true := by simp; omega
        have hb' : decide ((dn : Int) = (dd : Int) - 1) = true := decide_eq_true (by omega)
        clear HF HP hgo k1
        go_wp2_with fail
        go_quiet (fail)
        go_wp2
        go_ret
        rw [HV.out]
        exact ⟨rfl, _, drewN_two _ _ _⟩
      · have HF2 : Hid (parGo C dd n = parGo C dd i) := by
          show _ = _; rw [← HF.out, hgo, if_neg he]
        have hb : ((dn : Int) == (dd : Int) - 1) = false := by simp; omega
        have hb' : decide ((dn : Int) = (dd : Int) - 1) = false := decide_eq_false (by omega)
        clear HF hgo k1
        go_wp2_with fail
        go_quiet (fail)
        go_wp2
        go_roundg n
        case measure => omega
        case rel => exact ⟨n, _, _, by omega, rfl, rfl, by omega, rfl, HF2⟩

set_option maxRecDepth 100000 in
theorem toldOr_any (w : World) (x : Int) (y : Nat) (hx : -1 ≤ x) :
    Calls Tryz.prog 73 #[.int .i64 x, .int .i64 y] w fun e w' => e = .returned (.int .i64 (tld x y : Nat)) ∧ w = w' := by
  by_cases h : x = -1
  · subst h
    go_enter Tryz.func73, Tryz.ntmps73
    go_wp2
    go_ret
    exact ⟨rfl, rfl⟩
  · have HV : Hid (((tld x y : Nat) : Int) = x) := by show _ = _; unfold tld; rw [if_neg h]; omega
    have hb : (x == -1) = false := by simp [h]
    go_enter Tryz.func73, Tryz.ntmps73
    go_wp2
    go_ret
    rw [HV.out]
    exact ⟨rfl, rfl⟩
end Go.Proofs.YtpbkgeipigcefaaGreat

