import Derived.Test.YtpbkgeipigcefaaGreatJ44
import Derived.Test.YtpbkgeipigcefaaGreatJ43
import Derived.Test.YtpbkgeipigcefaaGreatJ40
set_option linter.unusedVariables false
set_option linter.unusedSimpArgs false
set_option linter.unnecessarySimpa false
namespace Go.Proofs.YtpbkgeipigcefaaGreat
open Go.RowKit

/-! What a route tells, where one is put in. -/
def hAt (C : List CR) (j : Nat) : HitM := (hitsN C C.length).getD j ⟨[], [], 0, 0, 0⟩
theorem hitsN_pre (C : List CR) : ∀ (d n : Nat), hitsN C n <+: hitsN C (n + d)
  | 0, n => List.prefix_refl _
  | d + 1, n => by rw [show n + (d + 1) = (n + d) + 1 by omega, hitsN]; exact (hitsN_pre C d n).trans (List.prefix_append _ _)
theorem hitsN_get {C : List CR} {p n : Nat} (hp : p < n) (hn : n ≤ C.length) (d : HitM) : (hitsN C n).getD p d = hAt C p := by
  have h := hitsN_pre C (C.length - n) n
  rw [show n + (C.length - n) = C.length by omega] at h
  unfold hAt
  rw [pre_getD h _ (by rw [hitsN_len]; exact hp)]
  simp [List.getD, hitsN_len, hp]
theorem hAt_eq {C : List CR} {j : Nat} (hj : j < C.length) : hAt C j = hitB (match par C j with | some p => hAt C p | none => rootH) C[j] := by
  rw [← hitsN_get (n := j + 1) (by omega) (by omega) ⟨[], [], 0, 0, 0⟩, hitsN, List.getElem?_eq_getElem hj]
  rw [List.getD_eq_getElem?_getD, List.getElem?_append_right (by rw [hitsN_len]; exact Nat.le_refl _), hitsN_len, Nat.sub_self]
  show hitB (aboveH C (hitsN C j) j) C[j] = _
  unfold aboveH
  cases hp : par C j with
  | none => rfl
  | some p =>
    simp only
    rw [hitsN_get (par_lt hp) (by omega)]
theorem Put.hits {C : List CR} {i : Nat} {N : CR} (h : Put C i N) : ∀ j, j < C.length → hAt (insC C i N) (sh i j) = hAt C j := by
  intro j
  induction j using Nat.strongRecOn with
  | ind j ih =>
    intro hj
    have hl : sh i j < (insC C i N).length := by rw [insC_len N h.il]; unfold sh; split <;> omega
    have he : (insC C i N)[sh i j] = C[j] := by
      have := insC_sh N h.il j
      rw [List.getElem?_eq_getElem hl, List.getElem?_eq_getElem hj] at this
      exact Option.some.inj this
    rw [hAt_eq hl, hAt_eq hj, he, h.par0 j hj]
    cases hp : par C j with
    | none => rfl
    | some p =>
      have hpl := par_lt hp
      simp only [Option.map_some]
      rw [ih p hpl (by omega)]
theorem hitsC_eq (C : List CR) (V : List UInt8 → List UInt8) : hitsC C V = (sentH (hold autC V C) C 6 0).map (hAt C) := rfl
theorem hold_put {C : List CR} {i : Nat} {N : CR} (h : Put C i N) (V : List UInt8 → List UInt8) : ∀ c, c < C.length → hold autC V (insC C i N) (sh i c) = hold autC V C c := fun c _ => by
  unfold hold
  rw [insC_sh N h.il]
theorem hold_new {C : List CR} {i : Nat} {N : CR} (h : Put C i N) (V : List UInt8 → List UInt8) : hold autC V (insC C i N) i = N.ifs.all (mHolds autC V) := by
  unfold hold
  rw [insC_at N h.il]
theorem Put.map_hits {C : List CR} {i : Nat} {N : CR} (h : Put C i N) (H : Nat → Bool) (h0 : 0 < C.length) : ((sentH H C 6 0).map (sh i)).map (hAt (insC C i N)) = (sentH H C 6 0).map (hAt C) := by
  rw [List.map_map]
  refine List.map_congr_left (fun x hx => ?_)
  exact h.hits x ((sentH_below 6 0 h0).1 x hx).2
theorem ahead_hits {C : List CR} {N : CR} (h : Put C 1 N) (hd : N.d = 1) (h0 : 0 < C.length) (V : List UInt8 → List UInt8) (hN : N.ifs.all (mHolds autC V) = true) :
    hitsC (insC C 1 N) V = hitB (hAt C 0) N :: (if N.co then (if (kids C 0).any (hold autC V C) then hitsC C V else []) else []) ∧ ((kids C 0).any (hold autC V C) = false → (hitsC C V).length = 1) := by
  have h1 := h.ahead hd h0 (H := hold autC V C) (H' := hold autC V (insC C 1 N)) (hold_put h V) (by rw [hold_new h]; exact hN) 4
  have hl : 1 < (insC C 1 N).length := by rw [insC_len N h.il]; omega
  have hN1 : (insC C 1 N)[1] = N := by
    have := insC_at N h.il
    rw [List.getElem?_eq_getElem hl] at this
    exact Option.some.inj this
  have hA : hAt (insC C 1 N) 1 = hitB (hAt C 0) N := by
    rw [hAt_eq hl, h.first hd h0, hN1]
    simp only
    have := h.hits 0 h0
    rw [show sh 1 0 = 0 from rfl] at this
    rw [this]
  refine ⟨?_, fun hk => ?_⟩
  · rw [hitsC_eq, h1, List.map_cons, hA]
    congr 1
    split
    · split
      · rw [h.map_hits _ h0]; rfl
      · rfl
    · rfl
  · rw [hitsC_eq, sentH, hk]; rfl
/-! A line put in. -/
theorem lns_none : ∀ (t cur : List UInt8), (10 : UInt8) ∉ cur → ∀ l ∈ lnsGo t cur, ∃ x, l = x ++ [10] ∧ (10 : UInt8) ∉ x
  | [], cur, _, l, h => by simp [lnsGo] at h
  | c :: r, cur, hc, l, h => by
    rw [lnsGo] at h
    split at h
    · rcases List.mem_cons.1 h with rfl | h
      · exact ⟨cur, rfl, hc⟩
      · exact lns_none r [] (by simp) l h
    · rename_i hc10
      refine lns_none r _ ?_ l h
      intro hm
      rcases List.mem_append.1 hm with h1 | h1
      · exact hc h1
      · simp at h1; rw [← h1] at hc10; simp at hc10
theorem lns_one : ∀ (x cur r : List UInt8), (10 : UInt8) ∉ x → lnsGo (x ++ 10 :: r) cur = (cur ++ x ++ [10]) :: lnsGo r []
  | [], cur, r, _ => by simp [lnsGo]
  | c :: x, cur, r, h => by
    have hc : (c == 10) = false := by
      rw [beq_eq_false_iff_ne]; rintro rfl; exact h (by simp)
    rw [List.cons_append, lnsGo, hc]
    simp only [Bool.false_eq_true, if_false]
    rw [lns_one x (cur ++ [c]) r (fun hm => h (by simp [hm]))]
    simp
theorem lns_flat : ∀ (ls : List (List UInt8)), (∀ l ∈ ls, ∃ x, l = x ++ [10] ∧ (10 : UInt8) ∉ x) → lnsK ls.flatten = ls
  | [], _ => rfl
  | l :: ls, h => by
    obtain ⟨x, rfl, hx⟩ := h l (by simp)
    have ih := lns_flat ls (fun y hy => h y (by simp [hy]))
    unfold lnsK at ih ⊢
    rw [List.flatten_cons, List.append_assoc]
    show lnsGo (x ++ 10 :: ls.flatten) [] = _
    rw [lns_one x [] _ hx, ih]; rfl
theorem mapM_ins {f : List UInt8 → Option CR} {x : List UInt8} {N : CR} (hx : f x = some N) : ∀ (ls : List (List UInt8)) (C : List CR) (i : Nat), ls.mapM f = some C → (ls.take i ++ x :: ls.drop i).mapM f = some (insC C i N)
  | ls, C, 0, h => by
    show (x :: ls).mapM f = some (N :: C)
    rw [mapM_cons', hx, h]
  | [], C, i + 1, h => by
    simp at h; subst h
    show ([x]).mapM f = _
    rw [mapM_cons', hx]; rfl
  | l :: ls, C, i + 1, h => by
    rw [mapM_cons'] at h
    cases hl : f l with
    | none => rw [hl] at h; cases h
    | some c =>
      rw [hl] at h
      cases hm : ls.mapM f with
      | none => rw [hm] at h; cases h
      | some D =>
        rw [hm] at h
        cases h
        rw [List.take_succ_cons, List.drop_succ_cons, List.cons_append, mapM_cons', hl, mapM_ins hx ls D i hm]
        rfl
theorem treeGo_cons {c : CR} {r : List CR} {i : Nat} {da : Int} (hi : 1 ≤ i) : treeGo (c :: r) i da = 0 ↔ followOk c.d da = true ∧ i < 16 ∧ treeGo r (i + 1) c.d = 0 := by
  rw [treeGo]
  have : (i == 0) = false := by simp; omega
  rw [this]
  simp only [Bool.false_eq_true, if_false]
  by_cases h : (!(followOk (c.d : Int) da) || decide (16 ≤ i)) = true
  · rw [if_pos h]
    constructor
    · intro h2; omega
    · rintro ⟨h1, h2, _⟩
      rw [h1] at h
      simp at h
      omega
  · rw [if_neg h]
    have h' : followOk (c.d : Int) da = true ∧ i < 16 := by
      cases hf : followOk (c.d : Int) da
      · rw [hf] at h; simp at h
      · rw [hf] at h; simp at h; exact ⟨rfl, by omega⟩
    exact ⟨fun h2 => ⟨h'.1, h'.2, h2⟩, fun h2 => h2.2.2⟩
theorem treeGo_shift : ∀ (r : List CR) (i i' : Nat) (da : Int), 1 ≤ i → 1 ≤ i' → i' + r.length ≤ 16 → treeGo r i da = 0 → treeGo r i' da = 0
  | [], i, i', da, _, _, _, _ => rfl
  | c :: r, i, i', da, h1, h2, h3, h => by
    obtain ⟨a, b, d⟩ := (treeGo_cons h1).1 h
    rw [List.length_cons] at h3
    exact (treeGo_cons h2).2 ⟨a, by omega, treeGo_shift r (i + 1) (i' + 1) c.d (by omega) (by omega) (by omega) d⟩
theorem treeGo_ins (N : CR) (hN1 : 1 ≤ N.d) (hN5 : N.d ≤ 5) : ∀ (l : List CR) (k i : Nat) (da : Nat), 1 ≤ i → k ≤ l.length → i + l.length + 1 ≤ 16 → (∀ c, l[k]? = some c → N.d = c.d) → (k = l.length → N.d = 1) → treeGo l i da = 0 → treeGo (l.take k ++ N :: l.drop k) i da = 0
  | l, 0, i, da, hi, _, hl, hc, he, h => by
    show treeGo (N :: l) i da = 0
    cases l with
    | nil =>
      refine (treeGo_cons hi).2 ⟨?_, by simp at hl; omega, rfl⟩
      have := he rfl
      unfold followOk
      simp
      omega
    | cons c r =>
      obtain ⟨a, b, d⟩ := (treeGo_cons hi).1 h
      have hcd := hc c rfl
      rw [List.length_cons] at hl
      refine (treeGo_cons hi).2 ⟨by rw [hcd]; exact a, by omega, (treeGo_cons (by omega)).2 ⟨?_, by omega, treeGo_shift r (i + 1) (i + 1 + 1) c.d (by omega) (by omega) (by omega) d⟩⟩
      rw [hcd]
      unfold followOk
      simp
      omega
  | [], k + 1, i, da, _, hk, _, _, _, _ => by simp at hk
  | c :: r, k + 1, i, da, hi, hk, hl, hc, he, h => by
    obtain ⟨a, b, d⟩ := (treeGo_cons hi).1 h
    rw [List.length_cons] at hl hk
    rw [List.take_succ_cons, List.drop_succ_cons, List.cons_append]
    exact (treeGo_cons hi).2 ⟨a, b, treeGo_ins N hN1 hN5 r k (i + 1) c.d (by omega) (by omega) (by omega) (fun c' h' => hc c' (by simpa using h')) (fun h' => he (by rw [List.length_cons, h'])) d⟩
theorem nameGo_zero {L : List (List UInt8)} : ∀ (C : List CR) (i : Nat), (∀ c ∈ C, c.rc = [45] ∨ c.rc ∈ L) → nameGo L C i = 0
  | [], i, _ => rfl
  | c :: r, i, h => by
    rw [nameGo, if_neg]
    · exact nameGo_zero r (i + 1) (fun x hx => h x (by simp [hx]))
    · rcases h c (by simp) with e | e
      · rw [e]; simp
      · simp; intro _; exact e
theorem xF_zero {re : List UInt8 → Nat} : ∀ (C : List CR) (i : Nat), xF re C i = (0, 0) ↔ ∀ c ∈ C, mF re c.ifs = 0
  | [], i => by simp [xF]
  | c :: r, i => by
    rw [xF]
    by_cases h : mF re c.ifs = 0
    · rw [if_neg (by simp [h]), xF_zero r (i + 1)]
      simp [h]
    · rw [if_pos (by simpa using h)]
      constructor
      · intro h2; simp at h2
      · intro h2; exact absurd (h2 c (by simp)) h
theorem cRes_some {t : List UInt8} {L : List (List UInt8)} {C : List CR} (h : cRead t = .ok (L, C)) (re : List UInt8 → Nat) : cRes re t = xF re C 0 := by
  unfold cRes; rw [h]
theorem mem_insC {C : List CR} {i : Nat} {N c : CR} (h : c ∈ insC C i N) : c = N ∨ c ∈ C := by
  unfold insC at h
  rcases List.mem_append.1 h with h | h
  · exact .inr (List.mem_of_mem_take h)
  · rcases List.mem_cons.1 h with h | h
    · exact .inl h
    · exact .inr (List.mem_of_mem_drop h)
theorem cRead_put {t : List UInt8} {L : List (List UInt8)} {C : List CR} (ht : t.length ≤ 1048576) (h : cRead t = .ok (L, C)) {i : Nat} {y : List UInt8} {N : CR} (hy : (10 : UInt8) ∉ y) (hN : sRoute y = some N) (hp : Put C i N) (he : i = C.length → N.d = 1) (h5 : N.d ≤ 5) (hrc : N.rc = [45] ∨ N.rc ∈ L) (hC : C.length + 1 ≤ 16) (hl : (wthL (lnsK t) (i + 1) (y ++ [10])).flatten.length ≤ 1200) :
    cRead (wthL (lnsK t) (i + 1) (y ++ [10])).flatten = .ok (L, insC C i N) := by
  obtain ⟨c1, c2, c3, c4⟩ := cRead_tree h
  obtain ⟨f1, l0, ls, e1, e2, e3⟩ := (cRead1_lines t L C).1 c1
  have hst := hp.st
  have hN1 : 1 ≤ N.d := by
    by_cases hi : i < C.length
    · rw [hp.d C[i] (List.getElem?_eq_getElem hi)]
      obtain ⟨k, rfl⟩ : ∃ k, i = k + 1 := ⟨i - 1, by have := hp.i1; omega⟩
      exact (hst.2 k C[k] C[k + 1] (List.getElem?_eq_getElem (by omega)) (List.getElem?_eq_getElem hi)).1
    · rw [he (by have := hp.il; omega)]; exact Nat.le_refl _
  have hw : wthL (lnsK t) (i + 1) (y ++ [10]) = l0 :: (ls.take i ++ (y ++ [10]) :: ls.drop i) := by unfold wthL; rw [e1]; rfl
  have hlk : lnsK (wthL (lnsK t) (i + 1) (y ++ [10])).flatten = wthL (lnsK t) (i + 1) (y ++ [10]) := by
    refine lns_flat _ (fun l hm => ?_)
    unfold wthL at hm
    have hall := lns_none t [] (by simp)
    rcases List.mem_append.1 hm with hm | hm
    · exact hall l (List.mem_of_mem_take hm)
    · rcases List.mem_cons.1 hm with rfl | hm
      · exact ⟨y, rfl, hy⟩
      · exact hall l (List.mem_of_mem_drop hm)
  have hr1 : cRead1 (wthL (lnsK t) (i + 1) (y ++ [10])).flatten = .ok (L, insC C i N) := by
    refine (cRead1_lines _ _ _).2 ⟨by rw [hlk], l0, ls.take i ++ (y ++ [10]) :: ls.drop i, by rw [hlk, hw], e2, ?_⟩
    refine mapM_ins ?_ ls C i e3
    unfold rtL; rw [List.dropLast_concat]; exact hN
  -- the tree and the names
  have htree : treeF C = 0 := by
    unfold cRead at h
    rw [c1] at h
    split at h
    · cases h
    · simp only at h
      split at h
      · cases h
      · omega
  have hname : nameF L C = 0 := cRead_names h
  have ht2 : treeF (insC C i N) = 0 := by
    cases C with
    | nil => simp at c2
    | cons c0 r =>
      have hi1 := hp.i1
      obtain ⟨k, rfl⟩ : ∃ k, i = k + 1 := ⟨i - 1, by omega⟩
      have e : insC (c0 :: r) (k + 1) N = c0 :: (r.take k ++ N :: r.drop k) := rfl
      rw [e]
      unfold treeF at htree ⊢
      simp only [List.isEmpty_cons, Bool.false_eq_true, if_false] at htree ⊢
      rw [treeGo] at htree ⊢
      simp only [beq_self_eq_true, if_true] at htree ⊢
      split at htree
      · omega
      · rename_i hr
        rw [if_neg hr]
        rw [List.length_cons] at hC
        have hil := hp.il
        rw [List.length_cons] at hil
        exact treeGo_ins N hN1 h5 r k 1 c0.d (by omega) (by omega) (by omega) (fun c hc => hp.d c (by simpa using hc)) (fun hk => he (by rw [List.length_cons, hk])) htree
  have hn2 : nameF L (insC C i N) = 0 := by
    unfold nameF at hname ⊢
    split at hname
    · cases hname
    · rename_i hd
      rw [if_neg hd]
      refine nameGo_zero _ 0 (fun c hc => ?_)
      rcases mem_insC hc with rfl | hc
      · exact hrc
      · exact nameGo_ok C 0 hname c hc
  unfold cRead
  rw [if_neg (by omega), hr1]
  simp only
  rw [ht2, hn2]
  simp
theorem cRes_put {L : List (List UInt8)} {C : List CR} {i : Nat} {N : CR} {t tn : List UInt8} (h : cRead t = .ok (L, C)) (h0 : cRes reC t = (0, 0)) (hn : cRead tn = .ok (L, insC C i N)) (hm : mF reC N.ifs = 0) : cRes reC tn = (0, 0) := by
  rw [cRes_some hn, xF_zero]
  rw [cRes_some h, xF_zero] at h0
  intro c hc
  rcases mem_insC hc with rfl | hc
  · exact hm
  · exact h0 c hc
end Go.Proofs.YtpbkgeipigcefaaGreat

namespace Go.Proofs.YtpbkgeipigcefaaGreat
open Go.RowKit

def ahA : List UInt8 := [32, 114, 111, 117, 116, 101, 32]
def ahB : List UInt8 := [32, 98, 121, 32, 113, 55, 32, 119, 97, 105, 116, 32, 49, 50, 51, 52, 53, 32, 101, 118, 101, 114, 121, 32, 55, 32, 114, 101, 112, 101, 97, 116, 32, 57]
def ahC : List UInt8 := [32, 99, 111, 110, 116, 105, 110, 117, 101]
def ahL (n : List UInt8) (on : Bool) : List UInt8 := ahA ++ (n ++ (ahB ++ (if on then ahC else [])))
def ahN (n : List UInt8) (on : Bool) : CR := ⟨1, n, true, [[113, 55]], 12345, 7, 9, [], on⟩
theorem tw_app {p : UInt8 → Bool} : ∀ (a b : List UInt8), a.all p = true → (∀ c r, b = c :: r → p c = false) → (a ++ b).takeWhile p = a ∧ (a ++ b).dropWhile p = b
  | [], b, _, hb => by
    cases b with
    | nil => simp
    | cons c r => simp [hb c r rfl]
  | x :: a, b, ha, hb => by
    rw [List.all_cons, Bool.and_eq_true] at ha
    obtain ⟨h1, h2⟩ := tw_app a b ha.2 hb
    simp [ha.1, h1, h2]
theorem name_all {n : List UInt8} (h : isNameL n = true) : n.all nmB = true := by
  unfold isNameL at h
  rw [Bool.and_eq_true] at h
  exact h.2
theorem sRecv_name {n r : List UInt8} (h : isNameL n = true) (hr : ∀ c q, r = c :: q → nmB c = false) : sRecv (n ++ r) = (n, true, r) := by
  obtain ⟨h1, h2⟩ := tw_app n r (name_all h) hr
  have h45 : sTake [45] (n ++ r) = false := by
    cases n with
    | nil => simp [isNameL] at h
    | cons c q =>
      have := name_all h
      rw [List.all_cons, Bool.and_eq_true] at this
      unfold sTake
      simp only [List.cons_append, List.isPrefixOf]
      have hc : (45 == c) = false := by
        rw [beq_eq_false_iff_ne]
        rintro rfl
        have := this.1
        revert this
        decide
      rw [hc]; rfl
  unfold sRecv
  rw [h45]
  simp [h1, h2, h]
theorem ahead_line {n : List UInt8} (h : isNameL n = true) (on : Bool) : sRoute (ahL n on) = some (ahN n on) := by
  have hA : srA (ahL n on) = (n, true, ahB ++ (if on then ahC else [])) := by
    have : sRest kRoute (sDepth (ahL n on)).2 = n ++ (ahB ++ (if on then ahC else [])) := rfl
    unfold srA
    rw [this]
    exact sRecv_name h (fun c q e => by cases e; decide)
  have hd : (sDepth (ahL n on)).1 = 1 := rfl
  have hk : sTake kRoute (sDepth (ahL n on)).2 = true := by
    show kRoute.isPrefixOf (kRoute ++ (n ++ (ahB ++ (if on then ahC else [])))) = true
    exact List.isPrefixOf_iff_prefix.2 (List.prefix_append _ _)
  rw [sRoute_eq, hk]
  have hB : srB (ahL n on) = ⟨true, [[113, 55]], true, ahB.drop 6 ++ (if on then ahC else [])⟩ := by
    unfold srB; rw [hA]; cases on <;> rfl
  have hC : srC (ahL n on) = ⟨12345, 7, 9, true, if on then ahC else []⟩ := by
    unfold srC; rw [hB]; cases on <;> rfl
  have hM : srM (ahL n on) = ([], true, if on then ahC else []) := by
    unfold srM; rw [hC]; cases on <;> rfl
  rw [hA, hB, hC, hM, hd]
  cases on <;> rfl
theorem ahead_hit (ab : HitM) {n : List UInt8} (h : isNameL n = true) (on : Bool) : hitB ab (ahN n on) = ⟨n, [[113, 55]], 12345, 7, 9⟩ := by
  have : (n == [45]) = false := by
    rw [beq_eq_false_iff_ne]
    rintro rfl
    revert h
    decide
  unfold hitB ahN
  simp [this, tld]
end Go.Proofs.YtpbkgeipigcefaaGreat

namespace Go.Proofs.YtpbkgeipigcefaaGreat
open Go.RowKit

theorem hitsC_good {t : List UInt8} {L : List (List UInt8)} {C : List CR} (ht : t.length ≤ 1048576) (h : cRead t = .ok (L, C)) (V : List UInt8 → List UInt8) : hitsC C V ≠ [] ∧ (hitsC C V).length ≤ C.length ∧ ∀ x ∈ hitsC C V, HitG L x ∧ HitOK x := by
  obtain ⟨h1, h2, h3, h4⟩ := cRead_tree h
  have hg := (cRead1_good t L C ht h1).2.2
  have hst := cRead_steps h
  have hnm := cRead_names h
  obtain ⟨_, l0, ls, e1, e2, e3⟩ := (cRead1_lines t L C).1 h1
  have hn : ∀ c ∈ C, c.rc = [45] ∨ c.rc ∈ L := by
    unfold nameF at hnm
    split at hnm
    · cases hnm
    · exact nameGo_ok C 0 hnm
  have ha : ∀ c ∈ C, Asc c.bys := fun c hc => by
    obtain ⟨a, _, ha⟩ := mapM_mem rtL ls C e3 c hc
    exact rtL_asc ha
  refine ⟨?_, ?_, ?_⟩
  · intro e
    exact sentH_some h4 6 0 C[0] (List.getElem?_eq_getElem h2) (by omega) (List.map_eq_nil_iff.1 e)
  · unfold hitsC
    rw [List.length_map]
    exact sentH_len 6 0 h2
  · intro x hx
    obtain ⟨i, hi, rfl⟩ := List.mem_map.1 hx
    have hil := ((sentH_below (H := hold autC V C) 6 0 h2).1 i hi).2
    have hm : (hitsN C C.length).getD i ⟨[], [], 0, 0, 0⟩ ∈ hitsN C C.length := by
      rw [List.getD_eq_getElem?_getD, List.getElem?_eq_getElem (by rw [hitsN_len]; exact hil)]
      exact List.getElem_mem _
    exact ⟨hitsN_g hst hn ha C.length (Nat.le_refl _) _ hm, hitsN_ok hst hg C.length (Nat.le_refl _) _ hm⟩
end Go.Proofs.YtpbkgeipigcefaaGreat

namespace Go.Proofs.YtpbkgeipigcefaaGreat
open Go.RowKit

theorem HRS.tail {w : World} {a : Option Addr} {n cap : Nat} {x : HitM} {hs : List HitM} (h : HRS w (.slice a n cap) (x :: hs)) : ∃ g o, a = some ⟨g, o, none⟩ ∧ n = hs.length + 1 ∧ HRS w (.slice (some ⟨g, o + 5, none⟩) hs.length (cap - 1)) hs := by
  obtain ⟨a', cap', e, hc, hr⟩ := h
  simp only [Value.slice.injEq] at e
  obtain ⟨rfl, rfl, rfl⟩ := e
  obtain ⟨g, o, vb, rfl, _⟩ := hr 0 (by simp)
  refine ⟨g, o, rfl, by simp, ⟨some ⟨g, o + 5, none⟩, cap - 1, rfl, by simp at hc; omega, fun j hj => ?_⟩⟩
  obtain ⟨g', o', vb', e, hr'⟩ := hr (j + 1) (by simpa using hj)
  simp only [Option.some.injEq, Addr.mk.injEq, and_true] at e
  obtain ⟨rfl, rfl⟩ := e
  refine ⟨g, o + 5, vb', rfl, ?_⟩
  rw [show o + 5 + j * 5 = o + (j + 1) * 5 by omega]
  simpa using hr'
theorem HRS.head {w : World} {a : Option Addr} {n cap : Nat} {x : HitM} {hs : List HitM} (h : HRS w (.slice a n cap) (x :: hs)) : HRS w (.slice a 1 cap) [x] := by
  obtain ⟨a', cap', e, hc, hr⟩ := h
  simp only [Value.slice.injEq] at e
  obtain ⟨rfl, rfl, rfl⟩ := e
  refine ⟨a, cap, rfl, by simp at hc ⊢; omega, fun j hj => ?_⟩
  have hj0 : j = 0 := by simpa using hj
  subst hj0
  exact hr 0 (by simp)

theorem wth_len (ls : List (List UInt8)) (k : Nat) (x : List UInt8) : (wthL ls k x).flatten.length = ls.flatten.length + x.length := by
  unfold wthL
  rw [List.flatten_append, List.flatten_cons, List.length_append, List.length_append]
  have : (ls.take k).flatten.length + (ls.drop k).flatten.length = ls.flatten.length := by
    rw [← List.length_append, ← List.flatten_append, List.take_append_drop]
  omega
theorem put_one {t : List UInt8} {Ln : List (List UInt8)} {C : List CR} (h : cRead t = .ok (Ln, C)) {N : CR} (hN : N.d = 1) : Put C 1 N := by
  have hst := cRead_steps h
  have h2 := (cRead_tree h).2.1
  refine ⟨hst, Nat.le_refl _, by omega, fun c hc => ?_⟩
  have h0 : C[0]? = some C[0] := List.getElem?_eq_getElem h2
  have h3 := hst.2 0 C[0] c h0 hc
  have h4 := (hst.1 C[0] h0).1
  omega
theorem ahL_len {n : List UInt8} (hn : n.length ≤ 8) (on : Bool) : (ahL n on).length ≤ 58 := by
  cases on <;> simp [ahL, ahA, ahB, ahC] <;> omega
theorem ahL_no {n : List UInt8} (h : isNameL n = true) (on : Bool) : (10 : UInt8) ∉ ahL n on := by
  have h1 := nm_not h
  intro hm
  unfold ahL at hm
  rcases List.mem_append.1 hm with hm | hm
  · revert hm; decide
  · rcases List.mem_append.1 hm with hm | hm
    · exact (h1 10 hm).2 rfl
    · rcases List.mem_append.1 hm with hm | hm
      · revert hm; decide
      · cases on
        · simp at hm
        · revert hm; decide
def AHQ (t : List UInt8) (n : List UInt8) (on : Bool) (C : List CR) (L : List LBL) (w : World) (e : Ending) (w' : World) : Prop :=
  Frm [] w w' ∧ ((e = .returned (.pointer none) ∧ (1200 < t.length + 60 ∨ 16 < (lnsK t).length)) ∨
    ∃ V2 pb2 m2, e = .returned (.pointer (some ⟨pb2, 0, none⟩)) ∧ PR [] w' pb2 V2 m2 ∧ MOK m2 ∧ hitsA m2 L = ⟨n, [[113, 55]], 12345, 7, 9⟩ :: (if on then (if (kids C 0).any (hold autC (lblV L) C) then hitsC C (lblV L) else []) else []))
theorem kwithA_any {w0 w : World} {db : Nat} {t : List UInt8} {a : Option Addr} {cap : Nat} {L : List LBL} {Ln : List (List UInt8)} {C : List CR} {s : CS} {V : V6} {pb : Nat} (h : DK w0 w db t a cap L Ln C s V pb) {n : List UInt8} {M : List (List UInt8)} (hn : Ln = n :: M) (hnm : isNameL n = true) (hCl : (lnsK t).length = C.length + 1) (on : Bool) :
    Calls Tryz.prog 33 #[.pointer (some ⟨db, 0, none⟩), .int .i64 (2 : Nat), .string (bs (ahL n on ++ [10]))] w (AHQ t n on C L w) := by
  have htl := h.tl
  have c2 := (cRead_tree h.rd).2.1
  have hnl := isNameL_len hnm
  have hal := ahL_len hnl on
  have hfl : (lnsK t).flatten = t := ((cRead1_lines t Ln C).1 (cRead_tree h.rd).1).1
  have hput : Put C 1 (ahN n on) := put_one h.rd rfl
  have hwl := wth_len (lnsK t) 2 (ahL n on ++ [10])
  rw [hfl, List.length_append, List.length_singleton] at hwl
  have hrd : (wthL (lnsK t) 2 (ahL n on ++ [10])).flatten.length ≤ 1200 → (lnsK t).length ≤ 16 → cRead (wthL (lnsK t) 2 (ahL n on ++ [10])).flatten = .ok (Ln, insC C 1 (ahN n on)) := fun h1 h2 =>
    cRead_put (by omega) h.rd (ahL_no hnm on) (ahead_line hnm on) hput (fun _ => rfl) (by show 1 ≤ 5; omega) (.inr (by rw [hn]; exact List.mem_cons_self)) (by omega) h1
  refine (kwith_any h 2 (by omega) (ahL n on ++ [10]) (by simp; omega)).mono ?_
  rintro e w' ⟨hF, ⟨rfl, hb⟩ | ⟨Ln2, C2, s2, V2, pb2, rfl, b1, b2, q1, q2, q3, q4⟩⟩
  · refine ⟨hF, .inl ⟨rfl, ?_⟩⟩
    rcases hb with hb | hb | hb
    · exact .inl (by omega)
    · exact .inr hb
    · by_cases h1 : 1200 < (wthL (lnsK t) 2 (ahL n on ++ [10])).flatten.length
      · exact .inl (by omega)
      · by_cases h2 : 16 < (lnsK t).length
        · exact .inr h2
        · exfalso
          apply hb
          rw [cRes_put h.rd h.res (hrd (by omega) (by omega)) rfl]
  · have hq := hrd b1 b2
    rw [q1] at hq
    cases hq
    refine ⟨hF, .inr ⟨V2, pb2, _, rfl, q3, q4, ?_⟩⟩
    rw [hitsA_comp (A := L) (by omega) q1 q2, (ahead_hits hput rfl c2 (lblV L) rfl).1, ahead_hit _ hnm]
    rfl

theorem want_hrs (w : World) (n : List UInt8) : HRS ((w.alloc (Obj.cells #[.string (bs [113, 55])] 9)).alloc (Obj.cells #[.string (bs n), .slice (some ⟨w.heap.size, 0, none⟩) 1 1, .int .i64 12345, .int .i64 7, .int .i64 9] 57)) (.slice (some ⟨w.heap.size + 1, 0, none⟩) 1 1) [⟨n, [[113, 55]], 12345, 7, 9⟩] := by
  have b1 := heap_b w (Obj.cells #[.string (bs [113, 55])] 9) (Obj.cells #[.string (bs n), .slice (some ⟨w.heap.size, 0, none⟩) 1 1, .int .i64 12345, .int .i64 7, .int .i64 9] 57)
  have b0 : ((w.alloc (Obj.cells #[.string (bs [113, 55])] 9)).alloc (Obj.cells #[.string (bs n), .slice (some ⟨w.heap.size, 0, none⟩) 1 1, .int .i64 12345, .int .i64 7, .int .i64 9] 57)).heap[w.heap.size]? = some (Obj.cells #[.string (bs [113, 55])] 9) :=
    (((Frm.refl [] _).alloc _).block w.heap.size (by simp) (by simp)).trans (heap1 w _)
  have hz : w.heap.size + 1 < ((w.alloc (Obj.cells #[.string (bs [113, 55])] 9)).alloc (Obj.cells #[.string (bs n), .slice (some ⟨w.heap.size, 0, none⟩) 1 1, .int .i64 12345, .int .i64 7, .int .i64 9] 57)).heap.size := by simp
  generalize (w.alloc (Obj.cells #[.string (bs [113, 55])] 9)).alloc (Obj.cells #[.string (bs n), .slice (some ⟨w.heap.size, 0, none⟩) 1 1, .int .i64 12345, .int .i64 7, .int .i64 9] 57) = W at *
  refine ⟨_, 1, rfl, Nat.le_refl _, fun j hj => ?_⟩
  have hj0 : j = 0 := by simpa using hj
  subst hj0
  refine ⟨w.heap.size + 1, 0, .slice (some ⟨w.heap.size, 0, none⟩) 1 1, rfl, hz, by simp [World.cell?, b1], by simp [World.cell?, b1], by simp [World.cell?, b1], by simp [World.cell?, b1], by simp [World.cell?, b1], ?_⟩
  refine ⟨_, 1, rfl, Nat.le_refl _, fun i hi => ?_⟩
  have hi0 : i = 0 := by simpa [sc] using hi
  subst hi0
  refine ⟨w.heap.size, 0, rfl, by simp, by omega, fun c u hu => ?_⟩
  cases c with
  | zero => simp [sc] at hu; subst hu; simp [World.cell?, b0]
  | succ c => simp [sc] at hu
set_option maxRecDepth 100000 in
set_option maxHeartbeats 8000000 in
theorem kalone_any {w0 w : World} {db : Nat} {t : List UInt8} {a : Option Addr} {cap : Nat} {L : List LBL} {Ln : List (List UInt8)} {C : List CR} {s : CS} {V : V6} {pb : Nat} (h : DK w0 w db t a cap L Ln C s V pb) :
    Calls Tryz.prog 16 #[.pointer (some ⟨db, 0, none⟩), .bool false] w fun e w' => e = .returned (.bool true) ∧ Frm [] w w' := by
  have D := hide h
  have r0 : w.cell? ⟨db, 0, none⟩ = some (.string (bs t)) := by simp [World.cell?, h.row]
  have r1 : w.cell? ⟨db, 1, none⟩ = some (.pointer (some ⟨pb, 0, none⟩)) := by simp [World.cell?, h.row]
  have r2 : w.cell? ⟨db, 2, none⟩ = some (.slice a L.length cap) := by simp [World.cell?, h.row]
  have hdb : db < w.heap.size := (Array.getElem?_eq_some_iff.1 h.row).1
  have htl := h.tl
  have R0 := hide r0
  have R1 := hide r1
  have R2 := hide r2
  have LVL : Hid (LV L) := fun x hx => by have := h.ls x hx; exact ⟨by omega, by omega⟩
  have LRW : Hid (∀ W, Frm [] w W → LR W (.slice a L.length cap) L) := fun W f => (h.lr.frm f).lr cap (by have := h.ll; omega)
  have hcap := h.cap
  have NG : Hid (∀ W, Frm [] w W → Calls Tryz.prog 31 #[.pointer (some ⟨pb, 0, none⟩), .slice a L.length cap] W fun e w' => e = .returned (.bool (labsOK L)) ∧ Frm [] W w') := fun W f => kgood_any W pb V _ (h.pg.frm f (by simp)) h.ok a L.length cap L (LRW.out W f) LVL.out hcap
  have FN : Hid (Frm [] w w.drew) := (Frm.refl [] w).drew
  cases hlb : labsOK L
  · rw [hlb] at NG
    clear h D
    go_enter Tryz.func16, Tryz.ntmps16
    go_wp2_with fail
    go_region_with (go_at_call 31; refine (NG.out _ FN.out).mono ?_; rintro e w1 ⟨rfl, hF1⟩)
    all_goals
      have F1 := hide (FN.out.trans hF1)
      clear hF1
      go_wp2
      go_ret
      exact ⟨rfl, F1.out⟩
  · rw [hlb] at NG
    obtain ⟨n, M, l0, ls, c, r, hn, e2, -, -, e5, e6, -⟩ := first_line (by omega) (cRead_tree h.rd).1
    have hCl : (lnsK t).length = C.length + 1 := by rw [e2, List.length_cons, mapM_len rtL ls C e6]
    obtain ⟨-, c2, c3, c4⟩ := cRead_tree h.rd
    have NF : Hid (∀ W, Frm [] w W → Calls Tryz.prog 32 #[.pointer (some ⟨db, 0, none⟩)] W fun e w' => e = .returned (.string (bs n)) ∧ Frm [] W w') := fun W f => kfirst_any (D.out.frm f) hn
    have hnl := isNameL_len e5
    have NW : Hid (∀ W, Frm [] w W → Calls Tryz.prog 33 #[.pointer (some ⟨db, 0, none⟩), .int .i64 2, .string (bs (ahL n false ++ [10]))] W (AHQ t n false C L W)) := fun W f => kwithA_any (D.out.frm f) hn e5 hCl false
    have HAL := hide (ahead_hits (put_one h.rd rfl : Put C 1 (ahN n false)) rfl c2 (lblV L) rfl).2
    have NL : Hid (∀ W : World, Calls Tryz.prog 29 #[.string (bs t)] W fun e w' => ∃ v, e = .returned v ∧ Frm [] W w' ∧ RW [] 1 w' v (sc (lnsK t))) := fun W => lines_any t W (by omega)
    have NR : Hid (∀ W, Frm [] w W → Calls Tryz.prog 28 #[.pointer (some ⟨pb, 0, none⟩), .slice a L.length cap] W fun e w' => ∃ vh, Frm [] W w' ∧ e = .returned (.tuple #[vh, .int .i64 0]) ∧ HRS w' vh (hitsC C (lblV L))) := by
      intro W hW
      refine (route_any W pb V _ (h.pg.frm hW (by simp)) h.ok a L.length cap L (LRW.out W hW) LVL.out hcap).mono ?_
      rintro e w1 ⟨hF1, ⟨h1, _⟩ | ⟨_, vh, rfl, hH⟩⟩
      · rw [hlb] at h1; cases h1
      · exact ⟨vh, hF1, rfl, by rw [← hitsA_comp (A := L) (by omega) h.rd h.pr]; exact hH⟩
    have HG := hide (hitsC_good (by omega) h.rd (lblV L))
    clear h hn e2 e6 D
    have hsz := bs_size
    have hap := bs_append
    have k1 : ({ data := #[32, 114, 111, 117, 116, 101, 32] } : ByteArray) = bs ahA := rfl
    have k2 : ({ data := #[32, 98, 121, 32, 113, 55, 32, 119, 97, 105, 116, 32, 49, 50, 51, 52, 53, 32, 101, 118, 101, 114, 121, 32, 55, 32, 114, 101, 112, 101, 97, 116, 32, 57] } : ByteArray) = bs ahB := rfl
    have k3 : ({ data := #[32, 99, 111, 110, 116, 105, 110, 117, 101] } : ByteArray) = bs ahC := rfl
    have k4 : ({ data := #[10] } : ByteArray) = bs [10] := rfl
    have k5 : ({ data := #[113, 55] } : ByteArray) = bs [113, 55] := rfl
    have l1 : ahA.length = 7 := rfl
    have l2 : ahB.length = 34 := rfl
    have l3 : ahC.length = 9 := rfl
    go_enter Tryz.func16, Tryz.ntmps16
    go_wp2_with fail
    go_region_with (go_at_call 31; refine (NG.out _ FN.out).mono ?_; rintro e w1 ⟨rfl, hF1⟩)
    all_goals
      have F1 := hide (FN.out.trans hF1)
      have N1 := hide (NF.out w1 F1.out)
      clear hF1
      go_wp2_with fail
      refine (N1.out).mono ?_
      clear N1
      rintro e w2 ⟨rfl, hF2⟩
      have F2 := hide (F1.out.trans hF2)
      have N2 := hide (NW.out w2 F2.out)
      clear hF2
      have HT : Hid (ahL n false ++ [10] = ahA ++ (n ++ (ahB ++ [10]))) := by show _ = _; simp [ahL]
      rw [HT.out] at N2
      go_wp2_with fail
      refine (N2.out).mono ?_
      clear N2
      rintro e w3 ⟨hF3, ⟨rfl, hbig⟩ | ⟨V2, pb2, m2, rfl, hP2, hK2, hH2⟩⟩
      · have F3 := hide (F2.out.trans hF3)
        have N3 := hide (NL.out w3)
        have q0 := F3.out.at (p := ⟨db, 0, none⟩) hdb R0.out
        clear hF3 r0 r1 r2
        go_wp2_with fail
        refine (N3.out).mono ?_
        clear N3
        rintro e w4 ⟨vl, rfl, hF4, hR4⟩
        obtain ⟨al, cl, rfl, _⟩ := hR4.str
        have F4 := hide (F3.out.trans hF4)
        have q04 := F4.out.at (p := ⟨db, 0, none⟩) hdb R0.out
        clear hF4 hR4 q0
        by_cases hb : 1200 < t.length + 60
        · have hd1 : decide ((1200 : Int) < (t.length : Int) + 60) = true := decide_eq_true (by omega)
          have hd1' : decide (1200 < t.length + 60) = true := decide_eq_true hb
          go_wp2
          go_ret
          exact ⟨rfl, F4.out⟩
        · have hb2 : 16 < (lnsK t).length := hbig.resolve_left hb
          have hd1 : decide ((1200 : Int) < (t.length : Int) + 60) = false := decide_eq_false (by omega)
          have hd1' : decide (1200 < t.length + 60) = false := decide_eq_false hb
          have hd2 : decide ((16 : Int) < (C.length : Int) + 1) = true := decide_eq_true (by omega)
          have hd2' : decide (16 < C.length + 1) = true := decide_eq_true (by omega)
          clear hbig
          go_wp2
          go_ret
          exact ⟨rfl, F4.out⟩
      · have F3 := hide (F2.out.trans hF3)
        have N3 := hide (NL.out w3)
        have q0 := F3.out.at (p := ⟨db, 0, none⟩) hdb R0.out
        have P2 := hide hP2
        have K2 := hide hK2
        have H2 := hide hH2
        clear hF3 r0 r1 r2 hP2 hK2 hH2
        go_wp2_with fail
        refine (N3.out).mono ?_
        clear N3
        rintro e w4 ⟨vl, rfl, hF4, hR4⟩
        obtain ⟨al, cl, rfl, _⟩ := hR4.str
        have F4 := hide (F3.out.trans hF4)
        have P4 := hide (P2.out.frm hF4 (by simp))
        have q04 := F4.out.at (p := ⟨db, 0, none⟩) hdb R0.out
        have q14 := F4.out.at (p := ⟨db, 1, none⟩) hdb R1.out
        have q24 := F4.out.at (p := ⟨db, 2, none⟩) hdb R2.out
        have FN4 : Hid (Frm [] w4 w4.drew) := (Frm.refl [] w4).drew
        clear hF4 hR4 q0 P2
        go_wp2_with fail
        go_region_with (go_at_call 28; refine (NR.out _ (F4.out.trans FN4.out)).mono ?_; rintro e w5 ⟨vh, hF5, rfl, hH5⟩)
        all_goals
          have F45 := hide (FN4.out.trans hF5)
          have F5 := hide (F4.out.trans F45.out)
          have P5 := hide (P4.out.frm F45.out (by simp))
          have H5 := hide hH5
          obtain ⟨a5, c5, rfl, hc5, -⟩ := hH5
          have q25 := F5.out.at (p := ⟨db, 2, none⟩) hdb R2.out
          have N6 : Hid (Calls Tryz.prog 28 #[.pointer (some ⟨pb2, 0, none⟩), .slice a L.length cap] w5 fun e w' => ∃ vh, Frm [] w5 w' ∧ e = .returned (.tuple #[vh, .int .i64 0]) ∧ HRS w' vh (hitsA m2 L)) := by
            refine (route_any w5 pb2 V2 m2 P5.out K2.out a L.length cap L (LRW.out w5 F5.out) LVL.out hcap).mono ?_
            rintro e w6 ⟨hF6, ⟨h1, _⟩ | ⟨_, vh, rfl, hH⟩⟩
            · rw [hlb] at h1; cases h1
            · exact ⟨vh, hF6, rfl, hH⟩
          rw [H2.out] at N6
          clear hF5 q04 q14 q24
          go_wp2_with fail
          refine (N6.out).mono ?_
          clear N6
          rintro e w6 ⟨vh6, hF6, rfl, hH6⟩
          have F6 := hide (F5.out.trans hF6)
          have H6 := hide hH6
          have H56 := hide (H5.out.frm hF6)
          obtain ⟨a6, c6, rfl, hc6, -⟩ := hH6
          clear hF6 H5 q25 P4 P5
          have W7 := hide (want_hrs w6 n)
          have FW : Hid (Frm [] w6 ((w6.alloc (Obj.cells #[.string (bs [113, 55])] 9)).alloc (Obj.cells #[.string (bs n), .slice (some ⟨w6.heap.size, 0, none⟩) 1 1, .int .i64 12345, .int .i64 7, .int .i64 9] 57))) := ((Frm.refl [] w6).alloc _).alloc _
          have N7 := hide (ksameHits_eq _ _ _ _ (H6.out.frm FW.out) W7.out (by simp) (by intro x hx; simp at hx; subst hx; simp))
          go_wp2_with fail
          refine (N7.out).mono ?_
          clear N7
          rintro e w8 ⟨rfl, q8, rfl⟩
          go_wp2
          go_ret
          exact ⟨rfl, F6.out.trans (FW.out.drewN q8)⟩
end Go.Proofs.YtpbkgeipigcefaaGreat

