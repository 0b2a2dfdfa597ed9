import Derived.Test.YtjnaekffodgdcaaDoorD1
namespace Go.Proofs.YtjnaekffodgdcaaDoor
open Go.RowKit
set_option linter.unusedVariables false
set_option linter.unusedSimpArgs false
set_option linter.unnecessarySimpa false

/-! Words: what cut answers. -/
/-- A piece goes ahead of the first word. -/
def glue (p : List UInt8) : List (List UInt8) → List (List UInt8)
  | [] => [p]
  | h :: r => (p ++ h) :: r
theorem glue_glue (p q : List UInt8) (W : List (List UInt8)) : glue p (glue q W) = glue (p ++ q) W := by
  cases W <;> simp [glue]
/-- cut, byte by byte; e: the byte is skipped. -/
def cut1 (q : Bool) (c : UInt8) : List UInt8 → Bool → Bool → List (List UInt8)
  | [], _, _ => [[]]
  | x :: r, i, true => glue [x] (cut1 q c r i false)
  | x :: r, i, false =>
    if (if q && x == 34 then !i else i) && x == 92 then glue [x] (cut1 q c r (if q && x == 34 then !i else i) true)
    else if x == c && !(if q && x == 34 then !i else i) then [] :: cut1 q c r (if q && x == 34 then !i else i) false
    else glue [x] (cut1 q c r (if q && x == 34 then !i else i) false)
theorem glue_ne (p : List UInt8) (W : List (List UInt8)) : glue p W ≠ [] := by cases W <;> simp [glue]
theorem cut1_ne (q : Bool) (c : UInt8) (l : List UInt8) (i e : Bool) : cut1 q c l i e ≠ [] := by
  cases l with
  | nil => cases e <;> simp [cut1]
  | cons x r =>
    cases e with
    | true => unfold cut1; exact glue_ne _ _
    | false =>
      unfold cut1
      generalize (if (q && x == 34) = true then !i else i) = i1
      by_cases hA : (i1 && x == 92) = true
      · rw [if_pos hA]; exact glue_ne _ _
      · rw [if_neg hA]
        by_cases hB : (x == c && !i1) = true
        · rw [if_pos hB]; simp
        · rw [if_neg hB]; exact glue_ne _ _
theorem cutGo_eq (q : Bool) (c : UInt8) : ∀ (k : Nat) (l : List UInt8) (i : Bool) (t : List UInt8) (out : List (List UInt8)), l.length < k → cutGo q c k l i t out = out ++ glue t (cut1 q c l i false)
  | 0, l, i, t, out, h => by omega
  | k + 1, [], i, t, out, h => by unfold cutGo cut1; simp [glue]
  | k + 1, x :: r, i, t, out, h => by
    simp only [List.length_cons] at h
    unfold cutGo cut1
    dsimp only
    generalize (if (q && x == 34) = true then !i else i) = i1
    by_cases hA : (i1 && x == 92) = true
    · rw [if_pos hA]
      cases r with
      | nil =>
        have hi : i1 = true := by simp at hA; exact hA.1
        subst hi
        rw [if_neg (by simp), if_neg (by simp), cutGo_eq q c k [] _ _ _ (by simp at h ⊢; omega)]
        simp [cut1, glue]
      | cons d r2 =>
        rw [if_pos (by simp [hA])]
        rw [List.drop_succ_cons, List.drop_zero, cutGo_eq q c k r2 _ _ _ (by simp at h ⊢; omega)]
        simp only [cut1, glue_glue, List.take_succ_cons, List.take_zero]
    · rw [if_neg hA, if_neg (by
        intro h2; apply hA
        simp only [Bool.and_eq_true] at h2 ⊢
        exact h2.1)]
      by_cases hB : (x == c && !i1) = true
      · rw [if_pos hB, if_pos hB, cutGo_eq q c k r _ _ _ (by omega)]
        have : glue [] (cut1 q c r i1 false) = cut1 q c r i1 false := by
          cases hcs : cut1 q c r i1 false with
          | nil => exact (cut1_ne q c r i1 false hcs).elim
          | cons => rfl
        rw [this]; simp [glue]
      · rw [if_neg hB, if_neg hB, cutGo_eq q c k r _ _ _ (by omega), glue_glue]
theorem cutL_eq (q : Bool) (c : UInt8) (l : List UInt8) : cutL q c l = cut1 q c l false false := by
  unfold cutL
  rw [cutGo_eq q c _ _ _ _ _ (Nat.lt_succ_self _), List.nil_append]
  cases h : cut1 q c l false false with
  | nil => exact (cut1_ne q c l false false h).elim
  | cons => rfl

/-- The first word and what is behind it. -/
def spl : List UInt8 → Bool → Bool → List UInt8 × List UInt8
  | [], _, _ => ([], [])
  | x :: r, i, true => (x :: (spl r i false).1, (spl r i false).2)
  | x :: r, i, false =>
    if (if x == 34 then !i else i) && x == 92 then (x :: (spl r (if x == 34 then !i else i) true).1, (spl r (if x == 34 then !i else i) true).2)
    else if x == 32 && !(if x == 34 then !i else i) then ([], x :: r)
    else (x :: (spl r (if x == 34 then !i else i) false).1, (spl r (if x == 34 then !i else i) false).2)
def W0 (l : List UInt8) : List (List UInt8) := cut1 true 32 l false false
/-- The words of what is behind a word. -/
def tw : List UInt8 → List (List UInt8)
  | [] => []
  | _ :: r => W0 r
theorem tw_cons (x : UInt8) (r : List UInt8) : tw (x :: r) = W0 r := rfl
theorem tw_nil : tw [] = [] := rfl
def bd (l : List UInt8) : Bool := match l with | [] => true | x :: _ => x == 32
theorem spl_cut : ∀ (l : List UInt8) (i e : Bool), cut1 true 32 l i e = (spl l i e).1 :: tw (spl l i e).2
  | [], i, e => by cases e <;> rfl
  | x :: r, i, true => by
    unfold cut1 spl
    rw [spl_cut r i false]; rfl
  | x :: r, i, false => by
    unfold cut1 spl
    simp only [Bool.true_and]
    generalize hi1 : (if (x == 34) = true then !i else i) = i1
    by_cases hA : (i1 && x == 92) = true
    · rw [if_pos hA, if_pos hA, spl_cut r i1 true]; rfl
    · rw [if_neg hA, if_neg hA]
      by_cases hB : (x == 32 && !i1) = true
      · rw [if_pos hB, if_pos hB]
        have h2 : i1 = false := by simp at hB; exact hB.2
        subst h2; rfl
      · rw [if_neg hB, if_neg hB, spl_cut r i1 false]; rfl
theorem spl_app : ∀ (l : List UInt8) (i e : Bool), l = (spl l i e).1 ++ (spl l i e).2 ∧ bd (spl l i e).2 = true
  | [], i, e => by cases e <;> simp [spl, bd]
  | x :: r, i, true => by
    unfold spl
    have := spl_app r i false
    exact ⟨by simp; exact this.1, this.2⟩
  | x :: r, i, false => by
    unfold spl
    generalize hi1 : (if (x == 34) = true then !i else i) = i1
    by_cases hA : (i1 && x == 92) = true
    · rw [if_pos hA]
      have := spl_app r i1 true
      exact ⟨by simp; exact this.1, this.2⟩
    · rw [if_neg hA]
      by_cases hB : (x == 32 && !i1) = true
      · rw [if_pos hB]
        simp at hB
        simp [bd, hB.1]
      · rw [if_neg hB]
        have := spl_app r i1 false
        exact ⟨by simp; exact this.1, this.2⟩
def fw (l : List UInt8) : List UInt8 := (spl l false false).1
def rw_ (l : List UInt8) : List UInt8 := (spl l false false).2
theorem W0_eq (l : List UInt8) : W0 l = fw l :: tw (rw_ l) := spl_cut l false false
theorem fw_app (l : List UInt8) : l = fw l ++ rw_ l := (spl_app l false false).1
theorem rw_bd (l : List UInt8) : bd (rw_ l) = true := (spl_app l false false).2
theorem fw_bd (l : List UInt8) (h : bd l = true) : fw l = [] ∧ rw_ l = l := by
  cases l with
  | nil => exact ⟨rfl, rfl⟩
  | cons x r =>
    have : x = 32 := by simpa [bd] using h
    subst this
    exact ⟨rfl, rfl⟩
def clean (p : List UInt8) : Bool := p.all fun x => !(x == 32) && !(x == 34)
theorem fw_clean : ∀ (p s : List UInt8), clean p = true → fw (p ++ s) = p ++ fw s ∧ rw_ (p ++ s) = rw_ s
  | [], s, _ => ⟨rfl, rfl⟩
  | x :: p, s, h => by
    unfold clean at h
    simp only [List.all_cons, Bool.and_eq_true, Bool.not_eq_true'] at h
    have ih := fw_clean p s h.2
    have e1 := h.1.1; have e2 := h.1.2
    have : spl (x :: (p ++ s)) false false = (x :: (spl (p ++ s) false false).1, (spl (p ++ s) false false).2) := by
      conv => lhs; unfold spl
      rw [e2, e1]; rfl
    unfold fw rw_ at *
    rw [List.cons_append, this]
    exact ⟨by simp [ih.1], ih.2⟩
/-- A word that a keyword is; something is behind it. -/
def kwB (p : List UInt8) (W : List (List UInt8)) : Bool := decide (1 < W.length) && (W.getD 0 [] == p)
theorem tw_len (l : List UInt8) : (tw l).length = 0 ↔ l = [] := by
  cases l with
  | nil => simp [tw]
  | cons x r => rw [tw_cons, W0_eq]; simp
theorem bd_cons {l : List UInt8} (h : bd l = true) (hn : l ≠ []) : ∃ r, l = 32 :: r := by
  cases l with
  | nil => exact (hn rfl).elim
  | cons x r => simp [bd] at h; subst h; exact ⟨r, rfl⟩
theorem prefix_app (p l : List UInt8) (h : sTake p l = true) : l = p ++ sRest p l := by
  unfold sTake at h; unfold sRest; rw [if_pos h]
  have := List.isPrefixOf_iff_prefix.1 h
  obtain ⟨t, rfl⟩ := this
  simp
theorem take_app (p s : List UInt8) : sTake p (p ++ s) = true ∧ sRest p (p ++ s) = s := by
  have : sTake p (p ++ s) = true := by unfold sTake; exact List.isPrefixOf_iff_prefix.2 (List.prefix_append _ _)
  refine ⟨this, ?_⟩
  unfold sTake at this; unfold sRest; rw [if_pos this]; simp
theorem kw_eq (p l : List UInt8) (hp : clean p = true) (hl : bd l = true) : kwB p (tw l) = sTake (32 :: (p ++ [32])) l := by
  cases l with
  | nil => simp [kwB, tw, sTake]
  | cons x r =>
    have : x = 32 := by simpa [bd] using hl
    subst this
    rw [Bool.eq_iff_iff]
    constructor
    · intro h
      unfold kwB at h
      rw [tw_cons, W0_eq] at h
      simp only [List.length_cons, Bool.and_eq_true, decide_eq_true_eq, beq_iff_eq] at h
      have h1 : rw_ r ≠ [] := fun e => by rw [e, tw_nil] at h; simp at h
      obtain ⟨r2, e2⟩ := bd_cons (rw_bd r) h1
      have h3 : fw r = p := by simpa using h.2
      have := fw_app r
      rw [h3, e2] at this
      rw [this]
      have h4 := (take_app (32 :: (p ++ [32])) r2).1
      simpa using h4
    · intro h
      have e := prefix_app _ _ h
      generalize sRest (32 :: (p ++ [32])) (32 :: r) = r2 at e
      have e' : r = p ++ 32 :: r2 := by simpa using e
      subst e'
      unfold kwB
      have := fw_clean p (32 :: r2) hp
      have hb := fw_bd (32 :: r2) rfl
      rw [tw_cons, W0_eq, this.1, this.2, hb.1, hb.2, tw_cons, W0_eq]
      simp
theorem kw_rest (p l : List UInt8) (hp : clean p = true) (h : sTake (32 :: (p ++ [32])) l = true) : (tw l).getD 1 [] = fw (sRest (32 :: (p ++ [32])) l) ∧ (tw l).drop 2 = tw (rw_ (sRest (32 :: (p ++ [32])) l)) := by
  have e := prefix_app _ _ h
  generalize sRest (32 :: (p ++ [32])) l = r2 at e
  subst e
  have h2 : tw (32 :: (p ++ [32]) ++ r2) = p :: W0 r2 := by
    have e2 : (32 :: (p ++ [32]) ++ r2) = 32 :: (p ++ 32 :: r2) := by simp
    rw [e2]
    show W0 (p ++ 32 :: r2) = _
    have := fw_clean p (32 :: r2) hp
    have hb := fw_bd (32 :: r2) rfl
    rw [W0_eq, this.1, this.2, hb.1, hb.2, tw_cons]
    simp
  rw [h2, W0_eq]
  simp
/-- What is not at a word's end, is no start of anything. -/
theorem nb_take (p l : List UInt8) (h : bd l = false) : sTake (32 :: p) l = false := by
  cases l with
  | nil => simp [bd] at h
  | cons x r =>
    unfold bd at h
    have : (32 == x) = false := by
      rw [beq_eq_false_iff_ne]
      intro e; subst e; simp at h
    simp [sTake, List.isPrefixOf, this]
theorem nb_rest (p l : List UInt8) (h : bd l = false) : sRest (32 :: p) l = l := by
  have := nb_take p l h
  unfold sTake at this
  unfold sRest
  rw [if_neg (by simp [this])]

theorem nm_clean (c : UInt8) : (!(nmB c) || (!(c == 32) && !(c == 34) && !(c == 44) && !(c == 45))) = true := u8_all (p := fun c => !(nmB c) || (!(c == 32) && !(c == 34) && !(c == 44) && !(c == 45))) (by decide +kernel) c
theorem dg_clean (c : UInt8) : (!(dgB c) || (!(c == 32) && !(c == 34) && decide (48 ≤ c.toNat) && decide (c.toNat ≤ 57))) = true := u8_all (p := fun c => !(dgB c) || (!(c == 32) && !(c == 34) && decide (48 ≤ c.toNat) && decide (c.toNat ≤ 57))) (by decide +kernel) c
theorem nm_ne {c : UInt8} (h : nmB c = true) : c ≠ 32 ∧ c ≠ 34 ∧ c ≠ 44 ∧ c ≠ 45 := by
  have := nm_clean c
  rw [h] at this
  simpa [and_assoc] using this
theorem dg_ne {c : UInt8} (h : dgB c = true) : c ≠ 32 ∧ c ≠ 34 ∧ 48 ≤ c.toNat ∧ c.toNat ≤ 57 := by
  have := dg_clean c
  rw [h] at this
  simpa [and_assoc] using this
theorem takeWhile_all {α : Type} (p : α → Bool) : ∀ (l : List α), (l.takeWhile p).all p = true
  | [] => rfl
  | x :: r => by
    rw [List.takeWhile_cons]
    cases h : p x
    · rfl
    · simp only [if_true, List.all_cons, h, Bool.true_and]; exact takeWhile_all p r
theorem dropWhile_hd {α : Type} (p : α → Bool) : ∀ (l : List α) (x : α) (r : List α), l.dropWhile p = x :: r → p x = false
  | [], x, r, h => by simp at h
  | y :: l, x, r, h => by
    rw [List.dropWhile_cons] at h
    cases hy : p y
    · rw [hy] at h; simp at h; rw [← h.1]; exact hy
    · rw [hy] at h; simp at h; exact dropWhile_hd p l x r h
theorem clean_of {p : UInt8 → Bool} (hp : ∀ c, p c = true → c ≠ 32 ∧ c ≠ 34) (l : List UInt8) (h : l.all p = true) : clean l = true := by
  unfold clean
  rw [List.all_eq_true] at h ⊢
  intro x hx
  have := hp x (h x hx)
  simp [this.1, this.2]
/-- What is not at a word's end opens the word. -/
theorem fw_nb (x : UInt8) (s : List UInt8) (h : bd (x :: s) = false) : ∃ h, fw (x :: s) = x :: h := by
  have hx : (x == 32) = false := by simpa [bd] using h
  unfold fw spl
  rw [hx]
  by_cases hA : ((if (x == 34) = true then !false else false) && x == 92) = true
  · rw [if_pos hA]; exact ⟨_, rfl⟩
  · rw [if_neg hA]; exact ⟨_, rfl⟩
theorem nb_cons {s : List UInt8} (h : bd s = false) : ∃ x r, s = x :: r ∧ x ≠ 32 := by
  cases s with
  | nil => simp [bd] at h
  | cons x r => exact ⟨x, r, rfl, by simpa [bd] using h⟩
theorem not_name (a : List UInt8) (x : UInt8) (b : List UInt8) (h : nmB x = false) : isNameL (a ++ x :: b) = false := by
  unfold isNameL
  have : (a ++ x :: b).all nmB = false := by simp [List.all_append, h]
  rw [this]; simp
/-- A name. -/
theorem name_st (r : List UInt8) : isNameL (fw r) = (isNameL (r.takeWhile nmB) && bd (r.dropWhile nmB)) ∧ (bd (r.dropWhile nmB) = true → fw r = r.takeWhile nmB ∧ rw_ r = r.dropWhile nmB) := by
  have hc : clean (r.takeWhile nmB) = true := clean_of (p := nmB) (fun c h => ⟨(nm_ne h).1, (nm_ne h).2.1⟩) _ (takeWhile_all _ _)
  have e : r.takeWhile nmB ++ r.dropWhile nmB = r := List.takeWhile_append_dropWhile
  have h := fw_clean (r.takeWhile nmB) (r.dropWhile nmB) hc
  rw [e] at h
  have hd := dropWhile_hd nmB r
  generalize r.takeWhile nmB = n at *
  generalize r.dropWhile nmB = s at *
  cases hb : bd s
  · obtain ⟨x, s', rfl, hx⟩ := nb_cons hb
    obtain ⟨h', e'⟩ := fw_nb x s' hb
    refine ⟨?_, by simp⟩
    rw [h.1, e', not_name _ _ _ (hd x s' rfl)]; simp
  · have := fw_bd s hb
    rw [h.1, h.2, this.1, this.2]
    simp
theorem recv_st (r : List UInt8) : (isNameL (fw r) || fw r == [45]) = ((sRecv r).2.1 && bd (sRecv r).2.2) ∧ ((sRecv r).2.1 = true → bd (sRecv r).2.2 = true → fw r = (sRecv r).1 ∧ rw_ r = (sRecv r).2.2) := by
  unfold sRecv
  by_cases ht : sTake [45] r = true
  · rw [if_pos ht]
    have e := prefix_app _ _ ht
    generalize sRest [45] r = r' at *
    subst e
    have h := fw_clean [45] r' (by decide)
    rw [h.1, h.2]
    cases hb : bd r'
    · obtain ⟨x, s', rfl, hx⟩ := nb_cons hb
      obtain ⟨h', e'⟩ := fw_nb x s' hb
      rw [e']
      have : isNameL ([45] ++ x :: h') = false := by
        have := not_name [] 45 (x :: h') (by decide)
        simpa using this
      rw [this]
      simp
    · have := fw_bd r' hb
      rw [this.1, this.2]
      simp
  · rw [if_neg ht]
    have hn : (fw r == [45]) = false := by
      rw [beq_eq_false_iff_ne]
      intro e
      apply ht
      have := fw_app r
      rw [e] at this
      rw [this]; exact (take_app [45] _).1
    rw [hn, Bool.or_false]
    have := name_st r
    exact ⟨this.1, fun _ h => this.2 h⟩

def valN (D : List UInt8) (n : Nat) : Nat := D.foldl (fun n c => n * 10 + (c.toNat - 48)) n
theorem valN_ge : ∀ (D : List UInt8) (n : Nat), n * 10 ^ D.length ≤ valN D n
  | [], n => by simp [valN]
  | c :: D, n => by
    have := valN_ge D (n * 10 + (c.toNat - 48))
    unfold valN at *
    simp only [List.foldl_cons, List.length_cons, Nat.pow_succ]
    refine Nat.le_trans ?_ this
    rw [Nat.mul_comm (10 ^ D.length) 10, ← Nat.mul_assoc]
    exact Nat.mul_le_mul_right _ (by omega)
theorem valN_lt : ∀ (D : List UInt8) (n : Nat), D.all dgB = true → valN D n < (n + 1) * 10 ^ D.length
  | [], n, _ => by simp [valN]
  | c :: D, n, h => by
    simp only [List.all_cons, Bool.and_eq_true] at h
    have hc := dg_ne h.1
    have := valN_lt D (n * 10 + (c.toNat - 48)) h.2
    unfold valN at *
    simp only [List.foldl_cons, List.length_cons, Nat.pow_succ]
    refine Nat.lt_of_lt_of_le this ?_
    rw [Nat.mul_comm (10 ^ D.length) 10, ← Nat.mul_assoc]
    exact Nat.mul_le_mul_right _ (by omega)
theorem numGo_val : ∀ (D : List UInt8) (n : Nat), D.all dgB = true → numGo D (n : Int) = (valN D n : Int)
  | [], n, _ => rfl
  | c :: D, n, h => by
    simp only [List.all_cons, Bool.and_eq_true] at h
    have hc := dg_ne h.1
    have h1 : digB c.toNat = true := h.1
    unfold numGo
    rw [if_pos h1]
    have : (10 * (n : Int) + c.toNat - 48) = ((n * 10 + (c.toNat - 48) : Nat) : Int) := by omega
    rw [this, numGo_val D _ h.2]
    rfl
theorem numL_val : ∀ (D s : List UInt8) (n : Nat), D.all dgB = true → (∀ x r, s = x :: r → dgB x = false) → n ≤ 99999 → (if valN D n ≤ 99999 then numL (D ++ s) n = (valN D n, true, s) else (numL (D ++ s) n).2.1 = false)
  | [], s, n, _, hs, hn => by
    have hv : valN [] n = n := rfl
    rw [List.nil_append, hv, if_pos hn]
    cases s with
    | nil => rfl
    | cons x r => unfold numL; rw [if_neg (by rw [hs x r rfl]; simp)]
  | c :: D, s, n, h, hs, hn => by
    simp only [List.all_cons, Bool.and_eq_true] at h
    rw [List.cons_append]
    unfold numL
    rw [if_pos h.1]
    have hv : valN (c :: D) n = valN D (n * 10 + (c.toNat - 48)) := rfl
    by_cases hb : 99999 < n * 10 + (c.toNat - 48)
    · rw [if_pos hb]
      have := valN_ge D (n * 10 + (c.toNat - 48))
      have h1 : 1 ≤ 10 ^ D.length := Nat.pos_of_ne_zero (by simp)
      have h2 : n * 10 + (c.toNat - 48) ≤ (n * 10 + (c.toNat - 48)) * 10 ^ D.length := Nat.le_mul_of_pos_right _ h1
      rw [if_neg (by rw [hv]; omega)]
    · rw [if_neg hb, hv]
      exact numL_val D s _ h.2 hs (by omega)
/-- A number. -/
theorem num_st (r : List UInt8) : decide (0 ≤ numR (fw r)) = ((sNum r).2.1 && bd (sNum r).2.2) ∧ ((sNum r).2.1 = true → bd (sNum r).2.2 = true → numR (fw r) = ((sNum r).1 : Int) ∧ rw_ r = (sNum r).2.2) := by
  unfold sNum
  by_cases ht : sTake [48] r = true
  · rw [if_pos ht]
    have e := prefix_app _ _ ht
    generalize sRest [48] r = r' at *
    subst e
    have h := fw_clean [48] r' (by decide)
    rw [h.1, h.2]
    cases hb : bd r'
    · obtain ⟨x, s', rfl, hx⟩ := nb_cons hb
      obtain ⟨h', e'⟩ := fw_nb x s' hb
      rw [e']
      refine ⟨?_, by simp⟩
      have : numR ([48] ++ x :: h') = -1 := by
        unfold numR
        have e1 : ([48] ++ x :: h' == [48]) = false := by simp
        have e2 : (hd ([48] ++ x :: h') == 48) = true := rfl
        rw [e1, e2]
        simp
      rw [this]; simp
    · have := fw_bd r' hb
      rw [this.1, this.2]
      simp [numR, numGo, hd, dgB, digB]
  · rw [if_neg ht]
    have hc : clean (r.takeWhile dgB) = true := clean_of (p := dgB) (fun c h => ⟨(dg_ne h).1, (dg_ne h).2.1⟩) _ (takeWhile_all _ _)
    have e : r.takeWhile dgB ++ r.dropWhile dgB = r := List.takeWhile_append_dropWhile
    have h := fw_clean (r.takeWhile dgB) (r.dropWhile dgB) hc
    rw [e] at h
    have hdd := dropWhile_hd dgB r
    have hall := takeWhile_all dgB r
    by_cases hg : digB (hd r) = true
    · rw [if_neg (by simp [hg])]
      have hD : ∃ c D, r.takeWhile dgB = c :: D ∧ c ≠ 48 := by
        cases r with
        | nil => simp [hd, digB] at hg
        | cons c r' =>
          have hc2 : dgB c = true := hg
          refine ⟨c, r'.takeWhile dgB, by rw [List.takeWhile_cons, hc2]; rfl, fun e => ?_⟩
          subst e
          exact ht (take_app [48] r').1
      have hv := numL_val (r.takeWhile dgB) (r.dropWhile dgB) 0 hall (fun x r' h => hdd x r' h) (by omega)
      rw [e] at hv
      generalize r.takeWhile dgB = D at *
      generalize r.dropWhile dgB = s at *
      obtain ⟨c, D', rfl, hc48⟩ := hD
      have hlt := valN_lt (c :: D') 0 hall
      have hge : 10 ^ D'.length ≤ valN (c :: D') 0 := by
        have h1 := valN_ge D' (0 * 10 + (c.toNat - 48))
        have h2 : valN (c :: D') 0 = valN D' (0 * 10 + (c.toNat - 48)) := rfl
        simp only [List.all_cons, Bool.and_eq_true] at hall
        have h3 := dg_ne hall.1
        have h4 : c.toNat ≠ 48 := fun e => hc48 (UInt8.toNat_inj.1 (by simpa using e))
        have h5 : 1 ≤ 0 * 10 + (c.toNat - 48) := by omega
        have h6 : 1 * 10 ^ D'.length ≤ (0 * 10 + (c.toNat - 48)) * 10 ^ D'.length := Nat.mul_le_mul_right _ h5
        omega
      have hnum : ∀ z, numR ((c :: D') ++ z) = if z = [] then (if (c :: D').length ≤ 5 then (valN (c :: D') 0 : Int) else -1) else numR ((c :: D') ++ z) := by
        intro z
        by_cases hz : z = []
        · subst hz
          rw [if_pos rfl, List.append_nil]
          unfold numR
          have e1 : (hd (c :: D') == 48) = false := by
            rw [beq_eq_false_iff_ne]
            intro e; apply hc48
            apply UInt8.toNat_inj.1
            have : (c.toNat : Int) = 48 := e
            show c.toNat = 48
            omega
          rw [e1, hall]
          by_cases h5 : (c :: D').length ≤ 5
          · rw [if_pos h5, decide_eq_false (by omega)]
            have := numGo_val (c :: D') 0 hall
            simpa using this
          · rw [if_neg h5, decide_eq_true (by omega)]; simp
        · rw [if_neg hz]
      have h5 : (c :: D').length ≤ 5 ↔ valN (c :: D') 0 ≤ 99999 := by
        constructor
        · intro h5
          have : (0 + 1) * 10 ^ (c :: D').length ≤ (0 + 1) * 10 ^ 5 := Nat.mul_le_mul_left _ (Nat.pow_le_pow_right (by omega) h5)
          omega
        · intro h5
          apply Classical.byContradiction
          intro h6
          have : 10 ^ 5 ≤ 10 ^ D'.length := Nat.pow_le_pow_right (by omega) (by simp at h6; omega)
          omega
      cases hb : bd s
      · obtain ⟨x, s', rfl, hx⟩ := nb_cons hb
        obtain ⟨h', e'⟩ := fw_nb x s' hb
        have : numR (fw r) = -1 := by
          rw [h.1, e']
          unfold numR
          have e1 : ((c :: D') ++ x :: h').all dgB = false := by simp [List.all_append, hdd x s' rfl]
          rw [e1]; simp
        rw [this]
        by_cases hf : valN (c :: D') 0 ≤ 99999
        · rw [if_pos hf] at hv; rw [hv]; simp [hb]
        · rw [if_neg hf] at hv; rw [hv]; simp
      · have hbb := fw_bd s hb
        rw [h.1, h.2, hbb.1, hbb.2, hnum [], if_pos rfl]
        by_cases hf : valN (c :: D') 0 ≤ 99999
        · rw [if_pos hf] at hv; rw [hv, if_pos (h5.2 hf)]; simp [hb]
        · rw [if_neg hf] at hv; rw [hv, if_neg (fun h => hf (h5.1 h))]; simp
    · rw [if_pos (by simp [hg])]
      refine ⟨?_, by simp⟩
      have : numR (fw r) = -1 := by
        cases r with
        | nil => rfl
        | cons x r' =>
          have hx : dgB x = false := by
            have : digB (hd (x :: r')) = false := by simpa using hg
            exact this
          cases hb : bd (x :: r')
          · obtain ⟨h', e'⟩ := fw_nb x r' hb
            rw [e']
            unfold numR
            simp [hx]
          · rw [(fw_bd _ hb).1]; rfl
      rw [this]; simp

theorem bl_lt : ∀ (x y : List UInt8), Op.bytesLess x y = decide (x < y) := by
  intro x
  induction x with
  | nil => intro y; cases y <;> simp [Op.bytesLess]
  | cons a x ih =>
    intro y
    cases y with
    | nil => simp [Op.bytesLess]
    | cons b y =>
      rw [Op.bytesLess, ih y, Bool.eq_iff_iff]
      simp only [List.cons_lt_cons_iff, Bool.or_eq_true, Bool.and_eq_true, decide_eq_true_eq, beq_iff_eq]
def ins (n : List UInt8) : List (List UInt8) → List (List UInt8)
  | [] => [n]
  | x :: L => if n < x then n :: x :: L else x :: ins n L
theorem wnGo_true (n : List UInt8) : ∀ (L a : List (List UInt8)), wnGo n L (a, true) = (a ++ L, true)
  | [], a => by simp [wnGo]
  | x :: L, a => by unfold wnGo; simp only [Bool.not_true, Bool.false_and]; rw [if_neg (by simp), wnGo_true n L]; simp
theorem wnGo_false (n : List UInt8) : ∀ (L a : List (List UInt8)), (if (wnGo n L (a, false)).2 then (wnGo n L (a, false)).1 else (wnGo n L (a, false)).1 ++ [n]) = a ++ ins n L
  | [], a => by simp [wnGo, ins]
  | x :: L, a => by
    have e : wnGo n (x :: L) (a, false) = wnGo n L (if n < x then (a ++ [n] ++ [x], true) else (a ++ [x], false)) := by
      conv => lhs; unfold wnGo
      rw [bl_lt]; simp
    rw [e]
    unfold ins
    by_cases h : n < x
    · simp only [if_pos h]; rw [wnGo_true]; simp
    · simp only [if_neg h]
      have := wnGo_false n L (a ++ [x])
      rw [this]; simp
theorem withN_ins (L : List (List UInt8)) (n : List UInt8) : withN L n = ins n L := by
  have := wnGo_false n L []
  unfold withN; rw [this]; rfl
theorem ins_snoc (n a : List UInt8) (h : n < a) : ∀ (A : List (List UInt8)), ins n (A ++ [a]) = ins n A ++ [a]
  | [] => by simp [ins, h]
  | x :: A => by
    rw [List.cons_append]
    unfold ins
    by_cases hx : n < x
    · rw [if_pos hx, if_pos hx]; simp
    · rw [if_neg hx, if_neg hx, ins_snoc n a h A]; simp
theorem ins_last (n : List UInt8) : ∀ (A : List (List UInt8)), (∀ x ∈ A, ¬ n < x) → ins n A = A ++ [n]
  | [], _ => rfl
  | x :: A, h => by
    unfold ins
    rw [if_neg (h x (by simp)), ins_last n A (fun y hy => h y (by simp [hy]))]; rfl
theorem ins_mem (n : List UInt8) : ∀ (A : List (List UInt8)) (x : List UInt8), x ∈ ins n A → x = n ∨ x ∈ A
  | [], x, h => by simp [ins] at h; exact .inl h
  | y :: A, x, h => by
    unfold ins at h
    by_cases hy : n < y
    · rw [if_pos hy] at h
      rw [List.mem_cons] at h; exact h
    · rw [if_neg hy] at h
      rw [List.mem_cons] at h
      rcases h with h | h
      · exact .inr (by simp [h])
      · rcases ins_mem n A x h with h | h
        · exact .inl h
        · exact .inr (by simp [h])
def Asc (A : List (List UInt8)) : Prop := A.Pairwise (fun x y => x < y)
theorem tri (x y : List UInt8) (h1 : ¬ x < y) (h2 : x ≠ y) : y < x := by
  have h3 : y ≤ x := List.not_lt.1 h1
  apply Classical.byContradiction
  intro h4
  exact h2 (List.le_antisymm (List.not_lt.1 h4) h3)
theorem ins_asc (n : List UInt8) : ∀ (A : List (List UInt8)), Asc A → n ∉ A → Asc (ins n A)
  | [], _, _ => by simp [ins, Asc]
  | x :: A, h, hn => by
    unfold Asc at h
    rw [List.pairwise_cons] at h
    unfold ins
    by_cases hx : n < x
    · rw [if_pos hx]
      refine List.pairwise_cons.2 ⟨fun y hy => ?_, List.pairwise_cons.2 h⟩
      rw [List.mem_cons] at hy
      rcases hy with rfl | hy
      · exact hx
      · exact List.lt_trans hx (h.1 y hy)
    · rw [if_neg hx]
      refine List.pairwise_cons.2 ⟨fun y hy => ?_, ins_asc n A h.2 (fun hm => hn (by simp [hm]))⟩
      rcases ins_mem n A y hy with rfl | hy
      · exact tri _ _ hx (fun e => hn (by simp [e]))
      · exact h.1 y hy
theorem down_ins (n : List UInt8) : ∀ (k : Nat) (A B : List (List UInt8)), A.length = k → Asc A → n ∉ A → down k (A ++ n :: B) = ins n A ++ B
  | 0, A, B, hk, _, _ => by
    have : A = [] := List.eq_nil_of_length_eq_zero hk
    subst this; simp [down, ins]
  | k + 1, A, B, hk, hA, hn => by
    obtain ⟨A', a, rfl⟩ : ∃ A' a, A = A' ++ [a] := ⟨A.dropLast, A.getLast (by intro e; simp [e] at hk), (List.dropLast_concat_getLast _).symm⟩
    have hk' : A'.length = k := by simpa using hk
    unfold Asc at hA
    rw [List.pairwise_append] at hA
    have e1 : (A' ++ [a] ++ n :: B).getD k [] = a := by simp [← hk', List.getD_eq_getElem?_getD]
    have e2 : (A' ++ [a] ++ n :: B).getD (k + 1) [] = n := by simp [← hk', List.getD_eq_getElem?_getD]
    have hne : a ≠ n := fun e => hn (by simp [e])
    unfold down
    rw [e1, e2]
    have e3 : gtB a n = decide (n < a) := by
      unfold gtB
      rw [bl_lt, Bool.eq_iff_iff]
      simp only [Bool.not_eq_true', Bool.or_eq_false_iff, decide_eq_false_iff_not, decide_eq_true_eq]
      constructor
      · intro h; exact tri _ _ h.1 hne
      · intro h; exact ⟨fun h2 => List.lt_irrefl _ (List.lt_trans h h2), by simpa using hne⟩
    rw [e3]
    by_cases h : n < a
    · rw [if_pos (by simp [h])]
      have e4 : ((A' ++ [a] ++ n :: B).set (k + 1) a).set k n = A' ++ n :: (a :: B) := by
        subst hk'
        simp [List.set_append]
      rw [e4, down_ins n k A' (a :: B) hk' hA.1 (fun hm => hn (by simp [hm])), ins_snoc n a h]
      simp
    · rw [if_neg (by simp [h])]
      rw [ins_last n (A' ++ [a])]
      · simp
      · intro x hx
        rw [List.mem_append, List.mem_singleton] at hx
        rcases hx with hx | rfl
        · intro h2
          have h3 := hA.2.2 x hx a (by simp)
          exact h (List.lt_trans h2 h3)
        · exact h
theorem rise_srt : ∀ (L acc : List (List UInt8)), Asc acc → L.foldl rise1 acc = L.foldl srt1 acc
  | [], acc, _ => rfl
  | n :: L, acc, h => by
    simp only [List.foldl_cons]
    have e : rise1 acc n = srt1 acc n ∧ Asc (rise1 acc n) := by
      unfold rise1 srt1
      by_cases hc : acc.contains n = true
      · rw [if_pos hc, if_pos hc]; exact ⟨rfl, h⟩
      · rw [if_neg hc, if_neg hc, withN_ins]
        have hn : n ∉ acc := fun hm => hc (by simpa using hm)
        refine ⟨?_, ins_asc n acc h hn⟩
        rw [down_ins n acc.length acc [] rfl h hn]; simp
    rw [← e.1]
    exact rise_srt L _ e.2
theorem rise_eq (L : List (List UInt8)) : rise L = srt L := rise_srt L [] (by simp [Asc])

/-! Labels. -/
def C0 (l : List UInt8) : List (List UInt8) := cut1 false 44 l false false
theorem C0_nil : C0 [] = [[]] := rfl
theorem C0_comma (r : List UInt8) : C0 (44 :: r) = [] :: C0 r := by
  unfold C0; conv => lhs; unfold cut1
  rfl
theorem C0_cons (x : UInt8) (r : List UInt8) (h : x ≠ 44) : C0 (x :: r) = glue [x] (C0 r) := by
  unfold C0; conv => lhs; unfold cut1
  simp [h]
theorem C0_app : ∀ (p s : List UInt8), (∀ x ∈ p, x ≠ 44) → C0 (p ++ s) = glue p (C0 s)
  | [], s, _ => by
    cases h : C0 s with
    | nil => exact (cut1_ne _ _ _ _ _ h).elim
    | cons => simp [h, glue]
  | x :: p, s, h => by
    rw [List.cons_append, C0_cons x _ (h x (by simp)), C0_app p s (fun y hy => h y (by simp [hy])), glue_glue]; rfl
theorem C0_pos (l : List UInt8) : 1 ≤ (C0 l).length := by
  cases h : C0 l with
  | nil => exact (cut1_ne _ _ _ _ _ h).elim
  | cons => simp
theorem fw_comma (r : List UInt8) : fw (44 :: r) = 44 :: fw r ∧ rw_ (44 :: r) = rw_ r := by
  have := fw_clean [44] r (by decide)
  simpa using this
theorem take44 (s : List UInt8) (h : sTake [44] s = false) (hb : bd s = false) : ∃ x s', s = x :: s' ∧ x ≠ 32 ∧ x ≠ 44 := by
  obtain ⟨x, s', rfl, hx⟩ := nb_cons hb
  refine ⟨x, s', rfl, hx, fun e => ?_⟩
  subst e
  have := (take_app [44] s').1
  simp at this
  rw [this] at h; cases h
/-- The name's step in the labels. -/
def labN (k : Nat) (acc : List (List UInt8)) (l1 : List UInt8) : List (List UInt8) × Bool × List UInt8 :=
  if !(isNameL (l1.takeWhile nmB)) || decide (4 ≤ acc.length) then ([], false, l1.dropWhile nmB) else labL k (acc ++ [l1.takeWhile nmB]) (l1.dropWhile nmB)
theorem labN_st : ∀ (k : Nat) (acc : List (List UInt8)) (l : List UInt8), 5 ≤ k + acc.length → acc.length ≤ 4 →
    (if (C0 (fw l)).all isNameL && decide (acc.length + (C0 (fw l)).length ≤ 4) then labN k acc l = (acc ++ C0 (fw l), true, rw_ l) else ((labN k acc l).2.1 && bd (labN k acc l).2.2) = false) := by
  intro k
  induction k with
  | zero => intro acc l h1 h2; omega
  | succ k ih =>
  intro acc l h1 h2
  have hc : clean (l.takeWhile nmB) = true := clean_of (p := nmB) (fun c h => ⟨(nm_ne h).1, (nm_ne h).2.1⟩) _ (takeWhile_all _ _)
  have h44 : ∀ x ∈ l.takeWhile nmB, x ≠ 44 := fun x hx => (nm_ne (List.all_eq_true.1 (takeWhile_all nmB l) x hx)).2.2.1
  have e : l.takeWhile nmB ++ l.dropWhile nmB = l := List.takeWhile_append_dropWhile
  have h := fw_clean (l.takeWhile nmB) (l.dropWhile nmB) hc
  rw [e] at h
  have hdd := dropWhile_hd nmB l
  unfold labN
  generalize l.takeWhile nmB = n at *
  generalize l.dropWhile nmB = s at *
  rw [h.1, h.2, C0_app n _ h44]
  have hfirst : ∀ x s', s = x :: s' → x ≠ 44 → x ≠ 32 → (glue n (C0 (fw s))).all isNameL = false := by
    intro x s' es hx44 hx32
    subst es
    obtain ⟨h', e'⟩ := fw_nb x s' (by simpa [bd] using hx32)
    rw [e', C0_cons x _ hx44, glue_glue]
    cases hz : C0 h' with
    | nil => exact (cut1_ne _ _ _ _ _ hz).elim
    | cons y Y =>
      simp only [glue, List.all_cons]
      rw [List.append_assoc, List.singleton_append, not_name n x y (hdd x s' rfl)]; rfl
  by_cases hcond : (!(isNameL n) || decide (4 ≤ acc.length)) = true
  · rw [if_pos hcond, if_neg]
    · simp
    · rw [Bool.or_eq_true] at hcond
      intro hh
      rw [Bool.and_eq_true] at hh
      rcases hcond with hn | h4
      · -- no name
        have hn' : isNameL n = false := by simpa using hn
        cases hb : bd s
        · by_cases ht : sTake [44] s = true
          · have es := prefix_app _ _ ht
            rw [List.singleton_append] at es
            rw [es, (fw_comma _).1, C0_comma] at hh
            simp [glue, hn'] at hh
          · obtain ⟨x, s', es, hx32, hx44⟩ := take44 s (by simpa using ht) hb
            rw [hfirst x s' es hx44 hx32] at hh
            simp at hh
        · rw [(fw_bd s hb).1, C0_nil] at hh
          simp [glue, hn'] at hh
      · have : 4 ≤ acc.length := by simpa using h4
        have hp := C0_pos (fw s)
        have hl : (glue n (C0 (fw s))).length = (C0 (fw s)).length := by
          cases hz : C0 (fw s) with
          | nil => rw [hz] at hp; simp at hp
          | cons => rfl
        have := hh.2
        rw [hl] at this
        simp at this
        omega
  · rw [if_neg hcond]
    simp only [Bool.or_eq_true, not_or, Bool.not_eq_true', decide_eq_true_eq] at hcond
    have hn : isNameL n = true := by simpa using hcond.1
    have hacc : acc.length < 4 := by omega
    have hne : (acc ++ [n]).isEmpty = false := by cases acc <;> rfl
    by_cases ht : sTake [44] s = true
    · -- one more
      have es := prefix_app _ _ ht
      rw [List.singleton_append] at es
      have hlab : labL (k + 1) (acc ++ [n]) s = labN k (acc ++ [n]) (sRest [44] s) := by
        conv => lhs; unfold labL
        unfold labN
        rw [hne, ht]
        rfl
      rw [hlab]
      generalize sRest [44] s = s' at *
      have := ih (acc ++ [n]) s' (by simp; omega) (by simp; omega)
      rw [es, (fw_comma s').1, (fw_comma s').2, C0_comma]
      have e5 : acc.length + (C0 (fw s')).length + 1 = (acc ++ [n]).length + (C0 (fw s')).length := by simp; omega
      have e6 : glue n ([] :: C0 (fw s')) = n :: C0 (fw s') := by simp [glue]
      have e7 : acc ++ n :: C0 (fw s') = (acc ++ [n]) ++ C0 (fw s') := by simp
      rw [e6, List.all_cons, hn, Bool.true_and, List.length_cons, ← Nat.add_assoc, e5, e7]
      exact this
    · have ht' : sTake [44] s = false := by simpa using ht
      have hlab : labL (k + 1) (acc ++ [n]) s = (acc ++ [n], true, s) := by
        conv => lhs; unfold labL
        rw [hne, ht']
        rfl
      rw [hlab]
      cases hb : bd s
      · obtain ⟨x, s', es, hx32, hx44⟩ := take44 s ht' hb
        rw [hfirst x s' es hx44 hx32]
        simp
      · rw [(fw_bd s hb).1, (fw_bd s hb).2, C0_nil]
        have : glue n [[]] = [n] := by simp [glue]
        rw [this, if_pos (by simp [hn]; omega)]
theorem labs_st (r : List UInt8) : ((C0 (fw r)).all isNameL && decide ((C0 (fw r)).length ≤ 4)) = ((sLabs r).2.1 && bd (sLabs r).2.2) ∧ ((sLabs r).2.1 = true → bd (sLabs r).2.2 = true → C0 (fw r) = (sLabs r).1 ∧ rw_ r = (sLabs r).2.2) := by
  have h := labN_st 5 [] r (by simp) (by simp)
  have e : sLabs r = labN 5 [] r := by
    unfold sLabs labL labN
    simp
  rw [e]
  simp only [List.length_nil, Nat.zero_add, List.nil_append] at h
  by_cases hc : ((C0 (fw r)).all isNameL && decide ((C0 (fw r)).length ≤ 4)) = true
  · rw [if_pos hc] at h
    rw [hc, h]
    exact ⟨by simp [rw_bd], fun _ _ => ⟨rfl, rfl⟩⟩
  · rw [if_neg hc] at h
    rw [h]
    refine ⟨by simpa using hc, fun h1 h2 => ?_⟩
    rw [h1, h2] at h; simp at h

end Go.Proofs.YtjnaekffodgdcaaDoor
