import Derived.Test.YtjnaekffodgdcaaDoorEA
namespace Go.Proofs.YtjnaekffodgdcaaDoor
open Go.RowKit
set_option linter.unusedVariables false
set_option linter.unusedSimpArgs false
set_option linter.unnecessarySimpa false

/-! Values. -/
theorem hexD_one (c : UInt8) : (if dgB c then ((c - 48 : UInt8), true) else if 97 ≤ c ∧ c ≤ 102 then (c - 97 + 10, true) else (0, false)) = (if 0 ≤ hexV c then (UInt8.ofNat (hexV c).toNat, true) else (0, false)) := by
  have := u8_all (p := fun c => decide ((if dgB c then ((c - 48 : UInt8), true) else if 97 ≤ c ∧ c ≤ 102 then (c - 97 + 10, true) else (0, false)) = (if 0 ≤ hexV c then (UInt8.ofNat (hexV c).toNat, true) else (0, false)))) (by decide +kernel) c
  exact of_decide_eq_true this
theorem sHexD_cons (c : UInt8) (r : List UInt8) : sHexD (c :: r) = if 0 ≤ hexV c then (UInt8.ofNat (hexV c).toNat, true, r) else (0, false, c :: r) := by
  have h := hexD_one c
  unfold sHexD
  dsimp only
  by_cases h1 : dgB c = true
  · rw [if_pos h1] at h ⊢
    by_cases h3 : 0 ≤ hexV c
    · rw [if_pos h3] at h ⊢; simp at h; rw [h]
    · rw [if_neg h3] at h; simp at h
  · rw [if_neg h1] at h ⊢
    by_cases h2 : 97 ≤ c ∧ c ≤ 102
    · rw [if_pos h2] at h ⊢
      by_cases h3 : 0 ≤ hexV c
      · rw [if_pos h3] at h ⊢; simp at h; rw [h]
      · rw [if_neg h3] at h; simp at h
    · rw [if_neg h2] at h ⊢
      by_cases h3 : 0 ≤ hexV c
      · rw [if_pos h3] at h; simp at h
      · rw [if_neg h3]
theorem hex_pair (a b : Int) (ha : 0 ≤ a) (hb : 0 ≤ b) : UInt8.ofNat a.toNat * 16 + UInt8.ofNat b.toNat = UInt8.ofNat (16 * a + b).toNat := by
  have : (16 * a + b).toNat = a.toNat * 16 + b.toNat := by omega
  rw [this, UInt8.ofNat_add, UInt8.ofNat_mul]
  rfl
theorem spl_in (x : UInt8) (t : List UInt8) (h : x ≠ 34) (h2 : x ≠ 92) : spl (x :: t) true false = (x :: (spl t true false).1, (spl t true false).2) := by
  conv => lhs; unfold spl
  have e1 : (x == 34) = false := by simpa using h
  have e2 : (x == 92) = false := by simpa using h2
  rw [e1, e2]
  simp
theorem spl_esc (x : UInt8) (t : List UInt8) : spl (92 :: x :: t) true false = (92 :: x :: (spl t true false).1, (spl t true false).2) := by
  conv => lhs; unfold spl
  simp only [show ((92 : UInt8) == 34) = false from rfl]
  rw [if_pos (by rfl)]
  conv => lhs; unfold spl
  rfl
theorem spl_close (t : List UInt8) : spl (34 :: t) true false = (34 :: (spl t false false).1, (spl t false false).2) := by
  conv => lhs; unfold spl
  rfl
theorem spl_open (t : List UInt8) : spl (34 :: t) false false = (34 :: (spl t true false).1, (spl t true false).2) := by
  conv => lhs; unfold spl
  rfl
theorem take2 (a b x y : UInt8) (t : List UInt8) : sTake [a, b] (x :: y :: t) = (a == x && b == y) := by simp [sTake, List.isPrefixOf]
theorem take1 (a x : UInt8) (t : List UInt8) : sTake [a] (x :: t) = (a == x) := by simp [sTake, List.isPrefixOf]
theorem take2_ne (a b x : UInt8) (t : List UInt8) (h : a ≠ x) : sTake [a, b] (x :: t) = false := by
  have : (a == x) = false := by simpa using h
  simp [sTake, List.isPrefixOf, this]
theorem rest_of {p l s : List UInt8} (h : l = p ++ s) : sRest p l = s := by subst h; exact (take_app p s).2
/-- A byte of a value, as it is written: e. -/
theorem sVB_spec (l : List UInt8) (hok : (sVB l).2.1 = true) (h34 : sTake [34] l = false) : ∃ e, l = e ++ (sVB l).2.2 ∧ 1 ≤ e.length ∧ (∀ j m acc, unqGo (j + 1) (e ++ m) acc = unqGo j m (acc ++ [(sVB l).1])) ∧ (∀ t, spl (e ++ t) true false = (e ++ (spl t true false).1, (spl t true false).2)) := by
  unfold sVB at *
  by_cases h1 : sTake [92, 34] l = true
  · rw [if_pos h1]
    have e := prefix_app _ _ h1
    exact ⟨[92, 34], e, by simp, fun j m acc => by conv => lhs; unfold unqGo
                                                   rfl, fun t => by have := spl_esc 34 t; simpa using this⟩
  rw [if_neg h1] at hok ⊢
  by_cases h2 : sTake [92, 92] l = true
  · rw [if_pos h2]
    have e := prefix_app _ _ h2
    exact ⟨[92, 92], e, by simp, fun j m acc => by conv => lhs; unfold unqGo
                                                   rfl, fun t => by have := spl_esc 92 t; simpa using this⟩
  rw [if_neg h2] at hok ⊢
  by_cases h3 : sTake [92, 120] l = true
  · rw [if_pos h3] at hok ⊢
    have e := prefix_app _ _ h3
    generalize sRest [92, 120] l = r at *
    subst e
    unfold sHexB at *
    dsimp only at *
    cases r with
    | nil => simp [sHexD] at hok
    | cons x r =>
      rw [sHexD_cons] at hok ⊢
      by_cases hx : 0 ≤ hexV x
      · rw [if_pos hx] at hok ⊢
        dsimp only at *
        cases r with
        | nil => simp [sHexD] at hok
        | cons y r =>
          rw [sHexD_cons] at hok ⊢
          by_cases hy : 0 ≤ hexV y
          · rw [if_pos hy] at hok ⊢
            dsimp only
            refine ⟨[92, 120, x, y], by simp, by simp, fun j m acc => ?_, fun t => ?_⟩
            · rw [hex_pair _ _ hx hy]
              conv => lhs; unfold unqGo
              have d1 : decide (hexV x < 0) = false := decide_eq_false (by omega)
              have d2 : decide (hexV y < 0) = false := decide_eq_false (by omega)
              simp [d1, d2, plainB]
            · have hne : ∀ z : UInt8, 0 ≤ hexV z → z ≠ 34 ∧ z ≠ 92 := by
                intro z hz
                have := u8_all (p := fun c => !(decide (0 ≤ hexV c)) || (!(c == 34) && !(c == 92))) (by decide +kernel) z
                simp [hz] at this
                exact this
              have := spl_esc 120 (x :: y :: t)
              rw [spl_in x _ (hne x hx).1 (hne x hx).2, spl_in y _ (hne y hy).1 (hne y hy).2] at this
              simpa using this
          · rw [if_neg hy] at hok; simp at hok
      · rw [if_neg hx] at hok; simp at hok
  rw [if_neg h3] at hok ⊢
  cases l with
  | nil => simp at hok
  | cons c r =>
    dsimp only at *
    by_cases hc : (!(plainB c.toNat) || c == 92) = true
    · rw [if_pos hc] at hok; simp at hok
    · rw [if_neg hc]
      simp only [Bool.or_eq_true, not_or, Bool.not_eq_true', Bool.not_eq_false, beq_iff_eq] at hc
      have h34' : c ≠ 34 := fun e => by subst e; rw [take1] at h34; simp at h34
      refine ⟨[c], rfl, by simp, fun j m acc => ?_, fun t => ?_⟩
      · conv => lhs; unfold unqGo
        simp only [List.singleton_append]
        have e1 : (c == 34) = false := by simpa using h34'
        have e2 : (c == 92) = false := by simpa using hc.2
        rw [e1, e2, hc.1]; rfl
      · have := spl_in c t h34' hc.2
        simpa using this
theorem valL_spec : ∀ (k : Nat) (acc l v s : List UInt8), acc.length ≤ 40 → valL k acc l = (v, true, s) → ∃ m, l = m ++ 34 :: s ∧ (∀ j, m.length < j → unqGo j m acc = some v) ∧ (∀ t, spl (m ++ 34 :: t) true false = (m ++ 34 :: (spl t false false).1, (spl t false false).2)) ∧ v.length ≤ 40
  | 0, acc, l, v, s, _, h => by simp [valL] at h
  | k + 1, acc, l, v, s, ha, h => by
    unfold valL at h
    by_cases h34 : sTake [34] l = true
    · rw [if_pos h34] at h
      simp at h
      obtain ⟨rfl, rfl⟩ := h
      have e := prefix_app _ _ h34
      refine ⟨[], by simpa using e, fun j hj => ?_, fun t => by simpa using spl_close t, ha⟩
      obtain ⟨j, rfl⟩ : ∃ j', j = j' + 1 := ⟨j - 1, by simp at hj; omega⟩
      rfl
    · rw [if_neg h34] at h
      by_cases hc : (!(sVB l).2.1 || decide (40 ≤ acc.length)) = true
      · rw [if_pos hc] at h; simp at h
      · rw [if_neg hc] at h
        simp only [Bool.or_eq_true, not_or, Bool.not_eq_true', Bool.not_eq_false, decide_eq_true_eq] at hc
        obtain ⟨e, he, hel, hu, hs⟩ := sVB_spec l hc.1 (by simpa using h34)
        obtain ⟨m, hm, hj, hsp, hv⟩ := valL_spec k _ _ v s (by simp; omega) h
        refine ⟨e ++ m, by rw [List.append_assoc, ← hm]; exact he, fun j hjl => ?_, fun t => ?_, hv⟩
        · obtain ⟨j, rfl⟩ : ∃ j', j = j' + 1 := ⟨j - 1, by omega⟩
          rw [hu, hj j (by simp at hjl; omega)]
        · rw [List.append_assoc, hs, hsp]; simp
theorem unq_build (m v : List UInt8) (h : unqGo (m.length + 2) m [] = some v) (hv : v.length ≤ 40) : unqR (34 :: (m ++ [34])) = (v, true) := by
  unfold unqR
  have e1 : decide ((34 :: (m ++ [34])).length < 2) = false := decide_eq_false (by simp)
  have e2 : (hd (34 :: (m ++ [34])) == 34) = true := rfl
  have e3 : ((34 :: (m ++ [34])).getLast? == some 34) = true := by
    rw [← List.cons_append, List.getLast?_concat]; rfl
  have e4 : ((34 :: (m ++ [34])).take ((34 :: (m ++ [34])).length - 1)).drop 1 = m := by simp
  have e5 : (34 :: (m ++ [34])).length = m.length + 2 := by simp
  rw [e1, e2, e3, e4, e5, h]
  simp [hv]
theorem sVal_spec (l v s : List UInt8) (h : sVal l = (v, true, s)) : ∃ q, l = 34 :: q ++ s ∧ unqR (34 :: q) = (v, true) ∧ (∀ t, fw (34 :: q ++ t) = 34 :: q ++ fw t ∧ rw_ (34 :: q ++ t) = rw_ t) := by
  unfold sVal at h
  by_cases ht : sTake [34] l = true
  · rw [if_pos ht] at h
    have e := prefix_app _ _ ht
    obtain ⟨m, hm, hu, hsp, hv⟩ := valL_spec _ _ _ v s (by simp) h
    refine ⟨m ++ [34], by rw [e, hm]; simp, unq_build m v (hu _ (by omega)) hv, fun t => ?_⟩
    have e2 : (34 :: (m ++ [34]) ++ t) = 34 :: (m ++ 34 :: t) := by simp
    unfold fw rw_
    rw [e2, spl_open, hsp]
    simp
  · rw [if_neg ht] at h; simp at h
theorem unq_step (j : Nat) (c : UInt8) (r acc v : List UInt8) (h : unqGo (j + 1) (c :: r) acc = some v) : ∃ e ch m, c :: r = e ++ m ∧ 1 ≤ e.length ∧ unqGo j m (acc ++ [ch]) = some v ∧ ∀ t, sVB (e ++ t) = (ch, true, t) ∧ sTake [34] (e ++ t) = false := by
  unfold unqGo at h
  by_cases h1 : (c == 34 || !(plainB c.toNat)) = true
  · rw [if_pos h1] at h; simp at h
  · rw [if_neg h1] at h
    simp only [Bool.or_eq_true, not_or, Bool.not_eq_true', Bool.not_eq_false, beq_iff_eq] at h1
    by_cases h2 : (c == 92) = true
    · rw [if_pos h2] at h
      have : c = 92 := by simpa using h2
      subst this
      cases r with
      | nil => simp at h
      | cons d r1 =>
        dsimp only at h
        by_cases h3 : (d == 120) = true
        · rw [if_pos h3] at h
          have : d = 120 := by simpa using h3
          subst this
          match r1, h with
          | [], h => simp at h
          | [x], h => simp at h
          | x :: y :: r2, h =>
            dsimp only at h
            by_cases h4 : (decide (hexV x < 0) || decide (hexV y < 0)) = true
            · rw [if_pos h4] at h; simp at h
            · rw [if_neg h4] at h
              simp only [Bool.or_eq_true, not_or, decide_eq_true_eq] at h4
              have hx : 0 ≤ hexV x := by omega
              have hy : 0 ≤ hexV y := by omega
              refine ⟨[92, 120, x, y], _, r2, by simp, by simp, h, fun t => ⟨?_, by simp [take1]⟩⟩
              unfold sVB
              simp only [List.cons_append, List.nil_append]
              rw [take2, take2, take2]
              have er : sRest [92, 120] (92 :: 120 :: x :: y :: t) = x :: y :: t := rest_of rfl
              rw [er, if_neg (by decide), if_neg (by decide), if_pos (by decide)]
              unfold sHexB
              dsimp only
              rw [sHexD_cons, if_pos hx]
              dsimp only
              rw [sHexD_cons, if_pos hy, hex_pair _ _ hx hy]
              rfl
        · rw [if_neg h3] at h
          by_cases h4 : (!(d == 34) && !(d == 92)) = true
          · rw [if_pos h4] at h; simp at h
          · rw [if_neg h4] at h
            refine ⟨[92, d], d, r1, by simp, by simp, h, fun t => ⟨?_, by simp [take1]⟩⟩
            unfold sVB
            simp only [List.cons_append, List.nil_append]
            rw [take2, take2]
            by_cases hd : d = 34
            · subst hd
              rw [if_pos (by decide)]
              exact congrArg _ (congrArg _ (rest_of rfl))
            · have hd2 : d = 92 := by
                simp at h4; exact h4 hd
              subst hd2
              rw [if_neg (by decide), if_pos (by decide)]
              exact congrArg _ (congrArg _ (rest_of rfl))
    · rw [if_neg h2] at h
      have hc92 : c ≠ 92 := by simpa using h2
      refine ⟨[c], c, r, rfl, by simp, h, fun t => ⟨?_, ?_⟩⟩
      · unfold sVB
        simp only [List.cons_append, List.nil_append]
        rw [take2_ne _ _ _ _ hc92.symm, take2_ne _ _ _ _ hc92.symm, take2_ne _ _ _ _ hc92.symm]
        simp [h1.2, hc92]
      · simp only [List.cons_append, List.nil_append]
        rw [take1]
        simpa using fun e => h1.1 e.symm
theorem unq_len : ∀ (j : Nat) (m acc v : List UInt8), unqGo j m acc = some v → acc.length ≤ v.length
  | 0, m, acc, v, h => by simp [unqGo] at h
  | j + 1, [], acc, v, h => by simp [unqGo] at h; subst h; omega
  | j + 1, c :: r, acc, v, h => by
    obtain ⟨e, ch, m, _, _, h2, _⟩ := unq_step j c r acc v h
    have := unq_len j m _ v h2
    simp at this; omega
theorem valL_build : ∀ (j k : Nat) (m acc v s : List UInt8), unqGo j m acc = some v → v.length ≤ 40 → m.length < k → valL k acc (m ++ 34 :: s) = (v, true, s)
  | 0, k, m, acc, v, s, h, _, _ => by simp [unqGo] at h
  | j + 1, 0, m, acc, v, s, h, _, hk => by omega
  | j + 1, k + 1, [], acc, v, s, h, _, _ => by
    simp [unqGo] at h; subst h
    unfold valL
    have := take_app [34] s
    simp only [List.singleton_append] at this
    rw [List.nil_append, this.1, if_pos rfl, this.2]
  | j + 1, k + 1, c :: r, acc, v, s, h, hv, hk => by
    obtain ⟨e, ch, m, he, hel, h2, ht⟩ := unq_step j c r acc v h
    have hl := unq_len j m _ v h2
    simp only [List.length_append, List.length_singleton] at hl
    rw [he, List.append_assoc]
    unfold valL
    have hl2 : (c :: r).length = e.length + m.length := by rw [he]; simp
    rw [(ht _).2, (ht _).1, if_neg (by simp), if_neg (by simp; omega)]
    exact valL_build j k m _ v s h2 hv (by omega)
theorem unqR_inv (q v : List UInt8) (h : unqR q = (v, true)) : ∃ m, q = 34 :: (m ++ [34]) ∧ unqGo q.length m [] = some v ∧ v.length ≤ 40 := by
  unfold unqR at h
  by_cases h1 : (decide (q.length < 2) || !(hd q == 34) || !(q.getLast? == some 34)) = true
  · rw [if_pos h1] at h; simp at h
  · rw [if_neg h1] at h
    simp only [Bool.or_eq_true, not_or, decide_eq_true_eq, Bool.not_eq_true', Bool.not_eq_false, beq_iff_eq] at h1
    obtain ⟨⟨h2, h3⟩, h4⟩ := h1
    have e : q = 34 :: (((q.take (q.length - 1)).drop 1) ++ [34]) := by
      cases q with
      | nil => simp at h2
      | cons c r =>
        have hc : c = 34 := by
          apply UInt8.toNat_inj.1
          have : (c.toNat : Int) = 34 := h3
          show c.toNat = 34
          omega
        subst hc
        have hr : r ≠ [] := fun e => by subst e; simp at h2
        have h5 : r.getLast hr = 34 := by
          rw [List.getLast?_cons, List.getLast?_eq_some_getLast hr] at h4
          simpa using h4
        have h6 := List.dropLast_concat_getLast hr
        rw [h5] at h6
        have h7 : (List.take ((34 :: r).length - 1) (34 :: r)).drop 1 = r.dropLast := by
          rw [List.dropLast_eq_take]
          obtain ⟨n, hn⟩ : ∃ n, r.length = n + 1 := ⟨r.length - 1, by have := List.length_pos_iff.2 hr; omega⟩
          simp [hn]
        rw [h7, h6]
    cases hu : unqGo q.length ((q.take (q.length - 1)).drop 1) [] with
    | none => rw [hu] at h; simp at h
    | some v' =>
      rw [hu] at h
      simp at h
      obtain ⟨rfl, hv⟩ := h
      exact ⟨_, e, hu, hv⟩
theorem sVal_build (q v s : List UInt8) (h : unqR q = (v, true)) : sVal (q ++ s) = (v, true, s) ∧ ∃ q', q = 34 :: q' := by
  obtain ⟨m, rfl, hu, hv⟩ := unqR_inv q v h
  refine ⟨?_, _, rfl⟩
  have e : (34 :: (m ++ [34]) ++ s) = 34 :: (m ++ 34 :: s) := by simp
  rw [e]
  unfold sVal
  have := take_app [34] (m ++ 34 :: s)
  simp only [List.singleton_append] at this
  rw [this.1, if_pos rfl, this.2]
  exact valL_build _ _ m [] v s hu hv (by simp; omega)

/-! A matcher. -/
def toRM (m : CM) : RM := (m.1, kindT m.2.1, m.2.2)
theorem sKind_spec (l : List UInt8) (h : (sKind l).2.1 = true) : l = kindT (sKind l).1 ++ (sKind l).2.2 := by
  unfold sKind at *
  by_cases h1 : sTake [61, 126] l = true
  · rw [if_pos h1]; exact prefix_app _ _ h1
  rw [if_neg h1] at h ⊢
  by_cases h2 : sTake [33, 126] l = true
  · rw [if_pos h2]; exact prefix_app _ _ h2
  rw [if_neg h2] at h ⊢
  by_cases h3 : sTake [33, 61] l = true
  · rw [if_pos h3]; exact prefix_app _ _ h3
  rw [if_neg h3] at h ⊢
  exact prefix_app _ _ h
theorem k_cases (k : Nat) (h : k ≤ 3) : k = 0 ∨ k = 1 ∨ k = 2 ∨ k = 3 := by omega
theorem sKind_build (k : Nat) (hk : k ≤ 3) (t : List UInt8) : sKind (kindT k ++ 34 :: t) = (k, true, 34 :: t) := by
  rcases k_cases k hk with rfl | rfl | rfl | rfl
  · have e : kindT 0 ++ 34 :: t = 61 :: 34 :: t := rfl
    rw [e]; unfold sKind
    rw [take2, take2, take2, if_neg (by decide), if_neg (by decide), if_neg (by decide), take1]
    have er : sRest [61] (61 :: 34 :: t) = 34 :: t := rest_of rfl
    rw [er]; rfl
  · have e : kindT 1 ++ 34 :: t = 33 :: 61 :: 34 :: t := rfl
    rw [e]; unfold sKind
    rw [take2, take2, take2, if_neg (by decide), if_neg (by decide), if_pos (by decide)]
    exact congrArg _ (congrArg _ (rest_of rfl))
  · have e : kindT 2 ++ 34 :: t = 61 :: 126 :: 34 :: t := rfl
    rw [e]; unfold sKind
    rw [take2, if_pos (by decide)]
    exact congrArg _ (congrArg _ (rest_of rfl))
  · have e : kindT 3 ++ 34 :: t = 33 :: 126 :: 34 :: t := rfl
    rw [e]; unfold sKind
    rw [take2, take2, if_neg (by decide), if_pos (by decide)]
    exact congrArg _ (congrArg _ (rest_of rfl))
theorem kindT_hd (k : Nat) : ∃ x t, kindT k = x :: t ∧ (x = 61 ∨ x = 33) := by
  unfold kindT
  split
  · exact ⟨_, _, rfl, .inr rfl⟩
  · split
    · exact ⟨_, _, rfl, .inl rfl⟩
    · split
      · exact ⟨_, _, rfl, .inr rfl⟩
      · exact ⟨_, _, rfl, .inl rfl⟩
theorem kindT_clean (k : Nat) : clean (kindT k) = true := by
  unfold kindT
  split
  · decide
  · split
    · decide
    · split <;> decide
theorem span_app {p : UInt8 → Bool} (n : List UInt8) (x : UInt8) (t : List UInt8) (hn : n.all p = true) (hx : p x = false) : (n ++ x :: t).takeWhile p = n ∧ (n ++ x :: t).dropWhile p = x :: t := by
  induction n with
  | nil => simp [hx]
  | cons y n ih =>
    simp only [List.all_cons, Bool.and_eq_true] at hn
    have := ih hn.2
    simp only [List.cons_append]
    rw [List.takeWhile_cons, List.dropWhile_cons, hn.1]
    simp [this]
theorem nm_notEq (c : UInt8) : (!(nmB c) || notEq c) = true := u8_all (p := fun c => !(nmB c) || notEq c) (by decide +kernel) c
theorem all_notEq (n : List UInt8) (h : n.all nmB = true) : n.all notEq = true := by
  rw [List.all_eq_true] at h ⊢
  intro x hx
  have := nm_notEq x
  rw [h x hx] at this; simpa using this
theorem name_all (n : List UInt8) (h : isNameL n = true) : n.all nmB = true := by
  unfold isNameL at h
  simp only [Bool.and_eq_true] at h
  exact h.2
theorem mtR_build (n : List UInt8) (k : Nat) (q v : List UInt8) (hn : isNameL n = true) (hk : k ≤ 3) (hq : unqR q = (v, true)) : mtR (n ++ (kindT k ++ q)) = ((n, kindT k, v), true) := by
  obtain ⟨_, q', rfl⟩ := sVal_build q v [] hq
  have hall := all_notEq n (name_all n hn)
  obtain ⟨x, t, e, hx⟩ := kindT_hd k
  have hx2 : notEq x = false := by rcases hx with rfl | rfl <;> decide
  have hs := span_app n x (t ++ 34 :: q') hall hx2
  rw [← List.cons_append, ← e] at hs
  unfold mtR
  rw [hs.1, hs.2]
  dsimp only
  rcases k_cases k hk with rfl | rfl | rfl | rfl
  · have e : kindT 0 ++ 34 :: q' = 61 :: 34 :: q' := rfl
    rw [e]
    have s2 : sgn2 (61 :: 34 :: q') = false := by simp [sgn2]
    have s1 : sgn1 (61 :: 34 :: q') = true := by simp [sgn1, hd]
    rw [s2, s1]
    simp [hq, hn, kindT]
  · have e : kindT 1 ++ 34 :: q' = 33 :: 61 :: 34 :: q' := rfl
    rw [e]
    have s2 : sgn2 (33 :: 61 :: 34 :: q') = true := by simp [sgn2]
    rw [s2]
    simp [hq, hn, kindT]
  · have e : kindT 2 ++ 34 :: q' = 61 :: 126 :: 34 :: q' := rfl
    rw [e]
    have s2 : sgn2 (61 :: 126 :: 34 :: q') = true := by simp [sgn2]
    rw [s2]
    simp [hq, hn, kindT]
  · have e : kindT 3 ++ 34 :: q' = 33 :: 126 :: 34 :: q' := rfl
    rw [e]
    have s2 : sgn2 (33 :: 126 :: 34 :: q') = true := by simp [sgn2]
    rw [s2]
    simp [hq, hn, kindT]
theorem hd61 (r : List UInt8) (h : sgn1 r = true) : ∃ t, r = 61 :: t := by
  unfold sgn1 at h
  cases r with
  | nil => simp at h
  | cons c t =>
    simp only [Bool.and_eq_true, beq_iff_eq] at h
    have : (c.toNat : Int) = 61 := h.2
    have : c = 61 := UInt8.toNat_inj.1 (by show c.toNat = 61; omega)
    exact ⟨t, by rw [this]⟩
theorem mtR_inv (h : List UInt8) (m : RM) (e : mtR h = (m, true)) : ∃ n k q v, h = n ++ (kindT k ++ q) ∧ k ≤ 3 ∧ isNameL n = true ∧ unqR q = (v, true) ∧ m = (n, kindT k, v) := by
  have hsp : h.takeWhile notEq ++ h.dropWhile notEq = h := List.takeWhile_append_dropWhile
  unfold mtR at e
  dsimp only at e
  generalize h.takeWhile notEq = n at *
  generalize h.dropWhile notEq = r at *
  by_cases h2 : sgn2 r = true
  · rw [if_pos h2] at e
    simp only [Prod.mk.injEq, Bool.and_eq_true] at e
    obtain ⟨rfl, hu, hn⟩ := e
    unfold sgn2 at h2
    simp only [Bool.and_eq_true, decide_eq_true_eq, Bool.or_eq_true, beq_iff_eq] at h2
    have hr : r = r.take 2 ++ r.drop 2 := (List.take_append_drop 2 r).symm
    have hq : unqR (r.drop 2) = ((unqR (r.drop 2)).1, true) := by rw [← hu]
    rcases h2.2 with (e2 | e2) | e2
    · exact ⟨n, 2, r.drop 2, _, by rw [← hsp]; conv => lhs; rw [hr, e2]
                                   rfl, by omega, hn, hq, by rw [e2]; rfl⟩
    · exact ⟨n, 3, r.drop 2, _, by rw [← hsp]; conv => lhs; rw [hr, e2]
                                   rfl, by omega, hn, hq, by rw [e2]; rfl⟩
    · exact ⟨n, 1, r.drop 2, _, by rw [← hsp]; conv => lhs; rw [hr, e2]
                                   rfl, by omega, hn, hq, by rw [e2]; rfl⟩
  · rw [if_neg h2] at e
    by_cases h1 : sgn1 r = true
    · rw [if_pos h1] at e
      obtain ⟨t, rfl⟩ := hd61 r h1
      simp only [Prod.mk.injEq, Bool.and_eq_true] at e
      obtain ⟨rfl, hu, hn⟩ := e
      have hq : unqR t = ((unqR t).1, true) := by
        have : (unqR t).2 = true := hu
        rw [← this]
      exact ⟨n, 0, t, _, by rw [← hsp]; rfl, by omega, hn, hq, rfl⟩
    · rw [if_neg h1] at e; simp at e
theorem sMat_build (n : List UInt8) (k : Nat) (q v s : List UInt8) (hn : isNameL n = true) (hk : k ≤ 3) (hq : unqR q = (v, true)) : sMat (n ++ (kindT k ++ q) ++ s) = ((n, k, v), true, s) := by
  have hv := sVal_build q v s hq
  obtain ⟨q', rfl⟩ := hv.2
  obtain ⟨x, t, e, hx⟩ := kindT_hd k
  have hx2 : nmB x = false := by rcases hx with rfl | rfl <;> decide
  have hs := span_app n x (t ++ 34 :: (q' ++ s)) (name_all n hn) hx2
  rw [← List.cons_append, ← e] at hs
  have e2 : n ++ (kindT k ++ 34 :: q') ++ s = n ++ (kindT k ++ 34 :: (q' ++ s)) := by simp
  rw [e2]
  unfold sMat
  dsimp only
  rw [hs.1, hs.2, sKind_build k hk]
  dsimp only
  have hv1 := hv.1
  rw [List.cons_append] at hv1
  rw [hv1, hn]; rfl
theorem mat_st (r : List UInt8) : (mtR (fw r)).2 = ((sMat r).2.1 && bd (sMat r).2.2) ∧ ((sMat r).2.1 = true → bd (sMat r).2.2 = true → (mtR (fw r)).1 = toRM (sMat r).1 ∧ rw_ r = (sMat r).2.2) := by
  have fwd : (sMat r).2.1 = true → bd (sMat r).2.2 = true → mtR (fw r) = (toRM (sMat r).1, true) ∧ rw_ r = (sMat r).2.2 := by
    intro h1 h2
    unfold sMat at *
    dsimp only at *
    simp only [Bool.and_eq_true] at h1
    obtain ⟨⟨hn, hk⟩, hv⟩ := h1
    have e1 : r.takeWhile nmB ++ r.dropWhile nmB = r := List.takeWhile_append_dropWhile
    have hc : clean (r.takeWhile nmB) = true := clean_of (p := nmB) (fun c h => ⟨(nm_ne h).1, (nm_ne h).2.1⟩) _ (takeWhile_all _ _)
    have e2 := sKind_spec _ hk
    have hk3 := sKind_le (r.dropWhile nmB)
    generalize r.takeWhile nmB = n at *
    generalize r.dropWhile nmB = l1 at *
    generalize hK : sKind l1 = K at *
    obtain ⟨k, kb, l2⟩ := K
    dsimp only at *
    generalize hV : sVal l2 = V at *
    obtain ⟨v, vb, s⟩ := V
    dsimp only at *
    subst hv
    obtain ⟨q, e3, hu, hf⟩ := sVal_spec l2 v s hV
    have f1 := fw_clean n (kindT k ++ (34 :: q ++ s)) hc
    have f2 := fw_clean (kindT k) (34 :: q ++ s) (kindT_clean k)
    have f3 := hf s
    have f4 := fw_bd s h2
    have er : r = n ++ (kindT k ++ (34 :: q ++ s)) := by rw [← e1, e2, e3]
    rw [er, f1.1, f1.2, f2.1, f2.2, f3.1, f3.2, f4.1, f4.2, List.append_nil, mtR_build n k (34 :: q) v hn hk3 hu]
    exact ⟨rfl, rfl⟩
  have bwd : (mtR (fw r)).2 = true → (sMat r).2.1 = true ∧ bd (sMat r).2.2 = true := by
    intro h
    obtain ⟨n, k, q, v, e, hk, hn, hq, _⟩ := mtR_inv (fw r) (mtR (fw r)).1 (by rw [← h])
    have er := fw_app r
    rw [e] at er
    rw [er, sMat_build n k q v (rw_ r) hn hk hq]
    exact ⟨rfl, rw_bd r⟩
  refine ⟨?_, fun h1 h2 => ?_⟩
  · rw [Bool.eq_iff_iff, Bool.and_eq_true]
    exact ⟨bwd, fun h => by rw [(fwd h.1 h.2).1]⟩
  · have := fwd h1 h2
    rw [this.1]; exact ⟨rfl, this.2⟩

/-! What is behind the times. -/
def S5 (l : List UInt8) : Option Bool := if (sRest kCont l).isEmpty then some (sTake kCont l) else none
theorem S5_nb (l : List UInt8) (h : bd l = false) : S5 l = none := by
  unfold S5
  have := nb_rest [99, 111, 110, 116, 105, 110, 117, 101] l h
  have e : sRest kCont l = l := this
  rw [e]
  obtain ⟨x, r, rfl, _⟩ := nb_cons h
  rfl
def contR (W : List (List UInt8)) : Option Bool := if (W.length == 1) && (W.getD 0 [] == wCont) then some true else if W.isEmpty then some false else none
theorem S5_eq (l : List UInt8) (h : bd l = true) : S5 l = contR (tw l) := by
  cases l with
  | nil => rfl
  | cons x r =>
    have : x = 32 := by simpa [bd] using h
    subst this
    rw [tw_cons, W0_eq]
    unfold contR S5
    by_cases hc : sTake kCont (32 :: r) = true
    · have e := prefix_app _ _ hc
      have e' : r = wCont ++ sRest kCont (32 :: r) := by
        have : (32 :: r) = 32 :: (wCont ++ sRest kCont (32 :: r)) := e
        simpa using this
      rw [hc]
      generalize sRest kCont (32 :: r) = s at *
      subst e'
      have f := fw_clean wCont s (by decide)
      rw [f.1, f.2]
      cases s with
      | nil => rfl
      | cons y s =>
        simp only [List.isEmpty_cons]
        rw [if_neg (by simp)]
        cases hb : bd (y :: s)
        · obtain ⟨h', e'⟩ := fw_nb y s hb
          rw [e']
          rw [if_neg]
          · rfl
          · simp
        · rw [(fw_bd _ hb).2, tw_cons, W0_eq]
          simp
    · have hr : sRest kCont (32 :: r) = 32 :: r := by unfold sTake at hc; unfold sRest; rw [if_neg hc]
      rw [hr]
      simp only [List.isEmpty_cons]
      rw [if_neg (by simp), if_neg]
      · rfl
      · intro hh
        apply hc
        simp only [List.length_cons, Bool.and_eq_true, beq_iff_eq] at hh
        have h0 : rw_ r = [] := (tw_len _).1 (by omega)
        have h1 : fw r = wCont := by simpa using hh.2
        have := fw_app r
        rw [h0, h1, List.append_nil] at this
        rw [this]; decide
theorem restGo_cont (k : Nat) (W : List (List UInt8)) (acc : List RM) (h : kwB wIf W = false) : (if (restGo (k + 1) W acc).2.2 then some ((restGo (k + 1) W acc).1, (restGo (k + 1) W acc).2.1) else none) = if acc.length ≤ 4 then (contR W).map (fun b => (acc, b)) else none := by
  unfold restGo
  unfold kwB at h
  rw [h]
  unfold contR
  by_cases h1 : ((W.length == 1) && (W.getD 0 [] == wCont)) = true
  · rw [h1]
    by_cases h4 : acc.length ≤ 4 <;> simp [h4]
  · have h1' : ((W.length == 1) && (W.getD 0 [] == wCont)) = false := by simpa using h1
    rw [h1']
    by_cases h2 : W.isEmpty = true
    · by_cases h4 : acc.length ≤ 4 <;> simp [h4, h2]
    · by_cases h4 : acc.length ≤ 4 <;> simp [h4, h2]
theorem restGo_big : ∀ (k : Nat) (W : List (List UInt8)) (acc : List RM), 4 < acc.length → (restGo k W acc).2.2 = false
  | 0, W, acc, h => rfl
  | k + 1, W, acc, h => by
    unfold restGo
    split
    · split
      · exact restGo_big k _ _ (by simp; omega)
      · rfl
    · split
      · simp; omega
      · simp; omega
def S4g (k : Nat) (acc : List CM) (l : List UInt8) : Option (List CM × Bool) := if (matL k acc l).2.1 then (S5 (matL k acc l).2.2).map (fun b => ((matL k acc l).1, b)) else none
def R4g (k : Nat) (acc : List RM) (W : List (List UInt8)) : Option (List RM × Bool) := if (restGo k W acc).2.2 then some ((restGo k W acc).1, (restGo k W acc).2.1) else none
theorem matL_nb (k : Nat) (acc : List CM) (l : List UInt8) (h : bd l = false) : S4g (k + 1) acc l = none := by
  unfold S4g matL
  have : sTake kIf l = false := nb_take [105, 102, 32] l h
  rw [this]
  simp [S5_nb l h]
theorem mat_loop : ∀ (k k2 : Nat) (acc : List CM) (l : List UInt8), 6 ≤ k + acc.length → acc.length ≤ 4 → bd l = true → (tw l).length < k2 → (S4g k acc l).map (fun x => (x.1.map toRM, x.2)) = R4g k2 (acc.map toRM) (tw l)
  | 0, k2, acc, l, h1, h2, _, _ => by omega
  | k + 1, 0, acc, l, h1, h2, hb, hk2 => by omega
  | k + 1, k2 + 1, acc, l, h1, h2, hb, hk2 => by
    have hkw : kwB wIf (tw l) = sTake kIf l := kw_eq wIf l (by decide) hb
    by_cases ht : sTake kIf l = true
    · have hr := kw_rest wIf l (by decide) ht
      have hr1 : (tw l).getD 1 [] = fw (sRest kIf l) := hr.1
      have hr2 : (tw l).drop 2 = tw (rw_ (sRest kIf l)) := hr.2
      rw [ht] at hkw
      have hlen : 1 < (tw l).length := by
        unfold kwB at hkw; simp at hkw; exact hkw.1
      have hm := mat_st (sRest kIf l)
      have hR : R4g (k2 + 1) (acc.map toRM) (tw l) = if (mtR (fw (sRest kIf l))).2 then R4g k2 (acc.map toRM ++ [(mtR (fw (sRest kIf l))).1]) (tw (rw_ (sRest kIf l))) else none := by
        unfold R4g
        have e : restGo (k2 + 1) (tw l) (acc.map toRM) = if (mtR (fw (sRest kIf l))).2 then restGo k2 (tw (rw_ (sRest kIf l))) (acc.map toRM ++ [(mtR (fw (sRest kIf l))).1]) else (acc.map toRM, false, false) := by
          conv => lhs; unfold restGo
          unfold kwB at hkw
          rw [hkw, hr1, hr2]; rfl
        rw [e]
        by_cases hx : (mtR (fw (sRest kIf l))).2 = true
        · rw [if_pos hx]; simp only [if_pos hx]
        · rw [if_neg hx]; simp only [if_neg hx]; rfl
      have hS : S4g (k + 1) acc l = if !(sMat (sRest kIf l)).2.1 || decide (4 ≤ acc.length) then none else S4g k (acc ++ [(sMat (sRest kIf l)).1]) (sMat (sRest kIf l)).2.2 := by
        unfold S4g
        have e : matL (k + 1) acc l = if !(sMat (sRest kIf l)).2.1 || decide (4 ≤ acc.length) then (acc, false, (sMat (sRest kIf l)).2.2) else matL k (acc ++ [(sMat (sRest kIf l)).1]) (sMat (sRest kIf l)).2.2 := by
          conv => lhs; unfold matL
          rw [ht]; rfl
        rw [e]
        by_cases hx : (!(sMat (sRest kIf l)).2.1 || decide (4 ≤ acc.length)) = true
        · rw [if_pos hx]; simp only [if_pos hx]; rfl
        · rw [if_neg hx]; simp only [if_neg hx]
      rw [hR, hS, hm.1]
      generalize hX : sMat (sRest kIf l) = X at *
      obtain ⟨x, xok, xr⟩ := X
      dsimp only at *
      cases xok
      · simp
      · cases hbx : bd xr
        · by_cases h4 : 4 ≤ acc.length
          · simp [h4]
          · obtain ⟨k', rfl⟩ : ∃ k', k = k' + 1 := ⟨k - 1, by omega⟩
            rw [if_neg (by simp [h4]), matL_nb _ _ _ hbx]; simp
        · have hm2 := hm.2 rfl hbx
          by_cases h4 : 4 ≤ acc.length
          · have : R4g k2 (acc.map toRM ++ [(mtR (fw (sRest kIf l))).1]) (tw (rw_ (sRest kIf l))) = none := by
              unfold R4g
              rw [restGo_big _ _ _ (by simp; omega)]; rfl
            rw [this]; simp [h4]
          · rw [if_neg (by simp [h4]), hm2.1, hm2.2]
            have ih := mat_loop k k2 (acc ++ [x]) xr (by simp; omega) (by simp; omega) hbx (by
              have : (tw xr).length = (tw l).length - 2 := by rw [← hm2.2, ← hr2, List.length_drop]
              omega)
            rw [List.map_append] at ih
            rw [ih]; simp
    · have ht' : sTake kIf l = false := by simpa using ht
      rw [ht'] at hkw
      have h := restGo_cont k2 (tw l) (acc.map toRM) hkw
      have hR : R4g (k2 + 1) (acc.map toRM) (tw l) = (contR (tw l)).map (fun b => (acc.map toRM, b)) := by
        unfold R4g; rw [h, if_pos (by simp; omega)]
      rw [hR]
      unfold S4g matL
      rw [ht']
      simp only [Bool.false_eq_true, if_false, if_true]
      rw [S5_eq l hb]
      cases contR (tw l) <;> simp
def S4 (l : List UInt8) : Option (List CM × Bool) := S4g 6 [] l
theorem S4_nb (l : List UInt8) (h : bd l = false) : S4 l = none := matL_nb 5 [] l h
def R4 (W : List (List UInt8)) : Option (List RM × Bool) := R4g (W.length + 1) [] W
theorem S4_eq (l : List UInt8) (h : bd l = true) : (S4 l).map (fun x => (x.1.map toRM, x.2)) = R4 (tw l) := mat_loop 6 _ [] l (by simp) (by simp) h (Nat.lt_succ_self _)

end Go.Proofs.YtjnaekffodgdcaaDoor
