import Derived.Test.YtpbkgeipigcefaaGreatJ13
import Derived.Test.YtpbkgeipigcefaaGreatJ28
import Derived.Test.YtpbkgeipigcefaaGreatJ44
set_option linter.unusedVariables false
set_option linter.unusedSimpArgs false
set_option linter.unnecessarySimpa false
namespace Go.Proofs.YtpbkgeipigcefaaGreat
set_option linter.unusedVariables false
set_option linter.unusedSimpArgs false

/-! What is read of a text is read of it with more behind, where that begins with a bracket that closes or a bar. -/
def Sf (s : List UInt8) : Prop := ∀ c r, s = c :: r → c = 41 ∨ c = 124
theorem headIs_sf {s : List UInt8} (hs : Sf s) {c : UInt8} (h1 : c ≠ 41) (h2 : c ≠ 124) (t : List UInt8) : headIs c (t ++ s) = headIs c t := by
  cases t with
  | cons x r => rfl
  | nil =>
    cases s with
    | nil => rfl
    | cons x r =>
      rcases hs x r rfl with rfl | rfl
      · show (41 == c) = false; rw [beq_eq_false_iff_ne]; exact fun h => h1 h.symm
      · show (124 == c) = false; rw [beq_eq_false_iff_ne]; exact fun h => h2 h.symm
theorem headIs_tail {c : UInt8} {t : List UInt8} (h : headIs c t = true) (s : List UInt8) : (t ++ s).tail = t.tail ++ s := by
  cases t with
  | nil => cases h
  | cons x r => rfl
theorem pDigit_sf {s : List UInt8} (hs : Sf s) (t : List UInt8) : pDigit (t ++ s) = (pDigit t).map fun x => (x.1, x.2 ++ s) := by
  cases t with
  | cons c r =>
    show (if 48 ≤ c && c ≤ 57 then some (c.toNat - 48, r ++ s) else none) = Option.map _ (if 48 ≤ c && c ≤ 57 then some (c.toNat - 48, r) else none)
    split <;> rfl
  | nil =>
    cases s with
    | nil => rfl
    | cons x r => rcases hs x r rfl with rfl | rfl <;> rfl
theorem pCounts_sf {s : List UInt8} (hs : Sf s) {t r : List UInt8} {b : Nat × Option Nat} (h : pCounts t = some (b, r)) : pCounts (t ++ s) = some (b, r ++ s) := by
  unfold pCounts at h ⊢
  rw [pDigit_sf hs]
  cases hd : pDigit t with
  | none => rw [hd] at h; cases h
  | some x =>
    obtain ⟨lo, r1⟩ := x
    rw [hd] at h
    simp only [Option.map_some] at h ⊢
    rw [headIs_sf hs (by decide) (by decide) r1]
    cases h44 : headIs 44 r1
    · rw [h44] at h
      simp only [Bool.false_eq_true, if_false] at h ⊢
      rw [headIs_sf hs (by decide) (by decide) r1]
      cases h125 : headIs 125 r1
      · rw [h125] at h; simp at h
      · rw [h125] at h
        simp only [if_true, Option.some.injEq, Prod.mk.injEq] at h ⊢
        rw [headIs_tail h125]
        exact ⟨h.1, by rw [← h.2]⟩
    · rw [h44] at h
      simp only [if_true] at h ⊢
      rw [headIs_tail h44, pDigit_sf hs]
      cases hd2 : pDigit r1.tail with
      | some y =>
        obtain ⟨n, r2⟩ := y
        rw [hd2] at h
        simp only [Option.map_some] at h ⊢
        rw [headIs_sf hs (by decide) (by decide) r2]
        cases hc : (headIs 125 r2 && decide (lo ≤ n))
        · rw [hc] at h; simp at h
        · rw [hc] at h
          simp only [if_true, Option.some.injEq, Prod.mk.injEq] at h ⊢
          rw [Bool.and_eq_true] at hc
          rw [headIs_tail hc.1]
          exact ⟨h.1, by rw [← h.2]⟩
      | none =>
        rw [hd2] at h
        simp only [Option.map_none] at h ⊢
        rw [headIs_sf hs (by decide) (by decide) r1.tail]
        cases h125 : headIs 125 r1.tail
        · rw [h125] at h; simp at h
        · rw [h125] at h
          simp only [if_true, Option.some.injEq, Prod.mk.injEq] at h ⊢
          rw [headIs_tail h125]
          exact ⟨h.1, by rw [← h.2]⟩
theorem atRep_sf {s : List UInt8} (hs : Sf s) (t : List UInt8) : atRepB (t ++ s) = atRepB t := by
  cases t with
  | cons c r => rfl
  | nil =>
    cases s with
    | nil => rfl
    | cons x r => rcases hs x r rfl with rfl | rfl <;> rfl
theorem pRep_sf {s : List UInt8} (hs : Sf s) {t r : List UInt8} {b : Nat × Option Nat} (h : pRep t = some (b, r)) : pRep (t ++ s) = some (b, r ++ s) := by
  cases t with
  | nil => cases h
  | cons c q =>
    show pRep (c :: (q ++ s)) = _
    rw [pRep] at h ⊢
    split at h
    · rename_i h1; rw [if_pos h1]; cases h; rfl
    · rename_i h1
      rw [if_neg h1]
      split at h
      · rename_i h2; rw [if_pos h2]; cases h; rfl
      · rename_i h2
        rw [if_neg h2]
        split at h
        · rename_i h3; rw [if_pos h3]; cases h; rfl
        · rename_i h3
          rw [if_neg h3]
          split at h
          · rename_i h4; rw [if_pos h4]; exact pCounts_sf hs h
          · cases h
theorem pMarks_sf {s : List UInt8} (hs : Sf s) : ∀ (k : Nat) (x : RX) (t : List UInt8) (y : RX) (r : List UInt8), pMarks k x t = some (y, r) → ∀ k', k ≤ k' → pMarks k' x (t ++ s) = some (y, r ++ s)
  | 0, x, t, y, r, h, k', _ => by cases h
  | k + 1, x, t, y, r, h, k', hk => by
    obtain ⟨m, rfl⟩ : ∃ m, k' = m + 1 := ⟨k' - 1, by omega⟩
    unfold pMarks at h ⊢
    rw [atRep_sf hs]
    cases ha : atRepB t
    · rw [ha] at h
      simp only [Bool.false_eq_true, if_false, Option.some.injEq, Prod.mk.injEq] at h ⊢
      exact ⟨h.1, by rw [h.2]⟩
    · rw [ha] at h
      simp only [if_true] at h ⊢
      cases hr : pRep t with
      | none => rw [hr] at h; cases h
      | some b =>
        obtain ⟨b, q⟩ := b
        rw [hr] at h
        rw [pRep_sf hs hr]
        exact pMarks_sf hs k _ q y r h m (by omega)
theorem pItemB_sf (s : List UInt8) {t r : List UInt8} {d : UInt8} (h : pItemB t = some (d, r)) : pItemB (t ++ s) = some (d, r ++ s) := by
  cases t with
  | nil => cases h
  | cons c q =>
    show pItemB (c :: (q ++ s)) = _
    unfold pItemB at h ⊢
    dsimp only at h ⊢
    split at h
    · rename_i h1
      rw [if_pos h1]
      cases q with
      | nil => cases h
      | cons e q2 => cases h; rfl
    · rename_i h1
      rw [if_neg h1]
      split at h
      · cases h
      · rename_i h2; rw [if_neg h2]; cases h; rfl
theorem pItem_sf {s : List UInt8} (hs : Sf s) {t r : List UInt8} {b : UInt8 × UInt8} (h : pItem t = some (b, r)) : pItem (t ++ s) = some (b, r ++ s) := by
  unfold pItem at h ⊢
  cases hb : pItemB t with
  | none => rw [hb] at h; cases h
  | some x =>
    obtain ⟨a, q⟩ := x
    rw [hb] at h
    rw [pItemB_sf s hb]
    simp only at h ⊢
    rw [headIs_sf hs (by decide) (by decide) q]
    cases h45 : headIs 45 q
    · rw [h45] at h
      simp only [Bool.false_eq_true, if_false, Option.some.injEq, Prod.mk.injEq] at h ⊢
      exact ⟨h.1, by rw [h.2]⟩
    · rw [h45] at h
      simp only [if_true] at h ⊢
      rw [headIs_tail h45]
      cases hb2 : pItemB q.tail with
      | none => rw [hb2] at h; cases h
      | some y =>
        obtain ⟨e, q2⟩ := y
        rw [hb2] at h
        rw [pItemB_sf s hb2]
        simp only at h ⊢
        split at h
        · rename_i hle; rw [if_pos hle]; cases h; rfl
        · cases h
theorem pItems_sf {s : List UInt8} (hs : Sf s) : ∀ (k st : Nat) (t : List UInt8) (st' : Nat) (r : List UInt8), pItems k st t = some (st', r) → ∀ k', k ≤ k' → pItems k' st (t ++ s) = some (st', r ++ s)
  | 0, st, t, st', r, h, k', _ => by cases h
  | k + 1, st, t, st', r, h, k', hk => by
    obtain ⟨m, rfl⟩ : ∃ m, k' = m + 1 := ⟨k' - 1, by omega⟩
    unfold pItems at h ⊢
    cases hi : pItem t with
    | none => rw [hi] at h; cases h
    | some x =>
      obtain ⟨⟨a, b⟩, q⟩ := x
      rw [hi] at h
      rw [pItem_sf hs hi]
      simp only at h ⊢
      rw [headIs_sf hs (by decide) (by decide) q]
      cases h93 : headIs 93 q
      · rw [h93] at h
        simp only [Bool.false_eq_true, if_false] at h ⊢
        exact pItems_sf hs k _ q st' r h m (by omega)
      · rw [h93] at h
        simp only [if_true, Option.some.injEq, Prod.mk.injEq] at h ⊢
        rw [headIs_tail h93]
        exact ⟨h.1, by rw [h.2]⟩
theorem pClass_sf {s : List UInt8} (hs : Sf s) {t r : List UInt8} {st : Nat} (h : pClass t = some (st, r)) : pClass (t ++ s) = some (st, r ++ s) := by
  unfold pClass at h ⊢
  rw [headIs_sf hs (by decide) (by decide) t]
  have hl : t.length + 1 ≤ (t ++ s).length + 1 := by simp
  cases h94 : headIs 94 t
  · rw [h94] at h
    simp only [Bool.false_eq_true, if_false] at h ⊢
    exact pItems_sf hs _ _ _ _ _ h _ hl
  · rw [h94] at h
    simp only [if_true] at h ⊢
    rw [headIs_tail h94]
    cases hi : pItems (t.length + 1) 0 t.tail with
    | none => rw [hi] at h; cases h
    | some x =>
      obtain ⟨st1, q⟩ := x
      rw [hi] at h
      rw [pItems_sf hs _ _ _ _ _ hi _ hl]
      simp only [Option.some.injEq, Prod.mk.injEq] at h ⊢
      exact ⟨h.1, by rw [h.2]⟩
theorem seqEnd_sf {s : List UInt8} (hs : Sf s) (t : List UInt8) : seqEndB (t ++ s) = seqEndB t := by
  cases t with
  | cons c r => rfl
  | nil =>
    cases s with
    | nil => rfl
    | cons x r => rcases hs x r rfl with rfl | rfl <;> rfl
def SfA (s : List UInt8) (k : Nat) : Prop := ∀ n t x r, pAtom k n t = some (x, r) → ∀ k' n', pAtom k' n' (t ++ s) = none ∨ pAtom k' n' (t ++ s) = some (x, r ++ s)
def SfS (s : List UInt8) (k : Nat) : Prop := ∀ n acc t x r, pSeq k n acc t = some (x, r) → ∀ k' n', pSeq k' n' acc (t ++ s) = none ∨ pSeq k' n' acc (t ++ s) = some (x, r ++ s)
def SfL (s : List UInt8) (k : Nat) : Prop := ∀ n acc t x r, pAlt k n acc t = some (x, r) → (r ≠ [] ∨ headIs 124 s = false) → ∀ k' n', pAlt k' n' acc (t ++ s) = none ∨ pAlt k' n' acc (t ++ s) = some (x, r ++ s)
theorem sfA_step {s : List UInt8} (hs : Sf s) {k : Nat} (hL : SfL s k) : SfA s (k + 1) := by
  intro n t x r h k' n'
  cases k' with
  | zero => exact .inl rfl
  | succ m =>
    cases t with
    | nil => simp [pAtom] at h
    | cons c q =>
      simp only [List.cons_append, pAtom] at h ⊢
      cases h40 : (c == 40)
      · rw [h40] at h
        simp only [Bool.false_eq_true, if_false] at h ⊢
        cases h91 : (c == 91)
        · rw [h91] at h
          simp only [Bool.false_eq_true, if_false] at h ⊢
          cases h46 : (c == 46)
          · rw [h46] at h
            simp only [Bool.false_eq_true, if_false] at h ⊢
            cases h92 : (c == 92)
            · rw [h92] at h
              simp only [Bool.false_eq_true, if_false] at h ⊢
              split at h
              · cases h
              · rename_i hsp
                rw [if_neg hsp]
                cases h
                exact .inr rfl
            · rw [h92] at h
              simp only [if_true] at h ⊢
              cases q with
              | nil => cases h
              | cons d q2 => cases h; exact .inr rfl
          · rw [h46] at h
            simp only [if_true] at h ⊢
            cases h
            exact .inr rfl
        · rw [h91] at h
          simp only [if_true] at h ⊢
          cases hc : pClass q with
          | none => rw [hc] at h; cases h
          | some y =>
            obtain ⟨st, q2⟩ := y
            rw [hc] at h
            rw [pClass_sf hs hc]
            cases h
            exact .inr rfl
      · rw [h40] at h
        simp only [if_true] at h ⊢
        split at h
        · cases h
        · cases ha : pAlt k (n + 1) [] q with
          | none => rw [ha] at h; cases h
          | some y =>
            obtain ⟨x1, r2⟩ := y
            rw [ha] at h
            simp only at h
            cases h41 : headIs 41 r2
            · rw [h41] at h; simp at h
            · rw [h41] at h
              simp only [if_true, Option.some.injEq, Prod.mk.injEq] at h
              obtain ⟨rfl, rfl⟩ := h
              split
              · exact .inl rfl
              · have hne : r2 ≠ [] := by rintro rfl; cases h41
                rcases hL (n + 1) [] q x1 r2 ha (.inl hne) m (n' + 1) with e | e
                · rw [e]; exact .inl rfl
                · rw [e]
                  right
                  have : headIs 41 (r2 ++ s) = true := by
                    cases r2 with
                    | nil => exact absurd rfl hne
                    | cons a b => exact h41
                  simp only [this, if_true]
                  rw [headIs_tail h41]
theorem sfS_step {s : List UInt8} (hs : Sf s) {k : Nat} (hA : SfA s k) (hS : SfS s k) : SfS s (k + 1) := by
  intro n acc t x r h k' n'
  cases k' with
  | zero => exact .inl rfl
  | succ m =>
    rw [pSeq] at h ⊢
    rw [seqEnd_sf hs]
    cases he : seqEndB t
    · rw [he] at h
      simp only [Bool.false_eq_true, if_false] at h ⊢
      cases ha : pAtom k n t with
      | none => rw [ha] at h; cases h
      | some y =>
        obtain ⟨x1, r1⟩ := y
        rw [ha] at h
        simp only at h
        rcases hA n t x1 r1 ha m n' with e | e
        · rw [e]; exact .inl rfl
        · rw [e]
          simp only
          cases hm : pMarks (r1.length + 1) x1 r1 with
          | none => rw [hm] at h; cases h
          | some z =>
            obtain ⟨y2, r2⟩ := z
            rw [hm] at h
            rw [pMarks_sf hs _ _ _ _ _ hm ((r1 ++ s).length + 1) (by simp)]
            exact hS n _ r2 x r h m n'
    · rw [he] at h
      simp only [if_true, Option.some.injEq, Prod.mk.injEq] at h ⊢
      exact .inr ⟨h.1, by rw [h.2]⟩
theorem sfL_step {s : List UInt8} (hs : Sf s) {k : Nat} (hS : SfS s k) (hL : SfL s k) : SfL s (k + 1) := by
  intro n acc t x r h hr k' n'
  cases k' with
  | zero => exact .inl rfl
  | succ m =>
    rw [pAlt] at h ⊢
    cases hq : pSeq k n [] t with
    | none => rw [hq] at h; cases h
    | some y =>
      obtain ⟨x1, r1⟩ := y
      rw [hq] at h
      simp only at h
      rcases hS n [] t x1 r1 hq m n' with e | e
      · rw [e]; exact .inl rfl
      · rw [e]
        simp only
        cases h1 : headIs 124 r1
        · rw [h1] at h
          simp only [Bool.false_eq_true, if_false, Option.some.injEq, Prod.mk.injEq] at h
          obtain ⟨rfl, rfl⟩ := h
          have : headIs 124 (r1 ++ s) = false := by
            cases r1 with
            | cons a b => exact h1
            | nil => exact hr.resolve_left (fun h => h rfl)
          rw [this]
          exact .inr rfl
        · rw [h1] at h
          simp only [if_true] at h
          have : headIs 124 (r1 ++ s) = true := by
            cases r1 with
            | cons a b => exact h1
            | nil => cases h1
          rw [this, headIs_tail h1]
          exact hL n _ r1.tail x r h hr m n'
theorem sf_all {s : List UInt8} (hs : Sf s) : ∀ k, SfA s k ∧ SfS s k ∧ SfL s k
  | 0 => ⟨fun n t x r h => by simp [pAtom] at h, fun n acc t x r h => by simp [pSeq] at h, fun n acc t x r h => by simp [pAlt] at h⟩
  | k + 1 => by
    obtain ⟨hA, hS, hL⟩ := sf_all hs k
    exact ⟨sfA_step hs hL, sfS_step hs hA hS, sfL_step hs hS hL⟩
theorem bar_all {q : List UInt8} : ∀ (k n : Nat) (acc : List RX) (t : List UInt8) (x : RX), pAlt k n acc t = some (x, []) → ∃ P, P ≠ [] ∧ x = .alt (acc ++ P) ∧ ∀ k' n', pAlt k' n' acc (t ++ 124 :: q) = none ∨ ∃ k'', k'' < k' ∧ pAlt k' n' acc (t ++ 124 :: q) = pAlt k'' n' (acc ++ P) q
  | 0, n, acc, t, x, h => by simp [pAlt] at h
  | k + 1, n, acc, t, x, h => by
    have hs : Sf (124 :: q) := fun c r e => by cases e; exact .inr rfl
    obtain ⟨_, hS, _⟩ := sf_all hs k
    rw [pAlt] at h
    cases hq : pSeq k n [] t with
    | none => rw [hq] at h; cases h
    | some y =>
      obtain ⟨x1, r1⟩ := y
      rw [hq] at h
      simp only at h
      cases h1 : headIs 124 r1
      · rw [h1] at h
        simp only [Bool.false_eq_true, if_false, Option.some.injEq, Prod.mk.injEq] at h
        obtain ⟨rfl, rfl⟩ := h
        refine ⟨[x1], by simp, rfl, fun k' n' => ?_⟩
        cases k' with
        | zero => exact .inl rfl
        | succ m =>
          rw [pAlt]
          rcases hS n [] t x1 [] hq m n' with e | e
          · rw [e]; exact .inl rfl
          · rw [e]; exact .inr ⟨m, by omega, rfl⟩
      · rw [h1] at h
        simp only [if_true] at h
        obtain ⟨P, hP, e1, e2⟩ := bar_all k n _ r1.tail x h
        refine ⟨x1 :: P, by simp, by rw [e1]; simp, fun k' n' => ?_⟩
        cases k' with
        | zero => exact .inl rfl
        | succ m =>
          rw [pAlt]
          rcases hS n [] t x1 r1 hq m n' with e | e
          · rw [e]; exact .inl rfl
          · rw [e]
            simp only
            have : headIs 124 (r1 ++ 124 :: q) = true := by
              cases r1 with
              | cons a b => exact h1
              | nil => cases h1
            rw [this, headIs_tail h1]
            rcases e2 m n' with e3 | ⟨k'', hk, e3⟩
            · exact .inl e3
            · refine .inr ⟨k'', by omega, ?_⟩
              simp only [if_true]
              rw [e3]; simp
end Go.Proofs.YtpbkgeipigcefaaGreat

namespace Go.Proofs.YtpbkgeipigcefaaGreat
set_option linter.unusedVariables false
set_option linter.unusedSimpArgs false

/-! Expressions that are made of one. -/
/-- r is read as e. -/
def LP (r : List UInt8) (e : RX) : Prop := ∃ k n, pAlt k n [] r = some (e, [])
def Nor {α : Type} (o : Option α) (a : α) : Prop := o = none ∨ o = some a
theorem alt_gen {s : List UInt8} (hs : Sf s) : ∀ (k n : Nat) (acc : List RX) (t : List UInt8) (x : RX) (r : List UInt8), pAlt k n acc t = some (x, r) → (r ≠ [] ∨ headIs 124 s = false) → ∃ P, x = .alt (acc ++ P) ∧ ∀ acc' k' n', Nor (pAlt k' n' acc' (t ++ s)) (.alt (acc' ++ P), r ++ s)
  | 0, n, acc, t, x, r, h, _ => by simp [pAlt] at h
  | k + 1, n, acc, t, x, r, h, hr => by
    obtain ⟨_, hS, _⟩ := sf_all hs k
    rw [pAlt] at h
    cases hq : pSeq k n [] t with
    | none => rw [hq] at h; cases h
    | some y =>
      obtain ⟨x1, r1⟩ := y
      rw [hq] at h
      simp only at h
      cases h1 : headIs 124 r1
      · rw [h1] at h
        simp only [Bool.false_eq_true, if_false, Option.some.injEq, Prod.mk.injEq] at h
        obtain ⟨rfl, rfl⟩ := h
        refine ⟨[x1], rfl, fun acc' k' n' => ?_⟩
        cases k' with
        | zero => exact .inl rfl
        | succ m =>
          unfold Nor
          rw [pAlt]
          rcases hS n [] t x1 r1 hq m n' with e | e
          · rw [e]; exact .inl rfl
          · rw [e]
            simp only
            have : headIs 124 (r1 ++ s) = false := by
              cases r1 with
              | cons a b => exact h1
              | nil => exact hr.resolve_left (fun h => h rfl)
            rw [this]
            exact .inr rfl
      · rw [h1] at h
        simp only [if_true] at h
        obtain ⟨P, e1, e2⟩ := alt_gen hs k n _ r1.tail x r h hr
        refine ⟨x1 :: P, by rw [e1]; simp, fun acc' k' n' => ?_⟩
        cases k' with
        | zero => exact .inl rfl
        | succ m =>
          unfold Nor
          rw [pAlt]
          rcases hS n [] t x1 r1 hq m n' with e | e
          · rw [e]; exact .inl rfl
          · rw [e]
            simp only
            have : headIs 124 (r1 ++ s) = true := by
              cases r1 with
              | cons a b => exact h1
              | nil => cases h1
            rw [this, headIs_tail h1]
            have := e2 (acc' ++ [x1]) m n'
            simp only [List.append_assoc, List.singleton_append] at this
            exact this
theorem LP.alt {r : List UInt8} {e : RX} (h : LP r e) : ∃ P, P ≠ [] ∧ e = .alt P := by
  obtain ⟨k, n, h⟩ := h
  obtain ⟨P, h1, h2, _⟩ := bar_all (q := []) k n [] r e h
  exact ⟨P, h1, h2⟩
theorem sf41 (r : List UInt8) : Sf (41 :: r) := fun c q e => by cases e; exact .inl rfl
theorem sf0 : Sf [] := fun c q e => by cases e
theorem grp {r : List UInt8} {e : RX} (h : LP r e) (rest : List UInt8) (k n : Nat) : Nor (pAtom k n (40 :: (r ++ 41 :: rest))) (e, rest) := by
  obtain ⟨K, N, h⟩ := h
  cases k with
  | zero => exact .inl rfl
  | succ m =>
    unfold Nor
    simp only [pAtom, beq_self_eq_true, if_true]
    split
    · exact .inl rfl
    · rcases (sf_all (sf41 rest) K).2.2 N [] r e [] h (.inr rfl) m (n + 1) with e1 | e1
      · rw [e1]; exact .inl rfl
      · rw [e1]
        right
        simp [headIs]
theorem seq_grp {r : List UInt8} {e : RX} (h : LP r e) (acc : List RX) {rest r2 : List UInt8} {y : RX} (hm : pMarks (rest.length + 1) e rest = some (y, r2)) {a : RX × List UInt8} (hn : ∀ k n, Nor (pSeq k n (acc ++ [y]) r2) a) (k n : Nat) : Nor (pSeq k n acc (40 :: (r ++ 41 :: rest))) a := by
  cases k with
  | zero => exact .inl rfl
  | succ m =>
    unfold Nor
    rw [pSeq]
    have h1 : seqEndB (40 :: (r ++ 41 :: rest)) = false := rfl
    rw [h1]
    simp only [Bool.false_eq_true, if_false]
    rcases grp h rest m n with e1 | e1
    · rw [e1]; exact .inl rfl
    · rw [e1]
      simp only [hm]
      exact hn m n
theorem seq_end (acc : List RX) {rest : List UInt8} (h : seqEndB rest = true) (k n : Nat) : Nor (pSeq k n acc rest) (.seq acc, rest) := by
  cases k with
  | zero => exact .inl rfl
  | succ m => unfold Nor; rw [pSeq, h]; exact .inr rfl
theorem alt_one {t : List UInt8} {x : RX} (h : ∀ k n, Nor (pSeq k n [] t) (x, [])) (k n : Nat) : Nor (pAlt k n [] t) (.alt [x], []) := by
  cases k with
  | zero => exact .inl rfl
  | succ m =>
    unfold Nor
    rw [pAlt]
    rcases h m n with e | e
    · rw [e]; exact .inl rfl
    · rw [e]; exact .inr rfl
theorem whole_of {t : List UInt8} {x y : RX} (h : ∀ k n, Nor (pAlt k n [] t) (x, [])) (hw : pWhole t = some y) : y = x := by
  unfold pWhole at hw
  rcases h (4 * t.length + 4) 0 with e | e
  · rw [e] at hw; cases hw
  · rw [e] at hw; cases hw; rfl
theorem LP.of {t : List UInt8} {e : RX} (h : pWhole t = some e) : LP t e := by
  unfold pWhole at h
  split at h
  · rename_i x hx; cases h; exact ⟨_, _, hx⟩
  · cases h
/-! The ways. -/
theorem way_bar {r : List UInt8} {P : List RX} (h : LP r (.alt P)) {y : RX} (hw : pWhole (r ++ 124 :: r) = some y) : y = .alt (P ++ P) := by
  refine whole_of (fun k n => ?_) hw
  obtain ⟨K, N, h⟩ := h
  obtain ⟨Q, _, e1, e2⟩ := bar_all (q := r) K N [] r _ h
  obtain ⟨Q', e3, e4⟩ := alt_gen sf0 K N [] r _ [] h (.inr rfl)
  simp only [List.nil_append, RX.alt.injEq] at e1 e3
  subst e1
  subst e3
  rcases e2 k n with e | ⟨k2, _, e⟩
  · exact .inl e
  · unfold Nor
    rw [e]
    have := e4 ([] ++ P) k2 n
    simpa [Nor] using this
theorem way_mark {r rest : List UInt8} {e y z : RX} (h : LP r e) (hm : pMarks (rest.length + 1) e rest = some (y, [])) (hw : pWhole (40 :: (r ++ 41 :: rest)) = some z) : z = .alt [.seq [y]] :=
  whole_of (alt_one (seq_grp h [] hm (fun k n => seq_end _ rfl k n))) hw
theorem LP.nil : LP [] (.alt [.seq []]) := ⟨2, 0, rfl⟩
theorem way_two {r q : List UInt8} {e f z : RX} (h : LP r e) (hq : LP q f) (hw : pWhole (40 :: (r ++ 41 :: 40 :: (q ++ [41]))) = some z) : z = .alt [.seq [e, f]] := by
  refine whole_of (alt_one (seq_grp h [] (rest := 40 :: (q ++ [41])) (y := e) (r2 := 40 :: (q ++ [41])) ?_ (fun k n => ?_))) hw
  · rfl
  · exact seq_grp hq _ (rest := []) (y := f) (r2 := []) rfl (fun k n => seq_end _ rfl k n) k n
theorem cls_none (rest : List UInt8) : pClass ([94, 0, 45, 255, 93] ++ 41 :: rest) = some (0, 41 :: rest) := by
  have : pClass [94, 0, 45, 255, 93] = some (0, []) := by decide +kernel
  exact pClass_sf (sf41 rest) this
theorem way_class {r : List UInt8} {e z : RX} (h : LP r e) (hw : pWhole (40 :: (40 :: (r ++ 41 :: 124 :: 91 :: ([94, 0, 45, 255, 93] ++ [41])))) = some z) : z = .alt [.seq [.alt [.seq [e], .seq [.one 0]]]] := by
  refine whole_of (alt_one (fun k n => ?_)) hw
  cases k with
  | zero => exact .inl rfl
  | succ m =>
    unfold Nor
    rw [pSeq]
    have h1 : seqEndB (40 :: (40 :: (r ++ 41 :: 124 :: 91 :: ([94, 0, 45, 255, 93] ++ [41])))) = false := rfl
    rw [h1]
    simp only [Bool.false_eq_true, if_false]
    -- the bracket's content
    have hc : ∀ k n, Nor (pAlt k n [] (40 :: (r ++ 41 :: 124 :: 91 :: ([94, 0, 45, 255, 93] ++ [41])))) (.alt [.seq [e], .seq [.one 0]], [41]) := by
      intro k n
      cases k with
      | zero => exact .inl rfl
      | succ k =>
        unfold Nor
        rw [pAlt]
        rcases seq_grp h [] (rest := 124 :: 91 :: ([94, 0, 45, 255, 93] ++ [41])) (y := e) (r2 := 124 :: 91 :: ([94, 0, 45, 255, 93] ++ [41])) rfl (fun k n => seq_end _ rfl k n) k n with e1 | e1
        · rw [e1]; exact .inl rfl
        · rw [e1]
          simp only [headIs, beq_self_eq_true, if_true, List.tail_cons]
          cases k with
          | zero => exact .inl rfl
          | succ k =>
            rw [pAlt]
            have hs : Nor (pSeq k n [] (91 :: ([94, 0, 45, 255, 93] ++ [41]))) (.seq [.one 0], [41]) := by
              cases k with
              | zero => exact .inl rfl
              | succ k =>
                unfold Nor
                rw [pSeq]
                have h2 : seqEndB (91 :: ([94, 0, 45, 255, 93] ++ [41])) = false := rfl
                rw [h2]
                simp only [Bool.false_eq_true, if_false]
                cases k with
                | zero => exact .inl rfl
                | succ k =>
                  have ha : pAtom (k + 1) n (91 :: ([94, 0, 45, 255, 93] ++ [41])) = some (.one 0, [41]) := by
                    have := cls_none []
                    simp only [pAtom]
                    rw [this]
                    rfl
                  rw [ha]
                  simp only [show pMarks ([41] : List UInt8).length.succ (.one 0) [41] = some (.one 0, [41]) from rfl]
                  exact seq_end _ rfl (k + 1) n
            rcases hs with e2 | e2
            · rw [e2]; exact .inl rfl
            · rw [e2]; exact .inr rfl
    have ha : Nor (pAtom m n (40 :: (40 :: (r ++ 41 :: 124 :: 91 :: ([94, 0, 45, 255, 93] ++ [41]))))) (.alt [.seq [e], .seq [.one 0]], []) := by
      cases m with
      | zero => exact .inl rfl
      | succ m =>
        unfold Nor
        simp only [pAtom, beq_self_eq_true, if_true]
        split
        · exact .inl rfl
        · rcases hc m (n + 1) with e1 | e1
          · rw [e1]; exact .inl rfl
          · rw [e1]; exact .inr rfl
    rcases ha with e1 | e1
    · rw [e1]; exact .inl rfl
    · rw [e1]
      exact seq_end _ rfl m n
end Go.Proofs.YtpbkgeipigcefaaGreat

namespace Go.Proofs.YtpbkgeipigcefaaGreat
open Go.RowKit

theorem way_opt {r : List UInt8} {P : List RX} (h : LP r (.alt P)) {z : RX} (hw : pWhole (40 :: (r ++ 124 :: (r ++ 41 :: 63 :: 40 :: (r ++ 41 :: [123, 48, 125])))) = some z) : z = .alt [.seq [.rep (.alt (P ++ P)) 0 (some 1), .rep (.alt P) 0 (some 0)]] := by
  refine whole_of (alt_one (fun k n => ?_)) hw
  obtain ⟨rest, hrest⟩ : ∃ rest, rest = 63 :: 40 :: (r ++ 41 :: [123, 48, 125]) := ⟨_, rfl⟩
  have hc : ∀ k n, Nor (pAlt k n [] (r ++ 124 :: (r ++ 41 :: rest))) (.alt (P ++ P), 41 :: rest) := by
    intro k n
    obtain ⟨K, N, h⟩ := h
    obtain ⟨Q, _, e1, e2⟩ := bar_all (q := r ++ 41 :: rest) K N [] r _ h
    obtain ⟨Q', e3, e4⟩ := alt_gen (sf41 rest) K N [] r _ [] h (.inr rfl)
    simp only [List.nil_append, RX.alt.injEq] at e1 e3
    subst e1
    subst e3
    rcases e2 k n with e | ⟨k2, _, e⟩
    · exact .inl e
    · unfold Nor
      rw [e]
      have := e4 ([] ++ P) k2 n
      simpa [Nor] using this
  rw [← hrest]
  cases k with
  | zero => exact .inl rfl
  | succ m =>
    unfold Nor
    rw [pSeq]
    have h1 : seqEndB (40 :: (r ++ 124 :: (r ++ 41 :: rest))) = false := rfl
    rw [h1]
    simp only [Bool.false_eq_true, if_false]
    have ha : Nor (pAtom m n (40 :: (r ++ 124 :: (r ++ 41 :: rest)))) (.alt (P ++ P), rest) := by
      cases m with
      | zero => exact .inl rfl
      | succ m =>
        unfold Nor
        simp only [pAtom, beq_self_eq_true, if_true]
        split
        · exact .inl rfl
        · rcases hc m (n + 1) with e1 | e1
          · rw [e1]; exact .inl rfl
          · rw [e1]; right; simp [headIs]
    rcases ha with e1 | e1
    · rw [e1]; exact .inl rfl
    · rw [e1]
      have hm : pMarks (rest.length + 1) (.alt (P ++ P)) rest = some (.rep (.alt (P ++ P)) 0 (some 1), 40 :: (r ++ 41 :: [123, 48, 125])) := by
        rw [hrest]
        rfl
      simp only [hm]
      exact seq_grp h [.rep (.alt (P ++ P)) 0 (some 1)] (rest := [123, 48, 125]) (y := .rep (.alt P) 0 (some 0)) (r2 := []) rfl (fun k n => seq_end _ rfl k n) m n
/-! Their languages. -/
theorem rgA_app : ∀ (P Q : List RX) (w : List Nat), RgA (P ++ Q) w ↔ RgA P w ∨ RgA Q w
  | [], Q, w => by simp [RgA]
  | x :: P, Q, w => by
    show (Rg x w ∨ RgA (P ++ Q) w) ↔ (Rg x w ∨ RgA P w) ∨ RgA Q w
    rw [rgA_app P Q w, or_assoc]
theorem rg_alt1 (x : RX) (w : List Nat) : Rg (.alt [x]) w ↔ Rg x w := by
  show (Rg x w ∨ False) ↔ _
  simp
theorem rg_seq1 (x : RX) (w : List Nat) : Rg (.alt [.seq [x]]) w ↔ Rg x w := by
  rw [rg_alt1]
  show (∃ u v, w = u ++ v ∧ Rg x u ∧ v = []) ↔ _
  constructor
  · rintro ⟨u, v, rfl, h, rfl⟩; simpa using h
  · intro h; exact ⟨w, [], by simp, h, rfl⟩
theorem rg_seq2 (x y : RX) (w : List Nat) : Rg (.alt [.seq [x, y]]) w ↔ ∃ u v, w = u ++ v ∧ Rg x u ∧ Rg y v := by
  rw [rg_alt1]
  show (∃ u v, w = u ++ v ∧ Rg x u ∧ ∃ a b, v = a ++ b ∧ Rg y a ∧ b = []) ↔ _
  constructor
  · rintro ⟨u, v, rfl, h, a, b, rfl, h2, rfl⟩; exact ⟨u, a, by simp, h, h2⟩
  · rintro ⟨u, v, rfl, h, h2⟩; exact ⟨u, v, rfl, h, v, [], by simp, h2, rfl⟩
theorem rg_nil (w : List Nat) : Rg (.alt [.seq []]) w ↔ w = [] := by
  rw [rg_alt1]
  exact Iff.rfl
theorem rptO {L : List Nat → Prop} (w : List Nat) : Rpt L 1 w ↔ L w := by
  show Cat L (fun w => w = []) w ↔ _
  constructor
  · rintro ⟨u, v, rfl, h, rfl⟩; simpa using h
  · intro h; exact ⟨w, [], by simp, h, rfl⟩
theorem rpt_two {L : List Nat → Prop} {w : List Nat} (h : L w) : Rpt L 2 (w ++ w) := ⟨w, w, rfl, h, (rptO w).2 h⟩
theorem rptN {L : List Nat → Prop} : ∀ k, Rpt L (k + 1) [] → L []
  | k, ⟨u, v, e, h, _⟩ => by
    have : u = [] := by
      have := congrArg List.length e
      simp at this
      exact List.length_eq_zero_iff.1 (by omega)
    subst this
    exact h
def wayT (k : Nat) (r : List UInt8) : List UInt8 := match k with
  | 0 => r ++ 124 :: r
  | 1 => 40 :: (r ++ 41 :: [])
  | 2 => 40 :: (r ++ 41 :: [123, 49, 125])
  | 3 => 40 :: (r ++ 41 :: 40 :: ([] ++ [41]))
  | 4 => 40 :: (r ++ 41 :: [123, 49, 44, 49, 125])
  | 5 => 40 :: (40 :: (r ++ 41 :: 124 :: 91 :: ([94, 0, 45, 255, 93] ++ [41])))
  | _ => 40 :: (r ++ 124 :: (r ++ 41 :: 63 :: 40 :: (r ++ 41 :: [123, 48, 125])))
theorem way_rg {r : List UInt8} {e y : RX} (h : pWhole r = some e) {k : Nat} (hk : k < 6) (hw : pWhole (wayT k r) = some y) (w : List Nat) : Rg y w ↔ Rg e w := by
  have hL := LP.of h
  obtain ⟨P, hP, rfl⟩ := hL.alt
  rcases (show k = 0 ∨ k = 1 ∨ k = 2 ∨ k = 3 ∨ k = 4 ∨ k = 5 by omega) with rfl | rfl | rfl | rfl | rfl | rfl
  · rw [way_bar hL hw]
    show RgA (P ++ P) w ↔ RgA P w
    rw [rgA_app]; simp
  · rw [way_mark (rest := []) (y := .alt P) hL rfl hw, rg_seq1]
  · rw [way_mark (rest := [123, 49, 125]) (y := .rep (.alt P) 1 (some 1)) hL rfl hw, rg_seq1]
    show (∃ k, 1 ≤ k ∧ (∀ n, some 1 = some n → k ≤ n) ∧ Rpt (Rg (.alt P)) k w) ↔ _
    constructor
    · rintro ⟨k, h1, h2, h3⟩
      have := h2 1 rfl
      have : k = 1 := by omega
      subst this
      exact (rptO w).1 h3
    · intro h; exact ⟨1, Nat.le_refl _, (fun n e => by cases e; exact Nat.le_refl _), (rptO w).2 h⟩
  · rw [way_two hL LP.nil hw, rg_seq2]
    constructor
    · rintro ⟨u, v, rfl, h1, h2⟩
      rw [rg_nil] at h2
      subst h2
      simpa using h1
    · intro h; exact ⟨w, [], by simp, h, (rg_nil []).2 rfl⟩
  · rw [way_mark (rest := [123, 49, 44, 49, 125]) (y := .rep (.alt P) 1 (some 1)) hL rfl hw, rg_seq1]
    show (∃ k, 1 ≤ k ∧ (∀ n, some 1 = some n → k ≤ n) ∧ Rpt (Rg (.alt P)) k w) ↔ _
    constructor
    · rintro ⟨k, h1, h2, h3⟩
      have := h2 1 rfl
      have : k = 1 := by omega
      subst this
      exact (rptO w).1 h3
    · intro h; exact ⟨1, Nat.le_refl _, (fun n e => by cases e; exact Nat.le_refl _), (rptO w).2 h⟩
  · rw [way_class hL hw, rg_seq1]
    show (Rg (.seq [.alt P]) w ∨ (Rg (.seq [.one 0]) w ∨ False)) ↔ _
    have h1 : Rg (.seq [.alt P]) w ↔ Rg (.alt P) w := by rw [← rg_alt1 (.seq [.alt P]), rg_seq1]
    have h2 : ¬ Rg (.seq [.one 0]) w := by
      rintro ⟨u, v, rfl, ⟨c, rfl, hc⟩, _⟩
      simp at hc
    rw [h1]
    simp [h2]
theorem way_six {r : List UInt8} {e y : RX} (h : pWhole r = some e) (hw : pWhole (wayT 6 r) = some y) (w : List Nat) (he : Rg e w) : Rg y w := by
  have hL := LP.of h
  obtain ⟨P, hP, rfl⟩ := hL.alt
  rw [way_opt hL hw, rg_seq2]
  refine ⟨w, [], by simp, ⟨1, Nat.zero_le _, (fun n e => by cases e; exact Nat.le_refl _), (rptO w).2 ?_⟩, ⟨0, Nat.le_refl _, (fun n e => by cases e; exact Nat.le_refl _), rfl⟩⟩
  show RgA (P ++ P) w
  rw [rgA_app]
  exact .inl he
def mrkT (k : Nat) (r : List UInt8) : List UInt8 := match k with
  | 0 => 40 :: (r ++ 41 :: 40 :: (r ++ [41]))
  | 1 => 40 :: (r ++ 41 :: [42])
  | 2 => 40 :: (r ++ 41 :: [123, 50, 44, 125])
  | _ => 40 :: (r ++ 41 :: [43])
theorem mrk_rg {r : List UInt8} {e y : RX} (h : pWhole r = some e) {k : Nat} (hk : k < 3) (hw : pWhole (mrkT k r) = some y) {w : List Nat} (he : Rg e w) : Rg y (w ++ w) := by
  have hL := LP.of h
  rcases (show k = 0 ∨ k = 1 ∨ k = 2 by omega) with rfl | rfl | rfl
  · rw [way_two hL hL hw, rg_seq2]
    exact ⟨w, w, rfl, he, he⟩
  · rw [way_mark (rest := [42]) (y := .rep e 0 none) hL rfl hw, rg_seq1]
    exact ⟨2, by omega, (fun n e => by cases e), rpt_two he⟩
  · rw [way_mark (rest := [123, 50, 44, 125]) (y := .rep e 2 none) hL rfl hw, rg_seq1]
    exact ⟨2, by omega, (fun n e => by cases e), rpt_two he⟩
theorem plus_rg {r : List UInt8} {e y : RX} (h : pWhole r = some e) (hw : pWhole (mrkT 3 r) = some y) : Rg y [] ↔ Rg e [] := by
  have hL := LP.of h
  rw [way_mark (rest := [43]) (y := .rep e 1 none) hL rfl hw, rg_seq1]
  constructor
  · rintro ⟨k, h1, _, h3⟩
    obtain ⟨m, rfl⟩ : ∃ m, k = m + 1 := ⟨k - 1, by omega⟩
    exact rptN m h3
  · intro h; exact ⟨1, Nat.le_refl _, (fun n e => by cases e), (rptO []).2 h⟩
/-! As a program's forks have it. -/
theorem choK_rg {r : List UInt8} (hg : goodK 2 r = true) : ∃ e, pWhole r = some e ∧ ∀ v : List UInt8, choK 2 r v = true ↔ Rg e (v.map (·.toNat)) := by
  have h0 : reC r = 0 := by unfold goodK at hg; simp at hg; exact hg.2
  obtain ⟨e, he, _, _⟩ := reC_zero h0
  refine ⟨e, he, fun v => ?_⟩
  rw [← takes_rg he h0 v]
  unfold choK mHolds
  simp
theorem ways_cho {r : List UInt8} (hr : goodK 2 r = true) {k : Nat} (hk : k < 6) (hw : goodK 2 (wayT k r) = true) (v : List UInt8) : choK 2 (wayT k r) v = choK 2 r v := by
  obtain ⟨e, he, h1⟩ := choK_rg hr
  obtain ⟨y, hy, h2⟩ := choK_rg hw
  rw [Bool.eq_iff_iff, h1, h2]
  exact way_rg he hk hy _
theorem way6_cho {r : List UInt8} (hr : goodK 2 r = true) (hw : goodK 2 (wayT 6 r) = true) (v : List UInt8) (hx : choK 2 r v = true) : choK 2 (wayT 6 r) v = true := by
  obtain ⟨e, he, h1⟩ := choK_rg hr
  obtain ⟨y, hy, h2⟩ := choK_rg hw
  rw [h2]
  exact way_six he hy _ ((h1 v).1 hx)
theorem mrk_cho {r : List UInt8} (hr : goodK 2 r = true) {k : Nat} (hk : k < 3) (hw : goodK 2 (mrkT k r) = true) (v : List UInt8) (hx : choK 2 r v = true) : choK 2 (mrkT k r) (v ++ v) = true := by
  obtain ⟨e, he, h1⟩ := choK_rg hr
  obtain ⟨y, hy, h2⟩ := choK_rg hw
  rw [h2, List.map_append]
  exact mrk_rg he hk hy ((h1 v).1 hx)
theorem plus_cho {r : List UInt8} (hr : goodK 2 r = true) (hw : goodK 2 (mrkT 3 r) = true) : choK 2 (mrkT 3 r) [] = choK 2 r [] := by
  obtain ⟨e, he, h1⟩ := choK_rg hr
  obtain ⟨y, hy, h2⟩ := choK_rg hw
  rw [Bool.eq_iff_iff, h1, h2]
  exact plus_rg he hy
end Go.Proofs.YtpbkgeipigcefaaGreat

