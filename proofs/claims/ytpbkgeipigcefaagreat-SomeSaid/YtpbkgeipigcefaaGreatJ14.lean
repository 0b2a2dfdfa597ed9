import Derived.Test.YtpbkgeipigcefaaGreatJ12
import Derived.Test.YtpbkgeipigcefaaGreatJ13
set_option linter.unusedVariables false
set_option linter.unusedSimpArgs false
set_option linter.unnecessarySimpa false
namespace Go.Proofs.YtpbkgeipigcefaaGreat
set_option linter.unusedVariables false
set_option linter.unusedSimpArgs false

/-! Reading an expression. -/
def headIs (c : UInt8) : List UInt8 → Bool
  | [] => false
  | x :: _ => x == c
def isRepB (c : UInt8) : Bool := c == 42 || c == 43 || c == 63 || c == 123
def pDigit : List UInt8 → Option (Nat × List UInt8)
  | [] => none
  | c :: r => if 48 ≤ c && c ≤ 57 then some (c.toNat - 48, r) else none
def pCounts (t : List UInt8) : Option ((Nat × Option Nat) × List UInt8) :=
  match pDigit t with
  | none => none
  | some (lo, r) =>
    if headIs 44 r then
      match pDigit r.tail with
      | some (n, r2) => if headIs 125 r2 && decide (lo ≤ n) then some ((lo, some n), r2.tail) else none
      | none => if headIs 125 r.tail then some ((lo, none), r.tail.tail) else none
    else if headIs 125 r then some ((lo, some lo), r.tail) else none
def pRep : List UInt8 → Option ((Nat × Option Nat) × List UInt8)
  | [] => none
  | c :: r => if c == 42 then some ((0, none), r) else if c == 43 then some ((1, none), r) else if c == 63 then some ((0, some 1), r) else if c == 123 then pCounts r else none
def atRepB : List UInt8 → Bool
  | [] => false
  | c :: _ => isRepB c
def pMarks : Nat → RX → List UInt8 → Option (RX × List UInt8)
  | 0, _, _ => none
  | k + 1, x, t => if atRepB t then (match pRep t with | none => none | some (b, r) => pMarks k (.rep x b.1 b.2) r) else some (x, t)
def pItemB : List UInt8 → Option (UInt8 × List UInt8)
  | [] => none
  | c :: r => if c == 92 then (match r with | [] => none | d :: r2 => some (d, r2)) else if c == 93 || c == 91 || c == 45 then none else some (c, r)
def pItem (t : List UInt8) : Option ((UInt8 × UInt8) × List UInt8) :=
  match pItemB t with
  | none => none
  | some (a, r) => if headIs 45 r then (match pItemB r.tail with | none => none | some (b, r2) => if a ≤ b then some ((a, b), r2) else none) else some ((a, a), r)
def addBits (s f : Nat) : Nat → Nat
  | 0 => s
  | k + 1 => addBits s f k ||| 2 ^ (f + k)
def addRange (s : Nat) (a b : UInt8) : Nat := addBits s a.toNat (b.toNat + 1 - a.toNat)
def pItems : Nat → Nat → List UInt8 → Option (Nat × List UInt8)
  | 0, _, _ => none
  | k + 1, s, t =>
    match pItem t with
    | none => none
    | some ((a, b), r) => if headIs 93 r then some (addRange s a b, r.tail) else pItems k (addRange s a b) r
def fullSet : Nat := 2 ^ 256 - 1
def pClass (t : List UInt8) : Option (Nat × List UInt8) :=
  if headIs 94 t then (match pItems (t.length + 1) 0 t.tail with | none => none | some (s, r) => some (s ^^^ fullSet, r))
  else pItems (t.length + 1) 0 t
def isSpecial (c : UInt8) : Bool := c == 41 || c == 124 || c == 42 || c == 43 || c == 63 || c == 123 || c == 125 || c == 93
def seqEndB (t : List UInt8) : Bool := t.isEmpty || headIs 124 t || headIs 41 t
mutual
def pAtom : Nat → Nat → List UInt8 → Option (RX × List UInt8)
  | 0, _, _ => none
  | k + 1, nest, t =>
    match t with
    | [] => none
    | c :: r =>
      if c == 40 then (if 5 ≤ nest then none else match pAlt k (nest + 1) [] r with | none => none | some (x, r2) => if headIs 41 r2 then some (x, r2.tail) else none)
      else if c == 91 then (match pClass r with | none => none | some (s, r2) => some (.one s, r2))
      else if c == 46 then some (.one fullSet, r)
      else if c == 92 then (match r with | [] => none | d :: r2 => some (.one (2 ^ d.toNat), r2))
      else if isSpecial c then none
      else some (.one (2 ^ c.toNat), r)
def pSeq : Nat → Nat → List RX → List UInt8 → Option (RX × List UInt8)
  | 0, _, _, _ => none
  | k + 1, nest, acc, t =>
    if seqEndB t then some (.seq acc, t)
    else match pAtom k nest t with
      | none => none
      | some (x, r) => match pMarks (r.length + 1) x r with
        | none => none
        | some (y, r2) => pSeq k nest (acc ++ [y]) r2
def pAlt : Nat → Nat → List RX → List UInt8 → Option (RX × List UInt8)
  | 0, _, _, _ => none
  | k + 1, nest, acc, t =>
    match pSeq k nest [] t with
    | none => none
    | some (x, r) => if headIs 124 r then pAlt k nest (acc ++ [x]) r.tail else some (.alt (acc ++ [x]), r)
end
def pWhole (t : List UInt8) : Option RX :=
  match pAlt (4 * t.length + 4) 0 [] t with
  | some (x, []) => some x
  | _ => none

/-! What is read is good. -/
theorem headIs_len {c : UInt8} {t : List UInt8} (h : headIs c t = true) : t.tail.length + 1 = t.length := by
  cases t <;> simp [headIs] at h ⊢
theorem pDigit_len {t r : List UInt8} {n : Nat} (h : pDigit t = some (n, r)) : r.length + 1 = t.length ∧ n ≤ 9 := by
  cases t with
  | nil => simp [pDigit] at h
  | cons c q =>
    simp only [pDigit] at h
    split at h
    · rename_i hc
      simp only [Option.some.injEq, Prod.mk.injEq] at h
      obtain ⟨rfl, rfl⟩ := h
      simp only [Bool.and_eq_true, decide_eq_true_eq] at hc
      have : c.toNat ≤ 57 := by have := UInt8.le_iff_toNat_le.1 hc.2; simpa using this
      simp; omega
    · simp at h
theorem pCounts_len {t r : List UInt8} {lo : Nat} {hi : Option Nat} (h : pCounts t = some ((lo, hi), r)) : r.length + 2 ≤ t.length ∧ (∀ n, hi = some n → lo ≤ n) := by
  unfold pCounts at h
  split at h
  · simp at h
  · rename_i lo' r' hd
    have h1 := pDigit_len hd
    split at h
    · rename_i hc
      have h2 := headIs_len hc
      split at h
      · rename_i n r2 hd2
        have h3 := pDigit_len hd2
        split at h
        · rename_i hb
          simp only [Bool.and_eq_true, decide_eq_true_eq] at hb
          have h4 := headIs_len hb.1
          simp only [Option.some.injEq, Prod.mk.injEq] at h
          obtain ⟨⟨rfl, rfl⟩, rfl⟩ := h
          refine ⟨by omega, ?_⟩
          intro m hm; simp at hm; omega
        · simp at h
      · split at h
        · rename_i hb
          have h4 := headIs_len hb
          simp only [Option.some.injEq, Prod.mk.injEq] at h
          obtain ⟨⟨rfl, rfl⟩, rfl⟩ := h
          exact ⟨by omega, by intro m hm; simp at hm⟩
        · simp at h
    · split at h
      · rename_i hb
        have h4 := headIs_len hb
        simp only [Option.some.injEq, Prod.mk.injEq] at h
        obtain ⟨⟨rfl, rfl⟩, rfl⟩ := h
        refine ⟨by omega, ?_⟩
        intro m hm; simp at hm; omega
      · simp at h
theorem pRep_len {t r : List UInt8} {b : Nat × Option Nat} (h : pRep t = some (b, r)) : r.length + opLen b.1 b.2 ≤ t.length ∧ (∀ n, b.2 = some n → b.1 ≤ n) := by
  cases t with
  | nil => simp [pRep] at h
  | cons c q =>
    simp only [pRep] at h
    split at h
    · simp only [Option.some.injEq, Prod.mk.injEq] at h
      obtain ⟨rfl, rfl⟩ := h
      exact ⟨by simp [opLen], by simp⟩
    · split at h
      · simp only [Option.some.injEq, Prod.mk.injEq] at h
        obtain ⟨rfl, rfl⟩ := h
        exact ⟨by simp [opLen], by simp⟩
      · split at h
        · simp only [Option.some.injEq, Prod.mk.injEq] at h
          obtain ⟨rfl, rfl⟩ := h
          exact ⟨by simp [opLen], by simp⟩
        · split at h
          · obtain ⟨lo, hi⟩ := b
            have h1 := pCounts_len h
            have h2 : opLen lo hi ≤ 3 := by cases hi <;> simp only [opLen] <;> split <;> omega
            exact ⟨by simp; omega, h1.2⟩
          · simp at h
theorem pMarks_len : ∀ {k : Nat} {x y : RX} {t r : List UInt8}, okx x → pMarks k x t = some (y, r) → okx y ∧ tlx y + r.length ≤ tlx x + t.length
  | 0, x, y, t, r, _, h => by simp [pMarks] at h
  | k + 1, x, y, t, r, hx, h => by
    simp only [pMarks] at h
    split at h
    · split at h
      · simp at h
      · rename_i b r' hb
        have h1 := pRep_len hb
        have h2 := pMarks_len (k := k) (show okx (.rep x b.1 b.2) from ⟨hx, h1.2⟩) h
        simp only [tlx] at h2
        exact ⟨h2.1, by omega⟩
    · simp only [Option.some.injEq, Prod.mk.injEq] at h
      obtain ⟨rfl, rfl⟩ := h
      exact ⟨hx, Nat.le_refl _⟩
theorem pItemB_len {t r : List UInt8} {c : UInt8} (h : pItemB t = some (c, r)) : r.length + 1 ≤ t.length := by
  cases t with
  | nil => simp [pItemB] at h
  | cons d q =>
    simp only [pItemB] at h
    split at h
    · cases q with
      | nil => simp at h
      | cons e q2 => simp at h; obtain ⟨rfl, rfl⟩ := h; simp
    · split at h
      · simp at h
      · simp at h; obtain ⟨rfl, rfl⟩ := h; simp
theorem pItem_len {t r : List UInt8} {ab : UInt8 × UInt8} (h : pItem t = some (ab, r)) : r.length + 1 ≤ t.length := by
  unfold pItem at h
  split at h
  · simp at h
  · rename_i a r1 h1
    have e1 := pItemB_len h1
    split at h
    · rename_i hc
      have e2 := headIs_len hc
      split at h
      · simp at h
      · rename_i b r2 h2
        have e3 := pItemB_len h2
        split at h
        · simp at h; obtain ⟨_, rfl⟩ := h; omega
        · simp at h
    · simp at h; obtain ⟨_, rfl⟩ := h; omega
theorem addBits_lt {s f : Nat} (hs : s < 2 ^ 256) : ∀ k, f + k ≤ 256 → addBits s f k < 2 ^ 256
  | 0, _ => hs
  | k + 1, h => Nat.or_lt_two_pow (addBits_lt hs k (by omega)) (Nat.pow_lt_pow_right (by omega) (by omega))
theorem addRange_lt {s : Nat} (hs : s < 2 ^ 256) (a b : UInt8) : addRange s a b < 2 ^ 256 := by
  have := a.toNat_lt; have := b.toNat_lt
  by_cases h : a.toNat ≤ b.toNat
  · exact addBits_lt hs _ (by omega)
  · unfold addRange; rw [show b.toNat + 1 - a.toNat = 0 by omega]; exact hs
theorem pItems_len : ∀ {k s s' : Nat} {t r : List UInt8}, s < 2 ^ 256 → pItems k s t = some (s', r) → s' < 2 ^ 256 ∧ r.length + 1 ≤ t.length
  | 0, s, s', t, r, _, h => by simp [pItems] at h
  | k + 1, s, s', t, r, hs, h => by
    simp only [pItems] at h
    split at h
    · simp at h
    · rename_i a b r1 h1
      have e1 := pItem_len h1
      have e2 := addRange_lt hs a b
      split at h
      · rename_i hc
        have e3 := headIs_len hc
        simp at h
        obtain ⟨rfl, rfl⟩ := h
        exact ⟨e2, by omega⟩
      · have := pItems_len (k := k) e2 h
        exact ⟨this.1, by omega⟩
theorem pClass_len {t r : List UInt8} {s : Nat} (h : pClass t = some (s, r)) : s < 2 ^ 256 ∧ r.length + 1 ≤ t.length := by
  unfold pClass at h
  split at h
  · rename_i hc
    have e := headIs_len hc
    split at h
    · simp at h
    · rename_i s1 r1 h1
      have := pItems_len (by decide) h1
      simp at h
      obtain ⟨rfl, rfl⟩ := h
      exact ⟨Nat.xor_lt_two_pow this.1 (by decide), by omega⟩
  · exact pItems_len (by decide) h
theorem okxL_app : ∀ {a b : List RX}, okxL (a ++ b) ↔ okxL a ∧ okxL b
  | [], b => by simp [okxL]
  | x :: a, b => by simp [okxL, okxL_app (a := a), and_assoc]
theorem tlxL_app : ∀ {a b : List RX}, tlxL (a ++ b) = tlxL a + tlxL b
  | [], b => by simp [tlxL]
  | x :: a, b => by simp [tlxL, tlxL_app (a := a)]; omega
mutual
theorem pAtom_len : ∀ {k nest : Nat} {t r : List UInt8} {x : RX}, pAtom k nest t = some (x, r) → okx x ∧ tlx x + r.length ≤ t.length
  | 0, nest, t, r, x, h => by simp [pAtom] at h
  | k + 1, nest, [], r, x, h => by simp [pAtom] at h
  | k + 1, nest, c :: q, r, x, h => by
    simp only [pAtom] at h
    split at h
    · split at h
      · simp at h
      · split at h
        · simp at h
        · rename_i x1 r1 h1
          have e := pAlt_len (acc := []) (by simp [okxL]) h1
          split at h
          · rename_i hc
            have e2 := headIs_len hc
            simp at h
            obtain ⟨rfl, rfl⟩ := h
            simp [tlxL] at e
            exact ⟨e.1, by simp; omega⟩
          · simp at h
    · split at h
      · split at h
        · simp at h
        · rename_i s r1 h1
          have e := pClass_len h1
          simp at h
          obtain ⟨rfl, rfl⟩ := h
          exact ⟨e.1, by simp [tlx]; omega⟩
      · split at h
        · simp at h
          obtain ⟨rfl, rfl⟩ := h
          exact ⟨by simp only [okx, fullSet]; decide, by simp [tlx]; omega⟩
        · split at h
          · cases q with
            | nil => simp at h
            | cons d q2 =>
              simp at h
              obtain ⟨rfl, rfl⟩ := h
              have := d.toNat_lt
              exact ⟨Nat.pow_lt_pow_right (by omega) (by omega), by simp [tlx]; omega⟩
          · split at h
            · simp at h
            · simp at h
              obtain ⟨rfl, rfl⟩ := h
              have := c.toNat_lt
              exact ⟨Nat.pow_lt_pow_right (by omega) (by omega), by simp [tlx]; omega⟩
theorem pSeq_len : ∀ {k nest : Nat} {acc : List RX} {t r : List UInt8} {x : RX}, okxL acc → pSeq k nest acc t = some (x, r) → okx x ∧ tlx x + r.length ≤ tlxL acc + t.length
  | 0, nest, acc, t, r, x, _, h => by simp [pSeq] at h
  | k + 1, nest, acc, t, r, x, ha, h => by
    simp only [pSeq] at h
    split at h
    · simp at h
      obtain ⟨rfl, rfl⟩ := h
      exact ⟨ha, by simp [tlx]⟩
    · split at h
      · simp at h
      · rename_i x1 r1 h1
        have e1 := pAtom_len h1
        split at h
        · simp at h
        · rename_i y r2 h2
          have e2 := pMarks_len e1.1 h2
          have e3 := pSeq_len (acc := acc ++ [y]) (okxL_app.2 ⟨ha, e2.1, trivial⟩) h
          rw [tlxL_app] at e3
          simp only [tlxL] at e3
          exact ⟨e3.1, by omega⟩
theorem pAlt_len : ∀ {k nest : Nat} {acc : List RX} {t r : List UInt8} {x : RX}, okxL acc → pAlt k nest acc t = some (x, r) → okx x ∧ tlx x + r.length ≤ tlxL acc + acc.length + t.length
  | 0, nest, acc, t, r, x, _, h => by simp [pAlt] at h
  | k + 1, nest, acc, t, r, x, ha, h => by
    simp only [pAlt] at h
    split at h
    · simp at h
    · rename_i x1 r1 h1
      have e1 := pSeq_len (acc := []) trivial h1
      simp only [tlxL] at e1
      split at h
      · rename_i hc
        have e2 := headIs_len hc
        have e3 := pAlt_len (acc := acc ++ [x1]) (okxL_app.2 ⟨ha, e1.1, trivial⟩) h
        rw [tlxL_app] at e3
        simp only [tlxL, List.length_append, List.length_singleton] at e3
        exact ⟨e3.1, by omega⟩
      · simp at h
        obtain ⟨rfl, rfl⟩ := h
        refine ⟨⟨okxL_app.2 ⟨ha, e1.1, trivial⟩, by simp⟩, ?_⟩
        simp only [tlx, tlxL_app, tlxL, List.length_append, List.length_singleton]
        omega
end
theorem pWhole_good {t : List UInt8} {x : RX} (h : pWhole t = some x) : okx x ∧ tlx x ≤ t.length := by
  unfold pWhole at h
  split at h
  · rename_i y h1
    simp at h; subst h
    have := pAlt_len (acc := []) trivial h1
    simp [tlxL] at this
    exact this
  · simp at h

end Go.Proofs.YtpbkgeipigcefaaGreat

namespace Go.Proofs.YtpbkgeipigcefaaGreat
open Go.RowKit

theorem tk_head (c : UInt8) (l : List UInt8) : tk c l = headIs c l := by cases l <;> rfl
def digN (l : List UInt8) : Nat := match pDigit l with | some (n, _) => n | none => 0
def digR (l : List UInt8) : List UInt8 := match pDigit l with | some (_, r) => r | none => l
theorem u8_le (a b : UInt8) : (a ≤ b) = (a.toNat ≤ b.toNat) := by rw [UInt8.le_iff_toNat_le]

theorem ret_ib {a b : Int} {c d : Bool} (h : a = b) (h2 : c = d) : Ending.returned (.tuple #[.int .i64 a, .bool c]) = .returned (.tuple #[.int .i64 b, .bool d]) := by rw [h, h2]

set_option maxRecDepth 100000 in
set_option maxHeartbeats 2000000 in
theorem takeDigit_any (b : Nat) (t l : List UInt8) (vs : Value) (w : World) (h : PA w b t l vs) :
    Calls Tryz.prog 147 #[.pointer (some ⟨b, 0, none⟩)] w fun e w' => e = .returned (.tuple #[.int .i64 (digN l), .bool (pDigit l).isSome]) ∧ PA w' b t (digR l) vs ∧ Frm [b] w w' := by
  obtain ⟨i, h1, h2⟩ := h
  have c0 := h1.c0
  have c1 := h1.c1
  have z := h1.fz 1
  have hi := h1.2.1
  have ht := h1.2.2
  have hsz := bs_size t
  have H1 := hide h1
  have H2 := hide h2
  clear h1 h2
  by_cases hlt : i < t.length
  · have hd1 : decide ((t.length : Int) ≤ (i : Int)) = false := decide_eq_false (by omega)
    have hd2 : decide (t.length ≤ i) = false := decide_eq_false (by omega)
    obtain ⟨_, hl⟩ := (drop_cons H2.out).1 hlt
    have hbg : (bs t)[i]'(by rw [hsz]; omega) = t[i] := rfl
    generalize hti : t[i] = x at *
    have hx8 := x.toNat_lt
    by_cases hx : 48 ≤ x.toNat ∧ x.toNat ≤ 57
    · have Hk : Hid (digN l = x.toNat - 48 ∧ (pDigit l).isSome = true ∧ digR l = t.drop (i + 1)) := by
        show _ ∧ _
        have hxx : (48 ≤ x && x ≤ 57) = true := by simp [u8_le]; exact hx
        unfold digN digR
        rw [hl]; simp only [pDigit, hxx, if_true]; simp
      clear hl hti
      have hlo : decide ((x.toNat : Int) < 48) = false := decide_eq_false (by omega)
      have hhi : decide ((57 : Int) < (x.toNat : Int)) = false := decide_eq_false (by omega)
      have hlo2 : decide (x.toNat < 48) = false := decide_eq_false (by omega)
      have hhi2 : decide (57 < x.toNat) = false := decide_eq_false (by omega)
      go_enter Tryz.func147, Tryz.ntmps147
      go_wp2_with fail
      go_quiet (fail)
      go_wp2_with fail
      go_quiet (fail)
      go_wp2
      go_ret2
      rw [Hk.out.1, Hk.out.2.1, Hk.out.2.2]
      refine ⟨?_, ⟨i + 1, (H1.out.drewN _).at_ (i + 1) hlt, rfl⟩, ((Frm.refl [b] w).drewN _).setCell (p := ⟨b, 1, none⟩) (.inl (by simp)) _⟩
      exact ret_ib (by omega) rfl
    · have Hk : Hid (digN l = 0 ∧ (pDigit l).isSome = false ∧ digR l = l) := by
        show _ ∧ _
        have hxx : (48 ≤ x && x ≤ 57) = false := by
          rw [Bool.eq_false_iff]; intro e; simp [u8_le] at e; exact hx e
        unfold digN digR
        rw [hl]; simp only [pDigit, hxx]; simp
      clear hl hti
      by_cases hlo' : x.toNat < 48
      · have hlo : decide ((x.toNat : Int) < 48) = true := decide_eq_true (by omega)
        have hlo2 : decide (x.toNat < 48) = true := decide_eq_true (by omega)
        go_enter Tryz.func147, Tryz.ntmps147
        go_wp2_with fail
        go_quiet (fail)
        go_wp2
        go_ret2
        rw [Hk.out.1, Hk.out.2.1, Hk.out.2.2]
        exact ⟨rfl, ⟨i, H1.out.drewN _, H2.out⟩, (Frm.refl _ _).drewN _⟩
      · have hlo : decide ((x.toNat : Int) < 48) = false := decide_eq_false (by omega)
        have hlo2 : decide (x.toNat < 48) = false := decide_eq_false (by omega)
        have hhi : decide ((57 : Int) < (x.toNat : Int)) = true := decide_eq_true (by omega)
        have hhi2 : decide (57 < x.toNat) = true := decide_eq_true (by omega)
        go_enter Tryz.func147, Tryz.ntmps147
        go_wp2_with fail
        go_quiet (fail)
        go_wp2
        go_ret2
        rw [Hk.out.1, Hk.out.2.1, Hk.out.2.2]
        exact ⟨rfl, ⟨i, H1.out.drewN _, H2.out⟩, (Frm.refl _ _).drewN _⟩
  · have hd1 : decide ((t.length : Int) ≤ (i : Int)) = true := decide_eq_true (by omega)
    have hd2 : decide (t.length ≤ i) = true := decide_eq_true (by omega)
    have hl := (drop_cons H2.out).2 hlt
    have Hk : Hid (digN l = 0 ∧ (pDigit l).isSome = false ∧ digR l = l) := by
      show _ ∧ _; rw [hl]; exact ⟨rfl, rfl, rfl⟩
    clear hl
    go_enter Tryz.func147, Tryz.ntmps147
    go_wp2_with fail
    go_quiet (fail)
    go_wp2
    go_ret2
    rw [Hk.out.1, Hk.out.2.1, Hk.out.2.2]
    exact ⟨rfl, ⟨i, H1.out.drewN _, H2.out⟩, (Frm.refl _ _).drewN _⟩

theorem eqb (x : UInt8) (n : Nat) (hn : n < 256) : ((x.toNat : Int) == (n : Int)) = (x == UInt8.ofNat n) := by
  have h : (UInt8.ofNat n).toNat = n := by rw [UInt8.toNat_ofNat']; exact Nat.mod_eq_of_lt hn
  rw [Bool.eq_iff_iff, beq_iff_eq, beq_iff_eq]
  constructor
  · intro e
    apply UInt8.toNat_inj.1
    rw [h]; omega
  · intro e; rw [e, h]

set_option maxRecDepth 100000 in
set_option maxHeartbeats 2000000 in
theorem atRepetition_any (b : Nat) (t l : List UInt8) (vs : Value) (w : World) (h : PA w b t l vs) :
    Calls Tryz.prog 126 #[.pointer (some ⟨b, 0, none⟩)] w fun e w' => e = .returned (.bool (atRepB l)) ∧ ∃ n, w' = w.drewN n := by
  obtain ⟨i, h1, h2⟩ := h
  have c0 := h1.c0
  have c1 := h1.c1
  have hi := h1.2.1
  have ht := h1.2.2
  have hsz := bs_size t
  by_cases hlt : i < t.length
  · have hd1 : decide ((t.length : Int) ≤ (i : Int)) = false := decide_eq_false (by omega)
    obtain ⟨_, hl⟩ := (drop_cons h2).1 hlt
    have hbg : (bs t)[i]'(by rw [hsz]; omega) = t[i] := rfl
    generalize hti : t[i] = x at *
    have Hk : Hid (atRepB l = isRepB x) := by show _ = _; rw [hl]; rfl
    have e1 := eqb x 42 (by omega)
    have e2 := eqb x 43 (by omega)
    have e3 := eqb x 63 (by omega)
    have e4 := eqb x 123 (by omega)
    have Hr : Hid (isRepB x = (x == 42 || x == 43 || x == 63 || x == 123)) := rfl
    clear hl hti h1 h2
    cases k1 : (x == 42)
    · have f1 : ((x.toNat : Int) == 42) = false := e1.trans k1
      cases k2 : (x == 43)
      · have f2 : ((x.toNat : Int) == 43) = false := e2.trans k2
        cases k3 : (x == 63)
        · have f3 : ((x.toNat : Int) == 63) = false := e3.trans k3
          have f4 : ((x.toNat : Int) == 123) = (x == 123) := e4
          clear e1 e2 e3 e4
          go_enter Tryz.func126, Tryz.ntmps126
          go_wp2_with fail
          go_quiet (fail)
          go_wp2_with fail
          go_quiet (fail)
          go_wp2
          go_ret
          rw [Hk.out, Hr.out, k1, k2, k3]
          exact ⟨ret_bool (by simp [f4]), _, rfl⟩
        · have f3 : ((x.toNat : Int) == 63) = true := e3.trans k3
          clear e1 e2 e3 e4
          go_enter Tryz.func126, Tryz.ntmps126
          go_wp2_with fail
          go_quiet (fail)
          go_wp2_with fail
          go_quiet (fail)
          go_wp2
          go_ret
          rw [Hk.out, Hr.out, k1, k2, k3]
          exact ⟨ret_bool (by simp), _, rfl⟩
      · have f2 : ((x.toNat : Int) == 43) = true := e2.trans k2
        clear e1 e2 e3 e4
        go_enter Tryz.func126, Tryz.ntmps126
        go_wp2_with fail
        go_quiet (fail)
        go_wp2_with fail
        go_quiet (fail)
        go_wp2
        go_ret
        rw [Hk.out, Hr.out, k1, k2]
        exact ⟨ret_bool (by simp), _, rfl⟩
    · have f1 : ((x.toNat : Int) == 42) = true := e1.trans k1
      clear e1 e2 e3 e4
      go_enter Tryz.func126, Tryz.ntmps126
      go_wp2_with fail
      go_quiet (fail)
      go_wp2_with fail
      go_quiet (fail)
      go_wp2
      go_ret
      rw [Hk.out, Hr.out, k1]
      exact ⟨ret_bool (by simp), _, rfl⟩
  · have hd1 : decide ((t.length : Int) ≤ (i : Int)) = true := decide_eq_true (by omega)
    have hl := (drop_cons h2).2 hlt
    have Hk : Hid (atRepB l = false) := by show _ = _; rw [hl]; rfl
    clear hl h1 h2
    go_enter Tryz.func126, Tryz.ntmps126
    go_wp2_with fail
    go_quiet (fail)
    go_wp2
    go_ret
    rw [Hk.out]
    exact ⟨rfl, _, rfl⟩

end Go.Proofs.YtpbkgeipigcefaaGreat

namespace Go.Proofs.YtpbkgeipigcefaaGreat
open Go.RowKit

def hiZ : Option Nat → Int
  | none => -1
  | some n => n
def CP (p : Option ((Nat × Option Nat) × List UInt8)) (a m : Int) (ok : Bool) (l' : List UInt8) : Prop :=
  match p with
  | some ((lo, hi), r) => a = lo ∧ m = hiZ hi ∧ ok = true ∧ l' = r
  | none => ok = false

theorem counts_none {l : List UInt8} (h : (pDigit l).isSome = false) : pCounts l = none := by
  unfold pCounts; cases hd : pDigit l with
  | none => rfl
  | some x => rw [hd] at h; simp at h
theorem dig_some {l : List UInt8} (h : (pDigit l).isSome = true) : pDigit l = some (digN l, digR l) ∧ digN l ≤ 9 := by
  cases hd : pDigit l with
  | none => rw [hd] at h; simp at h
  | some x =>
    obtain ⟨n, r⟩ := x
    have := pDigit_len hd
    unfold digN digR; rw [hd]; exact ⟨rfl, this.2⟩
theorem dig_none {l : List UInt8} (h : (pDigit l).isSome = false) : pDigit l = none ∧ digR l = l := by
  cases hd : pDigit l with
  | none => unfold digR; rw [hd]; exact ⟨rfl, rfl⟩
  | some x => rw [hd] at h; simp at h

set_option maxRecDepth 100000 in
set_option maxHeartbeats 2000000 in
theorem takeCounts_any (b : Nat) (t l : List UInt8) (vs : Value) (w : World) (h : PA w b t l vs) :
    Calls Tryz.prog 142 #[.pointer (some ⟨b, 0, none⟩)] w fun e w' => ∃ a m ok l', e = .returned (.tuple #[.int .i64 a, .int .i64 m, .bool ok]) ∧ PA w' b t l' vs ∧ Frm [b] w w' ∧ CP (pCounts l) a m ok l' := by
  have H := hide h
  clear h
  cases h1 : (pDigit l).isSome
  · have Hc := hide (counts_none h1)
    go_enter Tryz.func142, Tryz.ntmps142
    go_wp2_with fail
    refine (takeDigit_any b t l vs w H.out).mono ?_
    rintro e w1 ⟨rfl, hp1, hf1⟩
    have P1 := hide hp1
    have F1 := hide hf1
    clear hp1 hf1
    rw [h1]
    go_wp2
    go_ret3
    refine ⟨_, _, _, _, rfl, P1.out, F1.out, ?_⟩
    rw [Hc.out]; rfl
  · obtain ⟨hd1, hn1⟩ := dig_some h1
    have Hd1 := hide hd1
    clear hd1
    have Hc : Hid (pCounts l = if headIs 44 (digR l) then
      match pDigit (digR l).tail with
      | some (n, r2) => if headIs 125 r2 && decide (digN l ≤ n) then some ((digN l, some n), r2.tail) else none
      | none => if headIs 125 (digR l).tail then some ((digN l, none), (digR l).tail.tail) else none
    else if headIs 125 (digR l) then some ((digN l, some (digN l)), (digR l).tail) else none) := by
      show _ = _; conv => lhs; unfold pCounts
      rw [Hd1.out]
      all_goals rfl
    go_enter Tryz.func142, Tryz.ntmps142
    go_wp2_with fail
    refine (takeDigit_any b t l vs w H.out).mono ?_
    rintro e w1 ⟨rfl, hp1, hf1⟩
    have P1 := hide hp1
    have F1 := hide hf1
    clear hp1 hf1
    rw [h1]
    generalize digN l = lo at *
    generalize digR l = r at *
    go_wp2_with fail
    refine (xtake_any b t r vs 44 w1 P1.out).mono ?_
    rintro e w2 ⟨rfl, hp2, hf2⟩
    have P2 := hide hp2
    have F2 := hide (F1.out.trans hf2)
    clear hp2 hf2
    cases hk : tk 44 r
    · have Hk2 : Hid (rs 44 r = r) := by show _ = _; unfold rs; rw [hk]; rfl
      rw [tk_head] at hk
      have Hc2 : Hid (pCounts l = if headIs 125 r then some ((lo, some lo), r.tail) else none) := by
        show _ = _; rw [Hc.out, hk]; rfl
      go_wp2_with fail
      refine (xtake_any b t (rs 44 r) vs 125 w2 P2.out).mono ?_
      rintro e w3 ⟨rfl, hp3, hf3⟩
      have P3 := hide hp3
      have F3 := hide (F2.out.trans hf3)
      clear hp3 hf3
      rw [Hk2.out] at P3 ⊢
      cases hk3 : tk 125 r
      · go_wp2
        go_ret3
        refine ⟨_, _, _, _, rfl, P3.out, F3.out, ?_⟩
        rw [tk_head] at hk3
        rw [Hc2.out, hk3]; rfl
      · have hrs : rs 125 r = r.tail := by unfold rs; rw [hk3]; rfl
        have hne : ((lo : Int) == -1) = false := beq_eq_false_iff_ne.2 (by omega)
        go_wp2
        go_ret3
        refine ⟨_, _, _, _, rfl, P3.out, F3.out, ?_⟩
        rw [tk_head] at hk3
        rw [Hc2.out, hk3, hrs]
        exact ⟨rfl, rfl, rfl, rfl⟩
    · have Hk2 : Hid (rs 44 r = r.tail) := by show _ = _; unfold rs; rw [hk]; rfl
      rw [tk_head] at hk
      have Hc2 : Hid (pCounts l = match pDigit r.tail with
        | some (n, r2) => if headIs 125 r2 && decide (lo ≤ n) then some ((lo, some n), r2.tail) else none
        | none => if headIs 125 r.tail then some ((lo, none), r.tail.tail) else none) := by
        show _ = _; rw [Hc.out, hk]; rfl
      rw [Hk2.out] at P2
      go_wp2_with fail
      refine (takeDigit_any b t r.tail vs w2 P2.out).mono ?_
      rintro e w3 ⟨rfl, hp3, hf3⟩
      have P3 := hide hp3
      have F3 := hide (F2.out.trans hf3)
      clear hp3 hf3
      cases h4 : (pDigit r.tail).isSome
      · obtain ⟨hd4, hr4⟩ := dig_none h4
        have Hc3 : Hid (pCounts l = if headIs 125 r.tail then some ((lo, none), r.tail.tail) else none) := by
          show _ = _; rw [Hc2.out, hd4]
        rw [hr4] at P3
        clear hd4 hr4
        go_wp2_with fail
        refine (xtake_any b t r.tail vs 125 w3 P3.out).mono ?_
        rintro e w4 ⟨rfl, hp4, hf4⟩
        have P4 := hide hp4
        have F4 := hide (F3.out.trans hf4)
        clear hp4 hf4
        cases hk5 : tk 125 r.tail
        · go_wp2
          go_ret3
          refine ⟨_, _, _, _, rfl, P4.out, F4.out, ?_⟩
          rw [tk_head] at hk5
          rw [Hc3.out, hk5]; rfl
        · have hrs : rs 125 r.tail = r.tail.tail := by unfold rs; rw [hk5]; rfl
          go_wp2
          go_ret3
          refine ⟨_, _, _, _, rfl, P4.out, F4.out, ?_⟩
          rw [tk_head] at hk5
          rw [Hc3.out, hk5, hrs]
          exact ⟨rfl, rfl, rfl, rfl⟩
      · obtain ⟨hd4, hn4⟩ := dig_some h4
        have Hc3 : Hid (pCounts l = if headIs 125 (digR r.tail) && decide (lo ≤ digN r.tail) then some ((lo, some (digN r.tail)), (digR r.tail).tail) else none) := by
          show _ = _; rw [Hc2.out, hd4]
        clear hd4
        generalize digN r.tail = hi at *
        generalize digR r.tail = q at *
        go_wp2_with fail
        refine (xtake_any b t q vs 125 w3 P3.out).mono ?_
        rintro e w4 ⟨rfl, hp4, hf4⟩
        have P4 := hide hp4
        have F4 := hide (F3.out.trans hf4)
        clear hp4 hf4
        have hne : ((hi : Int) == -1) = false := beq_eq_false_iff_ne.2 (by omega)
        cases hk5 : tk 125 q
        · go_wp2
          go_ret3
          refine ⟨_, _, _, _, rfl, P4.out, F4.out, ?_⟩
          rw [tk_head] at hk5
          rw [Hc3.out, hk5]; rfl
        · have hrs : rs 125 q = q.tail := by unfold rs; rw [hk5]; rfl
          by_cases hle : lo ≤ hi
          · have hdl : decide ((lo : Int) ≤ (hi : Int)) = true := decide_eq_true (by omega)
            go_wp2
            go_ret3
            refine ⟨_, _, _, _, rfl, P4.out, F4.out, ?_⟩
            rw [tk_head] at hk5
            rw [Hc3.out, hk5, hrs, decide_eq_true hle]
            exact ⟨rfl, rfl, by first | rfl | simp [hle], rfl⟩
          · have hdl : decide ((lo : Int) ≤ (hi : Int)) = false := decide_eq_false (by omega)
            go_wp2
            go_ret3
            refine ⟨_, _, _, _, rfl, P4.out, F4.out, ?_⟩
            rw [tk_head] at hk5
            rw [Hc3.out, hk5, decide_eq_false hle]
            show _ = false
            first | rfl | simp [hle]

end Go.Proofs.YtpbkgeipigcefaaGreat

