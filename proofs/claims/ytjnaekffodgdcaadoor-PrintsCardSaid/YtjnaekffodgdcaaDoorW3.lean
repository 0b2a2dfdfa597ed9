import Derived.Test.YtjnaekffodgdcaaDoorW2
namespace Go.Proofs.YtjnaekffodgdcaaDoor
open Go.RowKit
set_option linter.unusedVariables false
set_option linter.unusedSimpArgs false
set_option linter.unnecessarySimpa false

theorem tw_split {p : UInt8 → Bool} : ∀ (a r : List UInt8), a.all p = true → (∀ c r', r = c :: r' → p c = false) → (a ++ r).takeWhile p = a ∧ (a ++ r).dropWhile p = r
  | [], r, _, h => by
    cases r with
    | nil => simp
    | cons c r' => simp [h c r' rfl]
  | x :: a, r, ha, h => by
    simp only [List.all_cons, Bool.and_eq_true] at ha
    have := tw_split a r ha.2 h
    simp [ha.1, this.1, this.2]

theorem nameB0 : nameB 0 = false := rfl

theorem mid_split (t : List UInt8) (i j : Nat) (h : i ≤ j) (hj : j ≤ t.length) : t.drop i = (t.take j).drop i ++ t.drop j := by
  conv => lhs; rw [← List.take_append_drop j t]
  rw [List.drop_append_of_le_length (by simp; omega)]

theorem SC.at {w : World} {b : Nat} {t : List UInt8} {i : Nat} (h : SC w b t i) : At w b t (t.drop i) := ⟨i, h, rfl⟩

set_option maxHeartbeats 1000000 in
theorem takeName_any (b : Nat) (t l : List UInt8) (w : World) (h : At w b t l) :
    Calls Tryd.prog 41 #[.pointer (some ⟨b, 0, none⟩)] w fun e w' => e = .returned (.tuple #[.string (bs (l.takeWhile nmB)), .bool (isNameL (l.takeWhile nmB))]) ∧ At w' b t (l.dropWhile nmB) ∧ Frm [b] w w' := by
  obtain ⟨i, h1, h2⟩ := h
  have c1 := h1.c1
  have hi := h1.2.1
  have ht := h1.2.2
  have H1 : Hid (SC w b t i) := h1
  have H2 : Hid (List.drop i t = l) := h2
  clear h1 h2
  go_enter Tryd.func41, Tryd.ntmps41
  go_wp2
  go_loopg [] (t.length - i) (fun k wr => ∃ j, j + k = t.length ∧ i ≤ j ∧ SC wr b t j ∧ ((t.take j).drop i).all nmB = true ∧ Frm [b] w wr)
  case atStart => exact ⟨i, by omega, by omega, H1.out, by rw [List.drop_eq_nil_of_le (by simp; omega)]; rfl, Frm.refl _ _⟩
  case round =>
    obtain ⟨j, hj, hij, hs, hal, hfr⟩ := hrel
    clear c1
    have c0 := hs.c0
    have c1 := hs.c1
    have hf := hs.fz 1
    have Hs : Hid (SC wr b t j) := hs
    have Hfr : Hid (Frm [b] w wr) := hfr
    have Hal : Hid (((t.take j).drop i).all nmB = true) := hal
    clear hs hal hfr
    cases hn : nameB (hd (t.drop j))
    · have hsp : l.takeWhile nmB = (t.take j).drop i ∧ l.dropWhile nmB = t.drop j := by
        rw [← H2.out, mid_split t i j hij (by omega)]
        refine tw_split _ _ Hal.out ?_
        intro c r' e
        rw [e] at hn; exact hn
      have Hsp : Hid (l.takeWhile nmB = (t.take j).drop i ∧ l.dropWhile nmB = t.drop j) := hsp
      clear hsp
      have hx := bs_extract t
      have hsz := bs_size t
      go_wp2_with (first | (go_at_call 52; refine (peek_any _ _ _ _ Hs.out.at).mono ?_; rintro e w' ⟨rfl, n, rfl⟩) | (go_at_call 51; refine (isNameByte_any _ _).mono ?_; rintro e w' ⟨rfl, rfl⟩))
      go_quiet (fail)
      go_wp2_with (go_at_call 53; refine (IsName_any _ _ (by simp; omega)).mono ?_; rintro e w' ⟨rfl, rfl⟩)
      go_ret2
      rw [Hsp.out.1, Hsp.out.2]
      exact ⟨rfl, (Hs.out.drewN _).at, Hfr.out.drewN _⟩
    · have hjl : j < t.length := by
        by_cases hx : j < t.length
        · exact hx
        · rw [List.drop_eq_nil_of_le (by omega)] at hn; cases hn
      go_wp2_with (first | (go_at_call 52; refine (peek_any _ _ _ _ Hs.out.at).mono ?_; rintro e w' ⟨rfl, n, rfl⟩) | (go_at_call 51; refine (isNameByte_any _ _).mono ?_; rintro e w' ⟨rfl, rfl⟩))
      go_roundg (gk - 1)
      case measure => omega
      case rel =>
        refine ⟨j + 1, by omega, by omega, ?_, ?_, ?_⟩
        · exact (Hs.out.drewN _).set (j + 1) (by omega)
        · rw [List.take_succ_eq_append_getElem hjl, List.drop_append_of_le_length (by simp; omega), List.all_append, Hal.out]
          rw [hd_drop t j hjl] at hn; simp [nmB, hn]
        · exact (Hfr.out.drewN _).setCell (by simp) _

/-- A digit to the base 16 ahead. -/
def sHexD (l : List UInt8) : UInt8 × Bool × List UInt8 :=
  match l with
  | [] => (0, false, [])
  | c :: r => if dgB c then (c - 48, true, r) else if 97 ≤ c ∧ c ≤ 102 then (c - 97 + 10, true, r) else (0, false, c :: r)

theorem u8i (c : UInt8) : (0 : Int) ≤ c.toNat ∧ (c.toNat : Int) ≤ 255 := by have := c.toNat_lt; omega

theorem ret2 {a a' b b' : Value} (h : a = a') (h' : b = b') : Ending.returned (.tuple #[a, b]) = .returned (.tuple #[a', b']) := by rw [h, h']
theorem ret2i {k : IntKind} {x y : Int} {p q : Bool} (h : x = y) (h' : p = q) : Ending.returned (.tuple #[.int k x, .bool p]) = .returned (.tuple #[.int k y, .bool q]) := by rw [h, h']
theorem at_set {w : World} {b i : Nat} {t l : List UInt8} {c : UInt8} {r : List UInt8} (h1 : SC w b t i) (h2 : t.drop i = c :: r) : At (w.setCell ⟨b, 1, none⟩ (.int .i64 (i + 1))) b t r := by
  have hil : i < t.length := by
    by_cases hx : i < t.length
    · exact hx
    · rw [List.drop_eq_nil_of_le (by omega)] at h2; cases h2
  refine ⟨i + 1, h1.set (i + 1) hil, ?_⟩
  have := congrArg List.tail h2
  rw [List.tail_drop] at this; exact this
theorem at_len {t : List UInt8} {i : Nat} {c : UInt8} {r : List UInt8} (h2 : t.drop i = c :: r) : i < t.length := by
  by_cases hx : i < t.length
  · exact hx
  · rw [List.drop_eq_nil_of_le (by omega)] at h2; cases h2

set_option maxHeartbeats 1000000 in
theorem takeHexDigit_any (b : Nat) (t l : List UInt8) (w : World) (h : At w b t l) :
    Calls Tryd.prog 78 #[.pointer (some ⟨b, 0, none⟩)] w fun e w' => e = .returned (.tuple #[.int .u8 ((sHexD l).1.toNat), .bool (sHexD l).2.1]) ∧ At w' b t (sHexD l).2.2 ∧ Frm [b] w w' := by
  obtain ⟨i, h1, h2⟩ := h
  have c1 := h1.c1
  have hf := h1.fz 1
  have hi := h1.2.1
  have ht := h1.2.2
  have H1 : Hid (SC w b t i) := h1
  have H2 : Hid (List.drop i t = l) := h2
  clear h1 h2
  cases l with
  | nil =>
    have hn : digB (hd []) = false := rfl
    have h0 : hd [] = 0 := rfl
    go_enter Tryd.func78, Tryd.ntmps78
    go_wp2_with (first | (go_at_call 52; refine (peek_any _ _ _ _ ⟨i, H1.out, H2.out⟩).mono ?_; rintro e w' ⟨rfl, n, rfl⟩) | (go_at_call 60; refine (isDigit_any _ _).mono ?_; rintro e w' ⟨rfl, rfl⟩))
    go_ret2
    exact ⟨rfl, ⟨i, H1.out.drewN _, H2.out⟩, (Frm.refl _ _).drewN _⟩
  | cons c r =>
    have hc := hd_cons c r
    have hu := u8i c
    have hil : i < t.length := at_len H2.out
    cases hd : digB (c.toNat : Int)
    · by_cases hx : 97 ≤ (c.toNat : Int) ∧ (c.toNat : Int) ≤ 102
      · obtain ⟨hx1, hx2⟩ := hx
        have hs : Hid (sHexD (c :: r) = (c - 97 + 10, true, r)) := by
          show sHexD (c :: r) = (c - 97 + 10, true, r)
          unfold sHexD; simp only [dgB, hd]; rw [if_neg (by simp), if_pos (by constructor <;> (rw [UInt8.le_iff_toNat_le]; simp; omega))]
        go_enter Tryd.func78, Tryd.ntmps78
        go_wp2_with (first | (go_at_call 52; refine (peek_any _ _ _ _ ⟨i, H1.out, H2.out⟩).mono ?_; rintro e w' ⟨rfl, n, rfl⟩) | (go_at_call 60; refine (isDigit_any _ _).mono ?_; rintro e w' ⟨rfl, rfl⟩))
        go_ret2
        rw [hs.out]
        refine ⟨ret2i ?_ rfl, at_set (l := r) (H1.out.drewN _) H2.out, ((Frm.refl _ _).drewN _).setCell (by simp) _⟩
        have : (c - 97).toNat = c.toNat - 97 := UInt8.toNat_sub_of_le _ _ (by rw [UInt8.le_iff_toNat_le]; simp; omega)
        rw [UInt8.toNat_add, this]; simp; omega
      · have hs : Hid (sHexD (c :: r) = (0, false, c :: r)) := by
          show sHexD (c :: r) = (0, false, c :: r)
          unfold sHexD; simp only [dgB, hd]; rw [if_neg (by simp), if_neg]
          rintro ⟨h1, h2⟩; rw [UInt8.le_iff_toNat_le] at h1 h2; simp at h1 h2; omega
        go_enter Tryd.func78, Tryd.ntmps78
        go_wp2_with (first | (go_at_call 52; refine (peek_any _ _ _ _ ⟨i, H1.out, H2.out⟩).mono ?_; rintro e w' ⟨rfl, n, rfl⟩) | (go_at_call 60; refine (isDigit_any _ _).mono ?_; rintro e w' ⟨rfl, rfl⟩))
        all_goals first | (exfalso; omega) | skip
        all_goals
          go_ret2
          rw [hs.out]
          exact ⟨rfl, ⟨i, H1.out.drewN _, H2.out⟩, (Frm.refl _ _).drewN _⟩
    · have hb : 48 ≤ (c.toNat : Int) ∧ (c.toNat : Int) ≤ 57 := by simpa [digB] using hd
      obtain ⟨hb1, hb2⟩ := hb
      have hs : Hid (sHexD (c :: r) = (c - 48, true, r)) := by
        show sHexD (c :: r) = (c - 48, true, r)
        unfold sHexD; simp only [dgB, hd]; rw [if_pos trivial]
      go_enter Tryd.func78, Tryd.ntmps78
      go_wp2_with (first | (go_at_call 52; refine (peek_any _ _ _ _ ⟨i, H1.out, H2.out⟩).mono ?_; rintro e w' ⟨rfl, n, rfl⟩) | (go_at_call 60; refine (isDigit_any _ _).mono ?_; rintro e w' ⟨rfl, rfl⟩))
      go_ret2
      rw [hs.out]
      refine ⟨ret2i ?_ rfl, at_set (l := r) (H1.out.drewN _) H2.out, ((Frm.refl _ _).drewN _).setCell (by simp) _⟩
      have : (c - 48).toNat = c.toNat - 48 := UInt8.toNat_sub_of_le _ _ (by rw [UInt8.le_iff_toNat_le]; simp; omega)
      rw [this]; omega

def sHexB (l : List UInt8) : UInt8 × Bool × List UInt8 :=
  let a := sHexD l
  let d := sHexD a.2.2
  (a.1 * 16 + d.1, a.2.1 && d.2.1, d.2.2)

theorem sHexD_le (l : List UInt8) : (sHexD l).1.toNat ≤ 15 := by
  unfold sHexD
  cases l with
  | nil => simp
  | cons c r =>
    dsimp only
    by_cases h : dgB c = true
    · rw [if_pos h]
      have hb : 48 ≤ (c.toNat : Int) ∧ (c.toNat : Int) ≤ 57 := by simpa [dgB, digB] using h
      have : (c - 48).toNat = c.toNat - 48 := UInt8.toNat_sub_of_le _ _ (by rw [UInt8.le_iff_toNat_le]; simp; omega)
      simp only [this]; omega
    · rw [if_neg h]
      by_cases h2 : 97 ≤ c ∧ c ≤ 102
      · rw [if_pos h2]
        obtain ⟨h3, h4⟩ := h2
        rw [UInt8.le_iff_toNat_le] at h3 h4
        simp at h3 h4
        have : (c - 97).toNat = c.toNat - 97 := UInt8.toNat_sub_of_le _ _ (by rw [UInt8.le_iff_toNat_le]; simp; omega)
        simp only [UInt8.toNat_add, this]; simp; omega
      · rw [if_neg h2]; simp

set_option maxHeartbeats 1000000 in
theorem takeHexByte_any (b : Nat) (t l : List UInt8) (w : World) (h : At w b t l) :
    Calls Tryd.prog 75 #[.pointer (some ⟨b, 0, none⟩)] w fun e w' => e = .returned (.tuple #[.int .u8 ((sHexB l).1.toNat), .bool (sHexB l).2.1]) ∧ At w' b t (sHexB l).2.2 ∧ Frm [b] w w' := by
  have H : Hid (At w b t l) := h
  clear h
  go_enter Tryd.func75, Tryd.ntmps75
  go_wp2_with fail
  refine (takeHexDigit_any _ _ _ _ H.out).mono ?_
  rintro e w1 ⟨rfl, h1, hf1⟩
  go_wp2_with fail
  refine (takeHexDigit_any _ _ _ _ h1).mono ?_
  rintro e w2 ⟨rfl, h2, hf2⟩
  have hu := u8i (sHexD l).1
  have hv := u8i (sHexD (sHexD l).2.2).1
  have hle := sHexD_le l
  have hle2 := sHexD_le (sHexD l).2.2
  have Hx : Hid (sHexB l = ((sHexD l).1 * 16 + (sHexD (sHexD l).2.2).1, (sHexD l).2.1 && (sHexD (sHexD l).2.2).2.1, (sHexD (sHexD l).2.2).2.2)) := rfl
  have H2 : Hid (At w2 b t (sHexD (sHexD l).2.2).2.2) := h2
  have HF : Hid (Frm [b] w w2) := hf1.trans hf2
  clear h1 hf1 h2 hf2
  generalize sHexD (sHexD l).2.2 = d at *
  generalize sHexD l = a at *
  obtain ⟨a1, a2, a3⟩ := a
  obtain ⟨d1, d2, d3⟩ := d
  cases a2
  all_goals
    go_wp2
    go_ret2
    rw [Hx.out]
    refine ⟨ret2i ?_ (by simp), H2.out, HF.out⟩

    rw [UInt8.toNat_add, UInt8.toNat_mul]; simp; omega

end Go.Proofs.YtjnaekffodgdcaaDoor
