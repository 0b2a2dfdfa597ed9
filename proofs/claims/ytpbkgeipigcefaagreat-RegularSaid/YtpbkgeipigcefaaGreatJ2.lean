import Derived.Test.YtpbkgeipigcefaaGreatJ1
set_option linter.unusedVariables false
set_option linter.unusedSimpArgs false
set_option linter.unnecessarySimpa false
namespace Go.Proofs.YtpbkgeipigcefaaGreat
open Go.RowKit

theorem tw_split {p : UInt8 → Bool} : ∀ (a r : List UInt8), a.all p = true → (∀ c r', r = c :: r' → p c = false) → (a ++ r).takeWhile p = a ∧ (a ++ r).dropWhile p = r
  | [], r, _, h => by
    cases r with
    | nil => simp
    | cons c r' => simp [h c r' rfl]
  | x :: a, r, ha, h => by
    simp only [List.all_cons, Bool.and_eq_true] at ha
    have := tw_split a r ha.2 h
    simp [ha.1, this.1, this.2]

theorem mid_split (t : List UInt8) (i j : Nat) (h : i ≤ j) (hj : j ≤ t.length) : t.drop i = (t.take j).drop i ++ t.drop j := by
  conv => lhs; rw [← List.take_append_drop j t]
  rw [List.drop_append_of_le_length (by simp; omega)]

theorem SC.at {w : World} {b : Nat} {t : List UInt8} {i : Nat} (h : SC w b t i) : At w b t (t.drop i) := ⟨i, h, rfl⟩

set_option maxHeartbeats 1000000 in
theorem takeName_any (b : Nat) (t l : List UInt8) (w : World) (h : At w b t l) :
    Calls Tryz.prog 79 #[.pointer (some ⟨b, 0, none⟩)] w fun e w' => e = .returned (.tuple #[.string (bs (l.takeWhile nmB)), .bool (isNameL (l.takeWhile nmB))]) ∧ At w' b t (l.dropWhile nmB) ∧ Frm [b] w w' := by
  obtain ⟨i, h1, h2⟩ := h
  have c1 := h1.c1
  have hi := h1.2.1
  have ht := h1.2.2
  have H1 : Hid (SC w b t i) := h1
  have H2 : Hid (List.drop i t = l) := h2
  clear h1 h2
  go_enter Tryz.func79, Tryz.ntmps79
  go_wp2
  go_loopg [] (t.length - i) (fun k wr => ∃ j, j + k = t.length ∧ i ≤ j ∧ SC wr b t j ∧ ((t.take j).drop i).all nmB = true ∧ Frm [b] w wr)
  case atStart => exact ⟨i, by omega, by omega, H1.out, by rw [List.drop_eq_nil_of_le (by simp; omega)]; rfl, Frm.refl _ _⟩
  case round =>
    obtain ⟨j, hj, hij, hs, hal, hfr⟩ := hrel
    clear c1
    have c0 := hs.c0
    have c1 := hs.c1
    have hf := hs.fz 1
    have Hs : Hid (SC wr b t j) := hs
    have Hfr : Hid (Frm [b] w wr) := hfr
    have Hal : Hid (((t.take j).drop i).all nmB = true) := hal
    clear hs hal hfr
    cases hn : nameB (hd (t.drop j))
    · have hsp : l.takeWhile nmB = (t.take j).drop i ∧ l.dropWhile nmB = t.drop j := by
        rw [← H2.out, mid_split t i j hij (by omega)]
        refine tw_split _ _ Hal.out ?_
        intro c r' e
        rw [e] at hn; exact hn
      have Hsp : Hid (l.takeWhile nmB = (t.take j).drop i ∧ l.dropWhile nmB = t.drop j) := hsp
      clear hsp
      have hx := bs_extract t
      have hsz := bs_size t
      go_wp2_with (first | (go_at_call 86; refine (peek_any _ _ _ _ Hs.out.at).mono ?_; rintro e w' ⟨rfl, n, rfl⟩) | (go_at_call 66; refine (isNameByte_any _ _).mono ?_; rintro e w' ⟨rfl, rfl⟩))
      go_quiet (fail)
      go_wp2_with (go_at_call 50; refine (IsName_any _ _ (by simp; omega)).mono ?_; rintro e w' ⟨rfl, rfl⟩)
      go_ret2
      rw [Hsp.out.1, Hsp.out.2]
      exact ⟨rfl, (Hs.out.drewN _).at, Hfr.out.drewN _⟩
    · have hjl : j < t.length := by
        by_cases hx : j < t.length
        · exact hx
        · rw [List.drop_eq_nil_of_le (by omega)] at hn; cases hn
      go_wp2_with (first | (go_at_call 86; refine (peek_any _ _ _ _ Hs.out.at).mono ?_; rintro e w' ⟨rfl, n, rfl⟩) | (go_at_call 66; refine (isNameByte_any _ _).mono ?_; rintro e w' ⟨rfl, rfl⟩))
      go_roundg (gk - 1)
      case measure => omega
      case rel =>
        refine ⟨j + 1, by omega, by omega, ?_, ?_, ?_⟩
        · exact (Hs.out.drewN _).set (j + 1) (by omega)
        · rw [List.take_succ_eq_append_getElem hjl, List.drop_append_of_le_length (by simp; omega), List.all_append, Hal.out]
          rw [hd_drop t j hjl] at hn; simp [nmB, hn]
        · exact (Hfr.out.drewN _).setCell (by simp) _

def sHexD (l : List UInt8) : UInt8 × Bool × List UInt8 :=
  match l with
  | [] => (0, false, [])
  | c :: r => if dgB c then (c - 48, true, r) else if 97 ≤ c ∧ c ≤ 102 then (c - 97 + 10, true, r) else (0, false, c :: r)

theorem u8i (c : UInt8) : (0 : Int) ≤ c.toNat ∧ (c.toNat : Int) ≤ 255 := by have := c.toNat_lt; omega

theorem ret2i {k : IntKind} {x y : Int} {p q : Bool} (h : x = y) (h' : p = q) : Ending.returned (.tuple #[.int k x, .bool p]) = .returned (.tuple #[.int k y, .bool q]) := by rw [h, h']
theorem at_set {w : World} {b i : Nat} {t l : List UInt8} {c : UInt8} {r : List UInt8} (h1 : SC w b t i) (h2 : t.drop i = c :: r) : At (w.setCell ⟨b, 1, none⟩ (.int .i64 (i + 1))) b t r := by
  have hil : i < t.length := by
    by_cases hx : i < t.length
    · exact hx
    · rw [List.drop_eq_nil_of_le (by omega)] at h2; cases h2
  refine ⟨i + 1, h1.set (i + 1) hil, ?_⟩
  have := congrArg List.tail h2
  rw [List.tail_drop] at this; exact this
theorem at_len {t : List UInt8} {i : Nat} {c : UInt8} {r : List UInt8} (h2 : t.drop i = c :: r) : i < t.length := by
  by_cases hx : i < t.length
  · exact hx
  · rw [List.drop_eq_nil_of_le (by omega)] at h2; cases h2

set_option maxHeartbeats 1000000 in
theorem takeHexDigit_any (b : Nat) (t l : List UInt8) (w : World) (h : At w b t l) :
    Calls Tryz.prog 124 #[.pointer (some ⟨b, 0, none⟩)] w fun e w' => e = .returned (.tuple #[.int .u8 ((sHexD l).1.toNat), .bool (sHexD l).2.1]) ∧ At w' b t (sHexD l).2.2 ∧ Frm [b] w w' := by
  obtain ⟨i, h1, h2⟩ := h
  have c1 := h1.c1
  have hf := h1.fz 1
  have hi := h1.2.1
  have ht := h1.2.2
  have H1 : Hid (SC w b t i) := h1
  have H2 : Hid (List.drop i t = l) := h2
  clear h1 h2
  cases l with
  | nil =>
    have hn : digB (hd []) = false := rfl
    have h0 : hd [] = 0 := rfl
    go_enter Tryz.func124, Tryz.ntmps124
    go_wp2_with (first | (go_at_call 86; refine (peek_any _ _ _ _ ⟨i, H1.out, H2.out⟩).mono ?_; rintro e w' ⟨rfl, n, rfl⟩) | (go_at_call 65; refine (isDigit_any _ _).mono ?_; rintro e w' ⟨rfl, rfl⟩))
    go_ret2
    exact ⟨rfl, ⟨i, H1.out.drewN _, H2.out⟩, (Frm.refl _ _).drewN _⟩
  | cons c r =>
    have hc := hd_cons c r
    have hu := u8i c
    have hil : i < t.length := at_len H2.out
    cases hd : digB (c.toNat : Int)
    · by_cases hx : 97 ≤ (c.toNat : Int) ∧ (c.toNat : Int) ≤ 102
      · obtain ⟨hx1, hx2⟩ := hx
        have hs : Hid (sHexD (c :: r) = (c - 97 + 10, true, r)) := by
          show sHexD (c :: r) = (c - 97 + 10, true, r)
          unfold sHexD; simp only [dgB, hd]; rw [if_neg (by simp), if_pos (by constructor <;> (rw [UInt8.le_iff_toNat_le]; simp; omega))]
        go_enter Tryz.func124, Tryz.ntmps124
        go_wp2_with (first | (go_at_call 86; refine (peek_any _ _ _ _ ⟨i, H1.out, H2.out⟩).mono ?_; rintro e w' ⟨rfl, n, rfl⟩) | (go_at_call 65; refine (isDigit_any _ _).mono ?_; rintro e w' ⟨rfl, rfl⟩))
        go_ret2
        rw [hs.out]
        refine ⟨ret2i ?_ rfl, at_set (l := r) (H1.out.drewN _) H2.out, ((Frm.refl _ _).drewN _).setCell (by simp) _⟩
        have : (c - 97).toNat = c.toNat - 97 := UInt8.toNat_sub_of_le _ _ (by rw [UInt8.le_iff_toNat_le]; simp; omega)
        rw [UInt8.toNat_add, this]; simp; omega
      · have hs : Hid (sHexD (c :: r) = (0, false, c :: r)) := by
          show sHexD (c :: r) = (0, false, c :: r)
          unfold sHexD; simp only [dgB, hd]; rw [if_neg (by simp), if_neg]
          rintro ⟨h1, h2⟩; rw [UInt8.le_iff_toNat_le] at h1 h2; simp at h1 h2; omega
        go_enter Tryz.func124, Tryz.ntmps124
        go_wp2_with (first | (go_at_call 86; refine (peek_any _ _ _ _ ⟨i, H1.out, H2.out⟩).mono ?_; rintro e w' ⟨rfl, n, rfl⟩) | (go_at_call 65; refine (isDigit_any _ _).mono ?_; rintro e w' ⟨rfl, rfl⟩))
        all_goals first | (exfalso; omega) | skip
        all_goals
          go_ret2
          rw [hs.out]
          exact ⟨rfl, ⟨i, H1.out.drewN _, H2.out⟩, (Frm.refl _ _).drewN _⟩
    · have hb : 48 ≤ (c.toNat : Int) ∧ (c.toNat : Int) ≤ 57 := by simpa [digB] using hd
      obtain ⟨hb1, hb2⟩ := hb
      have hs : Hid (sHexD (c :: r) = (c - 48, true, r)) := by
        show sHexD (c :: r) = (c - 48, true, r)
        unfold sHexD; simp only [dgB, hd]; rw [if_pos trivial]
      go_enter Tryz.func124, Tryz.ntmps124
      go_wp2_with (first | (go_at_call 86; refine (peek_any _ _ _ _ ⟨i, H1.out, H2.out⟩).mono ?_; rintro e w' ⟨rfl, n, rfl⟩) | (go_at_call 65; refine (isDigit_any _ _).mono ?_; rintro e w' ⟨rfl, rfl⟩))
      go_ret2
      rw [hs.out]
      refine ⟨ret2i ?_ rfl, at_set (l := r) (H1.out.drewN _) H2.out, ((Frm.refl _ _).drewN _).setCell (by simp) _⟩
      have : (c - 48).toNat = c.toNat - 48 := UInt8.toNat_sub_of_le _ _ (by rw [UInt8.le_iff_toNat_le]; simp; omega)
      rw [this]; omega

def sHexB (l : List UInt8) : UInt8 × Bool × List UInt8 :=
  let a := sHexD l
  let d := sHexD a.2.2
  (a.1 * 16 + d.1, a.2.1 && d.2.1, d.2.2)

theorem sHexD_le (l : List UInt8) : (sHexD l).1.toNat ≤ 15 := by
  unfold sHexD
  cases l with
  | nil => simp
  | cons c r =>
    dsimp only
    by_cases h : dgB c = true
    · rw [if_pos h]
      have hb : 48 ≤ (c.toNat : Int) ∧ (c.toNat : Int) ≤ 57 := by simpa [dgB, digB] using h
      have : (c - 48).toNat = c.toNat - 48 := UInt8.toNat_sub_of_le _ _ (by rw [UInt8.le_iff_toNat_le]; simp; omega)
      simp only [this]; omega
    · rw [if_neg h]
      by_cases h2 : 97 ≤ c ∧ c ≤ 102
      · rw [if_pos h2]
        obtain ⟨h3, h4⟩ := h2
        rw [UInt8.le_iff_toNat_le] at h3 h4
        simp at h3 h4
        have : (c - 97).toNat = c.toNat - 97 := UInt8.toNat_sub_of_le _ _ (by rw [UInt8.le_iff_toNat_le]; simp; omega)
        simp only [UInt8.toNat_add, this]; simp; omega
      · rw [if_neg h2]; simp

set_option maxHeartbeats 1000000 in
theorem takeHexByte_any (b : Nat) (t l : List UInt8) (w : World) (h : At w b t l) :
    Calls Tryz.prog 114 #[.pointer (some ⟨b, 0, none⟩)] w fun e w' => e = .returned (.tuple #[.int .u8 ((sHexB l).1.toNat), .bool (sHexB l).2.1]) ∧ At w' b t (sHexB l).2.2 ∧ Frm [b] w w' := by
  have H : Hid (At w b t l) := h
  clear h
  go_enter Tryz.func114, Tryz.ntmps114
  go_wp2_with fail
  refine (takeHexDigit_any _ _ _ _ H.out).mono ?_
  rintro e w1 ⟨rfl, h1, hf1⟩
  go_wp2_with fail
  refine (takeHexDigit_any _ _ _ _ h1).mono ?_
  rintro e w2 ⟨rfl, h2, hf2⟩
  have hu := u8i (sHexD l).1
  have hv := u8i (sHexD (sHexD l).2.2).1
  have hle := sHexD_le l
  have hle2 := sHexD_le (sHexD l).2.2
  have Hx : Hid (sHexB l = ((sHexD l).1 * 16 + (sHexD (sHexD l).2.2).1, (sHexD l).2.1 && (sHexD (sHexD l).2.2).2.1, (sHexD (sHexD l).2.2).2.2)) := rfl
  have H2 : Hid (At w2 b t (sHexD (sHexD l).2.2).2.2) := h2
  have HF : Hid (Frm [b] w w2) := hf1.trans hf2
  clear h1 hf1 h2 hf2
  generalize sHexD (sHexD l).2.2 = d at *
  generalize sHexD l = a at *
  obtain ⟨a1, a2, a3⟩ := a
  obtain ⟨d1, d2, d3⟩ := d
  cases a2
  all_goals
    go_wp2
    go_ret2
    rw [Hx.out]
    refine ⟨ret2i ?_ (by simp), H2.out, HF.out⟩

    rw [UInt8.toNat_add, UInt8.toNat_mul]; simp; omega

end Go.Proofs.YtpbkgeipigcefaaGreat

namespace Go.Proofs.YtpbkgeipigcefaaGreat
open Go.RowKit

def hexD (n : Nat) : UInt8 := if n < 10 then UInt8.ofNat (48 + n) else UInt8.ofNat (97 + n - 10)
def quoteB (c : UInt8) : List UInt8 :=
  if !(plainB c.toNat) then [92, 120, hexD (c.toNat / 16), hexD (c.toNat % 16)]
  else if c == 34 || c == 92 then [92, c] else [c]
def quoteV (v : List UInt8) : List UInt8 := [34] ++ v.flatMap quoteB ++ [34]
theorem quoteB_len (c : UInt8) : (quoteB c).length ≤ 4 := by
  unfold quoteB
  split
  · simp
  · split <;> simp
theorem quoteL_len : ∀ (v : List UInt8), (v.flatMap quoteB).length ≤ 4 * v.length
  | [] => by simp
  | c :: r => by
    have := quoteL_len r; have := quoteB_len c
    simp only [List.flatMap_cons, List.length_append, List.length_cons]; omega
theorem toNat_beq (x y : UInt8) : ((x.toNat : Int) == (y.toNat : Int)) = (x == y) := by
  rw [Bool.eq_iff_iff, beq_iff_eq, beq_iff_eq]
  constructor
  · intro h; exact UInt8.toNat_inj.1 (Int.ofNat_inj.1 h)
  · intro h; rw [h]
def hex16 : List UInt8 := [48, 49, 50, 51, 52, 53, 54, 55, 56, 57, 97, 98, 99, 100, 101, 102]
theorem hex16_cut (n : Nat) (h : n < 16) : (hex16.take (n + 1)).drop n = [hexD n] := by
  have : ∀ n, n < 16 → (hex16.take (n + 1)).drop n = [hexD n] := by decide +kernel
  exact this n h
end Go.Proofs.YtpbkgeipigcefaaGreat

namespace Go.Proofs.YtpbkgeipigcefaaGreat
open Go.RowKit

set_option maxRecDepth 100000 in
set_option maxHeartbeats 4000000 in
theorem kquoted_any (v : List UInt8) (w : World) (hv : v.length ≤ 65536) :
    Calls Tryz.prog 22 #[.string (bs v)] w fun e w' => e = .returned (.string (bs (quoteV v))) ∧ Frm [] w w' := by
  have hsz := bs_size
  have hap := bs_append
  have hx := bs_extract
  have k34 : ({ data := #[34] } : ByteArray) = bs [34] := rfl
  have k2 : ({ data := #[92] } : ByteArray) = bs [92] := rfl
  have k3 : ({ data := #[92, 120] } : ByteArray) = bs [92, 120] := rfl
  have k16 : ({ data := #[48, 49, 50, 51, 52, 53, 54, 55, 56, 57, 97, 98, 99, 100, 101, 102] } : ByteArray) = bs hex16 := rfl
  have hl16 : hex16.length = 16 := rfl
  go_enter Tryz.func22, Tryz.ntmps22
  go_wp2
  go_loopg [3, 4] v.length (fun k vt vi wr => ∃ (j : Nat), j + k = v.length ∧ vi = .int .i64 j ∧ vt = .string (bs ([34] ++ (v.take j).flatMap quoteB)) ∧ Frm [] w wr)
  case atStart => exact ⟨0, by omega, rfl, by simp [k34], Frm.refl _ _⟩
  case round =>
    obtain ⟨j, hj, rfl, rfl, hfr⟩ := hrel
    have Hf := hide hfr
    clear hfr
    have hal : ((v.take j).flatMap quoteB).length ≤ 4 * 65536 := by
      have := quoteL_len (v.take j); simp at this ⊢; omega
    by_cases hlt : j < v.length
    · have hbg2 : (bs v)[j]'(by rw [hsz]; omega) = v[j] := rfl
      have Ht : Hid ((v.take (j + 1)).flatMap quoteB = (v.take j).flatMap quoteB ++ quoteB v[j]) := by
        show _ = _; rw [List.take_succ_eq_append_getElem hlt, List.flatMap_append]; simp only [List.flatMap_cons, List.flatMap_nil, List.append_nil]
      have he : List.drop j (List.take (j + 1) v) = [v[j]] := by
        rw [List.take_succ_eq_append_getElem hlt, List.drop_append_of_le_length (by simp; omega), List.drop_eq_nil_of_le (by simp; omega)]; rfl
      generalize v[j] = c at *
      generalize (v.take j).flatMap quoteB = T at *
      have hu := u8i c
      have hc34 : ((c.toNat : Int) == 34) = (c == 34) := toNat_beq c 34
      have hc92 : ((c.toNat : Int) == 92) = (c == 92) := toNat_beq c 92
      cases h34 : (c == 34)
      · rw [h34] at hc34
        cases h92 : (c == 92)
        · rw [h92] at hc92
          cases hp : plainB c.toNat
          · have hq : Hid (quoteB c = [92, 120, hexD (c.toNat / 16), hexD (c.toNat % 16)]) := by
              show _ = _; unfold quoteB; rw [hp]; rfl
            have hnp : (c.toNat : Int) < 32 ∨ 126 < (c.toNat : Int) := by
              unfold plainB at hp
              rw [Bool.and_eq_false_iff, decide_eq_false_iff_not, decide_eq_false_iff_not] at hp
              omega
            have e1 := hex16_cut (c.toNat / 16) (by omega)
            have e2 := hex16_cut (c.toNat % 16) (by omega)
            generalize hexD (c.toNat / 16) = x1 at *
            generalize hexD (c.toNat % 16) = x2 at *
            rcases hnp with hnp | hnp
            all_goals
              go_wp2
              go_quiet (fail)
              go_wp2
              go_roundg (gk - 1)
              case measure => omega
              case rel => exact ⟨j + 1, by omega, by go_num, by rw [Ht.out, hq.out]; rfl, Hf.out.drewN _⟩
          · have hq : Hid (quoteB c = [c]) := by
              show _ = _; unfold quoteB; rw [hp, h34, h92]; rfl
            have hnp : 32 ≤ (c.toNat : Int) ∧ (c.toNat : Int) ≤ 126 := by
              unfold plainB at hp
              rw [Bool.and_eq_true, decide_eq_true_iff, decide_eq_true_iff] at hp
              exact hp
            obtain ⟨hn1, hn2⟩ := hnp
            go_wp2
            go_roundg (gk - 1)
            case measure => omega
            case rel => exact ⟨j + 1, by omega, by go_num, by rw [Ht.out, hq.out]; rfl, Hf.out⟩
        · rw [h92] at hc92
          have hq : Hid (quoteB c = [92, c]) := by
            have : c = 92 := by simpa using h92
            subst this; rfl
          go_wp2
          go_roundg (gk - 1)
          case measure => omega
          case rel => exact ⟨j + 1, by omega, by go_num, by rw [Ht.out, hq.out]; simp, Hf.out⟩
      · rw [h34] at hc34
        have hq : Hid (quoteB c = [92, c]) := by
          have : c = 34 := by simpa using h34
          subst this; rfl
        go_wp2
        go_roundg (gk - 1)
        case measure => omega
        case rel => exact ⟨j + 1, by omega, by go_num, by rw [Ht.out, hq.out]; simp, Hf.out⟩
    · have Ht : Hid (v.take j = v) := List.take_of_length_le (by omega)
      rw [Ht.out]
      have Hx : Hid (quoteV v = [34] ++ v.flatMap quoteB ++ [34]) := rfl
      rw [Ht.out] at hal
      generalize v.flatMap quoteB = T at *
      go_wp2
      go_ret
      rw [Hx.out]
      exact ⟨ret_str (by simp), Hf.out⟩
end Go.Proofs.YtpbkgeipigcefaaGreat

namespace Go.Proofs.YtpbkgeipigcefaaGreat
open Go.RowKit

def sVB (l : List UInt8) : UInt8 × Bool × List UInt8 :=
  if sTake [92, 34] l then (34, true, sRest [92, 34] l)
  else if sTake [92, 92] l then (92, true, sRest [92, 92] l)
  else if sTake [92, 120] l then sHexB (sRest [92, 120] l)
  else match l with
    | [] => (0, false, [])
    | c :: r => if !(plainB c.toNat) || c == 92 then (0, false, c :: r) else (c, true, r)

theorem sRest_no {wd l : List UInt8} (h : sTake wd l = false) : sRest wd l = l := by
  unfold sTake at h; unfold sRest; rw [h]; simp

set_option maxHeartbeats 1000000 in
theorem takeValueByte_any (b : Nat) (t l : List UInt8) (w : World) (h : At w b t l) :
    Calls Tryz.prog 105 #[.pointer (some ⟨b, 0, none⟩)] w fun e w' => e = .returned (.tuple #[.int .u8 ((sVB l).1.toNat), .bool (sVB l).2.1]) ∧ At w' b t (sVB l).2.2 ∧ Frm [b] w w' := by
  have H : Hid (At w b t l) := h
  clear h
  go_enter Tryz.func105, Tryz.ntmps105
  go_wp2_with fail
  refine (take_any b t l [92, 34] _ H.out (by simp)).mono ?_
  rintro e w1 ⟨rfl, h1, hf1⟩
  cases ht1 : sTake [92, 34] l
  case true =>
    have Hx : Hid (sVB l = (34, true, sRest [92, 34] l)) := by
      show sVB l = _; unfold sVB; rw [ht1]; rfl
    have H1 : Hid (At w1 b t (sRest [92, 34] l) ∧ Frm [b] w w1) := ⟨h1, hf1⟩
    clear h1 hf1
    go_wp2
    go_ret2
    rw [Hx.out]
    exact ⟨rfl, H1.out.1, H1.out.2⟩
  case false =>
  rw [sRest_no ht1] at h1
  have H1 : Hid (At w1 b t l) := h1
  have HF1 : Hid (Frm [b] w w1) := hf1
  have T1 : Hid (sTake [92, 34] l = false) := ht1
  clear h1 hf1
  go_wp2_with fail
  refine (take_any b t l [92, 92] _ H1.out (by simp)).mono ?_
  rintro e w2 ⟨rfl, h2, hf2⟩
  have HF2 : Hid (Frm [b] w w2) := HF1.out.trans hf2
  clear hf2 ht1
  cases ht2 : sTake [92, 92] l
  case true =>
    have Hx : Hid (sVB l = (92, true, sRest [92, 92] l)) := by
      show sVB l = _; unfold sVB; rw [T1.out, ht2]; rfl
    have H2 : Hid (At w2 b t (sRest [92, 92] l)) := h2
    clear h2
    go_wp2
    go_ret2
    rw [Hx.out]
    exact ⟨rfl, H2.out, HF2.out⟩
  case false =>
  rw [sRest_no ht2] at h2
  have H2 : Hid (At w2 b t l) := h2
  have T2 : Hid (sTake [92, 92] l = false) := ht2
  clear h2
  go_wp2_with fail
  refine (take_any b t l [92, 120] _ H2.out (by simp)).mono ?_
  rintro e w3 ⟨rfl, h3, hf3⟩
  have HF3 : Hid (Frm [b] w w3) := HF2.out.trans hf3
  clear hf3 ht2
  cases ht3 : sTake [92, 120] l
  case true =>
    have Hx : Hid (sVB l = sHexB (sRest [92, 120] l)) := by
      show sVB l = _; unfold sVB; rw [T1.out, T2.out, ht3]; rfl
    have H3 : Hid (At w3 b t (sRest [92, 120] l)) := h3
    clear h3
    go_wp2_with fail
    refine (takeHexByte_any b t _ _ H3.out).mono ?_
    rintro e w4 ⟨rfl, h4, hf4⟩
    have H4 : Hid (At w4 b t (sHexB (sRest [92, 120] l)).2.2) := h4
    have HF4 : Hid (Frm [b] w w4) := HF3.out.trans hf4
    clear h4 hf4
    go_wp2
    go_ret2
    rw [Hx.out]
    exact ⟨rfl, H4.out, HF4.out⟩
  case false =>
  rw [sRest_no ht3] at h3
  have T3 : Hid (sTake [92, 120] l = false) := ht3
  obtain ⟨i, h5, h6⟩ := h3
  have c1 := h5.c1
  have hf := h5.fz 1
  have hi := h5.2.1
  have ht := h5.2.2
  have H5 : Hid (SC w3 b t i) := h5
  have H6 : Hid (List.drop i t = l) := h6
  clear h5 h6 ht3
  cases l with
  | nil =>
    have hn : plainB 0 = false := rfl
    have h0 : hd [] = 0 := rfl
    go_wp2_with (first | (go_at_call 86; refine (peek_any _ _ _ _ ⟨i, H5.out, H6.out⟩).mono ?_; rintro e w' ⟨rfl, n, rfl⟩) | (go_at_call 115; refine (isPlain_any _ _).mono ?_; rintro e w' ⟨rfl, rfl⟩))
    go_ret2
    exact ⟨rfl, ⟨i, H5.out.drewN _, H6.out⟩, HF3.out.drewN _⟩
  | cons c r =>
    have hc := hd_cons c r
    have hu := u8i c
    have hil : i < t.length := at_len H6.out
    by_cases hx : plainB c.toNat = true ∧ ((c.toNat : Int) == 92) = false
    · obtain ⟨hp, h92⟩ := hx
      have Hx : Hid (sVB (c :: r) = (c, true, r)) := by
        show sVB (c :: r) = _; unfold sVB; rw [T1.out, T2.out, T3.out]
        have : (c == 92) = false := by
          rw [beq_eq_false_iff_ne] at h92 ⊢; intro e; subst e; exact h92 rfl
        simp [hp, this]
      go_wp2_with (first | (go_at_call 86; refine (peek_any _ _ _ _ ⟨i, H5.out, H6.out⟩).mono ?_; rintro e w' ⟨rfl, n, rfl⟩) | (go_at_call 115; refine (isPlain_any _ _).mono ?_; rintro e w' ⟨rfl, rfl⟩))
      go_ret2
      rw [Hx.out]
      exact ⟨rfl, at_set (l := r) (H5.out.drewN _) H6.out, (HF3.out.drewN _).setCell (by simp) _⟩
    · have Hx : Hid (sVB (c :: r) = (0, false, c :: r)) := by
        show sVB (c :: r) = _; unfold sVB; rw [T1.out, T2.out, T3.out]
        by_cases hp : plainB c.toNat = true
        · have h92 : c = 92 := by
            by_cases e : c = 92
            · exact e
            · exact absurd ⟨hp, beq_eq_false_iff_ne.2 (fun h => e (UInt8.toNat_inj.1 (by simpa using (Int.ofNat_inj.1 h))))⟩ hx
          simp [h92]
        · simp [hp]
      have hx' : plainB c.toNat = false ∨ ((c.toNat : Int) == 92) = true := by
        cases h1 : plainB c.toNat <;> cases h2 : ((c.toNat : Int) == 92) <;> simp_all
      clear hx
      rcases hx' with hp | h92
      · go_wp2_with (first | (go_at_call 86; refine (peek_any _ _ _ _ ⟨i, H5.out, H6.out⟩).mono ?_; rintro e w' ⟨rfl, n, rfl⟩) | (go_at_call 115; refine (isPlain_any _ _).mono ?_; rintro e w' ⟨rfl, rfl⟩))
        go_ret2
        rw [Hx.out]
        exact ⟨rfl, ⟨i, H5.out.drewN _, H6.out⟩, HF3.out.drewN _⟩
      · cases hp : plainB c.toNat
        all_goals
          go_wp2_with (first | (go_at_call 86; refine (peek_any _ _ _ _ ⟨i, H5.out, H6.out⟩).mono ?_; rintro e w' ⟨rfl, n, rfl⟩) | (go_at_call 115; refine (isPlain_any _ _).mono ?_; rintro e w' ⟨rfl, rfl⟩))
          go_ret2
          rw [Hx.out]
          exact ⟨rfl, ⟨i, H5.out.drewN _, H6.out⟩, HF3.out.drewN _⟩

end Go.Proofs.YtpbkgeipigcefaaGreat

namespace Go.Proofs.YtpbkgeipigcefaaGreat
open Go.RowKit

def valL : Nat → List UInt8 → List UInt8 → List UInt8 × Bool × List UInt8
  | 0, _, l => ([], false, l)
  | n + 1, acc, l =>
    if sTake [34] l then (acc, true, sRest [34] l)
    else if !(sVB l).2.1 || decide (40 ≤ acc.length) then ([], false, (sVB l).2.2)
    else valL n (acc ++ [(sVB l).1]) (sVB l).2.2

def sVal (l : List UInt8) : List UInt8 × Bool × List UInt8 :=
  if sTake [34] l then valL (l.length + 1) [] (sRest [34] l) else ([], false, l)

theorem sRest_le (wd l : List UInt8) : (sRest wd l).length ≤ l.length := by unfold sRest; split <;> simp
theorem sHexD_len (l : List UInt8) : (sHexD l).2.2.length ≤ l.length := by
  unfold sHexD; cases l with
  | nil => simp
  | cons c r =>
    dsimp only
    split
    · simp
    · split <;> simp
theorem sHexB_len (l : List UInt8) : (sHexB l).2.2.length ≤ l.length := Nat.le_trans (sHexD_len _) (sHexD_len _)
theorem sTake_len {wd l : List UInt8} (h : sTake wd l = true) : (sRest wd l).length + wd.length = l.length := by
  unfold sTake at h
  have := (List.isPrefixOf_iff_prefix.1 h).length_le
  unfold sRest; rw [if_pos h]; simp; omega
theorem sVB_len (l : List UInt8) (h : (sVB l).2.1 = true) : (sVB l).2.2.length < l.length := by
  unfold sVB at h ⊢
  by_cases h1 : sTake [92, 34] l = true
  · rw [if_pos h1]; have := sTake_len h1; simp at this ⊢; omega
  rw [if_neg h1] at h ⊢
  by_cases h2 : sTake [92, 92] l = true
  · rw [if_pos h2]; have := sTake_len h2; simp at this ⊢; omega
  rw [if_neg h2] at h ⊢
  by_cases h3 : sTake [92, 120] l = true
  · rw [if_pos h3]; have := sTake_len h3; have := sHexB_len (sRest [92, 120] l); simp at *; omega
  rw [if_neg h3] at h ⊢
  cases l with
  | nil => simp at h
  | cons c r =>
    dsimp only at h ⊢
    split at h
    · simp at h
    · rename_i hx; rw [if_neg hx]; simp
set_option maxRecDepth 100000 in
set_option maxHeartbeats 1000000 in
theorem takeValue_any (b : Nat) (t l : List UInt8) (w : World) (h : At w b t l) :
    Calls Tryz.prog 97 #[.pointer (some ⟨b, 0, none⟩)] w fun e w' => e = .returned (.tuple #[.string (bs (sVal l).1), .bool (sVal l).2.1]) ∧ At w' b t (sVal l).2.2 ∧ Frm [b] w w' := by
  have hb := h.lt
  have H : Hid (At w b t l) := h
  clear h
  obtain ⟨i0, hi, hz0, hz1, hz2⟩ := info_parts infoU8
  go_enter Tryz.func97, Tryz.ntmps97
  go_wp2_with fail
  refine (take_any b t l [34] _ H.out (by simp)).mono ?_
  rintro e w1 ⟨rfl, h1, hf1⟩
  cases ht1 : sTake [34] l
  case false =>
    have Hx : Hid (sVal l = ([], false, l)) := by
      show sVal l = _; unfold sVal; rw [ht1]; rfl
    rw [sRest_no ht1] at h1
    have H1 : Hid (At w1 b t l ∧ Frm [b] w w1) := ⟨h1, hf1⟩
    clear h1 hf1
    go_wp2
    go_ret2
    rw [Hx.out]
    exact ⟨rfl, H1.out.1, H1.out.2⟩
  case true =>
  have Hx : Hid (sVal l = valL (l.length + 1) [] (sRest [34] l)) := by
    show sVal l = _; unfold sVal; rw [ht1]; rfl
  have hs1 := hf1.size
  have H1 : Hid (At w1 b t (sRest [34] l) ∧ Frm [b] w w1) := ⟨h1, hf1⟩
  clear h1 hf1
  go_wp2_with fail
  go_loopg [4] (l.length + 1) (fun k v wr => ∃ acc l' g cap, v = .slice (some ⟨g, 0, none⟩) acc.length cap ∧ wr.ownsRow w.heap.size 5 1 v acc.length (byt acc) ∧ acc.length ≤ 40 ∧ l'.length < k ∧ valL k acc l' = valL (l.length + 1) [] (sRest [34] l) ∧ At wr b t l' ∧ Frm [b] w wr)
  case atStart =>
    refine ⟨[], sRest [34] l, _, _, rfl, ?_, by simp, Nat.lt_succ_of_le (sRest_le _ _), rfl, H1.out.1.frm (S := []) ((Frm.refl _ _).alloc _) (by simp), H1.out.2.alloc _⟩
    exact World.ownsRow_lit _ #[] 0 hs1 (by unfold maxLen; omega) (by simp)
  case round =>
    obtain ⟨acc, l', g, cap, rfl, hown, hac, hlk, hv, hat, hfr⟩ := hrel
    have Ho : Hid (wr.ownsRow w.heap.size 5 1 (.slice (some ⟨g, 0, none⟩) acc.length cap) acc.length (byt acc)) := hown
    have Hv : Hid (valL gk acc l' = valL (l.length + 1) [] (sRest [34] l)) := hv
    have Ha : Hid (At wr b t l') := hat
    have Hf : Hid (Frm [b] w wr) := hfr
    clear hown hv hat hfr
    obtain ⟨m, rfl⟩ : ∃ m, gk = m + 1 := ⟨gk - 1, by omega⟩
    go_wp2_with fail
    refine (take_any b t l' [34] _ Ha.out (by simp)).mono ?_
    rintro e w2 ⟨rfl, h2, hf2⟩
    cases ht2 : sTake [34] l'
    case true =>
      have Hx2 : Hid (sVal l = (acc, true, sRest [34] l')) := by
        show sVal l = _
        rw [Hx.out, ← Hv.out]; unfold valL; rw [ht2]; rfl
      have H2 : Hid (At w2 b t (sRest [34] l') ∧ Frm [b] w w2) := ⟨h2, Hf.out.trans hf2⟩
      have hown2 := own_frm Ho.out hf2 (by simp; omega)
      have hlen : acc.length = (acc).length := rfl
      have hcv := run_convert_bytes_back (P := Tryz.prog) w2 107 9 5 ⟨g, 0, none⟩ cap acc Tryz.underlying107 Tryz.underlying5 Tryz.underlying9 (fun j hj => by
        refine hown2.cells rfl j _ ?_
        simp [byt, hj])
      clear h2 hf2 hown2
      go_wp2
      go_ret2
      rw [Hx2.out]
      exact ⟨rfl, H2.out.1, H2.out.2⟩
    case false =>
    rw [sRest_no ht2] at h2
    have H2 : Hid (At w2 b t l') := h2
    have Hf2 : Hid (Frm [b] w w2) := Hf.out.trans hf2
    have Ho2 : Hid (w2.ownsRow w.heap.size 5 1 (.slice (some ⟨g, 0, none⟩) acc.length cap) acc.length (byt acc)) := own_frm Ho.out hf2 (by simp; omega)
    have T2 : Hid (sTake [34] l' = false) := ht2
    clear h2 hf2 Ha Hf Ho
    go_wp2_with fail
    refine (takeValueByte_any b t l' _ H2.out).mono ?_
    rintro e w3 ⟨rfl, h3, hf3⟩
    have H3 : Hid (At w3 b t (sVB l').2.2) := h3
    have Hf3 : Hid (Frm [b] w w3) := Hf2.out.trans hf3
    have Ho3 : Hid (w3.ownsRow w.heap.size 5 1 (.slice (some ⟨g, 0, none⟩) acc.length cap) acc.length (byt acc)) := own_frm Ho2.out hf3 (by simp; omega)
    have hs3 := Hf3.out.size
    clear h3 hf3 H2 Hf2 Ho2 ht2
    cases hok : (sVB l').2.1
    case false =>
      have Hx2 : Hid (sVal l = ([], false, (sVB l').2.2)) := by
        show sVal l = _
        rw [Hx.out, ← Hv.out]; unfold valL; rw [T2.out, hok]; rfl
      go_wp2
      go_ret2
      rw [Hx2.out]
      exact ⟨rfl, H3.out, Hf3.out⟩
    case true =>
    have hvl := sVB_len l' hok
    by_cases h40 : 40 ≤ acc.length
    · have Hx2 : Hid (sVal l = ([], false, (sVB l').2.2)) := by
        show sVal l = _
        rw [Hx.out, ← Hv.out]; unfold valL; rw [T2.out, hok]; simp [h40]
      go_wp2
      go_ret2
      rw [Hx2.out]
      exact ⟨rfl, H3.out, Hf3.out⟩
    · have Hv2 : Hid (valL m (acc ++ [(sVB l').1]) (sVB l').2.2 = valL (l.length + 1) [] (sRest [34] l)) := by
        show valL m (acc ++ [(sVB l').1]) (sVB l').2.2 = _
        rw [← Hv.out]; conv => rhs; unfold valL
        rw [T2.out, hok]; simp [h40]
      clear Hv T2
      generalize hsv : sVB l' = x at *
      obtain ⟨x1, x2, x3⟩ := x
      simp only at hok hvl Hv2 H3
      subst hok
      have hown3 := Ho3.out
      go_wp2_with (first | (at_builtin; refine wpList_append_own _ rfl _ _ 107 rfl w.heap.size 5 i0 (.int .u8 0) 1 1 Tryz.underlying107 hi hz0 hz1 hz2 rfl (by decide) (.slice (some ⟨g, 0, none⟩) acc.length cap) _ _ rfl (hown3.alloc _) ⟨w3.heap.size, 0, none⟩ 1 1 [.int .u8 x1.toNat] rfl rfl (cell_one_new _ _ _) (fun x hx => by simp at hx; subst hx; rfl) (by unfold maxLen; omega) (by omega) (by simp; omega) ?_; intro v' w4 hown4 hg4 hnil4))
      go_roundg m
      case measure => omega
      case rel =>
        obtain ⟨g', cap', hv'⟩ := own_some hown4 (fun e => by have := hnil4.1 e; simp at this)
        subst hv'
        refine ⟨acc ++ [x1], x3, g', cap', by simp, ?_, by simp; omega, by omega, Hv2.out, ?_, ?_⟩
        · simpa [byt] using hown4
        · refine At.frm (S := [g]) ?_ (Frm.of_grown (w := w3.alloc (.cells #[.int .u8 x1.toNat] 5)) hg4) ?_
          · exact H3.out.frm (S := []) ((Frm.refl _ _).alloc _) (by simp)
          · have := (Ho3.out.lt g rfl).1; simp; omega
        · exact (Hf3.out.alloc _).grown hg4 (fun k hk => by
            simp [Value.ownBlock] at hk; subst hk; exact Or.inr (Ho3.out.lt g rfl).1)

end Go.Proofs.YtpbkgeipigcefaaGreat

namespace Go.Proofs.YtpbkgeipigcefaaGreat
open Go.RowKit

def numL : List UInt8 → Nat → Nat × Bool × List UInt8
  | [], n => (n, true, [])
  | c :: r, n => if dgB c then (if 99999 < n * 10 + (c.toNat - 48) then (0, false, c :: r) else numL r (n * 10 + (c.toNat - 48))) else (n, true, c :: r)
def sNum (l : List UInt8) : Nat × Bool × List UInt8 :=
  if sTake [48] l then (0, true, sRest [48] l) else if !(digB (hd l)) then (0, false, l) else numL l 0

set_option maxRecDepth 100000 in
set_option maxHeartbeats 1000000 in
theorem takeNumber_any (b : Nat) (t l : List UInt8) (w : World) (h : At w b t l) :
    Calls Tryz.prog 95 #[.pointer (some ⟨b, 0, none⟩)] w fun e w' => e = .returned (.tuple #[.int .i64 (sNum l).1, .bool (sNum l).2.1]) ∧ At w' b t (sNum l).2.2 ∧ Frm [b] w w' := by
  have H : Hid (At w b t l) := h
  clear h
  go_enter Tryz.func95, Tryz.ntmps95
  go_wp2_with fail
  refine (take_any b t l [48] _ H.out (by simp)).mono ?_
  rintro e w1 ⟨rfl, h1, hf1⟩
  cases ht1 : sTake [48] l
  case true =>
    have Hx : Hid (sNum l = (0, true, sRest [48] l)) := by
      show sNum l = _; unfold sNum; rw [ht1]; rfl
    have H1 : Hid (At w1 b t (sRest [48] l) ∧ Frm [b] w w1) := ⟨h1, hf1⟩
    clear h1 hf1
    go_wp2
    go_ret2
    rw [Hx.out]
    exact ⟨rfl, H1.out.1, H1.out.2⟩
  case false =>
  rw [sRest_no ht1] at h1
  have H1 : Hid (At w1 b t l) := h1
  have HF1 : Hid (Frm [b] w w1) := hf1
  have T1 : Hid (sTake [48] l = false) := ht1
  clear h1 hf1 ht1
  go_wp2_with fail
  refine (peek_any b t l _ H1.out).mono ?_
  rintro e w' ⟨rfl, n, rfl⟩
  cases hd0 : digB (hd l)
  case false =>
    have Hx : Hid (sNum l = (0, false, l)) := by
      show sNum l = _; unfold sNum; rw [T1.out, hd0]; rfl
    go_wp2_with (go_at_call 65; refine (isDigit_any _ _).mono ?_; rintro e w' ⟨rfl, rfl⟩)
    go_ret2
    rw [Hx.out]
    exact ⟨rfl, H1.out.frm (S := []) ((Frm.refl _ _).drewN _) (by simp), HF1.out.drewN _⟩
  case true =>
  have Hx : Hid (sNum l = numL l 0) := by
    show sNum l = _; unfold sNum; rw [T1.out, hd0]; rfl
  go_wp2_with (go_at_call 65; refine (isDigit_any _ _).mono ?_; rintro e w' ⟨rfl, rfl⟩)
  go_loopg [4] l.length (fun k v wr => ∃ (l' : List UInt8) (x : Nat), v = .int .i64 x ∧ x ≤ 99999 ∧ l'.length ≤ k ∧ numL l' x = numL l 0 ∧ At wr b t l' ∧ Frm [b] w wr)
  case atStart => exact ⟨l, 0, rfl, by omega, Nat.le_refl _, rfl, H1.out.frm (S := []) ((Frm.refl _ _).drewN _) (by simp), HF1.out.drewN _⟩
  case round =>
    obtain ⟨l', x, rfl, hx, hlk, hv, ⟨i, h5, h6⟩, hfr⟩ := hrel
    have c1 := h5.c1
    have hf := h5.fz 1
    have hi := h5.2.1
    have ht := h5.2.2
    have H5 : Hid (SC wr b t i) := h5
    have H6 : Hid (List.drop i t = l') := h6
    have Hv : Hid (numL l' x = numL l 0) := hv
    have Hf : Hid (Frm [b] w wr) := hfr
    clear h5 h6 hv hfr H1 HF1 hd0
    cases l' with
    | nil =>
      have hn : digB (hd []) = false := rfl
      have h0 : hd [] = 0 := rfl
      have Hx2 : Hid (sNum l = (x, true, [])) := by show sNum l = _; rw [Hx.out, ← Hv.out]; rfl
      go_wp2_with (first | (go_at_call 86; refine (peek_any _ _ _ _ ⟨i, H5.out, H6.out⟩).mono ?_; rintro e w' ⟨rfl, n, rfl⟩) | (go_at_call 65; refine (isDigit_any _ _).mono ?_; rintro e w' ⟨rfl, rfl⟩))
      go_ret2
      rw [Hx2.out]
      exact ⟨rfl, ⟨i, H5.out.drewN _, H6.out⟩, Hf.out.drewN _⟩
    | cons c r =>
      have hc := hd_cons c r
      have hu := u8i c
      have hil : i < t.length := at_len H6.out
      cases hdd : digB (c.toNat : Int)
      case false =>
        have Hx2 : Hid (sNum l = (x, true, c :: r)) := by
          show sNum l = _; rw [Hx.out, ← Hv.out]; unfold numL; simp [dgB, hdd]
        go_wp2_with (first | (go_at_call 86; refine (peek_any _ _ _ _ ⟨i, H5.out, H6.out⟩).mono ?_; rintro e w' ⟨rfl, n, rfl⟩) | (go_at_call 65; refine (isDigit_any _ _).mono ?_; rintro e w' ⟨rfl, rfl⟩))
        go_ret2
        rw [Hx2.out]
        exact ⟨rfl, ⟨i, H5.out.drewN _, H6.out⟩, Hf.out.drewN _⟩
      case true =>
        have hb : 48 ≤ (c.toNat : Int) ∧ (c.toNat : Int) ≤ 57 := by simpa [digB] using hdd
        obtain ⟨hb1, hb2⟩ := hb
        have hun : numL (c :: r) x = (if 99999 < x * 10 + (c.toNat - 48) then (0, false, c :: r) else numL r (x * 10 + (c.toNat - 48))) := by
          conv => lhs; unfold numL
          simp [dgB, hdd]
        have Hun : Hid (numL (c :: r) x = (if 99999 < x * 10 + (c.toNat - 48) then (0, false, c :: r) else numL r (x * 10 + (c.toNat - 48)))) := hun
        clear hun
        simp only [List.length_cons] at hlk
        by_cases hbig : 99999 < x * 10 + (c.toNat - 48)
        · have Hx2 : Hid (sNum l = (0, false, c :: r)) := by
            show sNum l = _; rw [Hx.out, ← Hv.out, Hun.out, if_pos hbig]
          have hbi : (99999 : Int) < (x : Int) * 10 + ((c.toNat : Int) - 48) := by omega
          go_wp2_with (first | (go_at_call 86; refine (peek_any b t (c :: r) _ (At.frm (S := []) ⟨i, H5.out, H6.out⟩ (by first | exact Frm.refl _ _ | exact (Frm.refl _ _).drewN _) (by simp))).mono ?_; rintro e w' ⟨rfl, n, rfl⟩) | (go_at_call 65; refine (isDigit_any _ _).mono ?_; rintro e w' ⟨rfl, rfl⟩))
          go_ret2
          rw [Hx2.out]
          exact ⟨rfl, ⟨i, H5.out.drewN _, H6.out⟩, Hf.out.drewN _⟩
        · have Hv2 : Hid (numL r (x * 10 + (c.toNat - 48)) = numL l 0) := by
            show numL r _ = _; rw [← Hv.out, Hun.out, if_neg hbig]
          have hbi : (x : Int) * 10 + ((c.toNat : Int) - 48) ≤ 99999 := by omega
          go_wp2_with (first | (go_at_call 86; refine (peek_any b t (c :: r) _ (At.frm (S := []) ⟨i, H5.out, H6.out⟩ (by first | exact Frm.refl _ _ | exact (Frm.refl _ _).drewN _) (by simp))).mono ?_; rintro e w' ⟨rfl, n, rfl⟩) | (go_at_call 65; refine (isDigit_any _ _).mono ?_; rintro e w' ⟨rfl, rfl⟩))
          go_roundg (gk - 1)
          case measure => omega
          case rel =>
            refine ⟨r, x * 10 + (c.toNat - 48), ?_, by omega, by omega, Hv2.out, at_set (l := r) (H5.out.drewN _) H6.out, (Hf.out.drewN _).setCell (by simp) _⟩
            congr 1; omega

end Go.Proofs.YtpbkgeipigcefaaGreat

