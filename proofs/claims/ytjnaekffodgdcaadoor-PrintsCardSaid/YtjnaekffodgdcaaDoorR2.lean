import Derived.Test.YtjnaekffodgdcaaDoorR1
namespace Go.Proofs.YtjnaekffodgdcaaDoor
open Go.RowKit
set_option linter.unusedVariables false
set_option linter.unusedSimpArgs false
set_option linter.unnecessarySimpa false

theorem dec_len' : ∀ (k n : Nat), n < 10 ^ (k + 1) → (Lib.decDigits n).length ≤ k + 1
  | 0, n, h => by rw [Lib.decDigits, dif_pos (by simpa using h)]; simp
  | k + 1, n, h => by
    rw [Lib.decDigits]
    split
    · simp
    · have := dec_len' k (n / 10) (by rw [Nat.pow_succ] at h; omega)
      simp; omega
theorem bs_one (c : UInt8) : bs [c] = ⟨#[c]⟩ := rfl

/-- 'string([]byte{c})'. -/
theorem conv_one (w : World) (c : UInt8) : (convert 69 9 (.slice (some ⟨w.heap.size, 0, none⟩) 1 1)).run Tryd.prog (w.alloc (.cells #[.int .u8 c.toNat] 5)) = .ok (.string (bs [c])) (w.alloc (.cells #[.int .u8 c.toNat] 5)) := by
  have := run_convert_bytes_back (P := Tryd.prog) (w.alloc (.cells #[.int .u8 c.toNat] 5)) 69 9 5 ⟨w.heap.size, 0, none⟩ 1 [c] Tryd.underlying69 Tryd.underlying5 Tryd.underlying9 (fun j hj => by
    have : j = 0 := by simp at hj; exact hj
    subst this
    rw [add0]; unfold World.cell?; simp only [heap1]; rfl)
  exact this

set_option maxRecDepth 100000 in
set_option maxHeartbeats 1000000 in
theorem decimal_any : ∀ (n : Nat) (w : World), n ≤ 99999 →
    Calls Tryd.prog 14 #[.int .i64 n] w fun e w' => e = .returned (.string (bs (Lib.decDigits n))) ∧ Frm [] w w' := by
  intro n
  induction n using Nat.strongRecOn with
  | _ n ih =>
    intro w hn
    have IH : Hid (∀ (m : Nat), m < n → ∀ (w : World), m ≤ 99999 → Calls Tryd.prog 14 #[.int .i64 m] w fun e w' => e = .returned (.string (bs (Lib.decDigits m))) ∧ Frm [] w w') := ih
    clear ih
    have hb : Hid ((UInt8.ofNat (48 + n % 10)).toNat = 48 + n % 10) := by
      show _ = _; simp; omega
    have hcv := conv_one w (UInt8.ofNat (48 + n % 10))
    rw [hb.out] at hcv
    have hcast : ((48 + n % 10 : Nat) : Int) = 48 + (n : Int) % 10 := by omega
    rw [hcast] at hcv
    have hsz := bs_size
    have hap := bs_append
    by_cases h10 : n < 10
    · have Hx : Hid (Lib.decDigits n = [UInt8.ofNat (48 + n % 10)]) := by
        show _ = _; rw [Lib.decDigits, dif_pos h10, Nat.mod_eq_of_lt h10]
      generalize UInt8.ofNat (48 + n % 10) = d at *
      go_enter Tryd.func14, Tryd.ntmps14
      go_wp2
      go_ret
      rw [Hx.out]
      exact ⟨rfl, (Frm.refl _ _).alloc _⟩
    · have Hx : Hid (Lib.decDigits n = Lib.decDigits (n / 10) ++ [UInt8.ofNat (48 + n % 10)]) := by
        show _ = _; rw [Lib.decDigits, dif_neg h10]
      have hdl := dec_len' 5 (n / 10) (by omega)
      generalize UInt8.ofNat (48 + n % 10) = d at *
      go_enter Tryd.func14, Tryd.ntmps14
      go_wp2_with fail
      rw [show ((n : Int) / 10) = ((n / 10 : Nat) : Int) by omega]
      refine (IH.out (n / 10) (by omega) _ (by omega)).mono ?_
      rintro e w2 ⟨rfl, hf⟩
      have Hf := hide (((Frm.refl [] w).alloc _).trans hf)
      clear hf
      generalize Lib.decDigits (n / 10) = ds at *
      go_wp2
      go_ret
      rw [Hx.out]
      exact ⟨rfl, Hf.out⟩

/-- A digit to the base 16, or -1. -/
def hexV (c : UInt8) : Int := match hexL.findIdx? (· == c) with | some i => (i : Int) | none => -1

theorem hexV_lt (c : UInt8) : -1 ≤ hexV c ∧ hexV c ≤ 15 := by
  unfold hexV
  cases h : hexL.findIdx? (· == c) with
  | none => simp
  | some i =>
    have := (List.findIdx?_eq_some_iff_getElem.1 h).1
    have : hexL.length = 16 := rfl
    simp only; omega

set_option maxRecDepth 100000 in
set_option maxHeartbeats 1000000 in
theorem digit_any (c : UInt8) (w : World) :
    Calls Tryd.prog 50 #[.int .u8 c.toNat] w fun e w' => e = .returned (.int .i64 (hexV c)) ∧ w = w' := by
  have hl16 : hexL.length = 16 := rfl
  have hsz := bs_size hexL
  have hlit : ({ data := #[48, 49, 50, 51, 52, 53, 54, 55, 56, 57, 97, 98, 99, 100, 101, 102] } : ByteArray) = bs hexL := rfl
  go_enter Tryd.func50, Tryd.ntmps50
  go_wp2
  go_loopg [3] 16 (fun k i wr => ∃ j, j + k = 16 ∧ i = .int .i64 j ∧ wr = w ∧ (∀ x ∈ hexL.take j, (x == c) = false))
  case atStart => exact ⟨0, by omega, rfl, rfl, by simp⟩
  case round =>
    obtain ⟨j, hj, rfl, hw, hal⟩ := hrel
    subst hw
    have Hal := hide hal
    clear hal
    by_cases hlt : j < 16
    · have hjl : j < hexL.length := hlt
      have hbg : (bs hexL)[j]'(by rw [hsz]; exact hjl) = hexL[j] := rfl
      have Ht : Hid (hexL.take (j + 1) = hexL.take j ++ [hexL[j]]) := List.take_succ_eq_append_getElem hjl
      have Hf : Hid ((hexL[j] == c) = true → hexV c = (j : Int)) := by
        intro he
        have : hexL.findIdx? (· == c) = some j := by
          rw [List.findIdx?_eq_some_iff_getElem]
          refine ⟨hjl, he, fun i hi => ?_⟩
          have := Hal.out (hexL[i]'(by omega)) (by rw [List.mem_take_iff_getElem]; exact ⟨i, by omega, rfl⟩)
          rw [this]; simp
        unfold hexV; rw [this]
      generalize hexL[j] = x at *
      have hbb : ((x.toNat : Int) == (c.toNat : Int)) = (x == c) := by
        rw [Bool.eq_iff_iff, beq_iff_eq, beq_iff_eq]
        constructor
        · intro h; exact UInt8.toNat_inj.1 (Int.ofNat_inj.1 h)
        · intro h; rw [h]
      cases he : (x == c)
      · rw [he] at hbb
        have Hal2 : Hid (∀ y ∈ hexL.take (j + 1), (y == c) = false) := by
          intro y hy; rw [Ht.out, List.mem_append, List.mem_singleton] at hy
          rcases hy with hy | rfl
          · exact Hal.out y hy
          · exact he
        go_wp2
        go_roundg (gk - 1)
        case measure => omega
        case rel => exact ⟨j + 1, by omega, by go_num, rfl, Hal2.out⟩
      · rw [he] at hbb
        have hg := hide (Hf.out he)
        go_wp2
        go_ret
        rw [hg.out]
        exact ⟨rfl, rfl⟩
    · have hg : Hid (hexV c = -1) := by
        show _ = _
        have h : hexL.findIdx? (· == c) = none := by
          rw [List.findIdx?_eq_none_iff]
          have := Hal.out; rw [List.take_of_length_le (by rw [hl16]; omega)] at this; exact this
        unfold hexV; rw [h]
      go_wp2
      go_ret
      rw [hg.out]
      exact ⟨rfl, rfl⟩

/-- The number that a text is, or -1. -/
def numGo : List UInt8 → Int → Int
  | [], n => n
  | c :: r, n => if digB c.toNat then numGo r (10 * n + c.toNat - 48) else -1
def numR (l : List UInt8) : Int :=
  if l.isEmpty then -1
  else if decide (5 < l.length) then -1
  else if !(l.all dgB) then -1
  else if (hd l == 48) && !(l == [48]) then -1 else numGo l 0

end Go.Proofs.YtjnaekffodgdcaaDoor
