import Derived.Test.YtjnaekffodgdcaaDoorR2
namespace Go.Proofs.YtjnaekffodgdcaaDoor
open Go.RowKit
set_option linter.unusedVariables false
set_option linter.unusedSimpArgs false
set_option linter.unnecessarySimpa false

theorem numGo_snoc : ∀ (l : List UInt8) (c : UInt8) (n : Int), l.all dgB = true → dgB c = true → numGo (l ++ [c]) n = 10 * numGo l n + c.toNat - 48
  | [], c, n, _, hc => by simp [numGo, show digB c.toNat = true from hc]
  | x :: r, c, n, hl, hc => by
    simp only [List.all_cons, Bool.and_eq_true] at hl
    have hx : digB x.toNat = true := hl.1
    simp only [List.cons_append, numGo, hx, if_true]
    exact numGo_snoc r c _ hl.2 hc

set_option maxRecDepth 100000 in
set_option maxHeartbeats 1000000 in
theorem numeral_any (l : List UInt8) (w : World) (hl : l.length ≤ 1048576) :
    Calls Tryd.prog 22 #[.string (bs l)] w fun e w' => e = .returned (.int .i64 (numR l)) ∧ w = w' := by
  have hsz := bs_size l
  have htl := bs_toList
  have k0 : ({ data := #[] } : ByteArray).toList = [] := bs_toList []
  have k48 : ({ data := #[48] } : ByteArray).toList = [48] := bs_toList [48]
  go_enter Tryd.func22, Tryd.ntmps22
  go_wp2
  go_loopg [3, 4] l.length (fun k vn i wr => ∃ (j : Nat) (x : Int), j + k = l.length ∧ i = .int .i64 j ∧ vn = .int .i64 x ∧ x = numGo (l.take j) 0 ∧ 0 ≤ x ∧ x + 1 ≤ 10 ^ j ∧ (l.take j).all dgB = true ∧ (0 < j → l.length ≤ 5) ∧ wr = w)
  case atStart => exact ⟨0, 0, by omega, rfl, rfl, rfl, by omega, by simp, by simp, by omega, rfl⟩
  case round =>
    obtain ⟨j, x, hj, rfl, rfl, hx, hx0, hx1, hal, h5, hw⟩ := hrel
    subst hw
    have Hx := hide hx
    have Hal := hide hal
    have H5 := hide h5
    have hxb : l.length ≤ 5 → x ≤ 99999 := by
      intro h
      have : (10 : Int) ^ j ≤ 10 ^ 5 := by
        have : j ≤ 5 := by omega
        rcases (show j = 0 ∨ j = 1 ∨ j = 2 ∨ j = 3 ∨ j = 4 ∨ j = 5 by omega) with rfl | rfl | rfl | rfl | rfl | rfl <;> decide
      have : (10 : Int) ^ 5 = 100000 := by decide
      omega
    have Hxb := hide hxb
    have Hx1 := hide hx1
    clear hx hal h5 hxb hx1
    by_cases hlt : j < l.length
    · have hbg : (bs l)[j]'(by rw [hsz]; omega) = l[j] := rfl
      have Ht : Hid (l.take (j + 1) = l.take j ++ [l[j]]) := List.take_succ_eq_append_getElem hlt
      have Hm : Hid (l[j] ∈ l) := List.getElem_mem hlt
      have hem : l.isEmpty = false := by
        cases l with
        | nil => exact absurd hlt (Nat.not_lt_zero _)
        | cons => rfl
      generalize l[j] = c at *
      have hu := u8i c
      go_wp2_with fail
      refine (among_any c digitsL _ (by decide)).mono ?_
      rintro e w' ⟨rfl, rfl⟩
      have Hdg := hide (digits_eq c)
      by_cases h5 : 5 < l.length
      · have hg : Hid (numR l = -1) := by
          show _ = _; unfold numR; rw [hem]; simp [h5]
        have h5' : decide ((5 : Int) < (l.length : Int)) = true := decide_eq_true (by omega)
        cases hd1 : memB digitsL c
        all_goals
          go_wp2
          go_ret
          exact ⟨ret_int hg.out.symm, rfl⟩
      · have h5' : decide ((5 : Int) < (l.length : Int)) = false := decide_eq_false (by omega)
        cases hd1 : memB digitsL c
        · have hg : Hid (numR l = -1) := by
            show _ = _
            have : l.all dgB = false := by
              rw [Bool.eq_false_iff]; intro ha
              have := List.all_eq_true.1 ha c Hm.out
              unfold dgB at this; rw [← Hdg.out, hd1] at this; cases this
            unfold numR; rw [hem, this]; simp
          go_wp2
          go_ret
          exact ⟨ret_int hg.out.symm, rfl⟩
        · have hdd : dgB c = true := by unfold dgB; rw [← Hdg.out]; exact hd1
          have hcb : 48 ≤ (c.toNat : Int) ∧ (c.toNat : Int) ≤ 57 := by simpa [dgB, digB] using hdd
          have Hal2 : Hid ((l.take (j + 1)).all dgB = true) := by
            show _ = _; rw [Ht.out, List.all_append, Hal.out]; simp [hdd]
          have Hx2 : Hid (10 * x + c.toNat - 48 = numGo (l.take (j + 1)) 0) := by
            show _ = _; rw [Ht.out, numGo_snoc _ _ _ Hal.out hdd, ← Hx.out]
          have hxx := Hxb.out (by omega)
          obtain ⟨hc1, hc2⟩ := hcb
          clear hdd
          go_wp2
          go_roundg (gk - 1)
          case measure => omega
          case rel =>
            refine ⟨j + 1, 10 * x + c.toNat - 48, by omega, by go_num, rfl, Hx2.out, by omega, ?_, Hal2.out, fun _ => by omega, rfl⟩
            have := Hx1.out
            rw [Int.pow_succ]; omega
    · have hal := Hal.out
      have hx := Hx.out
      rw [List.take_of_length_le (by omega)] at hal hx
      by_cases h0 : l = []
      · subst h0
        have hg : Hid (numR [] = -1) := rfl
        have hie : (([] : List UInt8) == []) = true := rfl
        clear hal hx
        go_wp2
        go_ret
        exact ⟨ret_int hg.out.symm, rfl⟩
      · have hem : l.isEmpty = false := by
          cases l with
          | nil => exact absurd rfl h0
          | cons => rfl
        have hl0 : 0 < l.length := List.length_pos_iff.2 h0
        have hne : (l == []) = false := by simp [h0]
        have hbg : (bs l)[0]'(by rw [hsz]; omega) = l[0] := rfl
        have Hh : Hid (hd l = (l[0].toNat : Int)) := hd_drop l 0 hl0
        generalize l[0] = c at *
        have h5 := H5.out (by omega)
        have Hg : Hid (numR l = if (hd l == 48) && !(l == [48]) then -1 else numGo l 0) := by
          show _ = _; unfold numR; rw [hem, hal]; simp [show ¬ 5 < l.length by omega]
        have Hxx := hide hx
        clear hal hx
        cases hc : ((c.toNat : Int) == 48)
        · have hg : Hid (numR l = x) := by
            show _ = _; rw [Hg.out, Hh.out, hc, Hxx.out]; rfl
          go_wp2
          go_ret
          exact ⟨ret_int hg.out.symm, rfl⟩
        · cases h48 : (l == [48])
          · have hg : Hid (numR l = -1) := by
              show _ = _; rw [Hg.out, Hh.out, hc, h48]; rfl
            go_wp2
            go_ret
            exact ⟨ret_int hg.out.symm, rfl⟩
          · have hg : Hid (numR l = x) := by
              show _ = _; rw [Hg.out, Hh.out, hc, h48, Hxx.out]; rfl
            go_wp2
            go_ret
            exact ⟨ret_int hg.out.symm, rfl⟩

/-- A text, cut at a byte: outside quotes, if q. -/
def cutGo (q : Bool) (c : UInt8) : Nat → List UInt8 → Bool → List UInt8 → List (List UInt8) → List (List UInt8)
  | 0, _, _, t, out => out ++ [t]
  | _ + 1, [], _, t, out => out ++ [t]
  | k + 1, x :: r, i0, t, out =>
    let i1 := if q && x == 34 then !i0 else i0
    if i1 && x == 92 && !(r.isEmpty) then cutGo q c k (r.drop 1) i1 (t ++ ([x] ++ r.take 1)) out
    else if x == c && !i1 then cutGo q c k r i1 [] (out ++ [t])
    else cutGo q c k r i1 (t ++ [x]) out
def cutL (q : Bool) (c : UInt8) (l : List UInt8) : List (List UInt8) := cutGo q c (l.length + 1) l false [] []

end Go.Proofs.YtjnaekffodgdcaaDoor
