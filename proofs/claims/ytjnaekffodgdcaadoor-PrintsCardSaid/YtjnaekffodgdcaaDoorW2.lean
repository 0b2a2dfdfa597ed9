import Derived.Test.YtjnaekffodgdcaaDoorW1
namespace Go.Proofs.YtjnaekffodgdcaaDoor
open Go.RowKit
set_option linter.unusedVariables false
set_option linter.unusedSimpArgs false
set_option linter.unnecessarySimpa false

def nmB (c : UInt8) : Bool := nameB c.toNat
def dgB (c : UInt8) : Bool := digB c.toNat
def isNameL (n : List UInt8) : Bool := !(n.isEmpty) && decide (n.length ≤ 8) && !(digB (hd n)) && n.all nmB

theorem hd_nil : hd [] = 0 := rfl
theorem hd_cons (c : UInt8) (r : List UInt8) : hd (c :: r) = (c.toNat : Int) := rfl

set_option maxHeartbeats 400000 in
theorem IsName_any (n : List UInt8) (w : World) (hn : n.length ≤ 1048576) :
    Calls Tryd.prog 53 #[.string (bs n)] w fun e w' => e = .returned (.bool (isNameL n)) ∧ w = w' := by
  have hsz := bs_size n
  by_cases h0 : n.length = 0
  · have hg : Hid (isNameL n = false) := by
      show isNameL n = false
      rw [List.eq_nil_of_length_eq_zero h0]; rfl
    go_enter Tryd.func53, Tryd.ntmps53
    go_wp2
    go_ret
    exact ⟨ret_bool hg.out.symm, rfl⟩
  by_cases h8 : 8 < n.length
  · have hg : Hid (isNameL n = false) := by
      show isNameL n = false
      unfold isNameL; simp; intros; omega
    have hb : ((n.length : Int) == 0) = false := beq_eq_false_iff_ne.2 (by omega)
    go_enter Tryd.func53, Tryd.ntmps53
    go_wp2
    go_ret
    exact ⟨ret_bool hg.out.symm, rfl⟩
  have hb : ((n.length : Int) == 0) = false := beq_eq_false_iff_ne.2 (by omega)
  have hd8 : decide ((8 : Int) < (n.length : Int)) = false := decide_eq_false (by omega)
  have hd9 : decide (8 < n.length) = false := decide_eq_false (by omega)
  have hh : Hid (hd n = (n[0].toNat : Int)) := hd_drop n 0 (by omega)
  have hbg : (bs n)[0]'(by rw [hsz]; omega) = n[0] := rfl
  generalize hn0 : n[0] = c0 at hbg hh
  have Hn0 : Hid (n[0] = c0) := hn0
  clear hn0
  cases hd0 : digB c0.toNat
  · go_enter Tryd.func53, Tryd.ntmps53
    go_wp2_with (go_at_call 60; refine (isDigit_any _ _).mono ?_; rintro e w' ⟨rfl, rfl⟩)
    go_loopg [3] n.length (fun k i wr => ∃ j, j + k = n.length ∧ i = .int .i64 j ∧ wr = w ∧ (n.take j).all nmB = true)
    case atStart => exact ⟨0, by omega, rfl, rfl, by simp⟩
    case round =>
      obtain ⟨j, hj, rfl, rfl, hal⟩ := hrel
      by_cases hlt : j < n.length
      · have hbg2 : (bs n)[j]'(by rw [hsz]; omega) = n[j] := rfl
        generalize hnj : n[j] = cj at hbg2
        have Hnj : Hid (n[j] = cj) := hnj
        clear hnj
        cases hn2 : nameB cj.toNat
        · have hg : Hid (isNameL n = false) := by
            show isNameL n = false
            have : n.all nmB = false := by
              rw [Bool.eq_false_iff]; intro ha
              have := List.all_eq_true.1 ha (n[j]'hlt) (List.getElem_mem _)
              unfold nmB at this; rw [Hnj.out, hn2] at this; cases this
            unfold isNameL; rw [this]; simp
          have Hal : Hid ((n.take j).all nmB = true) := hal
          clear hal hh
          go_wp2_with (go_at_call 51; refine (isNameByte_any _ _).mono ?_; rintro e w' ⟨rfl, rfl⟩)
          go_ret
          exact ⟨ret_bool hg.out.symm, rfl⟩
        · have Hal : Hid ((n.take (j+1)).all nmB = true) := by
            show (n.take (j+1)).all nmB = true
            rw [List.take_succ_eq_append_getElem hlt, List.all_append, hal]; simp [nmB, hn2, Hnj.out]
          clear hal hh
          go_wp2_with (go_at_call 51; refine (isNameByte_any _ _).mono ?_; rintro e w' ⟨rfl, rfl⟩)
          go_roundg (gk - 1)
          case measure => omega
          case rel => exact ⟨j + 1, by omega, by go_num, rfl, Hal.out⟩
      · have hg : Hid (isNameL n = true) := by
          show isNameL n = true
          unfold isNameL
          have : n.take j = n := List.take_of_length_le (by omega)
          rw [this] at hal
          rw [hal, hh.out, hd0]; simp; exact ⟨by intro e; simp [e] at h0, by omega⟩
        clear hal hh
        go_wp2
        go_ret
        exact ⟨ret_bool hg.out.symm, rfl⟩
  · have hg : Hid (isNameL n = false) := by
      show isNameL n = false
      unfold isNameL; rw [hh.out, hd0]; simp
    go_enter Tryd.func53, Tryd.ntmps53
    go_wp2_with (go_at_call 60; refine (isDigit_any _ _).mono ?_; rintro e w' ⟨rfl, rfl⟩)
    go_ret
    exact ⟨ret_bool hg.out.symm, rfl⟩

end Go.Proofs.YtjnaekffodgdcaaDoor
