import Derived.Test.YtimjjlgpbkljoaaGreatK22
namespace Go.Proofs.YtimjjlgpbkljoaaGreat
open Go.RowKit
set_option linter.unusedVariables false
set_option linter.unusedSimpArgs false
set_option linter.unnecessarySimpa false

/-- Which of n the number speaks of. -/
def pickZ (c : Int) (n : Nat) : Nat := ((if c < 0 then -(c + 1) else c) % n).toNat

set_option maxRecDepth 100000 in
set_option maxHeartbeats 1000000 in
theorem pick_any (c : Int) (w : World) (h0 : -9223372036854775808 ≤ c) (h1 : c ≤ 9223372036854775807) :
    Calls Tryz.prog 5 #[.int .i64 c, .int .i64 7] w fun e w' => e = .returned (.int .i64 (pickZ c 7)) ∧ w = w' := by
  by_cases hc : c < 0
  · have hd : decide (c < 0) = true := decide_eq_true hc
    have Hx : Hid ((pickZ c 7 : Int) = (-(c + 1)) % 7) := by
      show _ = _; unfold pickZ; rw [if_pos hc]; omega
    go_enter Tryz.func5, Tryz.ntmps5
    go_wp2
    go_ret
    refine ⟨ret_int ?_, rfl⟩
    rw [Hx.out, ← Int.neg_tmod, Int.tmod_eq_emod_of_nonneg (by omega)]
  · have hd : decide (c < 0) = false := decide_eq_false hc
    have Hx : Hid ((pickZ c 7 : Int) = c % 7) := by
      show _ = _; unfold pickZ; rw [if_neg hc]; omega
    go_enter Tryz.func5, Tryz.ntmps5
    go_wp2
    go_ret
    refine ⟨ret_int ?_, rfl⟩
    rw [Hx.out]

def repT (t : List UInt8) (n : Nat) : List UInt8 := (List.replicate n t).flatten
theorem repT_succ (t : List UInt8) (n : Nat) : repT t (n + 1) = repT t n ++ t := by
  unfold repT; rw [List.replicate_succ', List.flatten_append]; simp
theorem repT_len (t : List UInt8) (n : Nat) : (repT t n).length = n * t.length := by
  unfold repT; simp

set_option maxRecDepth 100000 in
set_option maxHeartbeats 1000000 in
theorem repeated_any (t : List UInt8) (n : Nat) (w : World) (ht : t.length ≤ 100) (hn : n ≤ 2000) :
    Calls Tryz.prog 6 #[.string (bs t), .int .i64 n] w fun e w' => e = .returned (.string (bs (repT t n))) ∧ w = w' := by
  have hsz := bs_size
  have hap := bs_append
  have k0 : ({ data := #[] } : ByteArray) = bs [] := rfl
  go_enter Tryz.func6, Tryz.ntmps6
  go_wp2_with fail
  go_loopg [5, 6] n (fun k vs vi wr => ∃ j : Nat, j + k = n ∧ vi = .int .i64 j ∧ vs = .string (bs (repT t j)) ∧ wr = w)
  case atStart => exact ⟨0, by omega, rfl, rfl, rfl⟩
  case round =>
    obtain ⟨j, hj, rfl, rfl, hw⟩ := hrel
    subst hw
    have Hs : Hid (repT t (j + 1) = repT t j ++ t) := repT_succ t j
    have hl : (repT t j).length ≤ 2000 * 100 := by
      rw [repT_len]; exact Nat.mul_le_mul (by omega) ht
    by_cases hlt : j < n
    · generalize repT t j = x at *
      go_wp2
      go_roundg (gk - 1)
      case measure => omega
      case rel => exact ⟨j + 1, by omega, by go_num, by rw [Hs.out], rfl⟩
    · have hjn : j = n := by omega
      subst hjn
      go_wp2
      go_ret
      exact ⟨rfl, rfl⟩

end Go.Proofs.YtimjjlgpbkljoaaGreat
