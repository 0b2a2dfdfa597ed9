import Derived.Test.YthlemieldfbbfabM12
namespace Go.Proofs.Ythlemieldfbbfab
open Go.RowKit
set_option linter.unusedVariables false
set_option linter.unusedSimpArgs false
set_option linter.unnecessarySimpa false

theorem stands_eq (nr nt n i op x a b : Nat) : stands nr nt n i ⟨op, x, a, b⟩ = if op = 0 then (((x : Int) == 0) && ((a : Int) == 0) && ((b : Int) == 0)) else if op = 1 then (decide (x < nr) && (decide (i < a) && decide (a < n)) && ((b : Int) == 0)) else if op = 2 then (decide (x < nt) && (decide (i < a) && decide (a < n)) && (decide (i < b) && decide (b < n))) else false := by
  have z : ∀ k : Nat, ((k : Int) == 0) = (k == 0) := fun k => by rw [Bool.eq_iff_iff, beq_iff_eq, beq_iff_eq]; omega
  simp only [z]
  unfold stands
  match op with
  | 0 => rfl
  | 1 => rfl
  | 2 => rfl
  | k + 3 => simp

set_option maxRecDepth 100000 in
set_option maxHeartbeats 8000000 in
theorem mayStand_any (g o : Nat) (nr nt n i : Nat) (x : InM) (w : World) (at1 ar1 : Option Addr) (ct cr : Nat) (h3 : w.cell? ⟨g, o + 3, none⟩ = some (.slice at1 nt ct)) (h4 : w.cell? ⟨g, o + 4, none⟩ = some (.slice ar1 nr cr)) :
    Calls Try.prog 65 #[.pointer (some ⟨g, o, none⟩), .agg (icell x), .int .i64 (i : Nat), .int .i64 (n : Nat)] w fun e w' => e = .returned (.bool (stands nr nt n i x)) ∧ Frm [] w w' := by
  obtain ⟨op, x, a, b⟩ := x
  have HS := hide (stands_eq nr nt n i op x a b)
  have hg := World.block_lt_of_cell? w _ h3
  have g3 : ∀ ob, (w.alloc ob).cell? ⟨g, o + 3, none⟩ = some (.slice at1 nt ct) := fun ob => (((Frm.refl [] w).alloc ob).cell (p := ⟨g, o + 3, none⟩) hg (by simp)).trans h3
  have g4 : ∀ ob, (w.alloc ob).cell? ⟨g, o + 4, none⟩ = some (.slice ar1 nr cr) := fun ob => (((Frm.refl [] w).alloc ob).cell (p := ⟨g, o + 4, none⟩) hg (by simp)).trans h4
  obtain ⟨p1, e1⟩ : ∃ p, decide (i < a) = p := ⟨_, rfl⟩
  obtain ⟨p2, e2⟩ : ∃ p, decide (a < n) = p := ⟨_, rfl⟩
  obtain ⟨p3, e3⟩ : ∃ p, decide (i < b) = p := ⟨_, rfl⟩
  obtain ⟨p4, e4⟩ : ∃ p, decide (b < n) = p := ⟨_, rfl⟩
  obtain ⟨q1, f1⟩ : ∃ p, decide (x < nr) = p := ⟨_, rfl⟩
  obtain ⟨q2, f2⟩ : ∃ p, decide (x < nt) = p := ⟨_, rfl⟩
  obtain ⟨z1, y1⟩ : ∃ p, ((x : Int) == 0) = p := ⟨_, rfl⟩
  obtain ⟨z2, y2⟩ : ∃ p, ((a : Int) == 0) = p := ⟨_, rfl⟩
  obtain ⟨z3, y3⟩ : ∃ p, ((b : Int) == 0) = p := ⟨_, rfl⟩
  have HS2 : Hid (stands nr nt n i ⟨op, x, a, b⟩ = if op = 0 then (z1 && z2 && z3) else if op = 1 then (q1 && (p1 && p2) && z3) else if op = 2 then (q2 && (p1 && p2) && (p3 && p4)) else false) := by
    show _ = _; rw [HS.out, e1, e2, e3, e4, f1, f2, y1, y2, y3]
  clear HS h3 h4
  by_cases h0 : op = 0
  · have HV : Hid (stands nr nt n i ⟨op, x, a, b⟩ = (z1 && z2 && z3)) := by show _ = _; rw [HS2.out, if_pos h0]
    clear HS2
    subst h0
    cases p1 <;> cases p3 <;> cases z1 <;> cases z2
    all_goals
      go_enter Try.func65, Try.ntmps65
      simp only [icell]
      go_wp2
      go_ret
      rw [HV.out]
      exact ⟨rfl, (Frm.refl _ _).alloc _⟩
  have b0 : ((op : Int) == 0) = false := by rw [beq_eq_false_iff_ne]; omega
  by_cases h1 : op = 1
  · have HV : Hid (stands nr nt n i ⟨op, x, a, b⟩ = (q1 && (p1 && p2) && z3)) := by show _ = _; rw [HS2.out, if_neg h0, if_pos h1]
    clear HS2 h0 b0
    subst h1
    cases p1 <;> cases p2 <;> cases p3 <;> cases q1
    all_goals
      go_enter Try.func65, Try.ntmps65
      simp only [icell]
      go_wp2_with fail
      go_quiet (fail)
      go_wp2
      go_ret
      rw [HV.out]
      exact ⟨rfl, ((Frm.refl _ _).alloc _).drewN _⟩
  have b1 : ((op : Int) == 1) = false := by rw [beq_eq_false_iff_ne]; omega
  by_cases h2 : op = 2
  · have HV : Hid (stands nr nt n i ⟨op, x, a, b⟩ = (q2 && (p1 && p2) && (p3 && p4))) := by show _ = _; rw [HS2.out, if_neg h0, if_neg h1, if_pos h2]
    clear HS2 h0 b0 h1 b1
    subst h2
    cases p1 <;> cases p2 <;> cases p3 <;> cases q2
    all_goals
      go_enter Try.func65, Try.ntmps65
      simp only [icell]
      go_wp2_with fail
      go_quiet (fail)
      go_wp2
      go_ret
      rw [HV.out]
      exact ⟨rfl, ((Frm.refl _ _).alloc _).drewN _⟩
  have b2 : ((op : Int) == 2) = false := by rw [beq_eq_false_iff_ne]; omega
  have HV : Hid (stands nr nt n i ⟨op, x, a, b⟩ = false) := by show _ = _; rw [HS2.out, if_neg h0, if_neg h1, if_neg h2]
  clear HS2 h0 h1 h2
  cases p1 <;> cases p3
  all_goals
    go_enter Try.func65, Try.ntmps65
    simp only [icell]
    go_wp2
    go_ret
    rw [HV.out]
    exact ⟨rfl, (Frm.refl _ _).alloc _⟩
end Go.Proofs.Ythlemieldfbbfab
