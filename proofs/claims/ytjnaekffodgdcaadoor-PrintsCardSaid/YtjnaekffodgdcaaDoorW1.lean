import Derived.Test.YtjnaekffodgdcaaDoorBase
namespace Go.Proofs.YtjnaekffodgdcaaDoor
open Go.RowKit
set_option linter.unusedVariables false
set_option linter.unusedSimpArgs false
set_option linter.unnecessarySimpa false

def digB (c : Int) : Bool := decide (48 ≤ c) && decide (c ≤ 57)
def letB (c : Int) : Bool := (decide (97 ≤ c) && decide (c ≤ 122)) || (decide (65 ≤ c) && decide (c ≤ 90))
def nameB (c : Int) : Bool := letB c || digB c || (c == 95)
def plainB (c : Int) : Bool := decide (32 ≤ c) && decide (c ≤ 126)

set_option maxHeartbeats 400000 in
theorem isDigit_any (c : Int) (w : World) :
    Calls Tryd.prog 60 #[.int .u8 c] w fun e w' => e = .returned (.bool (digB c)) ∧ w = w' := by
  go_enter Tryd.func60, Tryd.ntmps60
  go_wp2
  all_goals go_ret
  all_goals exact ⟨ret_bool (by simp [digB, *] <;> omega), rfl⟩

set_option maxHeartbeats 400000 in
theorem isPlain_any (c : Int) (w : World) :
    Calls Tryd.prog 48 #[.int .u8 c] w fun e w' => e = .returned (.bool (plainB c)) ∧ w = w' := by
  go_enter Tryd.func48, Tryd.ntmps48
  go_wp2
  all_goals go_ret
  all_goals exact ⟨ret_bool (by simp [plainB, *] <;> omega), rfl⟩

set_option maxHeartbeats 400000 in
theorem isLetter_any (c : Int) (w : World) :
    Calls Tryd.prog 59 #[.int .u8 c] w fun e w' => e = .returned (.bool (letB c)) ∧ w = w' := by
  go_enter Tryd.func59, Tryd.ntmps59
  go_wp2
  all_goals go_ret
  all_goals exact ⟨ret_bool (by simp [letB, *] <;> omega), rfl⟩

set_option maxHeartbeats 400000 in
theorem isNameByte_any (c : Int) (w : World) :
    Calls Tryd.prog 51 #[.int .u8 c] w fun e w' => e = .returned (.bool (nameB c)) ∧ w = w' := by
  cases h1 : letB c <;> cases h2 : digB c
  all_goals
    go_enter Tryd.func51, Tryd.ntmps51
    go_wp2_with (first | (go_at_call 59; refine (isLetter_any _ _).mono ?_; rintro e w' ⟨rfl, rfl⟩) | (go_at_call 60; refine (isDigit_any _ _).mono ?_; rintro e w' ⟨rfl, rfl⟩))
    all_goals go_ret
    all_goals exact ⟨ret_bool (by simp [nameB, *]), rfl⟩

theorem drewN_two (w : World) (a b : Nat) : (w.drewN a).drewN b = w.drewN (a + b) := by simp [World.drewN, Nat.add_assoc]

def hd (l : List UInt8) : Int := ((l.head?.getD 0).toNat : Int)
theorem hd_drop (t : List UInt8) (i : Nat) (h : i < t.length) : hd (t.drop i) = (t[i].toNat : Int) := by
  unfold hd; rw [List.head?_drop, List.getElem?_eq_getElem h]; rfl

set_option maxHeartbeats 400000 in
theorem peek_any (b : Nat) (t l : List UInt8) (w : World) (h : At w b t l) :
    Calls Tryd.prog 52 #[.pointer (some ⟨b, 0, none⟩)] w fun e w' => e = .returned (.int .u8 (hd l)) ∧ ∃ n, w' = w.drewN n := by
  obtain ⟨i, h1, h2⟩ := h
  have c0 := h1.c0
  have c1 := h1.c1
  have hi := h1.2.1
  have ht := h1.2.2
  have hsz := bs_size t
  by_cases hlt : i < t.length
  · have hg : Hid (hd l = (t[i].toNat : Int)) := by rw [← h2]; exact hd_drop t i hlt
    have hbg := bs_get t i (by rw [hsz]; exact hlt)
    clear h2 h1
    go_enter Tryd.func52, Tryd.ntmps52
    go_wp2
    go_quiet (fail)
    go_wp2
    go_quiet (fail)
    go_wp2
    go_ret
    exact ⟨ret_int hg.out.symm, _, drewN_two _ _ _⟩
  · have hg : Hid (hd l = 0) := by rw [← h2, List.drop_eq_nil_of_le (by omega)]; rfl
    clear h2 h1
    go_enter Tryd.func52, Tryd.ntmps52
    go_wp2
    go_quiet (fail)
    go_wp2
    go_ret
    exact ⟨ret_int hg.out.symm, _, rfl⟩

set_option maxHeartbeats 400000 in
theorem atEnd_any (b : Nat) (t l : List UInt8) (w : World) (h : At w b t l) :
    Calls Tryd.prog 42 #[.pointer (some ⟨b, 0, none⟩)] w fun e w' => e = .returned (.bool l.isEmpty) ∧ ∃ n, w' = w.drewN n := by
  obtain ⟨i, h1, h2⟩ := h
  have c0 := h1.c0
  have c1 := h1.c1
  have hi := h1.2.1
  have ht := h1.2.2
  have hsz := bs_size t
  have hg : Hid (l.isEmpty = decide (t.length ≤ i)) := by
    show l.isEmpty = decide (t.length ≤ i)
    rw [← h2, Bool.eq_iff_iff]; simp
  clear h2 h1
  go_enter Tryd.func42, Tryd.ntmps42
  go_wp2
  go_quiet (fail)
  go_wp2
  go_ret
  exact ⟨ret_bool hg.out.symm, _, rfl⟩

def sTake (wd l : List UInt8) : Bool := wd.isPrefixOf l
def sRest (wd l : List UInt8) : List UInt8 := if wd.isPrefixOf l then l.drop wd.length else l

theorem cut_prefix (t wd : List UInt8) (i : Nat) (h : i + wd.length ≤ t.length) : (List.drop i (List.take (i + wd.length) t) == wd) = wd.isPrefixOf (t.drop i) := by
  rw [Bool.eq_iff_iff, List.isPrefixOf_iff_prefix, beq_iff_eq, List.prefix_iff_eq_take, List.drop_take, Nat.add_sub_cancel_left]
  exact eq_comm

set_option maxHeartbeats 400000 in
theorem take_any (b : Nat) (t l wd : List UInt8) (w : World) (h : At w b t l) (hw : wd.length ≤ 1048576) :
    Calls Tryd.prog 40 #[.pointer (some ⟨b, 0, none⟩), .string (bs wd)] w fun e w' => e = .returned (.bool (sTake wd l)) ∧ At w' b t (sRest wd l) ∧ Frm [b] w w' := by
  obtain ⟨i, h1, h2⟩ := h
  have c0 := h1.c0
  have c1 := h1.c1
  have hf := h1.fz 1
  have hi := h1.2.1
  have ht := h1.2.2
  have hsz := bs_size t
  have hsw := bs_size wd
  have hx := bs_extract t
  have hl := bs_toList
  have H1 : Hid (SC w b t i) := h1
  have H2 : Hid (List.drop i t = l) := h2
  clear h1 h2
  by_cases hlt : i + wd.length ≤ t.length
  · have hd1 : decide ((t.length : Int) < (i : Int) + (wd.length : Int)) = false := by simp; omega
    have hd2 : decide (t.length < i + wd.length) = false := by simp; omega
    cases hp : wd.isPrefixOf l
    · have he : (List.drop i (List.take (i + wd.length) t) == wd) = false := by rw [cut_prefix t wd i hlt, H2.out, hp]
      have Hp : Hid (wd.isPrefixOf l = false) := hp
      clear hp
      go_enter Tryd.func40, Tryd.ntmps40
      go_wp2
      go_quiet (fail)
      go_wp2
      go_ret
      exact ⟨ret_bool (by simp [sTake, Hp.out]), ⟨i, H1.out.drewN _, by simp [sRest, Hp.out, H2.out]⟩, (Frm.refl _ _).drewN _⟩
    · have he : (List.drop i (List.take (i + wd.length) t) == wd) = true := by rw [cut_prefix t wd i hlt, H2.out, hp]
      have Hp : Hid (wd.isPrefixOf l = true) := hp
      clear hp
      go_enter Tryd.func40, Tryd.ntmps40
      go_wp2
      go_quiet (fail)
      go_wp2
      go_ret
      refine ⟨ret_bool (by simp [sTake, Hp.out]), ⟨i + wd.length, ?_, by unfold sRest; rw [if_pos Hp.out, ← H2.out, List.drop_drop]⟩, ?_⟩
      · exact (H1.out.drewN _).set _ hlt
      · exact ((Frm.refl _ _).drewN _).setCell (by simp) _
  · have hd1 : decide ((t.length : Int) < (i : Int) + (wd.length : Int)) = true := by simp; omega
    have hd2 : decide (t.length < i + wd.length) = true := by simp; omega
    have Hp : Hid (wd.isPrefixOf l = false) := by
      show wd.isPrefixOf l = false
      rw [Bool.eq_false_iff]
      intro h
      have := (List.isPrefixOf_iff_prefix.1 h).length_le
      rw [← H2.out, List.length_drop] at this
      omega
    go_enter Tryd.func40, Tryd.ntmps40
    go_wp2
    go_quiet (fail)
    go_wp2
    go_ret
    exact ⟨ret_bool (by simp [sTake, Hp.out]), ⟨i, H1.out.drewN _, by simp [sRest, Hp.out, H2.out]⟩, (Frm.refl _ _).drewN _⟩

end Go.Proofs.YtjnaekffodgdcaaDoor
