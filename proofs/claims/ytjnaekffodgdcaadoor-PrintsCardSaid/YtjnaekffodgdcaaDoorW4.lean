import Derived.Test.YtjnaekffodgdcaaDoorW3
namespace Go.Proofs.YtjnaekffodgdcaaDoor
open Go.RowKit
set_option linter.unusedVariables false
set_option linter.unusedSimpArgs false
set_option linter.unnecessarySimpa false

/-- One byte of a value ahead. -/
def sVB (l : List UInt8) : UInt8 × Bool × List UInt8 :=
  if sTake [92, 34] l then (34, true, sRest [92, 34] l)
  else if sTake [92, 92] l then (92, true, sRest [92, 92] l)
  else if sTake [92, 120] l then sHexB (sRest [92, 120] l)
  else match l with
    | [] => (0, false, [])
    | c :: r => if !(plainB c.toNat) || c == 92 then (0, false, c :: r) else (c, true, r)

theorem sRest_no {wd l : List UInt8} (h : sTake wd l = false) : sRest wd l = l := by
  unfold sTake at h; unfold sRest; rw [h]; simp

set_option maxHeartbeats 1000000 in
theorem takeValueByte_any (b : Nat) (t l : List UInt8) (w : World) (h : At w b t l) :
    Calls Tryd.prog 69 #[.pointer (some ⟨b, 0, none⟩)] w fun e w' => e = .returned (.tuple #[.int .u8 ((sVB l).1.toNat), .bool (sVB l).2.1]) ∧ At w' b t (sVB l).2.2 ∧ Frm [b] w w' := by
  have H : Hid (At w b t l) := h
  clear h
  go_enter Tryd.func69, Tryd.ntmps69
  go_wp2_with fail
  refine (take_any b t l [92, 34] _ H.out (by simp)).mono ?_
  rintro e w1 ⟨rfl, h1, hf1⟩
  cases ht1 : sTake [92, 34] l
  case true =>
    have Hx : Hid (sVB l = (34, true, sRest [92, 34] l)) := by
      show sVB l = _; unfold sVB; rw [ht1]; rfl
    have H1 : Hid (At w1 b t (sRest [92, 34] l) ∧ Frm [b] w w1) := ⟨h1, hf1⟩
    clear h1 hf1
    go_wp2
    go_ret2
    rw [Hx.out]
    exact ⟨rfl, H1.out.1, H1.out.2⟩
  case false =>
  rw [sRest_no ht1] at h1
  have H1 : Hid (At w1 b t l) := h1
  have HF1 : Hid (Frm [b] w w1) := hf1
  have T1 : Hid (sTake [92, 34] l = false) := ht1
  clear h1 hf1
  go_wp2_with fail
  refine (take_any b t l [92, 92] _ H1.out (by simp)).mono ?_
  rintro e w2 ⟨rfl, h2, hf2⟩
  have HF2 : Hid (Frm [b] w w2) := HF1.out.trans hf2
  clear hf2 ht1
  cases ht2 : sTake [92, 92] l
  case true =>
    have Hx : Hid (sVB l = (92, true, sRest [92, 92] l)) := by
      show sVB l = _; unfold sVB; rw [T1.out, ht2]; rfl
    have H2 : Hid (At w2 b t (sRest [92, 92] l)) := h2
    clear h2
    go_wp2
    go_ret2
    rw [Hx.out]
    exact ⟨rfl, H2.out, HF2.out⟩
  case false =>
  rw [sRest_no ht2] at h2
  have H2 : Hid (At w2 b t l) := h2
  have T2 : Hid (sTake [92, 92] l = false) := ht2
  clear h2
  go_wp2_with fail
  refine (take_any b t l [92, 120] _ H2.out (by simp)).mono ?_
  rintro e w3 ⟨rfl, h3, hf3⟩
  have HF3 : Hid (Frm [b] w w3) := HF2.out.trans hf3
  clear hf3 ht2
  cases ht3 : sTake [92, 120] l
  case true =>
    have Hx : Hid (sVB l = sHexB (sRest [92, 120] l)) := by
      show sVB l = _; unfold sVB; rw [T1.out, T2.out, ht3]; rfl
    have H3 : Hid (At w3 b t (sRest [92, 120] l)) := h3
    clear h3
    go_wp2_with fail
    refine (takeHexByte_any b t _ _ H3.out).mono ?_
    rintro e w4 ⟨rfl, h4, hf4⟩
    have H4 : Hid (At w4 b t (sHexB (sRest [92, 120] l)).2.2) := h4
    have HF4 : Hid (Frm [b] w w4) := HF3.out.trans hf4
    clear h4 hf4
    go_wp2
    go_ret2
    rw [Hx.out]
    exact ⟨rfl, H4.out, HF4.out⟩
  case false =>
  rw [sRest_no ht3] at h3
  have T3 : Hid (sTake [92, 120] l = false) := ht3
  obtain ⟨i, h5, h6⟩ := h3
  have c1 := h5.c1
  have hf := h5.fz 1
  have hi := h5.2.1
  have ht := h5.2.2
  have H5 : Hid (SC w3 b t i) := h5
  have H6 : Hid (List.drop i t = l) := h6
  clear h5 h6 ht3
  cases l with
  | nil =>
    have hn : plainB 0 = false := rfl
    have h0 : hd [] = 0 := rfl
    go_wp2_with (first | (go_at_call 52; refine (peek_any _ _ _ _ ⟨i, H5.out, H6.out⟩).mono ?_; rintro e w' ⟨rfl, n, rfl⟩) | (go_at_call 48; refine (isPlain_any _ _).mono ?_; rintro e w' ⟨rfl, rfl⟩))
    go_ret2
    exact ⟨rfl, ⟨i, H5.out.drewN _, H6.out⟩, HF3.out.drewN _⟩
  | cons c r =>
    have hc := hd_cons c r
    have hu := u8i c
    have hil : i < t.length := at_len H6.out
    by_cases hx : plainB c.toNat = true ∧ ((c.toNat : Int) == 92) = false
    · obtain ⟨hp, h92⟩ := hx
      have Hx : Hid (sVB (c :: r) = (c, true, r)) := by
        show sVB (c :: r) = _; unfold sVB; rw [T1.out, T2.out, T3.out]
        have : (c == 92) = false := by
          rw [beq_eq_false_iff_ne] at h92 ⊢; intro e; subst e; exact h92 rfl
        simp [hp, this]
      go_wp2_with (first | (go_at_call 52; refine (peek_any _ _ _ _ ⟨i, H5.out, H6.out⟩).mono ?_; rintro e w' ⟨rfl, n, rfl⟩) | (go_at_call 48; refine (isPlain_any _ _).mono ?_; rintro e w' ⟨rfl, rfl⟩))
      go_ret2
      rw [Hx.out]
      exact ⟨rfl, at_set (l := r) (H5.out.drewN _) H6.out, (HF3.out.drewN _).setCell (by simp) _⟩
    · have Hx : Hid (sVB (c :: r) = (0, false, c :: r)) := by
        show sVB (c :: r) = _; unfold sVB; rw [T1.out, T2.out, T3.out]
        by_cases hp : plainB c.toNat = true
        · have h92 : c = 92 := by
            by_cases e : c = 92
            · exact e
            · exact absurd ⟨hp, beq_eq_false_iff_ne.2 (fun h => e (UInt8.toNat_inj.1 (by simpa using (Int.ofNat_inj.1 h))))⟩ hx
          simp [h92]
        · simp [hp]
      have hx' : plainB c.toNat = false ∨ ((c.toNat : Int) == 92) = true := by
        cases h1 : plainB c.toNat <;> cases h2 : ((c.toNat : Int) == 92) <;> simp_all
      clear hx
      rcases hx' with hp | h92
      · go_wp2_with (first | (go_at_call 52; refine (peek_any _ _ _ _ ⟨i, H5.out, H6.out⟩).mono ?_; rintro e w' ⟨rfl, n, rfl⟩) | (go_at_call 48; refine (isPlain_any _ _).mono ?_; rintro e w' ⟨rfl, rfl⟩))
        go_ret2
        rw [Hx.out]
        exact ⟨rfl, ⟨i, H5.out.drewN _, H6.out⟩, HF3.out.drewN _⟩
      · cases hp : plainB c.toNat
        all_goals
          go_wp2_with (first | (go_at_call 52; refine (peek_any _ _ _ _ ⟨i, H5.out, H6.out⟩).mono ?_; rintro e w' ⟨rfl, n, rfl⟩) | (go_at_call 48; refine (isPlain_any _ _).mono ?_; rintro e w' ⟨rfl, rfl⟩))
          go_ret2
          rw [Hx.out]
          exact ⟨rfl, ⟨i, H5.out.drewN _, H6.out⟩, HF3.out.drewN _⟩

end Go.Proofs.YtjnaekffodgdcaaDoor
