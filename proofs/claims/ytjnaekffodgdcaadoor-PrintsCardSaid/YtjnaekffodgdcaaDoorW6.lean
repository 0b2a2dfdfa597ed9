import Derived.Test.YtjnaekffodgdcaaDoorW5
namespace Go.Proofs.YtjnaekffodgdcaaDoor
open Go.RowKit
set_option linter.unusedVariables false
set_option linter.unusedSimpArgs false
set_option linter.unnecessarySimpa false

def numL : List UInt8 → Nat → Nat × Bool × List UInt8
  | [], n => (n, true, [])
  | c :: r, n => if dgB c then (if 99999 < n * 10 + (c.toNat - 48) then (0, false, c :: r) else numL r (n * 10 + (c.toNat - 48))) else (n, true, c :: r)
def sNum (l : List UInt8) : Nat × Bool × List UInt8 :=
  if sTake [48] l then (0, true, sRest [48] l) else if !(digB (hd l)) then (0, false, l) else numL l 0

set_option maxRecDepth 100000 in
set_option maxHeartbeats 1000000 in
theorem takeNumber_any (b : Nat) (t l : List UInt8) (w : World) (h : At w b t l) :
    Calls Tryd.prog 62 #[.pointer (some ⟨b, 0, none⟩)] w fun e w' => e = .returned (.tuple #[.int .i64 (sNum l).1, .bool (sNum l).2.1]) ∧ At w' b t (sNum l).2.2 ∧ Frm [b] w w' := by
  have H : Hid (At w b t l) := h
  clear h
  go_enter Tryd.func62, Tryd.ntmps62
  go_wp2_with fail
  refine (take_any b t l [48] _ H.out (by simp)).mono ?_
  rintro e w1 ⟨rfl, h1, hf1⟩
  cases ht1 : sTake [48] l
  case true =>
    have Hx : Hid (sNum l = (0, true, sRest [48] l)) := by
      show sNum l = _; unfold sNum; rw [ht1]; rfl
    have H1 : Hid (At w1 b t (sRest [48] l) ∧ Frm [b] w w1) := ⟨h1, hf1⟩
    clear h1 hf1
    go_wp2
    go_ret2
    rw [Hx.out]
    exact ⟨rfl, H1.out.1, H1.out.2⟩
  case false =>
  rw [sRest_no ht1] at h1
  have H1 : Hid (At w1 b t l) := h1
  have HF1 : Hid (Frm [b] w w1) := hf1
  have T1 : Hid (sTake [48] l = false) := ht1
  clear h1 hf1 ht1
  go_wp2_with fail
  refine (peek_any b t l _ H1.out).mono ?_
  rintro e w' ⟨rfl, n, rfl⟩
  cases hd0 : digB (hd l)
  case false =>
    have Hx : Hid (sNum l = (0, false, l)) := by
      show sNum l = _; unfold sNum; rw [T1.out, hd0]; rfl
    go_wp2_with (go_at_call 60; refine (isDigit_any _ _).mono ?_; rintro e w' ⟨rfl, rfl⟩)
    go_ret2
    rw [Hx.out]
    exact ⟨rfl, H1.out.frm (S := []) ((Frm.refl _ _).drewN _) (by simp), HF1.out.drewN _⟩
  case true =>
  have Hx : Hid (sNum l = numL l 0) := by
    show sNum l = _; unfold sNum; rw [T1.out, hd0]; rfl
  go_wp2_with (go_at_call 60; refine (isDigit_any _ _).mono ?_; rintro e w' ⟨rfl, rfl⟩)
  go_loopg [4] l.length (fun k v wr => ∃ (l' : List UInt8) (x : Nat), v = .int .i64 x ∧ x ≤ 99999 ∧ l'.length ≤ k ∧ numL l' x = numL l 0 ∧ At wr b t l' ∧ Frm [b] w wr)
  case atStart => exact ⟨l, 0, rfl, by omega, Nat.le_refl _, rfl, H1.out.frm (S := []) ((Frm.refl _ _).drewN _) (by simp), HF1.out.drewN _⟩
  case round =>
    obtain ⟨l', x, rfl, hx, hlk, hv, ⟨i, h5, h6⟩, hfr⟩ := hrel
    have c1 := h5.c1
    have hf := h5.fz 1
    have hi := h5.2.1
    have ht := h5.2.2
    have H5 : Hid (SC wr b t i) := h5
    have H6 : Hid (List.drop i t = l') := h6
    have Hv : Hid (numL l' x = numL l 0) := hv
    have Hf : Hid (Frm [b] w wr) := hfr
    clear h5 h6 hv hfr H1 HF1 hd0
    cases l' with
    | nil =>
      have hn : digB (hd []) = false := rfl
      have h0 : hd [] = 0 := rfl
      have Hx2 : Hid (sNum l = (x, true, [])) := by show sNum l = _; rw [Hx.out, ← Hv.out]; rfl
      go_wp2_with (first | (go_at_call 52; refine (peek_any _ _ _ _ ⟨i, H5.out, H6.out⟩).mono ?_; rintro e w' ⟨rfl, n, rfl⟩) | (go_at_call 60; refine (isDigit_any _ _).mono ?_; rintro e w' ⟨rfl, rfl⟩))
      go_ret2
      rw [Hx2.out]
      exact ⟨rfl, ⟨i, H5.out.drewN _, H6.out⟩, Hf.out.drewN _⟩
    | cons c r =>
      have hc := hd_cons c r
      have hu := u8i c
      have hil : i < t.length := at_len H6.out
      cases hdd : digB (c.toNat : Int)
      case false =>
        have Hx2 : Hid (sNum l = (x, true, c :: r)) := by
          show sNum l = _; rw [Hx.out, ← Hv.out]; unfold numL; simp [dgB, hdd]
        go_wp2_with (first | (go_at_call 52; refine (peek_any _ _ _ _ ⟨i, H5.out, H6.out⟩).mono ?_; rintro e w' ⟨rfl, n, rfl⟩) | (go_at_call 60; refine (isDigit_any _ _).mono ?_; rintro e w' ⟨rfl, rfl⟩))
        go_ret2
        rw [Hx2.out]
        exact ⟨rfl, ⟨i, H5.out.drewN _, H6.out⟩, Hf.out.drewN _⟩
      case true =>
        have hb : 48 ≤ (c.toNat : Int) ∧ (c.toNat : Int) ≤ 57 := by simpa [digB] using hdd
        obtain ⟨hb1, hb2⟩ := hb
        have hun : numL (c :: r) x = (if 99999 < x * 10 + (c.toNat - 48) then (0, false, c :: r) else numL r (x * 10 + (c.toNat - 48))) := by
          conv => lhs; unfold numL
          simp [dgB, hdd]
        have Hun : Hid (numL (c :: r) x = (if 99999 < x * 10 + (c.toNat - 48) then (0, false, c :: r) else numL r (x * 10 + (c.toNat - 48)))) := hun
        clear hun
        simp only [List.length_cons] at hlk
        by_cases hbig : 99999 < x * 10 + (c.toNat - 48)
        · have Hx2 : Hid (sNum l = (0, false, c :: r)) := by
            show sNum l = _; rw [Hx.out, ← Hv.out, Hun.out, if_pos hbig]
          have hbi : (99999 : Int) < (x : Int) * 10 + ((c.toNat : Int) - 48) := by omega
          go_wp2_with (first | (go_at_call 52; refine (peek_any b t (c :: r) _ (At.frm (S := []) ⟨i, H5.out, H6.out⟩ (by first | exact Frm.refl _ _ | exact (Frm.refl _ _).drewN _) (by simp))).mono ?_; rintro e w' ⟨rfl, n, rfl⟩) | (go_at_call 60; refine (isDigit_any _ _).mono ?_; rintro e w' ⟨rfl, rfl⟩))
          go_ret2
          rw [Hx2.out]
          exact ⟨rfl, ⟨i, H5.out.drewN _, H6.out⟩, Hf.out.drewN _⟩
        · have Hv2 : Hid (numL r (x * 10 + (c.toNat - 48)) = numL l 0) := by
            show numL r _ = _; rw [← Hv.out, Hun.out, if_neg hbig]
          have hbi : (x : Int) * 10 + ((c.toNat : Int) - 48) ≤ 99999 := by omega
          go_wp2_with (first | (go_at_call 52; refine (peek_any b t (c :: r) _ (At.frm (S := []) ⟨i, H5.out, H6.out⟩ (by first | exact Frm.refl _ _ | exact (Frm.refl _ _).drewN _) (by simp))).mono ?_; rintro e w' ⟨rfl, n, rfl⟩) | (go_at_call 60; refine (isDigit_any _ _).mono ?_; rintro e w' ⟨rfl, rfl⟩))
          go_roundg (gk - 1)
          case measure => omega
          case rel =>
            refine ⟨r, x * 10 + (c.toNat - 48), ?_, by omega, by omega, Hv2.out, at_set (l := r) (H5.out.drewN _) H6.out, (Hf.out.drewN _).setCell (by simp) _⟩
            congr 1; omega

end Go.Proofs.YtjnaekffodgdcaaDoor
