import Derived.Test.YtjnaekffodgdcaaDoorW6
namespace Go.Proofs.YtjnaekffodgdcaaDoor
open Go.RowKit
set_option linter.unusedVariables false
set_option linter.unusedSimpArgs false
set_option linter.unnecessarySimpa false

def sKind (l : List UInt8) : Nat × Bool × List UInt8 :=
  if sTake [61, 126] l then (2, true, sRest [61, 126] l)
  else if sTake [33, 126] l then (3, true, sRest [33, 126] l)
  else if sTake [33, 61] l then (1, true, sRest [33, 61] l)
  else (0, sTake [61] l, sRest [61] l)

set_option maxRecDepth 100000 in
set_option maxHeartbeats 1000000 in
theorem takeKind_any (b : Nat) (t l : List UInt8) (w : World) (h : At w b t l) :
    Calls Tryd.prog 63 #[.pointer (some ⟨b, 0, none⟩)] w fun e w' => e = .returned (.tuple #[.int .i64 (sKind l).1, .bool (sKind l).2.1]) ∧ At w' b t (sKind l).2.2 ∧ Frm [b] w w' := by
  have H : Hid (At w b t l) := h
  clear h
  go_enter Tryd.func63, Tryd.ntmps63
  go_wp2_with fail
  refine (take_any b t l [61, 126] _ H.out (by simp)).mono ?_
  rintro e w1 ⟨rfl, h1, hf1⟩
  cases ht1 : sTake [61, 126] l
  case true =>
    have Hx : Hid (sKind l = (2, true, sRest [61, 126] l)) := by
      show sKind l = _; unfold sKind; rw [ht1]; rfl
    have H1 : Hid (At w1 b t (sRest [61, 126] l) ∧ Frm [b] w w1) := ⟨h1, hf1⟩
    clear h1 hf1
    go_wp2
    go_ret2
    rw [Hx.out]
    exact ⟨rfl, H1.out.1, H1.out.2⟩
  case false =>
  rw [sRest_no ht1] at h1
  have H1 : Hid (At w1 b t l) := h1
  have HF1 : Hid (Frm [b] w w1) := hf1
  have T1 : Hid (sTake [61, 126] l = false) := ht1
  clear h1 hf1
  go_wp2_with fail
  refine (take_any b t l [33, 126] _ H1.out (by simp)).mono ?_
  rintro e w2 ⟨rfl, h2, hf2⟩
  have HF2 : Hid (Frm [b] w w2) := HF1.out.trans hf2
  clear hf2 ht1
  cases ht2 : sTake [33, 126] l
  case true =>
    have Hx : Hid (sKind l = (3, true, sRest [33, 126] l)) := by
      show sKind l = _; unfold sKind; rw [T1.out, ht2]; rfl
    have H2 : Hid (At w2 b t (sRest [33, 126] l)) := h2
    clear h2
    go_wp2
    go_ret2
    rw [Hx.out]
    exact ⟨rfl, H2.out, HF2.out⟩
  case false =>
  rw [sRest_no ht2] at h2
  have H2 : Hid (At w2 b t l) := h2
  have T2 : Hid (sTake [33, 126] l = false) := ht2
  clear h2
  go_wp2_with fail
  refine (take_any b t l [33, 61] _ H2.out (by simp)).mono ?_
  rintro e w3 ⟨rfl, h3, hf3⟩
  have HF3 : Hid (Frm [b] w w3) := HF2.out.trans hf3
  clear hf3 ht2
  cases ht3 : sTake [33, 61] l
  case true =>
    have Hx : Hid (sKind l = (1, true, sRest [33, 61] l)) := by
      show sKind l = _; unfold sKind; rw [T1.out, T2.out, ht3]; rfl
    have H3 : Hid (At w3 b t (sRest [33, 61] l)) := h3
    clear h3
    go_wp2
    go_ret2
    rw [Hx.out]
    exact ⟨rfl, H3.out, HF3.out⟩
  case false =>
  rw [sRest_no ht3] at h3
  have T3 : Hid (sTake [33, 61] l = false) := ht3
  have H3 : Hid (At w3 b t l) := h3
  clear h3 ht3
  go_wp2_with fail
  refine (take_any b t l [61] _ H3.out (by simp)).mono ?_
  rintro e w4 ⟨rfl, h4, hf4⟩
  have HF4 : Hid (Frm [b] w w4) := HF3.out.trans hf4
  have Hx : Hid (sKind l = (0, sTake [61] l, sRest [61] l)) := by
    show sKind l = _; unfold sKind; rw [T1.out, T2.out, T3.out]; rfl
  have H4 : Hid (At w4 b t (sRest [61] l)) := h4
  clear h4 hf4
  go_wp2
  go_ret2
  rw [Hx.out]
  exact ⟨rfl, H4.out, HF4.out⟩

def sTime (wd l : List UInt8) : Int × Bool × List UInt8 :=
  if sTake wd l then (((sNum (sRest wd l)).1 : Int), (sNum (sRest wd l)).2.1, (sNum (sRest wd l)).2.2) else (-1, true, l)

set_option maxRecDepth 100000 in
set_option maxHeartbeats 1000000 in
theorem takeTime_any (b : Nat) (t l wd : List UInt8) (w : World) (h : At w b t l) (hw : wd.length ≤ 1048576) :
    Calls Tryd.prog 56 #[.pointer (some ⟨b, 0, none⟩), .string (bs wd)] w fun e w' => e = .returned (.tuple #[.int .i64 (sTime wd l).1, .bool (sTime wd l).2.1]) ∧ At w' b t (sTime wd l).2.2 ∧ Frm [b] w w' := by
  have H : Hid (At w b t l) := h
  clear h
  go_enter Tryd.func56, Tryd.ntmps56
  go_wp2_with fail
  refine (take_any b t l wd _ H.out hw).mono ?_
  rintro e w1 ⟨rfl, h1, hf1⟩
  cases ht1 : sTake wd l
  case false =>
    have Hx : Hid (sTime wd l = (-1, true, l)) := by
      show sTime wd l = _; unfold sTime; rw [ht1]; rfl
    rw [sRest_no ht1] at h1
    have H1 : Hid (At w1 b t l ∧ Frm [b] w w1) := ⟨h1, hf1⟩
    clear h1 hf1
    go_wp2
    go_ret2
    rw [Hx.out]
    exact ⟨rfl, H1.out.1, H1.out.2⟩
  case true =>
  have Hx : Hid (sTime wd l = (((sNum (sRest wd l)).1 : Int), (sNum (sRest wd l)).2.1, (sNum (sRest wd l)).2.2)) := by
    show sTime wd l = _; unfold sTime; rw [ht1]; rfl
  have H1 : Hid (At w1 b t (sRest wd l) ∧ Frm [b] w w1) := ⟨h1, hf1⟩
  clear h1 hf1
  go_wp2_with fail
  refine (takeNumber_any b t _ _ H1.out.1).mono ?_
  rintro e w2 ⟨rfl, h2, hf2⟩
  have H2 : Hid (At w2 b t (sNum (sRest wd l)).2.2 ∧ Frm [b] w w2) := ⟨h2, H1.out.2.trans hf2⟩
  clear h2 hf2
  go_wp2
  go_ret2
  rw [Hx.out]
  exact ⟨rfl, H2.out.1, H2.out.2⟩

/-- A matcher as the program holds it: name, kind, value. -/
abbrev CM := List UInt8 × Nat × List UInt8
def sMat (l : List UInt8) : CM × Bool × List UInt8 :=
  let n := l.takeWhile nmB
  let l1 := l.dropWhile nmB
  let k := sKind l1
  let v := sVal k.2.2
  ((n, k.1, v.1), isNameL n && k.2.1 && v.2.1, v.2.2)

def matV (m : CM) : Value := .agg #[.string (bs m.1), .int .i64 m.2.1, .string (bs m.2.2)]

theorem reset_two {a b c : Bool} : (if a then b else false) = (a && b) := by cases a <;> rfl

set_option maxRecDepth 100000 in
set_option maxHeartbeats 1000000 in
theorem takeMatcher_any (b : Nat) (t l : List UInt8) (w : World) (h : At w b t l) :
    Calls Tryd.prog 57 #[.pointer (some ⟨b, 0, none⟩)] w fun e w' => e = .returned (.tuple #[matV (sMat l).1, .bool (sMat l).2.1]) ∧ At w' b t (sMat l).2.2 ∧ Frm [b] w w' := by
  have hb := h.lt
  have H : Hid (At w b t l) := h
  clear h
  go_enter Tryd.func57, Tryd.ntmps57
  go_wp2_with fail
  refine (takeName_any b t l _ (H.out.frm (S := []) ((Frm.refl _ _).alloc _) (by simp))).mono ?_
  rintro e w1 ⟨rfl, h1, hf1⟩
  have H1 : Hid (At w1 b t (l.dropWhile nmB)) := h1
  clear h1
  go_wp2_with fail
  refine (takeKind_any b t _ _ H1.out).mono ?_
  rintro e w2 ⟨rfl, h2, hf2⟩
  have hf12 := hf1.trans hf2
  clear hf1 hf2
  go_wp2_with fail
  refine (takeValue_any b t _ _ h2).mono ?_
  rintro e w3 ⟨rfl, h3, hf3⟩
  have hf := hf12.trans hf3
  clear hf12 hf3 h2
  have hO := (hf.block w.heap.size (by simp) (by simp; omega)).trans (heap_alloc_new w _)
  have hz := hf.size
  have HF : Hid (Frm [b] w w3) := ((Frm.refl [b] w).alloc _).trans hf
  have H3 : Hid (At w3 b t (sMat l).2.2) := h3
  clear hf h3
  have ca : w3.cell? ⟨w.heap.size, 0, none⟩ = some (.string ⟨#[]⟩) := by simp [World.cell?, hO]
  have cb : w3.cell? ⟨w.heap.size, 1, none⟩ = some (.int .i64 0) := by simp [World.cell?, hO]
  have cc : w3.cell? ⟨w.heap.size, 2, none⟩ = some (.string ⟨#[]⟩) := by simp [World.cell?, hO]
  have q0 : ∀ o, w3.frozen? ⟨w.heap.size, o, none⟩ = false := by intro o; simp [World.frozen?, hO]
  have hz' : w.heap.size < w3.heap.size := by simp at hz; omega
  have Hm : Hid (sMat l = ((l.takeWhile nmB, (sKind (l.dropWhile nmB)).1, (sVal (sKind (l.dropWhile nmB)).2.2).1), isNameL (l.takeWhile nmB) && (sKind (l.dropWhile nmB)).2.1 && (sVal (sKind (l.dropWhile nmB)).2.2).2.1, (sVal (sKind (l.dropWhile nmB)).2.2).2.2)) := rfl
  clear hO hz
  generalize sVal (sKind (l.dropWhile nmB)).2.2 = sv at *
  generalize sKind (l.dropWhile nmB) = sk at *
  generalize l.takeWhile nmB = nm at *
  obtain ⟨v1, v2, v3⟩ := sv
  obtain ⟨k1, k2, k3⟩ := sk
  cases hn : isNameL nm <;> cases k2
  all_goals
    go_wp2
    refine bodyPost_ret (v := .tuple #[matV (nm, k1, v1), .bool _]) (by simp [results, Tryd.results57, go_sem, matV, ca, cb, cc, hz'] <;> rfl) rfl ?_
    rw [Hm.out]
    refine ⟨by simp [hn], ?_, ?_⟩
    · rw [Hm.out] at H3
      exact H3.out.frm (S := [w.heap.size]) (((((Frm.refl _ _).setCell (by simp) _).setCell (by simp) _).setCell (by simp) _).alloc _) (by simp; omega)
    · exact (((HF.out.setCell (by simp) _).setCell (by simp) _).setCell (by simp) _).alloc _

end Go.Proofs.YtjnaekffodgdcaaDoor
