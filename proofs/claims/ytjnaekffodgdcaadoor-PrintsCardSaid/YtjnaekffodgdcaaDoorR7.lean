import Derived.Test.YtjnaekffodgdcaaDoorR6
namespace Go.Proofs.YtjnaekffodgdcaaDoor
open Go.RowKit
set_option linter.unusedVariables false
set_option linter.unusedSimpArgs false
set_option linter.unnecessarySimpa false

/-- A matcher as the reference holds it: name, sign, value. -/
abbrev RM := List UInt8 × List UInt8 × List UInt8
def notEq (c : UInt8) : Bool := !(c == 61) && !(c == 33)
def sgn2 (r : List UInt8) : Bool := decide (1 < r.length) && ((r.take 2 == [61, 126]) || (r.take 2 == [33, 126]) || (r.take 2 == [33, 61]))
def sgn1 (r : List UInt8) : Bool := decide (0 < r.length) && (hd r == 61)
def mtR (l : List UInt8) : RM × Bool :=
  let n := l.takeWhile notEq
  let r := l.dropWhile notEq
  if sgn2 r then ((n, r.take 2, (unqR (r.drop 2)).1), (unqR (r.drop 2)).2 && isNameL n)
  else if sgn1 r then ((n, r.take 1, (unqR (r.drop 1)).1), (unqR (r.drop 1)).2 && isNameL n)
  else ((n, [], []), false)

structure IfB (w : World) (b : Nat) (m : RM) : Prop where
  h : w.heap[b]? = some (.cells #[.string (bs m.1), .string (bs m.2.1), .string (bs m.2.2), .pointer none] 55 (0, 0))
theorem IfB.lt {w : World} {b : Nat} {m : RM} (h : IfB w b m) : b < w.heap.size := (Array.getElem?_eq_some_iff.1 h.h).1
theorem IfB.cell {w : World} {b : Nat} {m : RM} (h : IfB w b m) (o : Nat) : w.cell? ⟨b, o, none⟩ = (#[.string (bs m.1), .string (bs m.2.1), .string (bs m.2.2), .pointer none] : Array Value)[o]? := by
  simp [World.cell?, h.h]
theorem IfB.fz {w : World} {b : Nat} {m : RM} (h : IfB w b m) (o : Nat) : w.frozen? ⟨b, o, none⟩ = false := by
  simp [World.frozen?, h.h]
theorem IfB.frm {S : List Nat} {w w' : World} {b : Nat} {m : RM} (h : IfB w b m) (f : Frm S w w') (hS : b ∉ S) : IfB w' b m := ⟨(f.block b h.lt hS).trans h.h⟩
theorem IfB.set {w : World} {b : Nat} {m : RM} (h : IfB w b m) (o : Nat) (v : Value) (m' : RM) (e : (#[.string (bs m'.1), .string (bs m'.2.1), .string (bs m'.2.2), .pointer none] : Array Value) = (#[.string (bs m.1), .string (bs m.2.1), .string (bs m.2.2), .pointer none] : Array Value).setIfInBounds o v) : IfB (w.setCell ⟨b, o, none⟩ v) b m' := by
  refine ⟨?_⟩
  rw [e]
  simp [World.setCell, Array.getElem?_modify, h.h]
theorem IfB.set4 {w : World} {b : Nat} {m : RM} (h : IfB w b m) (m' : RM) : IfB ((((w.setCell ⟨b, 0, none⟩ (.string (bs m'.1))).setCell ⟨b, 1, none⟩ (.string (bs m'.2.1))).setCell ⟨b, 2, none⟩ (.string (bs m'.2.2))).setCell ⟨b, 3, none⟩ (.pointer none)) b m' :=
  (((h.set 0 _ (m'.1, m.2.1, m.2.2) rfl).set 1 _ (m'.1, m'.2.1, m.2.2) rfl).set 2 _ (m'.1, m'.2.1, m'.2.2) rfl).set 3 _ m' rfl
theorem Frm.set4 {S : List Nat} {a w : World} {rb : Nat} (h : Frm S a w) (hb : rb ∈ S ∨ a.heap.size ≤ rb) (v0 v1 v2 v3 : Value) : Frm S a ((((w.setCell ⟨rb, 0, none⟩ v0).setCell ⟨rb, 1, none⟩ v1).setCell ⟨rb, 2, none⟩ v2).setCell ⟨rb, 3, none⟩ v3) :=
  (((h.setCell hb _).setCell hb _).setCell hb _).setCell hb _
def ifV (m : RM) : Value := .agg #[.string (bs m.1), .string (bs m.2.1), .string (bs m.2.2), .pointer none]
theorem load_if {w : World} {b : Nat} {m : RM} (h : IfB w b m) : (loadVar 55 ⟨b, 0, none⟩).run Tryd.prog w = .ok (ifV m) w := by
  have h0 : w.cell? ⟨b, 0, none⟩ = some (.string (bs m.1)) := h.cell 0
  have h1 : w.cell? ⟨b, 1, none⟩ = some (.string (bs m.2.1)) := h.cell 1
  have h2 : w.cell? ⟨b, 2, none⟩ = some (.string (bs m.2.2)) := h.cell 2
  have h3 : w.cell? ⟨b, 3, none⟩ = some (.pointer none) := h.cell 3
  simp [go_sem, ifV, h0, h1, h2, h3]
theorem results_matcher {w : World} {rb : Nat} {m : RM} {ok : Bool} {tmps : Array Value} (h : IfB w rb m) (h2 : tmps.getD 2 undef = .pointer (some ⟨rb, 0, none⟩)) (h3 : tmps.getD 3 undef = .bool ok) :
    (results Tryd.f33 tmps).run Tryd.prog w = .ok (.tuple #[ifV m, .bool ok]) w := by
  rw [results_cell_tmp Tryd.results33, h2, h3]
  simp [asAddr, load_if h]

theorem hd_drop' {l : List UInt8} {c : UInt8} {r : List UInt8} (h : l = c :: r) : hd l = (c.toNat : Int) := by subst h; rfl

set_option maxRecDepth 100000 in
set_option maxHeartbeats 8000000 in
theorem matcher_any (l : List UInt8) (w : World) (hl : l.length ≤ 100000) :
    Calls Tryd.prog 33 #[.string (bs l)] w fun e w' => e = .returned (.tuple #[ifV (mtR l).1, .bool (mtR l).2]) ∧ Frm [] w w' := by
  have hsz := bs_size
  have hx := bs_extract
  have htl := bs_toList
  have kA : ({ data := #[61, 126] } : ByteArray).toList = [61, 126] := bs_toList _
  have kB : ({ data := #[33, 126] } : ByteArray).toList = [33, 126] := bs_toList _
  have kC : ({ data := #[33, 61] } : ByteArray).toList = [33, 61] := bs_toList _
  have hb0 : IfB (w.alloc (Obj.cells #[.string (bs []), .string (bs []), .string (bs []), .pointer none] 55)) w.heap.size ([], [], []) := ⟨heap1 _ _⟩
  have HB0 := hide hb0
  clear hb0
  go_enter Tryd.func33, Tryd.ntmps33
  go_wp2
  go_loopg [4] l.length (fun k vi wr => ∃ (j : Nat), j + k = l.length ∧ vi = .int .i64 j ∧ (l.take j).all notEq = true ∧ wr = w.alloc (Obj.cells #[.string (bs []), .string (bs []), .string (bs []), .pointer none] 55))
  case atStart => exact ⟨0, by omega, rfl, by simp, rfl⟩
  case round =>
    obtain ⟨j, hj, rfl, hal, hw⟩ := hrel
    subst hw
    have Hal := hide hal
    clear hal
    by_cases hlt : j < l.length
    · have hbg : (bs l)[j]'(by rw [hsz]; omega) = l[j] := rfl
      have Hd : Hid (l.drop j = l[j] :: l.drop (j + 1)) := List.drop_eq_getElem_cons hlt
      have Ht : Hid (l.take (j + 1) = l.take j ++ [l[j]]) := List.take_succ_eq_append_getElem hlt
      generalize l[j] = c at *
      have h61 : ((c.toNat : Int) == 61) = (c == 61) := toNat_beq c 61
      have h33 : ((c.toNat : Int) == 33) = (c == 33) := toNat_beq c 33
      have Hend : Hid (notEq c = false → l.takeWhile notEq = l.take j ∧ l.dropWhile notEq = l.drop j) := by
        intro hne
        have := tw_split (l.take j) (l.drop j) Hal.out (fun c' r' e => by rw [Hd.out] at e; simp at e; rw [← e.1]; exact hne)
        rwa [List.take_append_drop] at this
      cases e61 : (c == 61)
      case true =>
        rw [e61] at h61
        have n61 : ((c.toNat : Int) != 61) = false := by unfold bne; rw [h61]; rfl
        have hse := Hend.out (by unfold notEq; rw [e61]; rfl)
        have Hse := hide hse
        clear hse Hend Hal
        have hbr : (bs (l.drop j))[0]'(by rw [hsz]; simp; omega) = c := by
          have : ∀ (L : List UInt8) (r : List UInt8) (h : 0 < (bs L).size), L = c :: r → (bs L)[0]'h = c := by
            intro L r h e; subst e; rfl
          exact this _ _ _ Hd.out
        have tk : ∀ y z : UInt8, (c == y) = false → ((l.drop j).take 2 == [y, z]) = false := by
          intro y z h; rw [Hd.out, beq_eq_false_iff_ne]; intro e; simp at e; rw [e.1] at h; simp at h
        have qB := tk 33 126 (by have : c = 61 := by simpa using e61
                                 subst this; rfl)
        have qC := tk 33 61 (by have : c = 61 := by simpa using e61
                                subst this; rfl)
        clear tk
        have Hh : Hid (hd (l.drop j) = (c.toNat : Int)) := hd_drop' Hd.out
        have htk : List.take (l.length - j) (List.drop j l) = List.drop j l := List.take_of_length_le (by simp)
        by_cases hln : 1 < l.length - j
        · have hd1 : decide ((1 : Int) < ((l.length - j : Nat) : Int)) = true := decide_eq_true (by omega)
          have hdl : decide (1 < (l.drop j).length) = true := by simp; omega
          cases qA : ((l.drop j).take 2 == [61, 126])
          · have hd0 : decide ((0 : Int) < ((l.length - j : Nat) : Int)) = true := decide_eq_true (by omega)
            have Hm : Hid (mtR l = ((l.take j, (l.drop j).take 1, (unqR (l.drop (j + 1))).1), (unqR (l.drop (j + 1))).2 && isNameL (l.take j))) := by
              show _ = _; unfold mtR; rw [Hse.out.1, Hse.out.2]; dsimp only
              have s2 : sgn2 (l.drop j) = false := by unfold sgn2; rw [hdl, qA, qB, qC]; rfl
              have s1 : sgn1 (l.drop j) = true := by unfold sgn1; rw [Hh.out, h61]; simp; omega
              rw [s2, s1]; simp only [Bool.false_eq_true, if_false, if_true]
              rw [List.drop_drop]
            go_wp2_with fail
            have hb1 : IfB ((w.alloc (Obj.cells #[.string (bs []), .string (bs []), .string (bs []), .pointer none] 55)).alloc (Obj.cells #[.string (bs (l.take j)), .string (bs ((l.drop j).take 1)), .string (bs []), .pointer none] 55)) (w.heap.size + 1) (l.take j, (l.drop j).take 1, []) := ⟨by have := heap1 (w.alloc (Obj.cells #[.string (bs []), .string (bs []), .string (bs []), .pointer none] 55)) (Obj.cells #[.string (bs (l.take j)), .string (bs ((l.drop j).take 1)), .string (bs []), .pointer none] 55); rw [← this]; simp⟩
            have hb0 := HB0.out.frm (S := []) ((Frm.refl _ _).alloc (Obj.cells #[.string (bs (l.take j)), .string (bs ((l.drop j).take 1)), .string (bs []), .pointer none] 55)) (by simp)
            refine (unquoted_any (l.drop (j + 1)) _ (by simp; omega)).mono ?_
            rintro e w2 ⟨rfl, hf⟩
            have B1 := hide (hb1.frm hf (by simp))
            have B0 := hide (hb0.frm hf (by simp))
            have KF := hide ((((Frm.refl [] w).alloc _).alloc _).trans hf)
            clear hf hb1 hb0
            have hz2 : w.heap.size + 1 < w2.heap.size := B1.out.lt
            generalize unqR (l.drop (j + 1)) = u at *
            obtain ⟨u1, u2⟩ := u
            have p0 : w2.cell? ⟨w.heap.size + 1, 0, none⟩ = some (.string (bs (l.take j))) := B1.out.cell 0
            have p1 : w2.cell? ⟨w.heap.size + 1, 1, none⟩ = some (.string (bs ((l.drop j).take 1))) := B1.out.cell 1
            have p2 : w2.cell? ⟨w.heap.size + 1, 2, none⟩ = some (.string (bs [])) := B1.out.cell 2
            have p3 : w2.cell? ⟨w.heap.size + 1, 3, none⟩ = some (.pointer none) := B1.out.cell 3
            have p4 := B1.out.fz
            have r0 : w2.cell? ⟨w.heap.size, 0, none⟩ = some (.string (bs [])) := B0.out.cell 0
            have r1 : w2.cell? ⟨w.heap.size, 1, none⟩ = some (.string (bs [])) := B0.out.cell 1
            have r2 : w2.cell? ⟨w.heap.size, 2, none⟩ = some (.string (bs [])) := B0.out.cell 2
            have r3 : w2.cell? ⟨w.heap.size, 3, none⟩ = some (.pointer none) := B0.out.cell 3
            have r4 := B0.out.fz
            go_wp2_with fail
            refine (rName_any (l.take j) _ (by simp; omega)).mono ?_
            rintro e w' ⟨rfl, rfl⟩
            generalize l.take j = nm at *
            generalize (l.drop j).take 1 = sg at *
            generalize isNameL nm = ib at *
            cases u2
            all_goals
              go_wp2
              refine bodyPost_ret (results_matcher (m := (nm, sg, u1)) (rb := w.heap.size) ?_ (by rfl) (by rfl)) rfl ?_
              · exact (B0.out.frm (S := [w.heap.size + 1]) ((Frm.refl _ _).setCell (p := ⟨w.heap.size + 1, 2, none⟩) (by simp) (.string (bs u1))) (by simp)).set4 (nm, sg, u1)
              · rw [Hm.out]
                exact ⟨by simp, Frm.set4 (KF.out.setCell (Or.inr (by simp)) _) (by simp) _ _ _ _⟩
          · 
            have Hm : Hid (mtR l = ((l.take j, (l.drop j).take 2, (unqR (l.drop (j + 2))).1), (unqR (l.drop (j + 2))).2 && isNameL (l.take j))) := by
              show _ = _; unfold mtR; rw [Hse.out.1, Hse.out.2]; dsimp only
              have s2 : sgn2 (l.drop j) = true := by unfold sgn2; rw [hdl, qA]; rfl
              rw [s2]; simp only [if_true]
              rw [List.drop_drop]
            go_wp2_with fail
            have hb1 : IfB ((w.alloc (Obj.cells #[.string (bs []), .string (bs []), .string (bs []), .pointer none] 55)).alloc (Obj.cells #[.string (bs (l.take j)), .string (bs ((l.drop j).take 2)), .string (bs []), .pointer none] 55)) (w.heap.size + 1) (l.take j, (l.drop j).take 2, []) := ⟨by have := heap1 (w.alloc (Obj.cells #[.string (bs []), .string (bs []), .string (bs []), .pointer none] 55)) (Obj.cells #[.string (bs (l.take j)), .string (bs ((l.drop j).take 2)), .string (bs []), .pointer none] 55); rw [← this]; simp⟩
            have hb0 := HB0.out.frm (S := []) ((Frm.refl _ _).alloc (Obj.cells #[.string (bs (l.take j)), .string (bs ((l.drop j).take 2)), .string (bs []), .pointer none] 55)) (by simp)
            refine (unquoted_any (l.drop (j + 2)) _ (by simp; omega)).mono ?_
            rintro e w2 ⟨rfl, hf⟩
            have B1 := hide (hb1.frm hf (by simp))
            have B0 := hide (hb0.frm hf (by simp))
            have KF := hide ((((Frm.refl [] w).alloc _).alloc _).trans hf)
            clear hf hb1 hb0
            have hz2 : w.heap.size + 1 < w2.heap.size := B1.out.lt
            generalize unqR (l.drop (j + 2)) = u at *
            obtain ⟨u1, u2⟩ := u
            have p0 : w2.cell? ⟨w.heap.size + 1, 0, none⟩ = some (.string (bs (l.take j))) := B1.out.cell 0
            have p1 : w2.cell? ⟨w.heap.size + 1, 1, none⟩ = some (.string (bs ((l.drop j).take 2))) := B1.out.cell 1
            have p2 : w2.cell? ⟨w.heap.size + 1, 2, none⟩ = some (.string (bs [])) := B1.out.cell 2
            have p3 : w2.cell? ⟨w.heap.size + 1, 3, none⟩ = some (.pointer none) := B1.out.cell 3
            have p4 := B1.out.fz
            have r0 : w2.cell? ⟨w.heap.size, 0, none⟩ = some (.string (bs [])) := B0.out.cell 0
            have r1 : w2.cell? ⟨w.heap.size, 1, none⟩ = some (.string (bs [])) := B0.out.cell 1
            have r2 : w2.cell? ⟨w.heap.size, 2, none⟩ = some (.string (bs [])) := B0.out.cell 2
            have r3 : w2.cell? ⟨w.heap.size, 3, none⟩ = some (.pointer none) := B0.out.cell 3
            have r4 := B0.out.fz
            go_wp2_with fail
            refine (rName_any (l.take j) _ (by simp; omega)).mono ?_
            rintro e w' ⟨rfl, rfl⟩
            generalize l.take j = nm at *
            generalize (l.drop j).take 2 = sg at *
            generalize isNameL nm = ib at *
            cases u2
            all_goals
              go_wp2
              refine bodyPost_ret (results_matcher (m := (nm, sg, u1)) (rb := w.heap.size) ?_ (by rfl) (by rfl)) rfl ?_
              · exact (B0.out.frm (S := [w.heap.size + 1]) ((Frm.refl _ _).setCell (p := ⟨w.heap.size + 1, 2, none⟩) (by simp) (.string (bs u1))) (by simp)).set4 (nm, sg, u1)
              · rw [Hm.out]
                exact ⟨by simp, Frm.set4 (KF.out.setCell (Or.inr (by simp)) _) (by simp) _ _ _ _⟩
        · have hd1 : decide ((1 : Int) < ((l.length - j : Nat) : Int)) = false := decide_eq_false (by omega)
          have hd0 : decide ((0 : Int) < ((l.length - j : Nat) : Int)) = true := decide_eq_true (by omega)
          have hdl : decide (1 < (l.drop j).length) = false := by simp; omega
          have Hm : Hid (mtR l = ((l.take j, (l.drop j).take 1, (unqR (l.drop (j + 1))).1), (unqR (l.drop (j + 1))).2 && isNameL (l.take j))) := by
            show _ = _; unfold mtR; rw [Hse.out.1, Hse.out.2]; dsimp only
            have s2 : sgn2 (l.drop j) = false := by unfold sgn2; rw [hdl]; rfl
            have s1 : sgn1 (l.drop j) = true := by unfold sgn1; rw [Hh.out, h61]; simp; omega
            rw [s2, s1]; simp only [Bool.false_eq_true, if_false, if_true]
            rw [List.drop_drop]
          go_wp2_with fail
          have hb1 : IfB ((w.alloc (Obj.cells #[.string (bs []), .string (bs []), .string (bs []), .pointer none] 55)).alloc (Obj.cells #[.string (bs (l.take j)), .string (bs ((l.drop j).take 1)), .string (bs []), .pointer none] 55)) (w.heap.size + 1) (l.take j, (l.drop j).take 1, []) := ⟨by have := heap1 (w.alloc (Obj.cells #[.string (bs []), .string (bs []), .string (bs []), .pointer none] 55)) (Obj.cells #[.string (bs (l.take j)), .string (bs ((l.drop j).take 1)), .string (bs []), .pointer none] 55); rw [← this]; simp⟩
          have hb0 := HB0.out.frm (S := []) ((Frm.refl _ _).alloc (Obj.cells #[.string (bs (l.take j)), .string (bs ((l.drop j).take 1)), .string (bs []), .pointer none] 55)) (by simp)
          refine (unquoted_any (l.drop (j + 1)) _ (by simp; omega)).mono ?_
          rintro e w2 ⟨rfl, hf⟩
          have B1 := hide (hb1.frm hf (by simp))
          have B0 := hide (hb0.frm hf (by simp))
          have KF := hide ((((Frm.refl [] w).alloc _).alloc _).trans hf)
          clear hf hb1 hb0
          have hz2 : w.heap.size + 1 < w2.heap.size := B1.out.lt
          generalize unqR (l.drop (j + 1)) = u at *
          obtain ⟨u1, u2⟩ := u
          have p0 : w2.cell? ⟨w.heap.size + 1, 0, none⟩ = some (.string (bs (l.take j))) := B1.out.cell 0
          have p1 : w2.cell? ⟨w.heap.size + 1, 1, none⟩ = some (.string (bs ((l.drop j).take 1))) := B1.out.cell 1
          have p2 : w2.cell? ⟨w.heap.size + 1, 2, none⟩ = some (.string (bs [])) := B1.out.cell 2
          have p3 : w2.cell? ⟨w.heap.size + 1, 3, none⟩ = some (.pointer none) := B1.out.cell 3
          have p4 := B1.out.fz
          have r0 : w2.cell? ⟨w.heap.size, 0, none⟩ = some (.string (bs [])) := B0.out.cell 0
          have r1 : w2.cell? ⟨w.heap.size, 1, none⟩ = some (.string (bs [])) := B0.out.cell 1
          have r2 : w2.cell? ⟨w.heap.size, 2, none⟩ = some (.string (bs [])) := B0.out.cell 2
          have r3 : w2.cell? ⟨w.heap.size, 3, none⟩ = some (.pointer none) := B0.out.cell 3
          have r4 := B0.out.fz
          go_wp2_with fail
          refine (rName_any (l.take j) _ (by simp; omega)).mono ?_
          rintro e w' ⟨rfl, rfl⟩
          generalize l.take j = nm at *
          generalize (l.drop j).take 1 = sg at *
          generalize isNameL nm = ib at *
          cases u2
          all_goals
            go_wp2
            refine bodyPost_ret (results_matcher (m := (nm, sg, u1)) (rb := w.heap.size) ?_ (by rfl) (by rfl)) rfl ?_
            · exact (B0.out.frm (S := [w.heap.size + 1]) ((Frm.refl _ _).setCell (p := ⟨w.heap.size + 1, 2, none⟩) (by simp) (.string (bs u1))) (by simp)).set4 (nm, sg, u1)
            · rw [Hm.out]
              exact ⟨by simp, Frm.set4 (KF.out.setCell (Or.inr (by simp)) _) (by simp) _ _ _ _⟩
      case false =>
      rw [e61] at h61
      have n61 : ((c.toNat : Int) != 61) = true := by unfold bne; rw [h61]; rfl
      cases e33 : (c == 33)
      case false =>
        rw [e33] at h33
        have n33 : ((c.toNat : Int) != 33) = true := by unfold bne; rw [h33]; rfl
        have Hal2 : Hid ((l.take (j + 1)).all notEq = true) := by
          show _ = _; rw [Ht.out, List.all_append, Hal.out]; simp [notEq, e61, e33]
        clear Hend
        go_wp2
        go_roundg (gk - 1)
        case measure => omega
        case rel => exact ⟨j + 1, by omega, by go_num, Hal2.out, rfl⟩
      case true =>
        rw [e33] at h33
        have n33 : ((c.toNat : Int) != 33) = false := by unfold bne; rw [h33]; rfl
        have hse := Hend.out (by unfold notEq; rw [e33]; simp)
        have Hse := hide hse
        clear hse Hend Hal
        have hbr : (bs (l.drop j))[0]'(by rw [hsz]; simp; omega) = c := by
          have : ∀ (L : List UInt8) (r : List UInt8) (h : 0 < (bs L).size), L = c :: r → (bs L)[0]'h = c := by
            intro L r h e; subst e; rfl
          exact this _ _ _ Hd.out
        have qA : ((l.drop j).take 2 == [61, 126]) = false := by
          rw [Hd.out, beq_eq_false_iff_ne]; intro e; simp at e; rw [e.1] at e61; simp at e61
        have Hh : Hid (hd (l.drop j) = (c.toNat : Int)) := hd_drop' Hd.out
        have htk : List.take (l.length - j) (List.drop j l) = List.drop j l := List.take_of_length_le (by simp)
        have hd0 : decide ((0 : Int) < ((l.length - j : Nat) : Int)) = true := decide_eq_true (by omega)
        by_cases hln : 1 < l.length - j
        · have hd1 : decide ((1 : Int) < ((l.length - j : Nat) : Int)) = true := decide_eq_true (by omega)
          have hdl : decide (1 < (l.drop j).length) = true := by simp; omega
          cases qB : ((l.drop j).take 2 == [33, 126])
          · cases qC : ((l.drop j).take 2 == [33, 61])
            · have s2 : Hid (sgn2 (l.drop j) = false) := by show _ = _; unfold sgn2; rw [hdl, qA, qB, qC]; rfl
              have s1 : Hid (sgn1 (l.drop j) = false) := by show _ = _; unfold sgn1; rw [Hh.out, h61]; simp
              have Hm : Hid (mtR l = ((l.take j, [], []), false)) := by
                show _ = _; unfold mtR; rw [Hse.out.1, Hse.out.2]; dsimp only
                rw [s2.out, s1.out]; simp only [Bool.false_eq_true, if_false]
              go_wp2
              refine bodyPost_ret (results_matcher (m := (l.take j, [], [])) (ok := false) (rb := w.heap.size) ?_ (by rfl) (by rfl)) rfl ?_
              · exact ⟨by rw [Below.heap_alloc _ _ _ (by simp)]; exact heap1 _ _⟩
              · rw [Hm.out]
                exact ⟨rfl, ((Frm.refl [] w).alloc _).alloc _⟩
            · have s2 : Hid (sgn2 (l.drop j) = true) := by show _ = _; unfold sgn2; rw [hdl, qC]; simp
              have Hm : Hid (mtR l = ((l.take j, (l.drop j).take 2, (unqR (l.drop (j + 2))).1), (unqR (l.drop (j + 2))).2 && isNameL (l.take j))) := by
                show _ = _; unfold mtR; rw [Hse.out.1, Hse.out.2]; dsimp only
                rw [s2.out]; simp only [if_true]
                rw [List.drop_drop]
              go_wp2_with fail
              have hb1 : IfB ((w.alloc (Obj.cells #[.string (bs []), .string (bs []), .string (bs []), .pointer none] 55)).alloc (Obj.cells #[.string (bs (l.take j)), .string (bs ((l.drop j).take 2)), .string (bs []), .pointer none] 55)) (w.heap.size + 1) (l.take j, (l.drop j).take 2, []) := ⟨by have := heap1 (w.alloc (Obj.cells #[.string (bs []), .string (bs []), .string (bs []), .pointer none] 55)) (Obj.cells #[.string (bs (l.take j)), .string (bs ((l.drop j).take 2)), .string (bs []), .pointer none] 55); rw [← this]; simp⟩
              have hb0 := HB0.out.frm (S := []) ((Frm.refl _ _).alloc (Obj.cells #[.string (bs (l.take j)), .string (bs ((l.drop j).take 2)), .string (bs []), .pointer none] 55)) (by simp)
              refine (unquoted_any (l.drop (j + 2)) _ (by simp; omega)).mono ?_
              rintro e w2 ⟨rfl, hf⟩
              have B1 := hide (hb1.frm hf (by simp))
              have B0 := hide (hb0.frm hf (by simp))
              have KF := hide ((((Frm.refl [] w).alloc _).alloc _).trans hf)
              clear hf hb1 hb0
              have hz2 : w.heap.size + 1 < w2.heap.size := B1.out.lt
              generalize unqR (l.drop (j + 2)) = u at *
              obtain ⟨u1, u2⟩ := u
              have p0 : w2.cell? ⟨w.heap.size + 1, 0, none⟩ = some (.string (bs (l.take j))) := B1.out.cell 0
              have p1 : w2.cell? ⟨w.heap.size + 1, 1, none⟩ = some (.string (bs ((l.drop j).take 2))) := B1.out.cell 1
              have p2 : w2.cell? ⟨w.heap.size + 1, 2, none⟩ = some (.string (bs [])) := B1.out.cell 2
              have p3 : w2.cell? ⟨w.heap.size + 1, 3, none⟩ = some (.pointer none) := B1.out.cell 3
              have p4 := B1.out.fz
              have r0 : w2.cell? ⟨w.heap.size, 0, none⟩ = some (.string (bs [])) := B0.out.cell 0
              have r1 : w2.cell? ⟨w.heap.size, 1, none⟩ = some (.string (bs [])) := B0.out.cell 1
              have r2 : w2.cell? ⟨w.heap.size, 2, none⟩ = some (.string (bs [])) := B0.out.cell 2
              have r3 : w2.cell? ⟨w.heap.size, 3, none⟩ = some (.pointer none) := B0.out.cell 3
              have r4 := B0.out.fz
              go_wp2_with fail
              refine (rName_any (l.take j) _ (by simp; omega)).mono ?_
              rintro e w' ⟨rfl, rfl⟩
              generalize l.take j = nm at *
              generalize (l.drop j).take 2 = sg at *
              generalize isNameL nm = ib at *
              cases u2
              all_goals
                go_wp2
                refine bodyPost_ret (results_matcher (m := (nm, sg, u1)) (rb := w.heap.size) ?_ (by rfl) (by rfl)) rfl ?_
                · exact (B0.out.frm (S := [w.heap.size + 1]) ((Frm.refl _ _).setCell (p := ⟨w.heap.size + 1, 2, none⟩) (by simp) (.string (bs u1))) (by simp)).set4 (nm, sg, u1)
                · rw [Hm.out]
                  exact ⟨by simp, Frm.set4 (KF.out.setCell (Or.inr (by simp)) _) (by simp) _ _ _ _⟩
          · have s2 : Hid (sgn2 (l.drop j) = true) := by show _ = _; unfold sgn2; rw [hdl, qB]; simp
            have Hm : Hid (mtR l = ((l.take j, (l.drop j).take 2, (unqR (l.drop (j + 2))).1), (unqR (l.drop (j + 2))).2 && isNameL (l.take j))) := by
              show _ = _; unfold mtR; rw [Hse.out.1, Hse.out.2]; dsimp only
              rw [s2.out]; simp only [if_true]
              rw [List.drop_drop]
            go_wp2_with fail
            have hb1 : IfB ((w.alloc (Obj.cells #[.string (bs []), .string (bs []), .string (bs []), .pointer none] 55)).alloc (Obj.cells #[.string (bs (l.take j)), .string (bs ((l.drop j).take 2)), .string (bs []), .pointer none] 55)) (w.heap.size + 1) (l.take j, (l.drop j).take 2, []) := ⟨by have := heap1 (w.alloc (Obj.cells #[.string (bs []), .string (bs []), .string (bs []), .pointer none] 55)) (Obj.cells #[.string (bs (l.take j)), .string (bs ((l.drop j).take 2)), .string (bs []), .pointer none] 55); rw [← this]; simp⟩
            have hb0 := HB0.out.frm (S := []) ((Frm.refl _ _).alloc (Obj.cells #[.string (bs (l.take j)), .string (bs ((l.drop j).take 2)), .string (bs []), .pointer none] 55)) (by simp)
            refine (unquoted_any (l.drop (j + 2)) _ (by simp; omega)).mono ?_
            rintro e w2 ⟨rfl, hf⟩
            have B1 := hide (hb1.frm hf (by simp))
            have B0 := hide (hb0.frm hf (by simp))
            have KF := hide ((((Frm.refl [] w).alloc _).alloc _).trans hf)
            clear hf hb1 hb0
            have hz2 : w.heap.size + 1 < w2.heap.size := B1.out.lt
            generalize unqR (l.drop (j + 2)) = u at *
            obtain ⟨u1, u2⟩ := u
            have p0 : w2.cell? ⟨w.heap.size + 1, 0, none⟩ = some (.string (bs (l.take j))) := B1.out.cell 0
            have p1 : w2.cell? ⟨w.heap.size + 1, 1, none⟩ = some (.string (bs ((l.drop j).take 2))) := B1.out.cell 1
            have p2 : w2.cell? ⟨w.heap.size + 1, 2, none⟩ = some (.string (bs [])) := B1.out.cell 2
            have p3 : w2.cell? ⟨w.heap.size + 1, 3, none⟩ = some (.pointer none) := B1.out.cell 3
            have p4 := B1.out.fz
            have r0 : w2.cell? ⟨w.heap.size, 0, none⟩ = some (.string (bs [])) := B0.out.cell 0
            have r1 : w2.cell? ⟨w.heap.size, 1, none⟩ = some (.string (bs [])) := B0.out.cell 1
            have r2 : w2.cell? ⟨w.heap.size, 2, none⟩ = some (.string (bs [])) := B0.out.cell 2
            have r3 : w2.cell? ⟨w.heap.size, 3, none⟩ = some (.pointer none) := B0.out.cell 3
            have r4 := B0.out.fz
            go_wp2_with fail
            refine (rName_any (l.take j) _ (by simp; omega)).mono ?_
            rintro e w' ⟨rfl, rfl⟩
            generalize l.take j = nm at *
            generalize (l.drop j).take 2 = sg at *
            generalize isNameL nm = ib at *
            cases u2
            all_goals
              go_wp2
              refine bodyPost_ret (results_matcher (m := (nm, sg, u1)) (rb := w.heap.size) ?_ (by rfl) (by rfl)) rfl ?_
              · exact (B0.out.frm (S := [w.heap.size + 1]) ((Frm.refl _ _).setCell (p := ⟨w.heap.size + 1, 2, none⟩) (by simp) (.string (bs u1))) (by simp)).set4 (nm, sg, u1)
              · rw [Hm.out]
                exact ⟨by simp, Frm.set4 (KF.out.setCell (Or.inr (by simp)) _) (by simp) _ _ _ _⟩
        · have hd1 : decide ((1 : Int) < ((l.length - j : Nat) : Int)) = false := decide_eq_false (by omega)
          have hdl : decide (1 < (l.drop j).length) = false := by simp; omega
          have s2 : Hid (sgn2 (l.drop j) = false) := by show _ = _; unfold sgn2; rw [hdl]; rfl
          have s1 : Hid (sgn1 (l.drop j) = false) := by show _ = _; unfold sgn1; rw [Hh.out, h61]; simp
          have Hm : Hid (mtR l = ((l.take j, [], []), false)) := by
            show _ = _; unfold mtR; rw [Hse.out.1, Hse.out.2]; dsimp only
            rw [s2.out, s1.out]; simp only [Bool.false_eq_true, if_false]
          go_wp2
          refine bodyPost_ret (results_matcher (m := (l.take j, [], [])) (ok := false) (rb := w.heap.size) ?_ (by rfl) (by rfl)) rfl ?_
          · exact ⟨by rw [Below.heap_alloc _ _ _ (by simp)]; exact heap1 _ _⟩
          · rw [Hm.out]
            exact ⟨rfl, ((Frm.refl [] w).alloc _).alloc _⟩
    · have hjl : j = l.length := by omega
      have Hse : Hid (l.takeWhile notEq = l.take j ∧ l.dropWhile notEq = l.drop j) := by
        have := tw_split (l.take j) (l.drop j) Hal.out (fun c' r' e => by rw [List.drop_eq_nil_of_le (by omega)] at e; cases e)
        rwa [List.take_append_drop] at this
      have Hnil : Hid (l.drop j = []) := List.drop_eq_nil_of_le (by omega)
      have s2 : Hid (sgn2 (l.drop j) = false) := by show _ = _; rw [Hnil.out]; rfl
      have s1 : Hid (sgn1 (l.drop j) = false) := by show _ = _; rw [Hnil.out]; rfl
      have hd1 : decide ((1 : Int) < ((l.length - j : Nat) : Int)) = false := decide_eq_false (by omega)
      have hd0 : decide ((0 : Int) < ((l.length - j : Nat) : Int)) = false := decide_eq_false (by omega)
      clear hjl Hal
      have Hm : Hid (mtR l = ((l.take j, [], []), false)) := by
        show _ = _; unfold mtR; rw [Hse.out.1, Hse.out.2]; dsimp only
        rw [s2.out, s1.out]; simp only [Bool.false_eq_true, if_false]
      go_wp2
      refine bodyPost_ret (results_matcher (m := (l.take j, [], [])) (ok := false) (rb := w.heap.size) ?_ (by rfl) (by rfl)) rfl ?_
      · exact ⟨by rw [Below.heap_alloc _ _ _ (by simp)]; exact heap1 _ _⟩
      · rw [Hm.out]
        exact ⟨rfl, ((Frm.refl [] w).alloc _).alloc _⟩

end Go.Proofs.YtjnaekffodgdcaaDoor
