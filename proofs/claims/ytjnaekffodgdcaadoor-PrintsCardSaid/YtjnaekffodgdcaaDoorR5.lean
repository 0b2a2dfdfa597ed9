import Derived.Test.YtjnaekffodgdcaaDoorR4
namespace Go.Proofs.YtjnaekffodgdcaaDoor
open Go.RowKit
set_option linter.unusedVariables false
set_option linter.unusedSimpArgs false
set_option linter.unnecessarySimpa false

theorem hex_cut (n : Nat) (h : n < 16) : (hexL.take (n + 1)).drop n = [hexD n] := by
  have : ∀ n, n < 16 → (hexL.take (n + 1)).drop n = [hexD n] := by decide +kernel
  exact this n h

set_option maxRecDepth 100000 in
set_option maxHeartbeats 4000000 in
theorem quoted_any (v : List UInt8) (w : World) (hv : v.length ≤ 40) :
    Calls Tryd.prog 15 #[.string (bs v)] w fun e w' => e = .returned (.string (bs (quoteV v))) ∧ Frm [] w w' := by
  have hsz := bs_size
  have hap := bs_append
  have hx := bs_extract
  have k34 : ({ data := #[34] } : ByteArray) = bs [34] := rfl
  have k1 : ({ data := #[92, 34] } : ByteArray) = bs [92, 34] := rfl
  have k2 : ({ data := #[92, 92] } : ByteArray) = bs [92, 92] := rfl
  have k3 : ({ data := #[92, 120] } : ByteArray) = bs [92, 120] := rfl
  have k16 : ({ data := #[48, 49, 50, 51, 52, 53, 54, 55, 56, 57, 97, 98, 99, 100, 101, 102] } : ByteArray) = bs hexL := rfl
  have hl16 : hexL.length = 16 := rfl
  go_enter Tryd.func15, Tryd.ntmps15
  go_wp2
  go_loopg [3, 4] v.length (fun k vt vi wr => ∃ (j : Nat), j + k = v.length ∧ vi = .int .i64 j ∧ vt = .string (bs ([34] ++ (v.take j).flatMap quoteB)) ∧ Frm [] w wr)
  case atStart => exact ⟨0, by omega, rfl, by simp [k34], Frm.refl _ _⟩
  case round =>
    obtain ⟨j, hj, rfl, rfl, hfr⟩ := hrel
    have Hf := hide hfr
    clear hfr
    have hal : ((v.take j).flatMap quoteB).length ≤ 4 * 40 := by
      have := quoteL_len (v.take j); simp at this ⊢; omega
    by_cases hlt : j < v.length
    · have hbg2 : (bs v)[j]'(by rw [hsz]; omega) = v[j] := rfl
      have Ht : Hid ((v.take (j + 1)).flatMap quoteB = (v.take j).flatMap quoteB ++ quoteB v[j]) := by
        show _ = _; rw [List.take_succ_eq_append_getElem hlt, List.flatMap_append]; simp only [List.flatMap_cons, List.flatMap_nil, List.append_nil]
      have He : Hid (List.drop j (List.take (j + 1) v) = [v[j]]) := by
        show _ = _; rw [List.take_succ_eq_append_getElem hlt, List.drop_append_of_le_length (by simp; omega), List.drop_eq_nil_of_le (by simp; omega)]; rfl
      generalize v[j] = c at *
      generalize (v.take j).flatMap quoteB = T at *
      have hu := u8i c
      have hc34 : ((c.toNat : Int) == 34) = (c == 34) := toNat_beq c 34
      have hc92 : ((c.toNat : Int) == 92) = (c == 92) := toNat_beq c 92
      cases h34 : (c == 34)
      · rw [h34] at hc34
        cases h92 : (c == 92)
        · rw [h92] at hc92
          cases hp : plainB c.toNat
          · have hq : Hid (quoteB c = [92, 120, hexD (c.toNat / 16), hexD (c.toNat % 16)]) := by
              show _ = _; unfold quoteB; rw [hp]; rfl
            have hnp : (c.toNat : Int) < 32 ∨ 126 < (c.toNat : Int) := by
              unfold plainB at hp
              rw [Bool.and_eq_false_iff, decide_eq_false_iff_not, decide_eq_false_iff_not] at hp
              omega
            have e1 := hex_cut (c.toNat / 16) (by omega)
            have e2 := hex_cut (c.toNat % 16) (by omega)
            generalize hexD (c.toNat / 16) = x1 at *
            generalize hexD (c.toNat % 16) = x2 at *
            rcases hnp with hnp | hnp
            all_goals
              go_wp2
              go_quiet (fail)
              go_wp2
              go_roundg (gk - 1)
              case measure => omega
              case rel => exact ⟨j + 1, by omega, by go_num, by rw [Ht.out, hq.out]; rfl, Hf.out.drewN _⟩
          · have hq : Hid (quoteB c = [c]) := by
              show _ = _; unfold quoteB; rw [hp, h34, h92]; rfl
            have hnp : 32 ≤ (c.toNat : Int) ∧ (c.toNat : Int) ≤ 126 := by
              unfold plainB at hp
              rw [Bool.and_eq_true, decide_eq_true_iff, decide_eq_true_iff] at hp
              exact hp
            obtain ⟨hn1, hn2⟩ := hnp
            have he := He.out
            go_wp2
            go_roundg (gk - 1)
            case measure => omega
            case rel => exact ⟨j + 1, by omega, by go_num, by rw [Ht.out, hq.out]; rfl, Hf.out⟩
        · rw [h92] at hc92
          have hq : Hid (quoteB c = [92, 92]) := by
            have : c = 92 := by simpa using h92
            subst this; rfl
          go_wp2
          go_roundg (gk - 1)
          case measure => omega
          case rel => exact ⟨j + 1, by omega, by go_num, by rw [Ht.out, hq.out]; rfl, Hf.out⟩
      · rw [h34] at hc34
        have hq : Hid (quoteB c = [92, 34]) := by
          have : c = 34 := by simpa using h34
          subst this; rfl
        go_wp2
        go_roundg (gk - 1)
        case measure => omega
        case rel => exact ⟨j + 1, by omega, by go_num, by rw [Ht.out, hq.out]; rfl, Hf.out⟩
    · have Ht : Hid (v.take j = v) := List.take_of_length_le (by omega)
      rw [Ht.out]
      have Hx : Hid (quoteV v = [34] ++ v.flatMap quoteB ++ [34]) := rfl
      rw [Ht.out] at hal
      generalize v.flatMap quoteB = T at *
      go_wp2
      go_ret
      rw [Hx.out]
      exact ⟨ret_str (by simp), Hf.out⟩

/-- The bytes between quotes, as what they stand for. -/
def unqGo : Nat → List UInt8 → List UInt8 → Option (List UInt8)
  | 0, _, _ => none
  | _ + 1, [], v => some v
  | k + 1, c :: r, v =>
    if c == 34 || !(plainB c.toNat) then none
    else if c == 92 then
      (match r with
       | [] => none
       | d :: r1 =>
         if d == 120 then
           (match r1 with
            | h :: o :: r2 => if decide (hexV h < 0) || decide (hexV o < 0) then none else unqGo k r2 (v ++ [UInt8.ofNat (16 * hexV h + hexV o).toNat])
            | _ => none)
         else if !(d == 34) && !(d == 92) then none else unqGo k r1 (v ++ [d]))
    else unqGo k r (v ++ [c])
def unqR (l : List UInt8) : List UInt8 × Bool :=
  if decide (l.length < 2) || !(hd l == 34) || !(l.getLast? == some 34) then ([], false)
  else match unqGo l.length ((l.take (l.length - 1)).drop 1) [] with
    | none => ([], false)
    | some v => (v, decide (v.length ≤ 40))

end Go.Proofs.YtjnaekffodgdcaaDoor
