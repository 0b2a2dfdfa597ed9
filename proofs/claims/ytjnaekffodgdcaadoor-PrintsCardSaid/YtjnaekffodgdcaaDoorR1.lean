import Derived.Test.YtjnaekffodgdcaaDoorW20
import Derived.Lib.ItoaNum
namespace Go.Proofs.YtjnaekffodgdcaaDoor
open Go.RowKit
set_option linter.unusedVariables false
set_option linter.unusedSimpArgs false
set_option linter.unnecessarySimpa false

def memB (l : List UInt8) (c : UInt8) : Bool := l.contains c

set_option maxRecDepth 100000 in
set_option maxHeartbeats 1000000 in
theorem among_any (c : UInt8) (l : List UInt8) (w : World) (hl : l.length ≤ 1048576) :
    Calls Tryd.prog 20 #[.int .u8 c.toNat, .string (bs l)] w fun e w' => e = .returned (.bool (memB l c)) ∧ w = w' := by
  have hsz := bs_size l
  go_enter Tryd.func20, Tryd.ntmps20
  go_wp2
  go_loopg [5] l.length (fun k i wr => ∃ j, j + k = l.length ∧ i = .int .i64 j ∧ wr = w ∧ (l.take j).contains c = false)
  case atStart => exact ⟨0, by omega, rfl, rfl, by simp⟩
  case round =>
    obtain ⟨j, hj, rfl, hw, hal⟩ := hrel
    subst hw
    have Hal := hide hal
    clear hal
    by_cases hlt : j < l.length
    · have hbg : (bs l)[j]'(by rw [hsz]; omega) = l[j] := rfl
      have Ht : Hid (l.take (j + 1) = l.take j ++ [l[j]]) := List.take_succ_eq_append_getElem hlt
      have Hm : Hid (l[j] ∈ l) := List.getElem_mem hlt
      generalize l[j] = x at *
      cases he : ((x.toNat : Int) == (c.toNat : Int))
      · have Hal2 : Hid ((l.take (j + 1)).contains c = false) := by
          show _ = _
          have hal := Hal.out
          rw [Ht.out]
          simp only [List.contains_eq_mem, decide_eq_false_iff_not, List.mem_append, List.mem_singleton] at hal ⊢
          intro h; rcases h with h | h
          · exact hal h
          · rw [h] at he; simp at he
        go_wp2
        go_roundg (gk - 1)
        case measure => omega
        case rel => exact ⟨j + 1, by omega, by go_num, rfl, Hal2.out⟩
      · have hg : Hid (memB l c = true) := by
          show _ = _
          have : x = c := UInt8.toNat_inj.1 (Int.ofNat_inj.1 (beq_iff_eq.1 he))
          unfold memB
          rw [List.contains_eq_mem, decide_eq_true_iff, ← this]
          exact Hm.out
        go_wp2
        go_ret
        exact ⟨ret_bool hg.out.symm, rfl⟩
    · have hg : Hid (memB l c = false) := by
        have := Hal.out; rw [List.take_of_length_le (by omega)] at this; exact this
      go_wp2
      go_ret
      exact ⟨ret_bool hg.out.symm, rfl⟩

def lettersL : List UInt8 := [97, 98, 99, 100, 101, 102, 103, 104, 105, 106, 107, 108, 109, 110, 111, 112, 113, 114, 115, 116, 117, 118, 119, 120, 121, 122, 65, 66, 67, 68, 69, 70, 71, 72, 73, 74, 75, 76, 77, 78, 79, 80, 81, 82, 83, 84, 85, 86, 87, 88, 89, 90, 95]
def digitsL : List UInt8 := [48, 49, 50, 51, 52, 53, 54, 55, 56, 57]
def hexL : List UInt8 := [48, 49, 50, 51, 52, 53, 54, 55, 56, 57, 97, 98, 99, 100, 101, 102]
theorem u8_all {p : UInt8 → Bool} (h : (List.range 256).all (fun n => p (UInt8.ofNat n)) = true) (c : UInt8) : p c = true := by
  have := List.all_eq_true.1 h c.toNat (List.mem_range.2 c.toNat_lt)
  rwa [UInt8.ofNat_toNat] at this
theorem letters_eq (c : UInt8) : memB lettersL c = (letB c.toNat || c == 95) := by
  have := u8_all (p := fun c => memB lettersL c == (letB c.toNat || c == 95)) (by decide +kernel) c
  simpa using this
theorem digits_eq (c : UInt8) : memB digitsL c = digB c.toNat := by
  have := u8_all (p := fun c => memB digitsL c == digB c.toNat) (by decide +kernel) c
  simpa using this
theorem nmB_eq (c : UInt8) : nmB c = (memB lettersL c || memB digitsL c) := by
  rw [letters_eq, digits_eq]; unfold nmB nameB
  have : ((c.toNat : Int) == 95) = (c == 95) := by
    rw [Bool.eq_iff_iff, beq_iff_eq, beq_iff_eq]
    constructor
    · intro h; exact UInt8.toNat_inj.1 (by simpa using (Int.ofNat_inj.1 h))
    · intro h; subst h; rfl
  rw [this]; cases letB c.toNat <;> cases digB c.toNat <;> cases (c == 95) <;> rfl
theorem let_dig (c : UInt8) (h : memB lettersL c = true) : digB c.toNat = false := by
  have := u8_all (p := fun c => !(memB lettersL c) || !(digB c.toNat)) (by decide +kernel) c
  rw [h] at this; simpa using this

theorem isNameL_iff (n : List UInt8) : isNameL n = (decide (0 < n.length) && decide (n.length ≤ 8) && !(digB (hd n)) && n.all nmB) := by
  unfold isNameL; cases n <;> simp

set_option maxRecDepth 100000 in
set_option maxHeartbeats 1000000 in
theorem rName_any (n : List UInt8) (w : World) (hn : n.length ≤ 1048576) :
    Calls Tryd.prog 11 #[.string (bs n)] w fun e w' => e = .returned (.bool (isNameL n)) ∧ w = w' := by
  have hsz := bs_size n
  go_enter Tryd.func11, Tryd.ntmps11
  go_wp2
  go_loopg [3] n.length (fun k i wr => ∃ j, j + k = n.length ∧ i = .int .i64 j ∧ wr = w ∧ (n.take j).all nmB = true ∧ (0 < j → digB (hd n) = false))
  case atStart => exact ⟨0, by omega, rfl, rfl, by simp, by omega⟩
  case round =>
    obtain ⟨j, hj, rfl, hw, hal, hd0⟩ := hrel
    subst hw
    have Hal := hide hal
    have Hd0 := hide hd0
    clear hal hd0
    by_cases hlt : j < n.length
    · have hbg : (bs n)[j]'(by rw [hsz]; omega) = n[j] := rfl
      have Ht : Hid (n.take (j + 1) = n.take j ++ [n[j]]) := List.take_succ_eq_append_getElem hlt
      have Hm : Hid (n[j] ∈ n) := List.getElem_mem hlt
      have Hh : Hid (j = 0 → hd n = (n[j].toNat : Int)) := by intro e; subst e; exact hd_drop n 0 hlt
      generalize n[j] = x at *
      have fin : nmB x = false ∨ (j = 0 ∧ digB x.toNat = true) → isNameL n = false := by
        intro h
        rw [isNameL_iff]
        rcases h with h | ⟨h0, h1⟩
        · have : n.all nmB = false := by
            rw [Bool.eq_false_iff]; intro ha
            have := List.all_eq_true.1 ha x Hm.out
            rw [h] at this; cases this
          rw [this]; simp
        · rw [Hh.out h0, h1]; simp
      have Fin := hide fin
      clear fin
      go_wp2_with fail
      refine (among_any x lettersL _ (by decide)).mono ?_
      rintro e w' ⟨rfl, rfl⟩
      go_wp2_with fail
      refine (among_any x digitsL _ (by decide)).mono ?_
      rintro e w' ⟨rfl, rfl⟩
      have hnm := nmB_eq x
      have hdg := digits_eq x
      have Hnm := hide hnm
      have Hdg := hide hdg
      clear hnm hdg
      cases h1 : memB lettersL x
      · cases h2 : memB digitsL x
        · have hg : Hid (isNameL n = false) := Fin.out (Or.inl (by rw [Hnm.out, h1, h2]; rfl))
          go_wp2
          go_ret
          exact ⟨ret_bool hg.out.symm, rfl⟩
        · by_cases hj0 : j = 0
          · have hg : Hid (isNameL n = false) := Fin.out (Or.inr ⟨hj0, by rw [← Hdg.out]; exact h2⟩)
            subst hj0
            go_wp2
            go_ret
            exact ⟨ret_bool hg.out.symm, rfl⟩
          · have hj1 : ((j : Int) == 0) = false := beq_eq_false_iff_ne.2 (by omega)
            have Hal2 : Hid ((n.take (j + 1)).all nmB = true) := by
              show _ = _; rw [Ht.out, List.all_append, Hal.out]; simp [Hnm.out, h1, h2]
            go_wp2
            go_roundg (gk - 1)
            case measure => omega
            case rel => exact ⟨j + 1, by omega, by go_num, rfl, Hal2.out, fun _ => Hd0.out (by omega)⟩
      · have Hal2 : Hid ((n.take (j + 1)).all nmB = true) := by
          show _ = _; rw [Ht.out, List.all_append, Hal.out]; simp [Hnm.out, h1]
        have Hdd : Hid (digB (hd n) = false) := by
          by_cases hj0 : j = 0
          · show _ = _; rw [Hh.out hj0]; exact let_dig x h1
          · exact Hd0.out (by omega)
        cases h2 : memB digitsL x
        all_goals
          go_wp2
          go_roundg (gk - 1)
          case measure => omega
          case rel => exact ⟨j + 1, by omega, by go_num, rfl, Hal2.out, fun _ => Hdd.out⟩
    · have hall := Hal.out
      rw [List.take_of_length_le (by omega)] at hall
      by_cases h0 : 0 < n.length
      · have hd0 : decide ((0 : Int) < (n.length : Int)) = true := decide_eq_true (by omega)
        have hg : Hid (isNameL n = decide ((n.length : Int) ≤ 8)) := by
          show _ = _
          have : decide (n.length ≤ 8) = decide ((n.length : Int) ≤ 8) := by
            rw [Bool.eq_iff_iff, decide_eq_true_iff, decide_eq_true_iff]; omega
          rw [isNameL_iff, hall, Hd0.out (by omega), this, decide_eq_true h0]
          generalize decide ((n.length : Int) ≤ 8) = z
          cases z <;> rfl
        clear hall
        go_wp2
        go_ret
        exact ⟨ret_bool (by rw [hg.out]), rfl⟩
      · have hd0 : decide ((0 : Int) < (n.length : Int)) = false := decide_eq_false (by omega)
        have hg : Hid (isNameL n = false) := by
          show _ = _; rw [isNameL_iff]; simp [h0]
        clear hall
        go_wp2
        go_ret
        exact ⟨ret_bool hg.out.symm, rfl⟩

def findI (L : List (List UInt8)) (n : List UInt8) : Int := match L.findIdx? (· == n) with | some i => (i : Int) | none => -1

set_option maxRecDepth 100000 in
set_option maxHeartbeats 1000000 in
theorem find_any (v : Value) (L : List (List UInt8)) (n : List UInt8) (w : World) (h : RS 0 w v L) :
    Calls Tryd.prog 24 #[v, .string (bs n)] w fun e w' => e = .returned (.int .i64 (findI L n)) ∧ w = w' := by
  obtain ⟨a, cap, rfl, h1, h2, h3⟩ := h
  have H3 : Hid (∀ j (h : j < L.length), ∃ g off, a = some ⟨g, off, none⟩ ∧ 0 ≤ g ∧ w.cell? ⟨g, off + j, none⟩ = some (.string (bs L[j]))) := h3
  clear h3
  have hl := bs_toList
  go_enter Tryd.func24, Tryd.ntmps24
  go_wp2
  go_loopg [5] L.length (fun k i wr => ∃ j, j + k = L.length ∧ i = .int .i64 j ∧ wr = w ∧ (∀ x ∈ L.take j, (x == n) = false))
  case atStart => exact ⟨0, by omega, rfl, rfl, by simp⟩
  case round =>
    obtain ⟨j, hj, rfl, hw, hal⟩ := hrel
    subst hw
    have Hal := hide hal
    clear hal
    by_cases hlt : j < L.length
    · obtain ⟨g, off, rfl, _, hc⟩ := H3.out j hlt
      have Ht : Hid (L.take (j + 1) = L.take j ++ [L[j]]) := List.take_succ_eq_append_getElem hlt
      have Hf : Hid ((L[j] == n) = true → L.findIdx? (· == n) = some j) := by
        intro he
        rw [List.findIdx?_eq_some_iff_getElem]
        refine ⟨hlt, he, fun i hi => ?_⟩
        have := Hal.out (L[i]'(by omega)) (by rw [List.mem_take_iff_getElem]; exact ⟨i, by omega, rfl⟩)
        rw [this]; simp
      generalize L[j] = x at *
      cases he : (x == n)
      · have Hal2 : Hid (∀ y ∈ L.take (j + 1), (y == n) = false) := by
          intro y hy; rw [Ht.out, List.mem_append, List.mem_singleton] at hy
          rcases hy with hy | rfl
          · exact Hal.out y hy
          · exact he
        go_wp2
        go_roundg (gk - 1)
        case measure => omega
        case rel => exact ⟨j + 1, by omega, by go_num, rfl, Hal2.out⟩
      · have hg : Hid (findI L n = (j : Int)) := by show _ = _; unfold findI; rw [Hf.out he]
        go_wp2
        go_ret
        rw [hg.out]
        exact ⟨rfl, rfl⟩
    · have hg : Hid (findI L n = -1) := by
        show _ = _
        have h : L.findIdx? (· == n) = none := by
          rw [List.findIdx?_eq_none_iff]
          have := Hal.out; rw [List.take_of_length_le (by omega)] at this; exact this
        unfold findI; rw [h]
      go_wp2
      go_ret
      rw [hg.out]
      exact ⟨rfl, rfl⟩

end Go.Proofs.YtjnaekffodgdcaaDoor
