import Derived.Test.YtjnaekffodgdcaaDoorW21
namespace Go.Proofs.YtjnaekffodgdcaaDoor
open Go.RowKit
set_option linter.unusedVariables false
set_option linter.unusedSimpArgs false
set_option linter.unnecessarySimpa false

def labJ : List (List UInt8) → List UInt8
  | [] => []
  | [x] => x
  | x :: y :: r => x ++ [44] ++ labJ (y :: r)
theorem labJ_snoc : ∀ (L : List (List UInt8)) (x : List UInt8), L ≠ [] → labJ (L ++ [x]) = labJ L ++ [44] ++ x
  | [], x, h => absurd rfl h
  | [y], x, _ => rfl
  | y :: z :: r, x, _ => by
    have := labJ_snoc (z :: r) x (by simp)
    show y ++ [44] ++ labJ ((z :: r) ++ [x]) = y ++ [44] ++ labJ (z :: r) ++ [44] ++ x
    rw [this]; simp
theorem labJ_len : ∀ (L : List (List UInt8)), (∀ x ∈ L, x.length ≤ 8) → (labJ L).length ≤ 9 * L.length
  | [], _ => by simp [labJ]
  | [y], h => by have := h y (by simp); simp [labJ]; omega
  | y :: z :: r, h => by
    have h1 := labJ_len (z :: r) (fun x hx => h x (by simp [hx]))
    have h2 := h y (by simp)
    simp only [labJ, List.length_append, List.length_cons, List.length_nil] at h1 ⊢; omega
def labT (L : List (List UInt8)) : List UInt8 := if L.isEmpty then [45] else labJ L

set_option maxRecDepth 100000 in
set_option maxHeartbeats 2000000 in
theorem printLabels_any (v : Value) (L : List (List UInt8)) (w : World) (h : RS 0 w v L) (hL : L.length ≤ 4) (hn : ∀ x ∈ L, x.length ≤ 8) :
    Calls Tryd.prog 30 #[v] w fun e w' => e = .returned (.string (bs (labT L))) ∧ w = w' := by
  obtain ⟨a, cap, rfl, h1, h2, h3⟩ := h
  have H3 : Hid (∀ j (h : j < L.length), ∃ g off, a = some ⟨g, off, none⟩ ∧ 0 ≤ g ∧ w.cell? ⟨g, off + j, none⟩ = some (.string (bs L[j]))) := h3
  have HN : Hid (∀ x ∈ L, x.length ≤ 8) := hn
  clear h3 hn
  have hsz := bs_size
  have hap := bs_append
  have h44 : ({ data := #[44] } : ByteArray) = bs [44] := rfl
  by_cases h0 : L.length = 0
  · have hb : ((L.length : Int) == 0) = true := by simp [h0]
    have Hx : Hid (labT L = [45]) := by show _ = _; rw [List.eq_nil_of_length_eq_zero h0]; rfl
    go_enter Tryd.func30, Tryd.ntmps30
    go_wp2
    go_ret
    rw [Hx.out]
    exact ⟨rfl, rfl⟩
  have hb : ((L.length : Int) == 0) = false := beq_eq_false_iff_ne.2 (by omega)
  have Hx : Hid (labT L = labJ L) := by
    show _ = _; unfold labT
    cases L with
    | nil => simp at h0
    | cons => rfl
  go_enter Tryd.func30, Tryd.ntmps30
  go_wp2_with fail
  go_loopg [3, 11] L.length (fun k vt i wr => ∃ j, j + k = L.length ∧ i = .int .i64 j ∧ vt = .string (bs (labJ (L.take j))) ∧ wr = w)
  case atStart => exact ⟨0, by omega, rfl, rfl, rfl⟩
  case round =>
    obtain ⟨j, hj, rfl, rfl, hw⟩ := hrel
    subst hw
    by_cases hlt : j < L.length
    · obtain ⟨g, off, rfl, _, hc⟩ := H3.out j hlt
      have hx8 := HN.out _ (List.getElem_mem hlt)
      have htl : (labJ (L.take j)).length ≤ 9 * 4 := by
        have := labJ_len (L.take j) (fun x hx => HN.out x (List.mem_of_mem_take hx))
        simp at this; omega
      have Ht : Hid (L.take (j + 1) = L.take j ++ [L[j]]) := List.take_succ_eq_append_getElem hlt
      have Hj0 : Hid (j = 0 → L.take j = []) := by intro e; subst e; rfl
      have Hj1 : Hid (0 < j → L.take j ≠ []) := by
        intro e h; have := congrArg List.length h; simp at this; rcases this with h | h
        · omega
        · subst h; simp at hlt
      generalize L[j] = x at *
      generalize L.take j = T at *
      by_cases hj0 : 0 < j
      · have hd : decide ((0 : Int) < (j : Int)) = true := decide_eq_true (by omega)
        have Hy : Hid (labJ (L.take (j + 1)) = labJ T ++ [44] ++ x) := by show _ = _; rw [Ht.out, labJ_snoc T x (Hj1.out hj0)]
        generalize labJ T = tx at *
        go_wp2
        go_roundg (gk - 1)
        case measure => omega
        case rel =>
          refine ⟨j + 1, by omega, by go_num, ?_, rfl⟩
          rw [Hy.out]; simp
      · have hd : decide ((0 : Int) < (j : Int)) = false := decide_eq_false (by omega)
        have hT : T = [] := Hj0.out (by omega)
        have Hy : Hid (labJ (L.take (j + 1)) = labJ T ++ x) := by show _ = _; rw [Ht.out, hT]; rfl
        clear hT
        generalize labJ T = tx at *
        go_wp2
        go_roundg (gk - 1)
        case measure => omega
        case rel =>
          refine ⟨j + 1, by omega, by go_num, ?_, rfl⟩
          rw [Hy.out]
    · have Ht : Hid (L.take j = L) := List.take_of_length_le (by omega)
      rw [Ht.out]
      go_wp2
      go_ret
      rw [Hx.out]
      exact ⟨rfl, rfl⟩

end Go.Proofs.YtjnaekffodgdcaaDoor
