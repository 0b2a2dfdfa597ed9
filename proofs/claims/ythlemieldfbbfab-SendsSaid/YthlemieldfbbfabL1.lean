import Derived.Test.YthlemieldfbbfabRN
namespace Go.Proofs.Ythlemieldfbbfab
open Go.RowKit
set_option linter.unusedVariables false
set_option linter.unusedSimpArgs false
set_option linter.unnecessarySimpa false

/-- A label: its name, its value. -/
abbrev LBL : Type := List UInt8 × List UInt8
/-- A list of labels that is read: each at its place. -/
def LR (w : World) (v : Value) (L : List LBL) : Prop :=
  ∃ a cap, v = .slice a L.length cap ∧ L.length ≤ 1048576 ∧ ∀ (j : Nat) (h : j < L.length), ∃ g off, a = some ⟨g, off, none⟩ ∧ g < w.heap.size ∧ w.cell? ⟨g, off + j * 2, none⟩ = some (.string (bs L[j].1)) ∧ w.cell? ⟨g, off + j * 2 + 1, none⟩ = some (.string (bs L[j].2))
theorem LR.frm {S : List Nat} {w w' : World} {v : Value} {L : List LBL} (h : LR w v L) (f : Frm S w w') (hS : ∀ a n c, v = .slice (some a) n c → a.block ∉ S) : LR w' v L := by
  obtain ⟨a, cap, rfl, h0, h1⟩ := h
  refine ⟨a, cap, rfl, h0, ?_⟩
  intro j hj
  obtain ⟨g, off, rfl, h2, h3, h4⟩ := h1 j hj
  have hg := hS ⟨g, off, none⟩ _ _ rfl
  exact ⟨g, off, rfl, Nat.lt_of_lt_of_le h2 f.size, (f.cell (p := ⟨g, off + j * 2, none⟩) h2 hg).trans h3, (f.cell (p := ⟨g, off + j * 2 + 1, none⟩) h2 hg).trans h4⟩
/-- The value of a name; the empty text: none. -/
def lblV (L : List LBL) (n : List UInt8) : List UInt8 := match L.find? (fun x => x.1 == n) with | some x => x.2 | none => []

set_option maxRecDepth 100000 in
set_option maxHeartbeats 1000000 in
theorem rvalue_any (v : Value) (L : List LBL) (n : List UInt8) (w : World) (h : LR w v L) :
    Calls Try.prog 54 #[v, .string (bs n)] w fun e w' => e = .returned (.string (bs (lblV L n))) ∧ w = w' := by
  obtain ⟨a, cap, rfl, h0, h1⟩ := h
  have H1 := hide h1
  have hl := bs_toList
  clear h1
  go_enter Try.func54, Try.ntmps54
  go_wp2_with fail
  go_loopg [5] L.length (fun k vi wr => ∃ j : Nat, j + k = L.length ∧ vi = .int .i64 j ∧ wr = w ∧ Hid ((L.drop j).find? (fun x => x.1 == n) = L.find? (fun x => x.1 == n)))
  case atStart => exact ⟨0, by omega, rfl, rfl, by show _ = _; simp⟩
  case round =>
    obtain ⟨j, hj, rfl, hw, HF⟩ := hrel
    subst hw
    by_cases hlt : j < L.length
    · obtain ⟨g, off, rfl, hg, hc1, hc2⟩ := H1.out j hlt
      have hf := HF.out
      rw [List.drop_eq_getElem_cons hlt, List.find?_cons] at hf
      generalize L[j] = x at *
      obtain ⟨nm, vl⟩ := x
      simp only at hc1 hc2 hf
      cases he : (nm == n)
      · rw [he] at hf
        have HF2 := hide hf
        clear hf HF
        go_wp2
        go_roundg (gk - 1)
        case measure => omega
        case rel => exact ⟨j + 1, by omega, by go_num, rfl, HF2⟩
      · rw [he] at hf
        have HV : Hid (lblV L n = vl) := by show _ = _; unfold lblV; rw [← hf]
        clear hf HF
        go_wp2
        go_ret
        rw [HV.out]
        exact ⟨rfl, rfl⟩
    · have HV : Hid (lblV L n = []) := by
        show _ = _
        unfold lblV
        rw [← HF.out, List.drop_eq_nil_of_le (by omega)]
        rfl
      clear HF
      go_wp2
      go_ret
      rw [HV.out]
      exact ⟨rfl, rfl⟩

/-- Are these labels? -/
def labsB : List LBL → List LBL → Bool
  | _, [] => true
  | P, x :: r => isNameL x.1 && decide (x.2.length ≤ 40) && !(P.any fun y => y.1 == x.1) && labsB (P ++ [x]) r
def labsOK (L : List LBL) : Bool := decide (L.length ≤ 12) && labsB [] L
theorem labsB_at (L : List LBL) (j : Nat) (hj : j < L.length) : labsB (L.take j) (L.drop j) = (isNameL L[j].1 && decide (L[j].2.length ≤ 40) && !((L.take j).any fun y => y.1 == L[j].1) && labsB (L.take (j + 1)) (L.drop (j + 1))) := by
  have e : L.take (j + 1) = L.take j ++ [L[j]] := by rw [List.take_add_one, List.getElem?_eq_getElem hj]; rfl
  rw [List.drop_eq_getElem_cons hj, labsB, e]

set_option maxRecDepth 100000 in
set_option maxHeartbeats 2000000 in
theorem rLabels_any (RN : ∀ (n : List UInt8) (w : World), n.length ≤ 1048576 → Calls Try.prog 32 #[.string (bs n)] w fun e w' => e = .returned (.bool (isNameL n)) ∧ w = w')
    (v : Value) (L : List LBL) (w : World) (h : LR w v L) (hn : ∀ x ∈ L, x.1.length ≤ 1048576 ∧ x.2.length ≤ 1048576) :
    Calls Try.prog 16 #[v] w fun e w' => e = .returned (.bool (labsOK L)) ∧ Frm [] w w' := by
  obtain ⟨a, cap, rfl, h0, h1⟩ := h
  have H1 := hide h1
  have HN := hide hn
  have HRN := hide RN
  have hl := bs_toList
  have hsz := bs_size
  clear h1 hn RN
  by_cases hL : 12 < L.length
  · have HV : Hid (labsOK L = false) := by show _ = _; unfold labsOK; rw [decide_eq_false (by omega)]; rfl
    go_enter Try.func16, Try.ntmps16
    go_wp2
    go_ret
    rw [HV.out]
    exact ⟨rfl, Frm.refl _ _⟩
  · have HO : Hid (labsOK L = labsB [] L) := by show _ = _; unfold labsOK; rw [decide_eq_true (by omega)]; rfl
    go_enter Try.func16, Try.ntmps16
    go_wp2_with fail
    go_loopg [3] L.length (fun k vi wr => ∃ j q : Nat, j + k = L.length ∧ vi = .int .i64 j ∧ wr = w.drewN q ∧ Hid (labsB (L.take j) (L.drop j) = labsOK L))
    case atStart => exact ⟨0, 0, by omega, rfl, rfl, by show _ = _; rw [HO.out]; simp⟩
    case round =>
      obtain ⟨j, q, hj, rfl, hw, HF⟩ := hrel
      subst hw
      obtain ⟨go, hgo⟩ : ∃ go, go = gk := ⟨_, rfl⟩
      subst hgo
      by_cases hlt : j < L.length
      · obtain ⟨g, off, rfl, hg, hc1, hc2⟩ := H1.out j hlt
        have hx := HN.out L[j] (List.getElem_mem hlt)
        have HA : Hid (labsOK L = (isNameL L[j].1 && decide (L[j].2.length ≤ 40) && !((L.take j).any fun y => y.1 == L[j].1) && labsB (L.take (j + 1)) (L.drop (j + 1)))) := by
          show _ = _; rw [← HF.out]; exact labsB_at L j hlt
        clear HF
        generalize hLj : L[j] = x at *
        have HLJ := hide hLj
        clear hLj
        obtain ⟨nm, vl⟩ := x
        simp only at hc1 hc2 hx HA
        have NA := hide (HRN.out nm (w.drewN q) hx.1)
        cases hin : isNameL nm
        · rw [hin] at NA HA
          have HV : Hid (labsOK L = false) := by show _ = _; rw [HA.out]; rfl
          clear HA
          go_wp2_with (go_at_call 32; refine (NA.out).mono ?_; rintro e w' ⟨rfl, rfl⟩)
          go_ret
          rw [HV.out]
          exact ⟨rfl, (Frm.refl _ _).drewN _⟩
        · rw [hin] at NA HA
          by_cases hvl : 40 < vl.length
          · have HV : Hid (labsOK L = false) := by show _ = _; rw [HA.out, decide_eq_false (by omega)]; rfl
            clear HA
            go_wp2_with (go_at_call 32; refine (NA.out).mono ?_; rintro e w' ⟨rfl, rfl⟩)
            go_ret
            rw [HV.out]
            exact ⟨rfl, (Frm.refl _ _).drewN _⟩
          · have HA2 : Hid (labsOK L = (!((L.take j).any fun y => y.1 == nm) && labsB (L.take (j + 1)) (L.drop (j + 1)))) := by
              show _ = _; rw [HA.out, decide_eq_true (by omega)]; rfl
            clear HA
            go_wp2_with (go_at_call 32; refine (NA.out).mono ?_; rintro e w' ⟨rfl, rfl⟩)
            go_loopg [5] j (fun k vi wr => ∃ i q : Nat, i + k = j ∧ vi = .int .i64 i ∧ wr = w.drewN q ∧ Hid (((L.take i).any fun y => y.1 == nm) = false))
            case atStart => exact ⟨0, q, by omega, rfl, rfl, by show _ = _; simp⟩
            case round =>
              obtain ⟨i, q2, hi, rfl, hw, HB⟩ := hrel
              subst hw
              by_cases hlt2 : i < j
              · obtain ⟨g3, off3, e3, hg3, hc3, _⟩ := H1.out i (by omega)
                simp only [Option.some.injEq, Addr.mk.injEq, and_true] at e3
                obtain ⟨rfl, rfl⟩ := e3
                have hti : L.take (i + 1) = L.take i ++ [L[i]'(by omega)] := by rw [List.take_add_one, List.getElem?_eq_getElem (by omega)]; rfl
                have hmem : L[i]'(by omega) ∈ L.take j := by rw [List.mem_take_iff_getElem]; exact ⟨i, by omega, rfl⟩
                have HTI := hide hti
                have HMEM := hide hmem
                clear hti hmem
                generalize L[i]'(by omega) = y at *
                obtain ⟨n2, v2⟩ := y
                simp only at hc3
                cases he : (n2 == nm)
                · have HB2 : Hid (((L.take (i + 1)).any fun y => y.1 == nm) = false) := by
                    show _ = _; rw [HTI.out, List.any_append, HB.out]; simp [he]
                  clear HB
                  go_wp2_with fail
                  go_quiet (fail)
                  go_wp2
                  go_roundg (gk - 1)
                  case measure => omega
                  case rel => exact ⟨i + 1, _, by omega, by go_num, rfl, HB2⟩
                · have HV : Hid (labsOK L = false) := by
                    show _ = _
                    rw [HA2.out, List.any_eq_true.2 ⟨(n2, v2), HMEM.out, he⟩]; rfl
                  clear HB
                  go_wp2_with fail
                  go_quiet (fail)
                  go_wp2
                  go_ret
                  rw [HV.out]
                  exact ⟨rfl, ((Frm.refl _ _).drewN _).drewN _⟩
              · have hij : i = j := by omega
                subst hij
                have HF2 : Hid (labsB (L.take (i + 1)) (L.drop (i + 1)) = labsOK L) := by
                  show _ = _; rw [HA2.out, HB.out]; rfl
                clear HB HA2
                go_wp2
                go_roundg (go - 1)
                case measure => omega
                case rel => exact ⟨i + 1, q2, by omega, by go_num, rfl, HF2⟩
      · have HV : Hid (labsOK L = true) := by
          show _ = _
          rw [← HF.out, List.drop_eq_nil_of_le (by omega)]; rfl
        clear HF
        go_wp2
        go_ret
        rw [HV.out]
        exact ⟨rfl, (Frm.refl _ _).drewN _⟩
end Go.Proofs.Ythlemieldfbbfab
