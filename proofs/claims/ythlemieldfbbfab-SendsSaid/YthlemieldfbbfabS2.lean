import Derived.Test.YthlemieldfbbfabS1
namespace Go.Proofs.Ythlemieldfbbfab
open Go.RowKit
set_option linter.unusedVariables false
set_option linter.unusedSimpArgs false
set_option linter.unnecessarySimpa false

theorem KP.frm {W0 w w' : World} {sb : Nat} (k : KP W0.heap.size sb w w') (f : Frm [] W0 w) (h : W0.heap.size ≤ sb) : Frm [] W0 w' :=
  ⟨k.os.trans f.os, k.tape.trans f.tape, k.output.trans f.output, Nat.le_trans f.size k.size, fun i hi _ => (k.block i (Nat.lt_of_lt_of_le hi f.size) (by omega) (.inl hi)).trans (f.block i hi (by simp))⟩
theorem str_cells (x : List UInt8) : Lib.strCells (bs x) = byt x := by simp [Lib.strCells, byt, bs]
theorem byt_append (a b : List UInt8) : byt (a ++ b) = byt a ++ byt b := by simp [byt]
theorem yc_one (L : List UInt8) : ∀ z ∈ yc L, z.length = 1 := by
  intro z hz
  unfold yc at hz
  obtain ⟨c, _, rfl⟩ := List.mem_map.1 hz
  rfl

set_option maxRecDepth 100000 in
set_option maxHeartbeats 4000000 in
theorem addText_any (base sb : Nat) (v : Value) (L x : List UInt8) (w : World) (hs : SAV base w sb v L) (hL : L.length ≤ 800000000) (hb : base ≤ w.heap.size) (hx : x.length ≤ 1048576) :
    Calls Try.prog 66 #[.pointer (some ⟨sb, 0, none⟩), .string (bs x)] w fun e w' => e = .returned (.tuple #[]) ∧ AD base w sb L (eT x) w' := by
  have N1 := hide (addNumber_any 1 base sb v L x.length 1 w (by omega) (by omega) rfl hs (by omega) hb (by omega))
  have hsz := bs_size x
  clear hs
  go_enter Try.func66, Try.ntmps66
  go_wp2_with fail
  refine (N1.out).mono ?_
  rintro e w1 ⟨rfl, v1, hS1, hK1, hO1⟩
  have S := hide hS1
  have K1 := hide hK1
  have O1 := hide hO1
  have hz1 := hK1.size
  obtain ⟨a, c, rfl⟩ := hS1.2.2.shape
  have c0 := hS1.c0
  have z := hS1.fz 0
  have hsb := hS1.lt
  have hbs := hS1.2.1
  have YBB := hide hS1.2.2
  have hLL : (L ++ nb 1 x.length).length ≤ 800000010 := by rw [List.length_append, nb_len]; omega
  generalize hLLe : L ++ nb 1 x.length = LL at *
  have HLL := hide hLLe
  clear hS1 hK1 hO1 N1 hLLe
  obtain ⟨i0, hi, hz0, hz1', hz2⟩ := info_parts2 infoU8
  have OO : Hid (w1.ownsRow base 5 1 (.slice a LL.length c) LL.length (byt LL)) := by
    have := O1.out.1
    rw [yc_len, yc_flat] at this
    exact this
  go_wp2_with (first | (at_builtin; refine Lib.wpList_append_own_string _ rfl _ _ 94 9 rfl base 5 i0 Try.underlying94 Try.underlying9 hi hz0 hz1' hz2 (.slice a LL.length c) LL.length (byt LL) rfl OO.out (bs x) rfl (by rw [hsz]; unfold maxLen; omega) (by rw [hsz]; omega) (by omega) ?_; intro v6 w6 hs6 hg6 hv6; obtain ⟨a6, cap6, e6⟩ := own_shape hs6; subst e6; have O6 := hide hs6; have G6 := hide hg6; have c6 := (hg6.cell_far ⟨sb, 0, none⟩ (by simp; omega) (fun e => YBB.out.ne S.out.1 e.symm)); have f6 := (hg6.frozen_far ⟨sb, 0, none⟩ (by simp; omega) (fun e => YBB.out.ne S.out.1 e.symm)); clear hs6 hg6 hv6))
  go_end0
  have h6 : w6.heap[sb]? = some (.cells #[.slice a LL.length c] 96 (0, 0)) := (G6.out.block sb (by omega) (fun e => YBB.out.ne S.out.1 e.symm)).trans S.out.1
  have FS : ∀ u, Frm [sb] w6 (w6.setCell ⟨sb, 0, none⟩ u) := fun u => (Frm.refl [sb] w6).setCell (p := ⟨sb, 0, none⟩) (.inl (by simp)) u
  have O6' : OW 5 1 base w6 (.slice a6 (LL.length + x.length) cap6) (yc (LL ++ x)) := by
    refine ⟨?_, yc_one _⟩
    have h := O6.out
    rw [str_cells, ← byt_append, hsz] at h
    rw [yc_len, yc_flat, List.length_append]
    exact h
  have O7 : ∀ u, OW 5 1 base (w6.setCell ⟨sb, 0, none⟩ u) (.slice a6 (LL.length + x.length) cap6) (yc (LL ++ x)) := fun u => O6'.keep (FS u) (fun r hr hm => by simp at hm; subst hm; exact YB.ne (.inl O6') h6 hr)
  have K7 : ∀ u, KP base sb w1 (w6.setCell ⟨sb, 0, none⟩ u) := fun u => (KP.grown YBB.out G6.out).trans (KP.of_frm (FS u))
  have e : L ++ eT x = LL ++ x := by unfold eT; rw [← List.append_assoc, HLL.out]
  refine ⟨rfl, .slice a6 (LL.length + x.length) cap6, ⟨?_, hbs, .inl ?_⟩, K1.out.trans (K7 _), ?_⟩
  · simp [World.setCell, Array.getElem?_modify, h6]
  · rw [e]; exact O7 _
  · rw [e]; exact O7 _

theorem AD.add {base : Nat} {w w1 w2 : World} {sb : Nat} {L x y : List UInt8} (h : AD base w sb L x w1) (k : ∀ v, SAV base w1 sb v (L ++ x) → AD base w1 sb (L ++ x) y w2) : AD base w sb L (x ++ y) w2 := by
  obtain ⟨v, h1, h2, _⟩ := h
  obtain ⟨v2, k1, k2, k3⟩ := k v h1
  exact ⟨v2, by rw [← List.append_assoc]; exact k1, h2.trans k2, by rw [← List.append_assoc]; exact k3⟩

set_option maxRecDepth 100000 in
set_option maxHeartbeats 4000000 in
theorem addTexts_any (W0 : World) (A : List Nat) (sb : Nat) (v tv : Value) (L : List UInt8) (xs : List (List UInt8)) (w : World) (hs : SAV W0.heap.size w sb v L) (hF : Frm [] W0 w) (ht : RW A 1 W0 tv (sc xs)) (hx : ∀ x ∈ xs, x.length ≤ 1048576) (hxs : xs.length < 16777216) (hL : L.length + (eTs xs).length ≤ 700000000) :
    Calls Try.prog 45 #[.pointer (some ⟨sb, 0, none⟩), tv] w fun e w' => e = .returned (.tuple #[]) ∧ AD W0.heap.size w sb L (eTs xs) w' := by
  obtain ⟨ta, tcap, rfl, h1⟩ := ht.str
  have H1 := hide h1
  have HX := hide hx
  have hz0 := hF.size
  have hbs := hs.2.1
  have F0 := hide hF
  have N1 := hide (addNumber_any 1 W0.heap.size sb v L xs.length 1 w (by omega) (by omega) rfl hs (by omega) hF.size hxs)
  clear h1 ht hs hx hF
  go_enter Try.func45, Try.ntmps45
  go_wp2_with fail
  refine (N1.out).mono ?_
  rintro e w1 ⟨rfl, hA⟩
  have A1 := hide hA
  clear hA N1
  go_wp2_with fail
  go_loopg [12] xs.length (fun k v12 wr => ∃ j : Nat, j + k = xs.length ∧ v12 = .int .i64 j ∧ AD W0.heap.size w sb L (nb 1 xs.length ++ (xs.take j).flatMap eT) wr)
  case atStart => exact ⟨0, by omega, rfl, by simpa using A1.out⟩
  case round =>
    obtain ⟨j, hjk, rfl, hA⟩ := hrel
    have A2 := hide hA
    clear hA
    by_cases hlt : j < xs.length
    · have hd1 : decide ((j : Int) < (xs.length : Int)) = true := decide_eq_true (by omega)
      obtain ⟨g, off, rfl, hg, hc⟩ := H1.out j hlt
      obtain ⟨v2, hS2, hK2, hO2⟩ := A2.out
      have F2 := hide (hK2.frm F0.out hbs)
      have hc2 : wr.cell? ⟨g, off + j, none⟩ = some (.string (bs xs[j])) := (F2.out.cell (p := ⟨g, off + j, none⟩) hg (by simp)).trans hc
      have hxl := HX.out xs[j] (List.getElem_mem hlt)
      have HT : Hid ((xs.take (j + 1)).flatMap eT = (xs.take j).flatMap eT ++ eT xs[j]) := by
        show _ = _; rw [List.take_succ_eq_append_getElem hlt, List.flatMap_append]; simp
      have hlen : (L ++ (nb 1 xs.length ++ (xs.take j).flatMap eT)).length ≤ 700000000 := by
        have e1 : (xs.flatMap eT).length = ((xs.take j).flatMap eT).length + ((xs.drop j).flatMap eT).length := by rw [← List.length_append, ← List.flatMap_append, List.take_append_drop]
        simp only [eTs, List.length_append, nb_len] at hL ⊢
        omega
      have N2 := hide (addText_any W0.heap.size sb v2 _ xs[j] wr hS2 (by omega) F2.out.size hxl)
      clear hS2 hK2 hO2 hc
      generalize xs[j] = x at *
      go_wp2_with fail
      refine (N2.out).mono ?_
      rintro e w3 ⟨rfl, hA3⟩
      have A3 : Hid (AD W0.heap.size w sb L ((nb 1 xs.length ++ (xs.take j).flatMap eT) ++ eT x) w3) := A2.out.add (fun _ _ => hA3)
      clear hA3 N2
      go_wp2_with fail
      go_roundg (gk - 1)
      case measure => omega
      case rel =>
        refine ⟨j + 1, by omega, by go_num, ?_⟩
        rw [HT.out, ← List.append_assoc]
        exact A3.out
    · have hd1 : decide ((j : Int) < (xs.length : Int)) = false := decide_eq_false (by omega)
      have A3 : Hid (AD W0.heap.size w sb L (eTs xs) wr) := by
        have h := A2.out
        rw [List.take_of_length_le (by omega)] at h
        exact h
      go_wp2
      go_end0
      exact ⟨rfl, A3.out⟩
end Go.Proofs.Ythlemieldfbbfab
