import Derived.Test.YtjnaekffodgdcaaDoorW9
namespace Go.Proofs.YtjnaekffodgdcaaDoor
open Go.RowKit
set_option linter.unusedVariables false
set_option linter.unusedSimpArgs false
set_option linter.unnecessarySimpa false

theorem SL.base {base base' : Nat} {w : World} {v : Value} {L : List (List UInt8)} (h : SL base w v L) (hb : base' ≤ base) : SL base' w v L := by
  refine ⟨h.1, ?_⟩
  rcases h.2 with hn | ⟨g, cap, cur, rfl, hg, rest⟩
  · exact .inl hn
  · exact .inr ⟨g, cap, cur, rfl, by omega, rest⟩
theorem SL.nil (base : Nat) (w : World) : SL base w (.slice none 0 0) [] := World.ownsRow_nil w base _ 1

theorem wnGo_len (n : List UInt8) : ∀ (L : List (List UInt8)) (s : List (List UInt8) × Bool), (wnGo n L s).1.length + s.2.toNat = s.1.length + L.length + (wnGo n L s).2.toNat
  | [], s => by simp [wnGo]
  | x :: r, (acc, p) => by
    unfold wnGo
    by_cases h : (!p && Op.bytesLess n x) = true
    · simp only [h, if_true]
      have := wnGo_len n r (acc ++ [n] ++ [x], true)
      simp at this h ⊢
      rw [h.1]; simp; omega
    · simp only [h]
      have := wnGo_len n r (acc ++ [x], p)
      simp at this ⊢
      omega
theorem withN_len (L : List (List UInt8)) (n : List UInt8) : (withN L n).length = L.length + 1 := by
  unfold withN
  have := wnGo_len n L ([], false)
  cases h : (wnGo n L ([], false)).2 <;> simp [h] at this ⊢ <;> omega

def rise1 (acc : List (List UInt8)) (n : List UInt8) : List (List UInt8) := if acc.contains n then acc else withN acc n
def rise (L : List (List UInt8)) : List (List UInt8) := L.foldl rise1 []
theorem rise1_len (acc : List (List UInt8)) (n : List UInt8) : (rise1 acc n).length ≤ acc.length + 1 := by
  unfold rise1; split <;> simp [withN_len]

set_option maxRecDepth 100000 in
set_option maxHeartbeats 2000000 in
theorem risingOnce_any (v : Value) (L : List (List UInt8)) (w : World) (h : RS 0 w v L) (hL : L.length ≤ 1000) :
    Calls Tryd.prog 55 #[v] w fun e w' => ∃ v', e = .returned v' ∧ SL w.heap.size w' v' (rise L) ∧ Frm [] w w' := by
  obtain ⟨a, cap, rfl, h1, h2, h3⟩ := h
  have H3 : Hid (∀ j (h : j < L.length), ∃ g off, a = some ⟨g, off, none⟩ ∧ 0 ≤ g ∧ w.cell? ⟨g, off + j, none⟩ = some (.string (bs L[j]))) := h3
  clear h3
  go_enter Tryd.func55, Tryd.ntmps55
  go_wp2
  go_loopg [3, 9] L.length (fun k v i wr => ∃ (j : Nat) (acc : List (List UInt8)), j + k = L.length ∧ i = .int .i64 j ∧ SL w.heap.size wr v acc ∧ acc.length ≤ j ∧ (L.drop j).foldl rise1 acc = rise L ∧ Frm [] w wr)
  case atStart => exact ⟨0, [], by omega, rfl, World.ownsRow_lit _ #[] 0 (Nat.le_refl _) (by unfold maxLen; omega) (by simp), by simp, by simp [rise], (Frm.refl _ _).alloc _⟩
  case round =>
    obtain ⟨j, acc, hj, rfl, hsl, hac, hwn, hfr⟩ := hrel
    have hz := hfr.size
    have Hs : Hid (SL w.heap.size wr u3 acc) := hsl
    have Hw : Hid ((L.drop j).foldl rise1 acc = rise L) := hwn
    have Hf : Hid (Frm [] w wr) := hfr
    clear hsl hwn hfr
    by_cases hlt : j < L.length
    · obtain ⟨g0, off, rfl, _, hc0⟩ := H3.out j hlt
      have hc : wr.cell? ⟨g0, off + j, none⟩ = some (.string (bs L[j])) := by
        rw [Hf.out.cell (World.block_lt_of_cell? w _ hc0) (by simp)]; exact hc0
      clear hc0
      have Hd : Hid (L.drop j = L[j] :: L.drop (j + 1)) := (List.drop_eq_getElem_cons hlt)
      generalize L[j] = x at *
      have Hw2 : Hid ((L.drop (j + 1)).foldl rise1 (rise1 acc x) = rise L) := by
        show _ = _; rw [← Hw.out, Hd.out]; rfl
      clear Hw Hd
      go_wp2_with fail
      refine (has_any u3 acc x wr ((Hs.out.rs (by omega)).base (Nat.zero_le _))).mono ?_
      rintro e w' ⟨rfl, rfl⟩
      cases hcn : acc.contains x
      · have Hr : Hid (rise1 acc x = withN acc x) := by
          show rise1 acc x = _; unfold rise1; rw [hcn]; rfl
        go_wp2_with fail
        refine (withName_any u3 acc x wr ((Hs.out.rs (by omega)).base (Nat.zero_le _)) (by omega)).mono ?_
        rintro e w2 ⟨v', rfl, hs2, hf2⟩
        have Hs2 : Hid (SL w.heap.size w2 v' (withN acc x)) := hs2.base hz
        have Hf2 : Hid (Frm [] w w2) := Hf.out.trans hf2
        clear hs2 hf2
        go_wp2
        go_roundg (gk - 1)
        case measure => omega
        case rel =>
          rw [Hr.out] at Hw2
          exact ⟨j + 1, withN acc x, by omega, by go_num, Hs2.out, by rw [withN_len]; omega, Hw2.out, Hf2.out⟩
      · have Hr : Hid (rise1 acc x = acc) := by
          show rise1 acc x = _; unfold rise1; rw [hcn]; rfl
        go_wp2
        go_roundg (gk - 1)
        case measure => omega
        case rel =>
          rw [Hr.out] at Hw2
          exact ⟨j + 1, acc, by omega, by go_num, Hs.out, by omega, Hw2.out, Hf.out⟩
    · have Hx : Hid (rise L = acc) := by
        show rise L = acc
        rw [← Hw.out, List.drop_eq_nil_of_le (by omega)]; rfl
      go_wp2
      go_ret
      rw [Hx.out]
      exact ⟨_, rfl, Hs.out, Hf.out⟩

def labL : Nat → List (List UInt8) → List UInt8 → List (List UInt8) × Bool × List UInt8
  | 0, _, l => ([], false, l)
  | k + 1, acc, l =>
    if !(acc.isEmpty) && !(sTake [44] l) then (acc, true, l)
    else
      let l1 := if acc.isEmpty then l else sRest [44] l
      let nm := l1.takeWhile nmB
      if !(isNameL nm) || decide (4 ≤ acc.length) then ([], false, l1.dropWhile nmB)
      else labL k (acc ++ [nm]) (l1.dropWhile nmB)
def sLabs (l : List UInt8) : List (List UInt8) × Bool × List UInt8 := labL 6 [] l

set_option maxRecDepth 100000 in
set_option maxHeartbeats 2000000 in
theorem takeLabels_any (b : Nat) (t l : List UInt8) (w : World) (h : At w b t l) :
    Calls Tryd.prog 54 #[.pointer (some ⟨b, 0, none⟩)] w fun e w' => ∃ v', e = .returned (.tuple #[v', .bool (sLabs l).2.1]) ∧ SL w.heap.size w' v' (sLabs l).1 ∧ (sLabs l).1.length ≤ 4 ∧ At w' b t (sLabs l).2.2 ∧ Frm [b] w w' := by
  have hb := h.lt
  have H : Hid (At w b t l) := h
  clear h
  go_enter Tryd.func54, Tryd.ntmps54
  go_wp2_with fail
  go_loopg [4] 6 (fun k v wr => ∃ (acc : List (List UInt8)) (l' : List UInt8) (g cap : Nat), acc.length + k = 6 ∧ acc.length ≤ 4 ∧ v = .slice (some ⟨g, 0, none⟩) acc.length cap ∧ w.heap.size ≤ g ∧ SL w.heap.size wr v acc ∧ labL k acc l' = sLabs l ∧ At wr b t l' ∧ Frm [b] w wr)
  case atStart => exact ⟨[], l, _, _, by simp, by simp, rfl, Nat.le_refl _, World.ownsRow_lit _ #[] 0 (Nat.le_refl _) (by unfold maxLen; omega) (by simp), rfl, H.out.frm (S := []) ((Frm.refl _ _).alloc _) (by simp), (Frm.refl _ _).alloc _⟩
  case round =>
    obtain ⟨acc, l', g, cap, hk, hac, rfl, hg, hsl, hlb, hat, hfr⟩ := hrel
    have hz := hfr.size
    have Hs : Hid (SL w.heap.size wr (.slice (some ⟨g, 0, none⟩) acc.length cap) acc) := hsl
    have Hl : Hid (labL gk acc l' = sLabs l) := hlb
    have Ha : Hid (At wr b t l') := hat
    have Hf : Hid (Frm [b] w wr) := hfr
    clear hsl hlb hat hfr
    obtain ⟨m, rfl⟩ : ∃ m, gk = m + 1 := ⟨gk - 1, by omega⟩
    have step : ∀ (l1 : List UInt8) (w1 : World), l1 = (if acc.isEmpty then l' else sRest [44] l') → (acc.isEmpty = true ∨ sTake [44] l' = true) → sLabs l = (if !(isNameL (l1.takeWhile nmB)) || decide (4 ≤ acc.length) then ([], false, l1.dropWhile nmB) else labL m (acc ++ [l1.takeWhile nmB]) (l1.dropWhile nmB)) := by
      intro l1 w1 e h
      rw [← Hl.out]; conv => lhs; unfold labL
      rw [if_neg (by rcases h with h | h <;> simp [h]), ← e]
    have Hst : Hid (∀ (l1 : List UInt8) (w1 : World), l1 = (if acc.isEmpty then l' else sRest [44] l') → (acc.isEmpty = true ∨ sTake [44] l' = true) → sLabs l = (if !(isNameL (l1.takeWhile nmB)) || decide (4 ≤ acc.length) then ([], false, l1.dropWhile nmB) else labL m (acc ++ [l1.takeWhile nmB]) (l1.dropWhile nmB))) := step
    clear step
    -- the body, from the name on
    by_cases hemp : acc = []
    · subst hemp
      have Hst1 := Hst.out l' wr rfl (Or.inl rfl)
      have Hst2 : Hid (sLabs l = (if !(isNameL (l'.takeWhile nmB)) || decide (4 ≤ ([] : List (List UInt8)).length) then ([], false, l'.dropWhile nmB) else labL m ([] ++ [l'.takeWhile nmB]) (l'.dropWhile nmB))) := Hst1
      clear Hst Hst1
      simp only [List.length_nil] at *
      go_wp2_with fail
      refine (takeName_any b t l' _ Ha.out).mono ?_
      rintro e w2 ⟨rfl, h2, hf2⟩
      have H2 : Hid (At w2 b t (l'.dropWhile nmB)) := h2
      have Hf2 : Hid (Frm [b] w w2) := Hf.out.trans hf2
      have Hs2 : Hid (SL w.heap.size w2 (.slice (some ⟨g, 0, none⟩) 0 cap) []) := Hs.out.frm hf2 (by simp; omega)
      have hz2 := Hf2.out.size
      clear h2 hf2 Hs Ha Hf
      cases hn : isNameL (l'.takeWhile nmB)
      · have Hx : Hid (sLabs l = ([], false, l'.dropWhile nmB)) := by
          show _ = _; rw [Hst2.out, hn]; rfl
        go_wp2
        go_ret2
        rw [Hx.out]
        exact ⟨_, rfl, SL.nil _ _, by simp, H2.out, Hf2.out⟩
      · have Hx : Hid (labL m [l'.takeWhile nmB] (l'.dropWhile nmB) = sLabs l) := by
          show _ = _; rw [Hst2.out, hn]; rfl
        go_wp2_with (first | (at_builtin; refine wp_appS _ rfl _ _ rfl w.heap.size (.slice (some ⟨g, 0, none⟩) 0 cap) [] (l'.takeWhile nmB) w2.heap.size rfl (Hs2.out.frm (S := []) ((Frm.refl _ _).alloc _) (by simp)) rfl (by simp) (by simp) (by simp; omega) ?_; intro g2 cap2 w3 hs2 hg2 hb2))
        go_roundg m
        case measure => omega
        case rel =>
          refine ⟨[l'.takeWhile nmB], _, g2, cap2, by simp; omega, by simp, by simp, hb2, by simpa using hs2, Hx.out, ?_, ?_⟩
          · refine At.frm (S := [g]) (H2.out.frm (S := []) ((Frm.refl _ _).alloc _) (by simp)) (Frm.of_grown hg2) (by simp; omega)
          · exact (Hf2.out.alloc _).grown hg2 (fun k hk => by simp [Value.ownBlock] at hk; omega)
    · have hne : ((acc.length : Int) == 0) = false := beq_eq_false_iff_ne.2 (by have := List.length_pos_iff.2 hemp; omega)
      have hee : acc.isEmpty = false := by simpa using hemp
      go_wp2_with fail
      refine (take_any b t l' [44] _ Ha.out (by simp)).mono ?_
      rintro e w1 ⟨rfl, h1, hf1⟩
      have hs1 := Hs.out.frm hf1 (by simp; omega)
      have Hf1 : Hid (Frm [b] w w1) := Hf.out.trans hf1
      have Hs1 : Hid (SL w.heap.size w1 (.slice (some ⟨g, 0, none⟩) acc.length cap) acc) := hs1
      have H1 : Hid (At w1 b t (sRest [44] l')) := h1
      clear h1 hf1 hs1 Hf Hs Ha
      cases ht : sTake [44] l'
      · have Hx : Hid (sLabs l = (acc, true, l')) := by
          show _ = _; rw [← Hl.out]; unfold labL; simp [hee, ht]
        rw [sRest_no ht] at H1
        go_wp2
        go_ret2
        rw [Hx.out]
        exact ⟨_, rfl, Hs1.out, hac, H1.out, Hf1.out⟩
      · have Hst1 := Hst.out (sRest [44] l') wr (by rw [hee]; rfl) (Or.inr ht)
        have Hst2 : Hid (sLabs l = (if !(isNameL ((sRest [44] l').takeWhile nmB)) || decide (4 ≤ acc.length) then ([], false, (sRest [44] l').dropWhile nmB) else labL m (acc ++ [(sRest [44] l').takeWhile nmB]) ((sRest [44] l').dropWhile nmB))) := Hst1
        clear Hst Hst1
        go_wp2_with fail
        refine (takeName_any b t _ _ H1.out).mono ?_
        rintro e w2 ⟨rfl, h2, hf2⟩
        generalize sRest [44] l' = l1 at *
        have H2 : Hid (At w2 b t (l1.dropWhile nmB)) := h2
        have Hf2 : Hid (Frm [b] w w2) := Hf1.out.trans hf2
        have Hs2 : Hid (SL w.heap.size w2 (.slice (some ⟨g, 0, none⟩) acc.length cap) acc) := Hs1.out.frm hf2 (by simp; omega)
        have hz2 := Hf2.out.size
        clear h2 hf2 Hs1 Hf1
        cases hn : isNameL (l1.takeWhile nmB)
        · have Hx : Hid (sLabs l = ([], false, l1.dropWhile nmB)) := by
            show _ = _; rw [Hst2.out, hn]; rfl
          go_wp2
          go_ret2
          rw [Hx.out]
          exact ⟨_, rfl, SL.nil _ _, by simp, H2.out, Hf2.out⟩
        · by_cases h4 : 4 ≤ acc.length
          · have Hx : Hid (sLabs l = ([], false, l1.dropWhile nmB)) := by
              show _ = _; rw [Hst2.out, hn]; simp [h4]
            go_wp2
            go_ret2
            rw [Hx.out]
            exact ⟨_, rfl, SL.nil _ _, by simp, H2.out, Hf2.out⟩
          · have Hx : Hid (labL m (acc ++ [l1.takeWhile nmB]) (l1.dropWhile nmB) = sLabs l) := by
              show _ = _; rw [Hst2.out, hn]; simp [h4]
            go_wp2_with (first | (at_builtin; refine wp_appS _ rfl _ _ rfl w.heap.size (.slice (some ⟨g, 0, none⟩) acc.length cap) acc (l1.takeWhile nmB) w2.heap.size rfl (Hs2.out.frm (S := []) ((Frm.refl _ _).alloc _) (by simp)) rfl (by simp) (by omega) (by simp; omega) ?_; intro g2 cap2 w3 hs2 hg2 hb2))
            go_roundg m
            case measure => omega
            case rel =>
              refine ⟨acc ++ [l1.takeWhile nmB], _, g2, cap2, by simp; omega, by simp; omega, by simp, hb2, by simpa using hs2, Hx.out, ?_, ?_⟩
              · refine At.frm (S := [g]) (H2.out.frm (S := []) ((Frm.refl _ _).alloc _) (by simp)) (Frm.of_grown hg2) (by simp; omega)
              · exact (Hf2.out.alloc _).grown hg2 (fun k hk => by simp [Value.ownBlock] at hk; omega)

end Go.Proofs.YtjnaekffodgdcaaDoor
