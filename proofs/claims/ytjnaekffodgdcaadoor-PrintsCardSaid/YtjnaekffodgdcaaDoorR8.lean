import Derived.Test.YtjnaekffodgdcaaDoorR7
namespace Go.Proofs.YtjnaekffodgdcaaDoor
open Go.RowKit
set_option linter.unusedVariables false
set_option linter.unusedSimpArgs false
set_option linter.unnecessarySimpa false

def gtB (a b : List UInt8) : Bool := !(Op.bytesLess a b || a == b)
def down : Nat → List (List UInt8) → List (List UInt8)
  | 0, xs => xs
  | k + 1, xs => if gtB (xs.getD k []) (xs.getD (k + 1) []) then down k ((xs.set (k + 1) (xs.getD k [])).set k (xs.getD (k + 1) [])) else xs
def srt1 (out : List (List UInt8)) (n : List UInt8) : List (List UInt8) := if out.contains n then out else down out.length (out ++ [n])
def srt (L : List (List UInt8)) : List (List UInt8) := L.foldl srt1 []
theorem down_len : ∀ (k : Nat) (xs : List (List UInt8)), (down k xs).length = xs.length
  | 0, xs => rfl
  | k + 1, xs => by
    unfold down; split
    · rw [down_len k]; simp
    · rfl
theorem srt1_len (out : List (List UInt8)) (n : List UInt8) : (srt1 out n).length ≤ out.length + 1 := by
  unfold srt1; split
  · omega
  · rw [down_len]; simp

theorem SL.cell {base : Nat} {w : World} {g n cap : Nat} {xs : List (List UInt8)} (h : SL base w (.slice (some ⟨g, 0, none⟩) n cap) xs) (j : Nat) (hj : j < xs.length) : w.cell? ⟨g, j, none⟩ = some (.string (bs (xs.getD j []))) := by
  have := World.ownsRow.cells h (g := g) rfl j (.string (bs (xs.getD j []))) (by simp [sv, hj])
  rwa [add0] at this
theorem SL.set {base : Nat} {w : World} {g n cap : Nat} {xs : List (List UInt8)} (h : SL base w (.slice (some ⟨g, 0, none⟩) n cap) xs) (hn : n = xs.length) (j : Nat) (s : List UInt8) : SL base (w.setCell ⟨g, j, none⟩ (.string (bs s))) (.slice (some ⟨g, 0, none⟩) n cap) (xs.set j s) := by
  subst hn
  have := (World.ownsRow.stored h j (.string (bs s))).1
  unfold SL
  rw [List.length_set]
  have e : (sv xs).set j (.string (bs s)) = sv (xs.set j s) := by simp [sv]
  rw [← e]; exact this
theorem SL.fz {base : Nat} {w : World} {g n cap : Nat} {xs : List (List UInt8)} (h : SL base w (.slice (some ⟨g, 0, none⟩) n cap) xs) (hn : n = xs.length) (j : Nat) : w.frozen? ⟨g, j, none⟩ = false := by
  subst hn; exact World.ownsRow.frozenAt h j

set_option maxRecDepth 100000 in
set_option maxHeartbeats 8000000 in
theorem sorted_any (v : Value) (L : List (List UInt8)) (w : World) (h : RS 0 w v L) (hL : L.length ≤ 1000) :
    Calls Tryd.prog 21 #[v] w fun e w' => ∃ v', e = .returned v' ∧ SL w.heap.size w' v' (srt L) ∧ Frm [] w w' := by
  obtain ⟨a, cap, rfl, h1, h2, h3⟩ := h
  have H3 := hide h3
  clear h3
  have hl := bs_toList
  go_enter Tryd.func21, Tryd.ntmps21
  go_wp2
  go_loopg [3, 4] L.length (fun k vo vi wr => ∃ (j : Nat) (out : List (List UInt8)), j + k = L.length ∧ vi = .int .i64 j ∧ SL w.heap.size wr vo out ∧ out.length ≤ j ∧ (L.drop j).foldl srt1 out = srt L ∧ Frm [] w wr)
  case atStart => exact ⟨0, [], by omega, rfl, SL.nil _ _, by simp, by simp [srt], Frm.refl _ _⟩
  case round =>
  obtain ⟨j, out, hj, rfl, hs, hol, hgo, hfr⟩ := hrel
  obtain ⟨ao, co, hv⟩ := hs.shape
  subst hv
  have Hs := hide hs
  have Hg := hide hgo
  have Hf := hide hfr
  clear hs hgo hfr
  by_cases hlt : j < L.length
  · obtain ⟨g0, off, ha, _, hc0⟩ := H3.out j hlt
    subst ha
    have Hc0 := hide hc0
    have Hd : Hid (L.drop j = L[j] :: L.drop (j + 1)) := List.drop_eq_getElem_cons hlt
    generalize L[j] = x at *
    have Hg2 : Hid ((L.drop (j + 1)).foldl srt1 (srt1 out x) = srt L) := by
      show _ = _; rw [← Hg.out, Hd.out]; rfl
    clear Hg Hd hc0
    go_wp2_with fail
    go_loopg [6, 7] out.length (fun k vt vj wq => ∃ (jj : Nat), jj + k = out.length ∧ vj = .int .i64 jj ∧ vt = .bool ((out.take jj).contains x) ∧ SL w.heap.size wq (.slice ao out.length co) out ∧ Frm [] w wq)
    case atStart => exact ⟨0, by omega, rfl, rfl, Hs.out, Hf.out⟩
    case round =>
      clear Hs Hf
      obtain ⟨jj, hjj, rfl, rfl, hs, hfr⟩ := hrel
      have Hs := hide hs
      have Hf := hide hfr
      have hc : wr.cell? ⟨g0, off + j, none⟩ = some (.string (bs x)) := by
        rw [hfr.cell (World.block_lt_of_cell? w _ Hc0.out) (by simp)]; exact Hc0.out
      clear hs hfr
      by_cases hlt2 : jj < out.length
      · obtain ⟨gg, hga⟩ : ∃ gg, ao = some ⟨gg, 0, none⟩ := by
          rcases Hs.out.2 with ⟨e, h⟩ | ⟨g, c, cur, e, _⟩
          · omega
          · simp at e; exact ⟨g, e.1⟩
        subst hga
        have hcc := Hs.out.cell jj hlt2
        have Ht : Hid ((out.take (jj + 1)).contains x = ((out.take jj).contains x || (out.getD jj [] == x))) := by
          show _ = _
          have e1 : out.getD jj [] = out[jj] := by simp [hlt2]
          rw [e1, List.take_succ_eq_append_getElem hlt2, Bool.eq_iff_iff]
          simp only [List.contains_eq_mem, List.mem_append, List.mem_singleton, Bool.or_eq_true, decide_eq_true_iff, beq_iff_eq]
          constructor
          · rintro (h | h)
            · exact Or.inl h
            · exact Or.inr h.symm
          · rintro (h | h)
            · exact Or.inl h
            · exact Or.inr h.symm
        generalize out.getD jj [] = y at *
        cases htw : (out.take jj).contains x
        · rw [htw] at Ht
          go_wp2
          go_quiet (fail)
          go_wp2
          go_roundg (gk - 1)
          case measure => omega
          case rel => exact ⟨jj + 1, by omega, by go_num, by rw [Ht.out]; rfl, Hs.out.frm (S := []) ((Frm.refl _ _).drewN _) (by simp), Hf.out.drewN _⟩
        · rw [htw] at Ht
          go_wp2
          go_quiet (fail)
          go_wp2
          go_roundg (gk - 1)
          case measure => omega
          case rel => exact ⟨jj + 1, by omega, by go_num, by rw [Ht.out]; rfl, Hs.out.frm (S := []) ((Frm.refl _ _).drewN _) (by simp), Hf.out.drewN _⟩
      · have Ht : Hid (out.take jj = out) := List.take_of_length_le (by omega)
        rw [Ht.out]
        have hz := Hf.out.size
        cases hcn : out.contains x
        case true =>
          have Hr : Hid (srt1 out x = out) := by show _ = _; unfold srt1; rw [hcn]; rfl
          go_wp2
          go_roundg (L.length - j - 1)
          case measure => omega
          case rel =>
            have := Hg2.out; rw [Hr.out] at this
            exact ⟨j + 1, out, by omega, by go_num, Hs.out, by omega, this, Hf.out⟩
        case false =>
        have Hr : Hid (srt1 out x = down out.length (out ++ [x])) := by show _ = _; unfold srt1; rw [hcn]; rfl
        clear Ht
        go_wp2_with (first | (at_builtin; refine wp_appS _ rfl _ _ rfl w.heap.size (.slice ao out.length co) out x wr.heap.size rfl (Hs.out.frm (S := []) ((Frm.refl _ _).alloc _) (by simp)) rfl (by simp) (by omega) (by simp; omega) ?_; intro g2 cap2 w2 hs2 hg2 hb2; have Hf2 := hide ((Hf.out.alloc _).grown hg2 (fun k hk => Or.inr (Hs.out.lt k hk).1)); have Hs2 := hide hs2))
        clear hs2 hg2
        go_loopg [5] out.length (fun k vk wq => ∃ (xs : List (List UInt8)), k ≤ out.length ∧ vk = .int .i64 k ∧ xs.length = out.length + 1 ∧ SL w.heap.size wq (.slice (some ⟨g2, 0, none⟩) (out.length + 1) cap2) xs ∧ down k xs = srt1 out x ∧ Frm [] w wq)
        case atStart => exact ⟨out ++ [x], Nat.le_refl _, rfl, by simp, Hs2.out, Hr.out.symm, Hf2.out⟩
        case round =>
          clear Hs Hf hc hz hb2
          obtain ⟨xs, hkl, rfl, hxl, hs, hdn, hfr⟩ := hrel
          have Hs := hide hs
          have Hf := hide hfr
          have Hdn := hide hdn
          have Hxl := hide hxl
          have hfz := hs.fz hxl.symm
          clear hs hfr hdn
          cases gk with
          | zero =>
            have Hx : Hid (srt1 out x = xs) := Hdn.out.symm
            have hd0 : decide ((0 : Int) < ((0 : Nat) : Int)) = false := rfl
            clear hxl
            go_wp2
            go_quiet (fail)
            go_wp2
            go_roundg (L.length - j - 1)
            case measure => omega
            case rel =>
              have := Hg2.out; rw [Hx.out] at this
              exact ⟨j + 1, xs, by omega, by go_num, Hs.out.frm (S := []) ((Frm.refl _ _).drewN _) (by simp), by have := Hxl.out; omega, this, Hf.out.drewN _⟩
          | succ k =>
            have hd0 : decide ((0 : Int) < (k : Int) + 1) = true := decide_eq_true (by omega)
            have c1 := Hs.out.cell k (by omega)
            have c2 := Hs.out.cell (k + 1) (by omega)
            clear hxl
            have Hst : Hid (srt1 out x = if gtB (xs.getD k []) (xs.getD (k + 1) []) then down k ((xs.set (k + 1) (xs.getD k [])).set k (xs.getD (k + 1) [])) else xs) := by
              show _ = _; rw [← Hdn.out]; rfl
            generalize xs.getD k [] = y1 at *
            generalize xs.getD (k + 1) [] = y2 at *
            cases hgt : (Op.bytesLess y1 y2 || y1 == y2)
            case true =>
              have Hx : Hid (srt1 out x = xs) := by show _ = _; rw [Hst.out]; unfold gtB; rw [hgt]; rfl
              go_wp2
              go_quiet (fail)
              go_wp2
              go_roundg (L.length - j - 1)
              case measure => omega
              case rel =>
                have := Hg2.out; rw [Hx.out] at this
                exact ⟨j + 1, xs, by omega, by go_num, Hs.out.frm (S := []) ((Frm.refl _ _).drewN _) (by simp), by have := Hxl.out; omega, this, Hf.out.drewN _⟩
            case false =>
              have Hx : Hid (down k ((xs.set (k + 1) y1).set k y2) = srt1 out x) := by show _ = _; rw [Hst.out]; unfold gtB; rw [hgt]; rfl
              go_wp2
              go_quiet (fail)
              go_wp2
              go_roundg k
              case measure => omega
              case rel =>
                refine ⟨(xs.set (k + 1) y1).set k y2, by omega, by go_num, by simp [Hxl.out], ?_, Hx.out, ?_⟩
                · exact (((Hs.out.frm (S := []) ((Frm.refl _ _).drewN _) (by simp)).set Hxl.out.symm (k + 1) y1).set (by simp [Hxl.out]) k y2)
                · exact ((Hf.out.drewN _).setCell (Or.inr (Hs.out.lt g2 rfl).1) _).setCell (Or.inr (Hs.out.lt g2 rfl).1) _
  · have Hx : Hid (srt L = out) := by
      show _ = _; rw [← Hg.out, List.drop_eq_nil_of_le (by omega)]; rfl
    go_wp2
    go_ret
    rw [Hx.out]
    exact ⟨_, rfl, Hs.out, Hf.out⟩

end Go.Proofs.YtjnaekffodgdcaaDoor
