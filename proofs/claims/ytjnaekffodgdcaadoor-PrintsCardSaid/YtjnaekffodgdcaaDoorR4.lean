import Derived.Test.YtjnaekffodgdcaaDoorR3
namespace Go.Proofs.YtjnaekffodgdcaaDoor
open Go.RowKit
set_option linter.unusedVariables false
set_option linter.unusedSimpArgs false
set_option linter.unnecessarySimpa false

theorem toNat_beq (x y : UInt8) : ((x.toNat : Int) == (y.toNat : Int)) = (x == y) := by
  rw [Bool.eq_iff_iff, beq_iff_eq, beq_iff_eq]
  constructor
  · intro h; exact UInt8.toNat_inj.1 (Int.ofNat_inj.1 h)
  · intro h; rw [h]

set_option maxRecDepth 100000 in
set_option maxHeartbeats 4000000 in
theorem cut_any (l : List UInt8) (c : UInt8) (q : Bool) (w : World) (hl : l.length ≤ 100000) :
    Calls Tryd.prog 10 #[.string (bs l), .int .u8 c.toNat, .bool q] w fun e w' => ∃ v, e = .returned v ∧ SL w.heap.size w' v (cutL q c l) ∧ Frm [] w w' := by
  have hsz := bs_size
  have hap := bs_append
  have hx := bs_extract l
  go_enter Tryd.func10, Tryd.ntmps10
  go_wp2
  go_loopg [7, 8, 9, 10] (l.length + 1) (fun k vo vi vt vj wr => ∃ (j : Nat) (i0 : Bool) (t : List UInt8) (out : List (List UInt8)), j ≤ l.length ∧ l.length + 1 ≤ j + k ∧ vj = .int .i64 j ∧ vi = .bool i0 ∧ vt = .string (bs t) ∧ t.length ≤ j ∧ out.length ≤ j ∧ SL w.heap.size wr vo out ∧ cutGo q c k (l.drop j) i0 t out = cutL q c l ∧ Frm [] w wr)
  case atStart => exact ⟨0, false, [], [], by omega, by omega, rfl, rfl, rfl, by simp, by simp, SL.nil _ _, rfl, Frm.refl _ _⟩
  case round =>
    obtain ⟨j, i0, t, out, hjl, hk, rfl, rfl, rfl, htl, hol, hs, hgo, hfr⟩ := hrel
    obtain ⟨a, cap, hv⟩ := hs.shape
    subst hv
    have Hs := hide hs
    have Hg := hide hgo
    have Hf := hide hfr
    have hz := hfr.size
    clear hs hgo hfr
    obtain ⟨m, rfl⟩ : ∃ m, gk = m + 1 := ⟨gk - 1, by omega⟩
    by_cases hlt : j < l.length
    · have hbg : (bs l)[j]'(by rw [hsz]; omega) = l[j] := rfl
      have Hd : Hid (l.drop j = l[j] :: l.drop (j + 1)) := List.drop_eq_getElem_cons hlt
      have He : Hid (List.drop j (List.take (j + 1) l) = [l[j]]) := by
        show _ = _; rw [List.take_succ_eq_append_getElem hlt, List.drop_append_of_le_length (by simp; omega), List.drop_eq_nil_of_le (by simp; omega)]; rfl
      have He2 : Hid (j + 1 < l.length → List.drop j (List.take (j + 2) l) = [l[j]] ++ (l.drop (j + 1)).take 1) := by
        intro h2
        rw [List.drop_take, show j + 2 - j = 2 by omega, Hd.out]
        rfl
      generalize l[j] = x at *
      have hc1 := toNat_beq x c
      have hc34 : ((x.toNat : Int) == 34) = (x == 34) := toNat_beq x 34
      have hc92 : ((x.toNat : Int) == 92) = (x == 92) := toNat_beq x 92
      have hst : cutL q c l = (let i1 := if q && x == 34 then !i0 else i0
          if i1 && x == 92 && !((l.drop (j + 1)).isEmpty) then cutGo q c m ((l.drop (j + 1)).drop 1) i1 (t ++ ([x] ++ (l.drop (j + 1)).take 1)) out
          else if x == c && !i1 then cutGo q c m (l.drop (j + 1)) i1 [] (out ++ [t])
          else cutGo q c m (l.drop (j + 1)) i1 (t ++ [x]) out) := by
        rw [← Hg.out, Hd.out]; rfl
      obtain ⟨i1, hi1⟩ : ∃ i1, i1 = (if q && x == 34 then !i0 else i0) := ⟨_, rfl⟩
      rw [← hi1] at hst
      have Hst := hide hst
      have Hi1 := hide hi1
      clear hst Hg Hd hi1
      have combos : (q = false ∧ i0 = false) ∨ (q = false ∧ i0 = true) ∨ (q = true ∧ (x == 34) = false ∧ i0 = false) ∨ (q = true ∧ (x == 34) = false ∧ i0 = true) ∨ (q = true ∧ (x == 34) = true ∧ i0 = false) ∨ (q = true ∧ (x == 34) = true ∧ i0 = true) := by
        cases q <;> cases i0 <;> cases (x == 34) <;> simp
      rcases combos with ⟨hq, hi0⟩ | ⟨hq, hi0⟩ | ⟨hq, h34, hi0⟩ | ⟨hq, h34, hi0⟩ | ⟨hq, h34, hi0⟩ | ⟨hq, h34, hi0⟩
      · -- q false x34 false in false
        subst hq hi0
        have HI : Hid (i1 = false) := by show _ = _; rw [Hi1.out]; simp
        cases hxc : (x == c)
        · rw [hxc] at hc1
          have Hx2 : Hid (cutGo false c m (l.drop (j + 1)) false (t ++ [x]) out = cutL false c l) := by
            show _ = _; rw [Hst.out, HI.out]; simp [hxc]
          have he := He.out
          go_wp2
          go_roundg m
          case measure => omega
          case rel => exact ⟨j + 1, false, t ++ [x], out, by omega, by omega, by go_num, rfl, by simp, by simp; omega, by omega, Hs.out, Hx2.out, Hf.out⟩
        · rw [hxc] at hc1
          have Hx2 : Hid (cutGo false c m (l.drop (j + 1)) false [] (out ++ [t]) = cutL false c l) := by
            show _ = _; rw [Hst.out, HI.out]; simp [hxc]
          go_wp2_with (first | (at_builtin; refine wp_appS _ rfl _ _ rfl w.heap.size (.slice a out.length cap) out t wr.heap.size rfl (Hs.out.frm (S := []) ((Frm.refl _ _).alloc _) (by simp)) rfl (by simp) (by omega) (by simp; omega) ?_; intro g2 cap2 w2 hs2 hg2 hb2))
          go_roundg m
          case measure => omega
          case rel => exact ⟨j + 1, false, [], out ++ [t], by omega, by omega, by go_num, rfl, rfl, by simp, by simp; omega, by simpa using hs2, Hx2.out, (Hf.out.alloc _).grown hg2 (fun k hk => Or.inr (Hs.out.lt k hk).1)⟩
      · -- q false x34 false in true
        subst hq hi0
        have HI : Hid (i1 = true) := by show _ = _; rw [Hi1.out]; simp
        cases h92 : (x == 92)
        · rw [h92] at hc92
          cases hxc : (x == c)
          · rw [hxc] at hc1
            have Hx2 : Hid (cutGo false c m (l.drop (j + 1)) true (t ++ [x]) out = cutL false c l) := by
              show _ = _; rw [Hst.out, HI.out]; simp [h92]
            have he := He.out
            go_wp2
            go_roundg m
            case measure => omega
            case rel => exact ⟨j + 1, true, t ++ [x], out, by omega, by omega, by go_num, rfl, by simp, by simp; omega, by omega, Hs.out, Hx2.out, Hf.out⟩
          · rw [hxc] at hc1
            have Hx2 : Hid (cutGo false c m (l.drop (j + 1)) true (t ++ [x]) out = cutL false c l) := by
              show _ = _; rw [Hst.out, HI.out]; simp [h92]
            have he := He.out
            go_wp2
            go_roundg m
            case measure => omega
            case rel => exact ⟨j + 1, true, t ++ [x], out, by omega, by omega, by go_num, rfl, by simp, by simp; omega, by omega, Hs.out, Hx2.out, Hf.out⟩
        · rw [h92] at hc92
          by_cases hnx : j + 1 < l.length
          · have hnd : decide ((j : Int) + 1 < (l.length : Int)) = true := decide_eq_true (by omega)
            have hem : (l.drop (j + 1)).isEmpty = false := by
              rw [List.isEmpty_eq_false_iff]; intro h; have := congrArg List.length h; simp at this; omega
            have Hx2 : Hid (cutGo false c m (l.drop (j + 2)) true (t ++ ([x] ++ (l.drop (j + 1)).take 1)) out = cutL false c l) := by
              show _ = _; rw [Hst.out, HI.out]; simp [h92, hem]
            have he := He2.out hnx
            have hl1 : ((l.drop (j + 1)).take 1).length = 1 := by simp; omega
            generalize (l.drop (j + 1)).take 1 = y1 at *
            go_wp2
            go_roundg m
            case measure => omega
            case rel => exact ⟨j + 2, true, t ++ ([x] ++ y1), out, by omega, by omega, by go_num, rfl, by simp, by simp; omega, by omega, Hs.out, Hx2.out, Hf.out⟩
          · have hnd : decide ((j : Int) + 1 < (l.length : Int)) = false := decide_eq_false (by omega)
            have hem : (l.drop (j + 1)).isEmpty = true := by
              rw [List.isEmpty_iff]; exact List.drop_eq_nil_of_le (by omega)
            cases hxc : (x == c)
            · rw [hxc] at hc1
              have Hx2 : Hid (cutGo false c m (l.drop (j + 1)) true (t ++ [x]) out = cutL false c l) := by
                show _ = _; rw [Hst.out, HI.out]; simp [h92, hem]
              have he := He.out
              go_wp2
              go_roundg m
              case measure => omega
              case rel => exact ⟨j + 1, true, t ++ [x], out, by omega, by omega, by go_num, rfl, by simp, by simp; omega, by omega, Hs.out, Hx2.out, Hf.out⟩
            · rw [hxc] at hc1
              have Hx2 : Hid (cutGo false c m (l.drop (j + 1)) true (t ++ [x]) out = cutL false c l) := by
                show _ = _; rw [Hst.out, HI.out]; simp [h92, hem]
              have he := He.out
              go_wp2
              go_roundg m
              case measure => omega
              case rel => exact ⟨j + 1, true, t ++ [x], out, by omega, by omega, by go_num, rfl, by simp, by simp; omega, by omega, Hs.out, Hx2.out, Hf.out⟩
      · -- q true x34 false in false
        subst hq hi0
        rw [h34] at hc34
        have HI : Hid (i1 = false) := by show _ = _; rw [Hi1.out]; simp [h34]
        cases hxc : (x == c)
        · rw [hxc] at hc1
          have Hx2 : Hid (cutGo true c m (l.drop (j + 1)) false (t ++ [x]) out = cutL true c l) := by
            show _ = _; rw [Hst.out, HI.out]; simp [hxc]
          have he := He.out
          go_wp2
          go_roundg m
          case measure => omega
          case rel => exact ⟨j + 1, false, t ++ [x], out, by omega, by omega, by go_num, rfl, by simp, by simp; omega, by omega, Hs.out, Hx2.out, Hf.out⟩
        · rw [hxc] at hc1
          have Hx2 : Hid (cutGo true c m (l.drop (j + 1)) false [] (out ++ [t]) = cutL true c l) := by
            show _ = _; rw [Hst.out, HI.out]; simp [hxc]
          go_wp2_with (first | (at_builtin; refine wp_appS _ rfl _ _ rfl w.heap.size (.slice a out.length cap) out t wr.heap.size rfl (Hs.out.frm (S := []) ((Frm.refl _ _).alloc _) (by simp)) rfl (by simp) (by omega) (by simp; omega) ?_; intro g2 cap2 w2 hs2 hg2 hb2))
          go_roundg m
          case measure => omega
          case rel => exact ⟨j + 1, false, [], out ++ [t], by omega, by omega, by go_num, rfl, rfl, by simp, by simp; omega, by simpa using hs2, Hx2.out, (Hf.out.alloc _).grown hg2 (fun k hk => Or.inr (Hs.out.lt k hk).1)⟩
      · -- q true x34 false in true
        subst hq hi0
        rw [h34] at hc34
        have HI : Hid (i1 = true) := by show _ = _; rw [Hi1.out]; simp [h34]
        cases h92 : (x == 92)
        · rw [h92] at hc92
          cases hxc : (x == c)
          · rw [hxc] at hc1
            have Hx2 : Hid (cutGo true c m (l.drop (j + 1)) true (t ++ [x]) out = cutL true c l) := by
              show _ = _; rw [Hst.out, HI.out]; simp [h92]
            have he := He.out
            go_wp2
            go_roundg m
            case measure => omega
            case rel => exact ⟨j + 1, true, t ++ [x], out, by omega, by omega, by go_num, rfl, by simp, by simp; omega, by omega, Hs.out, Hx2.out, Hf.out⟩
          · rw [hxc] at hc1
            have Hx2 : Hid (cutGo true c m (l.drop (j + 1)) true (t ++ [x]) out = cutL true c l) := by
              show _ = _; rw [Hst.out, HI.out]; simp [h92]
            have he := He.out
            go_wp2
            go_roundg m
            case measure => omega
            case rel => exact ⟨j + 1, true, t ++ [x], out, by omega, by omega, by go_num, rfl, by simp, by simp; omega, by omega, Hs.out, Hx2.out, Hf.out⟩
        · rw [h92] at hc92
          by_cases hnx : j + 1 < l.length
          · have hnd : decide ((j : Int) + 1 < (l.length : Int)) = true := decide_eq_true (by omega)
            have hem : (l.drop (j + 1)).isEmpty = false := by
              rw [List.isEmpty_eq_false_iff]; intro h; have := congrArg List.length h; simp at this; omega
            have Hx2 : Hid (cutGo true c m (l.drop (j + 2)) true (t ++ ([x] ++ (l.drop (j + 1)).take 1)) out = cutL true c l) := by
              show _ = _; rw [Hst.out, HI.out]; simp [h92, hem]
            have he := He2.out hnx
            have hl1 : ((l.drop (j + 1)).take 1).length = 1 := by simp; omega
            generalize (l.drop (j + 1)).take 1 = y1 at *
            go_wp2
            go_roundg m
            case measure => omega
            case rel => exact ⟨j + 2, true, t ++ ([x] ++ y1), out, by omega, by omega, by go_num, rfl, by simp, by simp; omega, by omega, Hs.out, Hx2.out, Hf.out⟩
          · have hnd : decide ((j : Int) + 1 < (l.length : Int)) = false := decide_eq_false (by omega)
            have hem : (l.drop (j + 1)).isEmpty = true := by
              rw [List.isEmpty_iff]; exact List.drop_eq_nil_of_le (by omega)
            cases hxc : (x == c)
            · rw [hxc] at hc1
              have Hx2 : Hid (cutGo true c m (l.drop (j + 1)) true (t ++ [x]) out = cutL true c l) := by
                show _ = _; rw [Hst.out, HI.out]; simp [h92, hem]
              have he := He.out
              go_wp2
              go_roundg m
              case measure => omega
              case rel => exact ⟨j + 1, true, t ++ [x], out, by omega, by omega, by go_num, rfl, by simp, by simp; omega, by omega, Hs.out, Hx2.out, Hf.out⟩
            · rw [hxc] at hc1
              have Hx2 : Hid (cutGo true c m (l.drop (j + 1)) true (t ++ [x]) out = cutL true c l) := by
                show _ = _; rw [Hst.out, HI.out]; simp [h92, hem]
              have he := He.out
              go_wp2
              go_roundg m
              case measure => omega
              case rel => exact ⟨j + 1, true, t ++ [x], out, by omega, by omega, by go_num, rfl, by simp, by simp; omega, by omega, Hs.out, Hx2.out, Hf.out⟩
      · -- q true x34 true in false
        subst hq hi0
        rw [h34] at hc34
        have HI : Hid (i1 = true) := by show _ = _; rw [Hi1.out]; simp [h34]
        cases h92 : (x == 92)
        · rw [h92] at hc92
          cases hxc : (x == c)
          · rw [hxc] at hc1
            have Hx2 : Hid (cutGo true c m (l.drop (j + 1)) true (t ++ [x]) out = cutL true c l) := by
              show _ = _; rw [Hst.out, HI.out]; simp [h92]
            have he := He.out
            go_wp2
            go_roundg m
            case measure => omega
            case rel => exact ⟨j + 1, true, t ++ [x], out, by omega, by omega, by go_num, rfl, by simp, by simp; omega, by omega, Hs.out, Hx2.out, Hf.out⟩
          · rw [hxc] at hc1
            have Hx2 : Hid (cutGo true c m (l.drop (j + 1)) true (t ++ [x]) out = cutL true c l) := by
              show _ = _; rw [Hst.out, HI.out]; simp [h92]
            have he := He.out
            go_wp2
            go_roundg m
            case measure => omega
            case rel => exact ⟨j + 1, true, t ++ [x], out, by omega, by omega, by go_num, rfl, by simp, by simp; omega, by omega, Hs.out, Hx2.out, Hf.out⟩
        · rw [h92] at hc92
          by_cases hnx : j + 1 < l.length
          · have hnd : decide ((j : Int) + 1 < (l.length : Int)) = true := decide_eq_true (by omega)
            have hem : (l.drop (j + 1)).isEmpty = false := by
              rw [List.isEmpty_eq_false_iff]; intro h; have := congrArg List.length h; simp at this; omega
            have Hx2 : Hid (cutGo true c m (l.drop (j + 2)) true (t ++ ([x] ++ (l.drop (j + 1)).take 1)) out = cutL true c l) := by
              show _ = _; rw [Hst.out, HI.out]; simp [h92, hem]
            have he := He2.out hnx
            have hl1 : ((l.drop (j + 1)).take 1).length = 1 := by simp; omega
            generalize (l.drop (j + 1)).take 1 = y1 at *
            go_wp2
            go_roundg m
            case measure => omega
            case rel => exact ⟨j + 2, true, t ++ ([x] ++ y1), out, by omega, by omega, by go_num, rfl, by simp, by simp; omega, by omega, Hs.out, Hx2.out, Hf.out⟩
          · have hnd : decide ((j : Int) + 1 < (l.length : Int)) = false := decide_eq_false (by omega)
            have hem : (l.drop (j + 1)).isEmpty = true := by
              rw [List.isEmpty_iff]; exact List.drop_eq_nil_of_le (by omega)
            cases hxc : (x == c)
            · rw [hxc] at hc1
              have Hx2 : Hid (cutGo true c m (l.drop (j + 1)) true (t ++ [x]) out = cutL true c l) := by
                show _ = _; rw [Hst.out, HI.out]; simp [h92, hem]
              have he := He.out
              go_wp2
              go_roundg m
              case measure => omega
              case rel => exact ⟨j + 1, true, t ++ [x], out, by omega, by omega, by go_num, rfl, by simp, by simp; omega, by omega, Hs.out, Hx2.out, Hf.out⟩
            · rw [hxc] at hc1
              have Hx2 : Hid (cutGo true c m (l.drop (j + 1)) true (t ++ [x]) out = cutL true c l) := by
                show _ = _; rw [Hst.out, HI.out]; simp [h92, hem]
              have he := He.out
              go_wp2
              go_roundg m
              case measure => omega
              case rel => exact ⟨j + 1, true, t ++ [x], out, by omega, by omega, by go_num, rfl, by simp, by simp; omega, by omega, Hs.out, Hx2.out, Hf.out⟩
      · -- q true x34 true in true
        subst hq hi0
        rw [h34] at hc34
        have HI : Hid (i1 = false) := by show _ = _; rw [Hi1.out]; simp [h34]
        cases hxc : (x == c)
        · rw [hxc] at hc1
          have Hx2 : Hid (cutGo true c m (l.drop (j + 1)) false (t ++ [x]) out = cutL true c l) := by
            show _ = _; rw [Hst.out, HI.out]; simp [hxc]
          have he := He.out
          go_wp2
          go_roundg m
          case measure => omega
          case rel => exact ⟨j + 1, false, t ++ [x], out, by omega, by omega, by go_num, rfl, by simp, by simp; omega, by omega, Hs.out, Hx2.out, Hf.out⟩
        · rw [hxc] at hc1
          have Hx2 : Hid (cutGo true c m (l.drop (j + 1)) false [] (out ++ [t]) = cutL true c l) := by
            show _ = _; rw [Hst.out, HI.out]; simp [hxc]
          go_wp2_with (first | (at_builtin; refine wp_appS _ rfl _ _ rfl w.heap.size (.slice a out.length cap) out t wr.heap.size rfl (Hs.out.frm (S := []) ((Frm.refl _ _).alloc _) (by simp)) rfl (by simp) (by omega) (by simp; omega) ?_; intro g2 cap2 w2 hs2 hg2 hb2))
          go_roundg m
          case measure => omega
          case rel => exact ⟨j + 1, false, [], out ++ [t], by omega, by omega, by go_num, rfl, rfl, by simp, by simp; omega, by simpa using hs2, Hx2.out, (Hf.out.alloc _).grown hg2 (fun k hk => Or.inr (Hs.out.lt k hk).1)⟩
    · have Hx : Hid (cutL q c l = out ++ [t]) := by
        show _ = _; rw [← Hg.out, List.drop_eq_nil_of_le (by omega)]; rfl
      clear Hg
      go_wp2_with (first | (at_builtin; refine wp_appS _ rfl _ _ rfl w.heap.size (.slice a out.length cap) out t wr.heap.size rfl (Hs.out.frm (S := []) ((Frm.refl _ _).alloc _) (by simp)) rfl (by simp) (by omega) (by simp; omega) ?_; intro g2 cap2 w2 hs2 hg2 hb2))
      go_ret
      rw [Hx.out]
      exact ⟨_, rfl, hs2, (Hf.out.alloc _).grown hg2 (fun k hk => Or.inr (Hs.out.lt k hk).1)⟩

end Go.Proofs.YtjnaekffodgdcaaDoor
