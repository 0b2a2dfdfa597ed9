import Derived.Test.YtpbkgeipigcefaaGreatJ2
set_option linter.unusedVariables false
set_option linter.unusedSimpArgs false
set_option linter.unnecessarySimpa false
namespace Go.Proofs.YtpbkgeipigcefaaGreat
open Go.RowKit

def sKind (l : List UInt8) : Nat × Bool × List UInt8 :=
  if sTake [61, 126] l then (2, true, sRest [61, 126] l)
  else if sTake [33, 126] l then (3, true, sRest [33, 126] l)
  else if sTake [33, 61] l then (1, true, sRest [33, 61] l)
  else (0, sTake [61] l, sRest [61] l)

set_option maxRecDepth 100000 in
set_option maxHeartbeats 1000000 in
theorem takeKind_any (b : Nat) (t l : List UInt8) (w : World) (h : At w b t l) :
    Calls Tryz.prog 96 #[.pointer (some ⟨b, 0, none⟩)] w fun e w' => e = .returned (.tuple #[.int .i64 (sKind l).1, .bool (sKind l).2.1]) ∧ At w' b t (sKind l).2.2 ∧ Frm [b] w w' := by
  have H : Hid (At w b t l) := h
  clear h
  go_enter Tryz.func96, Tryz.ntmps96
  go_wp2_with fail
  refine (take_any b t l [61, 126] _ H.out (by simp)).mono ?_
  rintro e w1 ⟨rfl, h1, hf1⟩
  cases ht1 : sTake [61, 126] l
  case true =>
    have Hx : Hid (sKind l = (2, true, sRest [61, 126] l)) := by
      show sKind l = _; unfold sKind; rw [ht1]; rfl
    have H1 : Hid (At w1 b t (sRest [61, 126] l) ∧ Frm [b] w w1) := ⟨h1, hf1⟩
    clear h1 hf1
    go_wp2
    go_ret2
    rw [Hx.out]
    exact ⟨rfl, H1.out.1, H1.out.2⟩
  case false =>
  rw [sRest_no ht1] at h1
  have H1 : Hid (At w1 b t l) := h1
  have HF1 : Hid (Frm [b] w w1) := hf1
  have T1 : Hid (sTake [61, 126] l = false) := ht1
  clear h1 hf1
  go_wp2_with fail
  refine (take_any b t l [33, 126] _ H1.out (by simp)).mono ?_
  rintro e w2 ⟨rfl, h2, hf2⟩
  have HF2 : Hid (Frm [b] w w2) := HF1.out.trans hf2
  clear hf2 ht1
  cases ht2 : sTake [33, 126] l
  case true =>
    have Hx : Hid (sKind l = (3, true, sRest [33, 126] l)) := by
      show sKind l = _; unfold sKind; rw [T1.out, ht2]; rfl
    have H2 : Hid (At w2 b t (sRest [33, 126] l)) := h2
    clear h2
    go_wp2
    go_ret2
    rw [Hx.out]
    exact ⟨rfl, H2.out, HF2.out⟩
  case false =>
  rw [sRest_no ht2] at h2
  have H2 : Hid (At w2 b t l) := h2
  have T2 : Hid (sTake [33, 126] l = false) := ht2
  clear h2
  go_wp2_with fail
  refine (take_any b t l [33, 61] _ H2.out (by simp)).mono ?_
  rintro e w3 ⟨rfl, h3, hf3⟩
  have HF3 : Hid (Frm [b] w w3) := HF2.out.trans hf3
  clear hf3 ht2
  cases ht3 : sTake [33, 61] l
  case true =>
    have Hx : Hid (sKind l = (1, true, sRest [33, 61] l)) := by
      show sKind l = _; unfold sKind; rw [T1.out, T2.out, ht3]; rfl
    have H3 : Hid (At w3 b t (sRest [33, 61] l)) := h3
    clear h3
    go_wp2
    go_ret2
    rw [Hx.out]
    exact ⟨rfl, H3.out, HF3.out⟩
  case false =>
  rw [sRest_no ht3] at h3
  have T3 : Hid (sTake [33, 61] l = false) := ht3
  have H3 : Hid (At w3 b t l) := h3
  clear h3 ht3
  go_wp2_with fail
  refine (take_any b t l [61] _ H3.out (by simp)).mono ?_
  rintro e w4 ⟨rfl, h4, hf4⟩
  have HF4 : Hid (Frm [b] w w4) := HF3.out.trans hf4
  have Hx : Hid (sKind l = (0, sTake [61] l, sRest [61] l)) := by
    show sKind l = _; unfold sKind; rw [T1.out, T2.out, T3.out]; rfl
  have H4 : Hid (At w4 b t (sRest [61] l)) := h4
  clear h4 hf4
  go_wp2
  go_ret2
  rw [Hx.out]
  exact ⟨rfl, H4.out, HF4.out⟩

def sTime (wd l : List UInt8) : Int × Bool × List UInt8 :=
  if sTake wd l then (((sNum (sRest wd l)).1 : Int), (sNum (sRest wd l)).2.1, (sNum (sRest wd l)).2.2) else (-1, true, l)

set_option maxRecDepth 100000 in
set_option maxHeartbeats 1000000 in
theorem takeTime_any (b : Nat) (t l wd : List UInt8) (w : World) (h : At w b t l) (hw : wd.length ≤ 1048576) :
    Calls Tryz.prog 89 #[.pointer (some ⟨b, 0, none⟩), .string (bs wd)] w fun e w' => e = .returned (.tuple #[.int .i64 (sTime wd l).1, .bool (sTime wd l).2.1]) ∧ At w' b t (sTime wd l).2.2 ∧ Frm [b] w w' := by
  have H : Hid (At w b t l) := h
  clear h
  go_enter Tryz.func89, Tryz.ntmps89
  go_wp2_with fail
  refine (take_any b t l wd _ H.out hw).mono ?_
  rintro e w1 ⟨rfl, h1, hf1⟩
  cases ht1 : sTake wd l
  case false =>
    have Hx : Hid (sTime wd l = (-1, true, l)) := by
      show sTime wd l = _; unfold sTime; rw [ht1]; rfl
    rw [sRest_no ht1] at h1
    have H1 : Hid (At w1 b t l ∧ Frm [b] w w1) := ⟨h1, hf1⟩
    clear h1 hf1
    go_wp2
    go_ret2
    rw [Hx.out]
    exact ⟨rfl, H1.out.1, H1.out.2⟩
  case true =>
  have Hx : Hid (sTime wd l = (((sNum (sRest wd l)).1 : Int), (sNum (sRest wd l)).2.1, (sNum (sRest wd l)).2.2)) := by
    show sTime wd l = _; unfold sTime; rw [ht1]; rfl
  have H1 : Hid (At w1 b t (sRest wd l) ∧ Frm [b] w w1) := ⟨h1, hf1⟩
  clear h1 hf1
  go_wp2_with fail
  refine (takeNumber_any b t _ _ H1.out.1).mono ?_
  rintro e w2 ⟨rfl, h2, hf2⟩
  have H2 : Hid (At w2 b t (sNum (sRest wd l)).2.2 ∧ Frm [b] w w2) := ⟨h2, H1.out.2.trans hf2⟩
  clear h2 hf2
  go_wp2
  go_ret2
  rw [Hx.out]
  exact ⟨rfl, H2.out.1, H2.out.2⟩

abbrev CM := List UInt8 × Nat × List UInt8
def sMat (l : List UInt8) : CM × Bool × List UInt8 :=
  let n := l.takeWhile nmB
  let l1 := l.dropWhile nmB
  let k := sKind l1
  let v := sVal k.2.2
  ((n, k.1, v.1), isNameL n && k.2.1 && v.2.1, v.2.2)

def matV (m : CM) : Value := .agg #[.string (bs m.1), .int .i64 m.2.1, .string (bs m.2.2)]

set_option maxRecDepth 100000 in
set_option maxHeartbeats 1000000 in
theorem takeMatcher_any (b : Nat) (t l : List UInt8) (w : World) (h : At w b t l) :
    Calls Tryz.prog 90 #[.pointer (some ⟨b, 0, none⟩)] w fun e w' => e = .returned (.tuple #[matV (sMat l).1, .bool (sMat l).2.1]) ∧ At w' b t (sMat l).2.2 ∧ Frm [b] w w' := by
  have hb := h.lt
  have H : Hid (At w b t l) := h
  clear h
  go_enter Tryz.func90, Tryz.ntmps90
  go_wp2_with fail
  refine (takeName_any b t l _ (H.out.frm (S := []) ((Frm.refl _ _).alloc _) (by simp))).mono ?_
  rintro e w1 ⟨rfl, h1, hf1⟩
  have H1 : Hid (At w1 b t (l.dropWhile nmB)) := h1
  clear h1
  go_wp2_with fail
  refine (takeKind_any b t _ _ H1.out).mono ?_
  rintro e w2 ⟨rfl, h2, hf2⟩
  have hf12 := hf1.trans hf2
  clear hf1 hf2
  go_wp2_with fail
  refine (takeValue_any b t _ _ h2).mono ?_
  rintro e w3 ⟨rfl, h3, hf3⟩
  have hf := hf12.trans hf3
  clear hf12 hf3 h2
  have hO := (hf.block w.heap.size (by simp) (by simp; omega)).trans (heap_alloc_new w _)
  have hz := hf.size
  have HF : Hid (Frm [b] w w3) := ((Frm.refl [b] w).alloc _).trans hf
  have H3 : Hid (At w3 b t (sMat l).2.2) := h3
  clear hf h3
  have ca : w3.cell? ⟨w.heap.size, 0, none⟩ = some (.string ⟨#[]⟩) := by simp [World.cell?, hO]
  have cb : w3.cell? ⟨w.heap.size, 1, none⟩ = some (.int .i64 0) := by simp [World.cell?, hO]
  have cc : w3.cell? ⟨w.heap.size, 2, none⟩ = some (.string ⟨#[]⟩) := by simp [World.cell?, hO]
  have q0 : ∀ o, w3.frozen? ⟨w.heap.size, o, none⟩ = false := by intro o; simp [World.frozen?, hO]
  have hz' : w.heap.size < w3.heap.size := by simp at hz; omega
  have Hm : Hid (sMat l = ((l.takeWhile nmB, (sKind (l.dropWhile nmB)).1, (sVal (sKind (l.dropWhile nmB)).2.2).1), isNameL (l.takeWhile nmB) && (sKind (l.dropWhile nmB)).2.1 && (sVal (sKind (l.dropWhile nmB)).2.2).2.1, (sVal (sKind (l.dropWhile nmB)).2.2).2.2)) := rfl
  clear hO hz
  generalize sVal (sKind (l.dropWhile nmB)).2.2 = sv at *
  generalize sKind (l.dropWhile nmB) = sk at *
  generalize l.takeWhile nmB = nm at *
  obtain ⟨v1, v2, v3⟩ := sv
  obtain ⟨k1, k2, k3⟩ := sk
  cases hn : isNameL nm <;> cases k2
  all_goals
    go_wp2
    refine bodyPost_ret (v := .tuple #[matV (nm, k1, v1), .bool _]) (by simp [results, Tryz.results90, go_sem, matV, ca, cb, cc, hz'] <;> rfl) rfl ?_
    rw [Hm.out]
    refine ⟨by simp [hn], ?_, ?_⟩
    · rw [Hm.out] at H3
      exact H3.out.frm (S := [w.heap.size]) (((((Frm.refl _ _).setCell (by simp) _).setCell (by simp) _).setCell (by simp) _).alloc _) (by simp; omega)
    · exact (((HF.out.setCell (by simp) _).setCell (by simp) _).setCell (by simp) _).alloc _

end Go.Proofs.YtpbkgeipigcefaaGreat

namespace Go.Proofs.YtpbkgeipigcefaaGreat
open Go.RowKit

set_option maxRecDepth 100000 in
set_option maxHeartbeats 1000000 in
theorem has_any (v : Value) (L : List (List UInt8)) (n : List UInt8) (w : World) (h : RS 0 w v L) :
    Calls Tryz.prog 57 #[v, .string (bs n)] w fun e w' => e = .returned (.bool (L.contains n)) ∧ w = w' := by
  obtain ⟨a, cap, rfl, h1, h2, h3⟩ := h
  have H3 : Hid (∀ j (h : j < L.length), ∃ g off, a = some ⟨g, off, none⟩ ∧ 0 ≤ g ∧ w.cell? ⟨g, off + j, none⟩ = some (.string (bs L[j]))) := h3
  clear h3
  have hl := bs_toList
  go_enter Tryz.func57, Tryz.ntmps57
  go_wp2
  go_loopg [9] L.length (fun k i wr => ∃ j, j + k = L.length ∧ i = .int .i64 j ∧ wr = w ∧ (L.take j).contains n = false)
  case atStart => exact ⟨0, by omega, rfl, rfl, by simp⟩
  case round =>
    obtain ⟨j, hj, rfl, hw, hal⟩ := hrel
    subst hw
    have Hal : Hid ((L.take j).contains n = false) := hal
    clear hal
    by_cases hlt : j < L.length
    · obtain ⟨g, off, rfl, _, hc⟩ := H3.out j hlt
      cases he : (L[j] == n)
      · have Hal2 : Hid ((L.take (j + 1)).contains n = false) := by
          show (L.take (j + 1)).contains n = false
          have hal := Hal.out
          rw [List.take_succ_eq_append_getElem hlt]
          simp only [List.contains_eq_mem, decide_eq_false_iff_not, List.mem_append, List.mem_singleton] at hal ⊢
          intro h; rcases h with h | h
          · exact hal h
          · rw [h] at he; simp at he
        go_wp2
        go_roundg (gk - 1)
        case measure => omega
        case rel => exact ⟨j + 1, by omega, by go_num, rfl, Hal2.out⟩
      · have hg : Hid (L.contains n = true) := by
          show L.contains n = true
          rw [List.contains_eq_mem, decide_eq_true_iff, ← beq_iff_eq.1 he]
          exact List.getElem_mem _
        go_wp2
        go_ret
        exact ⟨ret_bool hg.out.symm, rfl⟩
    · have hg : Hid (L.contains n = false) := by
        have := Hal.out; rw [List.take_of_length_le (by omega)] at this; exact this
      go_wp2
      go_ret
      exact ⟨ret_bool hg.out.symm, rfl⟩

end Go.Proofs.YtpbkgeipigcefaaGreat

namespace Go.Proofs.YtpbkgeipigcefaaGreat
open Go.RowKit

def wnGo (n : List UInt8) : List (List UInt8) → List (List UInt8) × Bool → List (List UInt8) × Bool
  | [], s => s
  | x :: r, s => wnGo n r (if !s.2 && Op.bytesLess n x then (s.1 ++ [n] ++ [x], true) else (s.1 ++ [x], s.2))
def withN (L : List (List UInt8)) (n : List UInt8) : List (List UInt8) :=
  if (wnGo n L ([], false)).2 then (wnGo n L ([], false)).1 else (wnGo n L ([], false)).1 ++ [n]

set_option maxRecDepth 100000 in
set_option maxHeartbeats 2000000 in
theorem withName_any (v : Value) (L : List (List UInt8)) (n : List UInt8) (w : World) (h : RS 0 w v L) (hL : L.length ≤ 1000) :
    Calls Tryz.prog 94 #[v, .string (bs n)] w fun e w' => ∃ v', e = .returned v' ∧ SL w.heap.size w' v' (withN L n) ∧ Frm [] w w' := by
  obtain ⟨a, cap, rfl, h1, h2, h3⟩ := h
  have H3 : Hid (∀ j (h : j < L.length), ∃ g off, a = some ⟨g, off, none⟩ ∧ 0 ≤ g ∧ w.cell? ⟨g, off + j, none⟩ = some (.string (bs L[j]))) := h3
  clear h3
  have hl := bs_toList
  go_enter Tryz.func94, Tryz.ntmps94
  go_wp2
  go_loopg [5, 6, 12] L.length (fun k v p i wr => ∃ (j : Nat) (acc : List (List UInt8)) (pb : Bool) (g cap : Nat), j + k = L.length ∧ i = .int .i64 j ∧ p = .bool pb ∧ v = .slice (some ⟨g, 0, none⟩) acc.length cap ∧ SL w.heap.size wr v acc ∧ w.heap.size ≤ g ∧ acc.length ≤ j + pb.toNat ∧ wnGo n (L.drop j) (acc, pb) = wnGo n L ([], false) ∧ Frm [] w wr)
  case atStart => exact ⟨0, [], false, _, _, by omega, rfl, rfl, rfl, World.ownsRow_lit _ #[] 0 (Nat.le_refl _) (by unfold maxLen; omega) (by simp), Nat.le_refl _, by simp, by simp, (Frm.refl _ _).alloc _⟩
  case round =>
    obtain ⟨j, acc, pb, g, cap', hj, rfl, rfl, rfl, hsl, hg, hac, hwn, hfr⟩ := hrel
    have hz := hfr.size
    have hpn : pb.toNat ≤ 1 := Bool.toNat_le pb
    have Hs : Hid (SL w.heap.size wr (.slice (some ⟨g, 0, none⟩) acc.length cap') acc) := hsl
    have Hw : Hid (wnGo n (L.drop j) (acc, pb) = wnGo n L ([], false)) := hwn
    have Hf : Hid (Frm [] w wr) := hfr
    clear hsl hwn hfr
    by_cases hlt : j < L.length
    · obtain ⟨g0, off, rfl, _, hc0⟩ := H3.out j hlt
      have hc : wr.cell? ⟨g0, off + j, none⟩ = some (.string (bs L[j])) := by
        rw [Hf.out.cell (World.block_lt_of_cell? w _ hc0) (by simp)]; exact hc0
      clear hc0
      have Hd : Hid (L.drop j = L[j] :: L.drop (j + 1)) := (List.drop_eq_getElem_cons hlt)
      generalize L[j] = x at *
      cases hbl : (!pb && Op.bytesLess n x)
      · have Hw2 : Hid (wnGo n (L.drop (j + 1)) (acc ++ [x], pb) = wnGo n L ([], false)) := by
          show wnGo n (L.drop (j + 1)) (acc ++ [x], pb) = _
          rw [← Hw.out, Hd.out]; conv => rhs; unfold wnGo
          simp only [hbl]; rfl
        clear Hw Hd
        have hbl2 : pb = true ∨ (pb = false ∧ Op.bytesLess n x = false) := by
          cases pb <;> simp_all
        clear hbl
        rcases hbl2 with rfl | ⟨rfl, hbl⟩
        all_goals
          go_wp2_with (first | (at_builtin; refine wp_appS _ rfl _ _ rfl w.heap.size (.slice (some ⟨g, 0, none⟩) acc.length cap') acc x wr.heap.size rfl (Hs.out.frm (S := []) ((Frm.refl _ _).alloc _) (by simp)) rfl (by simp) (by omega) (by simp; omega) ?_; intro g2 cap2 w2 hs2 hg2 hb2))
          go_roundg (gk - 1)
          case measure => omega
          case rel =>
            refine ⟨j + 1, acc ++ [x], _, g2, cap2, by omega, by go_num, rfl, by simp, by simpa using hs2, hb2, by simp at hac ⊢; omega, Hw2.out, ?_⟩
            exact (Hf.out.alloc _).grown1 (base := 0) hg2 (fun k hk => by simp [Value.ownBlock] at hk; omega)
      · have hpb : pb = false := by cases pb <;> simp_all
        have hbb : Op.bytesLess n x = true := by cases pb <;> simp_all
        subst hpb
        have Hw2 : Hid (wnGo n (L.drop (j + 1)) (acc ++ [n] ++ [x], true) = wnGo n L ([], false)) := by
          show wnGo n (L.drop (j + 1)) (acc ++ [n] ++ [x], true) = _
          rw [← Hw.out, Hd.out]; conv => rhs; unfold wnGo
          simp only [hbl]; rfl
        clear Hw Hd hbl
        go_wp2_with (first | (at_builtin; refine wp_appS _ rfl _ _ rfl w.heap.size (.slice (some ⟨g2, 0, none⟩) (acc.length + 1) cap2) (acc ++ [n]) x w2.heap.size rfl (hs2.frm (S := []) ((Frm.refl _ _).alloc _) (by simp)) rfl (by simp) (by simp; omega) (by simp; omega) ?_; intro g3 cap3 w3 hs3 hg3 hb3) | (at_builtin; refine wp_appS _ rfl _ _ rfl w.heap.size (.slice (some ⟨g, 0, none⟩) acc.length cap') acc n wr.heap.size rfl (Hs.out.frm (S := []) ((Frm.refl _ _).alloc _) (by simp)) rfl (by simp) (by omega) (by simp; omega) ?_; intro g2 cap2 w2 hs2 hg2 hb2; have hz2 := hg2.size; simp at hz2))
        go_roundg (gk - 1)
        case measure => omega
        case rel =>
          refine ⟨j + 1, acc ++ [n] ++ [x], _, g3, cap3, by omega, by go_num, rfl, by simp, by simpa using hs3, hb3, by simp at hac ⊢; omega, Hw2.out, ?_⟩
          exact (((Hf.out.alloc _).grown1 (base := 0) hg2 (fun k hk => by simp [Value.ownBlock] at hk; omega)).alloc _).grown1 (base := 0) hg3 (fun k hk => by simp [Value.ownBlock] at hk; omega)
    · have Hw2 : Hid (wnGo n L ([], false) = (acc, pb)) := by
        show wnGo n L ([], false) = _
        rw [← Hw.out, List.drop_eq_nil_of_le (by omega)]; rfl
      clear Hw
      cases pb
      · have Hx : Hid (withN L n = acc ++ [n]) := by
          show withN L n = _; unfold withN; rw [Hw2.out]; rfl
        go_wp2_with (first | (at_builtin; refine wp_appS _ rfl _ _ rfl w.heap.size (.slice (some ⟨g, 0, none⟩) acc.length cap') acc n wr.heap.size rfl (Hs.out.frm (S := []) ((Frm.refl _ _).alloc _) (by simp)) rfl (by simp) (by omega) (by simp; omega) ?_; intro g2 cap2 w2 hs2 hg2 hb2; have hz2 := hg2.size; simp at hz2))
        go_ret
        rw [Hx.out]
        exact ⟨_, rfl, hs2, (Hf.out.alloc _).grown1 (base := 0) hg2 (fun k hk => by simp [Value.ownBlock] at hk; omega)⟩
      · have Hx : Hid (withN L n = acc) := by
          show withN L n = _; unfold withN; rw [Hw2.out]; rfl
        go_wp2
        go_ret
        rw [Hx.out]
        exact ⟨_, rfl, Hs.out, Hf.out⟩

end Go.Proofs.YtpbkgeipigcefaaGreat

namespace Go.Proofs.YtpbkgeipigcefaaGreat
open Go.RowKit

theorem wnGo_len (n : List UInt8) : ∀ (L : List (List UInt8)) (s : List (List UInt8) × Bool), (wnGo n L s).1.length + s.2.toNat = s.1.length + L.length + (wnGo n L s).2.toNat
  | [], s => by simp [wnGo]
  | x :: r, (acc, p) => by
    unfold wnGo
    by_cases h : (!p && Op.bytesLess n x) = true
    · simp only [h, if_true]
      have := wnGo_len n r (acc ++ [n] ++ [x], true)
      simp at this h ⊢
      rw [h.1]; simp; omega
    · simp only [h]
      have := wnGo_len n r (acc ++ [x], p)
      simp at this ⊢
      omega
theorem withN_len (L : List (List UInt8)) (n : List UInt8) : (withN L n).length = L.length + 1 := by
  unfold withN
  have := wnGo_len n L ([], false)
  cases h : (wnGo n L ([], false)).2 <;> simp [h] at this ⊢ <;> omega

def rise1 (acc : List (List UInt8)) (n : List UInt8) : List (List UInt8) := if acc.contains n then acc else withN acc n
def rise (L : List (List UInt8)) : List (List UInt8) := L.foldl rise1 []
theorem rise1_len (acc : List (List UInt8)) (n : List UInt8) : (rise1 acc n).length ≤ acc.length + 1 := by
  unfold rise1; split <;> simp [withN_len]

set_option maxRecDepth 100000 in
set_option maxHeartbeats 2000000 in
theorem risingOnce_any (v : Value) (L : List (List UInt8)) (w : World) (h : RS 0 w v L) (hL : L.length ≤ 1000) :
    Calls Tryz.prog 88 #[v] w fun e w' => ∃ v', e = .returned v' ∧ SL w.heap.size w' v' (rise L) ∧ Frm [] w w' := by
  obtain ⟨a, cap, rfl, h1, h2, h3⟩ := h
  have H3 : Hid (∀ j (h : j < L.length), ∃ g off, a = some ⟨g, off, none⟩ ∧ 0 ≤ g ∧ w.cell? ⟨g, off + j, none⟩ = some (.string (bs L[j]))) := h3
  clear h3
  go_enter Tryz.func88, Tryz.ntmps88
  go_wp2
  go_loopg [3, 9] L.length (fun k v i wr => ∃ (j : Nat) (acc : List (List UInt8)), j + k = L.length ∧ i = .int .i64 j ∧ SL w.heap.size wr v acc ∧ acc.length ≤ j ∧ (L.drop j).foldl rise1 acc = rise L ∧ Frm [] w wr)
  case atStart => exact ⟨0, [], by omega, rfl, World.ownsRow_lit _ #[] 0 (Nat.le_refl _) (by unfold maxLen; omega) (by simp), by simp, by simp [rise], (Frm.refl _ _).alloc _⟩
  case round =>
    obtain ⟨j, acc, hj, rfl, hsl, hac, hwn, hfr⟩ := hrel
    have hz := hfr.size
    have Hs : Hid (SL w.heap.size wr u3 acc) := hsl
    have Hw : Hid ((L.drop j).foldl rise1 acc = rise L) := hwn
    have Hf : Hid (Frm [] w wr) := hfr
    clear hsl hwn hfr
    by_cases hlt : j < L.length
    · obtain ⟨g0, off, rfl, _, hc0⟩ := H3.out j hlt
      have hc : wr.cell? ⟨g0, off + j, none⟩ = some (.string (bs L[j])) := by
        rw [Hf.out.cell (World.block_lt_of_cell? w _ hc0) (by simp)]; exact hc0
      clear hc0
      have Hd : Hid (L.drop j = L[j] :: L.drop (j + 1)) := (List.drop_eq_getElem_cons hlt)
      generalize L[j] = x at *
      have Hw2 : Hid ((L.drop (j + 1)).foldl rise1 (rise1 acc x) = rise L) := by
        show _ = _; rw [← Hw.out, Hd.out]; rfl
      clear Hw Hd
      go_wp2_with fail
      refine (has_any u3 acc x wr ((Hs.out.rs (by omega)).base (Nat.zero_le _))).mono ?_
      rintro e w' ⟨rfl, rfl⟩
      cases hcn : acc.contains x
      · have Hr : Hid (rise1 acc x = withN acc x) := by
          show rise1 acc x = _; unfold rise1; rw [hcn]; rfl
        go_wp2_with fail
        refine (withName_any u3 acc x wr ((Hs.out.rs (by omega)).base (Nat.zero_le _)) (by omega)).mono ?_
        rintro e w2 ⟨v', rfl, hs2, hf2⟩
        have Hs2 : Hid (SL w.heap.size w2 v' (withN acc x)) := hs2.base hz
        have Hf2 : Hid (Frm [] w w2) := Hf.out.trans hf2
        clear hs2 hf2
        go_wp2
        go_roundg (gk - 1)
        case measure => omega
        case rel =>
          rw [Hr.out] at Hw2
          exact ⟨j + 1, withN acc x, by omega, by go_num, Hs2.out, by rw [withN_len]; omega, Hw2.out, Hf2.out⟩
      · have Hr : Hid (rise1 acc x = acc) := by
          show rise1 acc x = _; unfold rise1; rw [hcn]; rfl
        go_wp2
        go_roundg (gk - 1)
        case measure => omega
        case rel =>
          rw [Hr.out] at Hw2
          exact ⟨j + 1, acc, by omega, by go_num, Hs.out, by omega, Hw2.out, Hf.out⟩
    · have Hx : Hid (rise L = acc) := by
        show rise L = acc
        rw [← Hw.out, List.drop_eq_nil_of_le (by omega)]; rfl
      go_wp2
      go_ret
      rw [Hx.out]
      exact ⟨_, rfl, Hs.out, Hf.out⟩

def labL : Nat → List (List UInt8) → List UInt8 → List (List UInt8) × Bool × List UInt8
  | 0, _, l => ([], false, l)
  | k + 1, acc, l =>
    if !(acc.isEmpty) && !(sTake [44] l) then (acc, true, l)
    else
      let l1 := if acc.isEmpty then l else sRest [44] l
      let nm := l1.takeWhile nmB
      if !(isNameL nm) || decide (4 ≤ acc.length) then ([], false, l1.dropWhile nmB)
      else labL k (acc ++ [nm]) (l1.dropWhile nmB)
def sLabs (l : List UInt8) : List (List UInt8) × Bool × List UInt8 := labL 6 [] l

set_option maxRecDepth 100000 in
set_option maxHeartbeats 2000000 in
theorem takeLabels_any (b : Nat) (t l : List UInt8) (w : World) (h : At w b t l) :
    Calls Tryz.prog 87 #[.pointer (some ⟨b, 0, none⟩)] w fun e w' => ∃ v', e = .returned (.tuple #[v', .bool (sLabs l).2.1]) ∧ SL w.heap.size w' v' (sLabs l).1 ∧ (sLabs l).1.length ≤ 4 ∧ At w' b t (sLabs l).2.2 ∧ Frm [b] w w' := by
  have hb := h.lt
  have H : Hid (At w b t l) := h
  clear h
  go_enter Tryz.func87, Tryz.ntmps87
  go_wp2_with fail
  go_loopg [4] 6 (fun k v wr => ∃ (acc : List (List UInt8)) (l' : List UInt8) (g cap : Nat), acc.length + k = 6 ∧ acc.length ≤ 4 ∧ v = .slice (some ⟨g, 0, none⟩) acc.length cap ∧ w.heap.size ≤ g ∧ SL w.heap.size wr v acc ∧ labL k acc l' = sLabs l ∧ At wr b t l' ∧ Frm [b] w wr)
  case atStart => exact ⟨[], l, _, _, by simp, by simp, rfl, Nat.le_refl _, World.ownsRow_lit _ #[] 0 (Nat.le_refl _) (by unfold maxLen; omega) (by simp), rfl, H.out.frm (S := []) ((Frm.refl _ _).alloc _) (by simp), (Frm.refl _ _).alloc _⟩
  case round =>
    obtain ⟨acc, l', g, cap, hk, hac, rfl, hg, hsl, hlb, hat, hfr⟩ := hrel
    have hz := hfr.size
    have Hs : Hid (SL w.heap.size wr (.slice (some ⟨g, 0, none⟩) acc.length cap) acc) := hsl
    have Hl : Hid (labL gk acc l' = sLabs l) := hlb
    have Ha : Hid (At wr b t l') := hat
    have Hf : Hid (Frm [b] w wr) := hfr
    clear hsl hlb hat hfr
    obtain ⟨m, rfl⟩ : ∃ m, gk = m + 1 := ⟨gk - 1, by omega⟩
    have step : ∀ (l1 : List UInt8) (w1 : World), l1 = (if acc.isEmpty then l' else sRest [44] l') → (acc.isEmpty = true ∨ sTake [44] l' = true) → sLabs l = (if !(isNameL (l1.takeWhile nmB)) || decide (4 ≤ acc.length) then ([], false, l1.dropWhile nmB) else labL m (acc ++ [l1.takeWhile nmB]) (l1.dropWhile nmB)) := by
      intro l1 w1 e h
      rw [← Hl.out]; conv => lhs; unfold labL
      rw [if_neg (by rcases h with h | h <;> simp [h]), ← e]
    have Hst : Hid (∀ (l1 : List UInt8) (w1 : World), l1 = (if acc.isEmpty then l' else sRest [44] l') → (acc.isEmpty = true ∨ sTake [44] l' = true) → sLabs l = (if !(isNameL (l1.takeWhile nmB)) || decide (4 ≤ acc.length) then ([], false, l1.dropWhile nmB) else labL m (acc ++ [l1.takeWhile nmB]) (l1.dropWhile nmB))) := step
    clear step
    -- the body, from the name on
    by_cases hemp : acc = []
    · subst hemp
      have Hst1 := Hst.out l' wr rfl (Or.inl rfl)
      have Hst2 : Hid (sLabs l = (if !(isNameL (l'.takeWhile nmB)) || decide (4 ≤ ([] : List (List UInt8)).length) then ([], false, l'.dropWhile nmB) else labL m ([] ++ [l'.takeWhile nmB]) (l'.dropWhile nmB))) := Hst1
      clear Hst Hst1
      simp only [List.length_nil] at *
      go_wp2_with fail
      refine (takeName_any b t l' _ Ha.out).mono ?_
      rintro e w2 ⟨rfl, h2, hf2⟩
      have H2 : Hid (At w2 b t (l'.dropWhile nmB)) := h2
      have Hf2 : Hid (Frm [b] w w2) := Hf.out.trans hf2
      have Hs2 : Hid (SL w.heap.size w2 (.slice (some ⟨g, 0, none⟩) 0 cap) []) := Hs.out.frm hf2 (by simp; omega)
      have hz2 := Hf2.out.size
      clear h2 hf2 Hs Ha Hf
      cases hn : isNameL (l'.takeWhile nmB)
      · have Hx : Hid (sLabs l = ([], false, l'.dropWhile nmB)) := by
          show _ = _; rw [Hst2.out, hn]; rfl
        go_wp2
        go_ret2
        rw [Hx.out]
        exact ⟨_, rfl, SL.nil _ _, by simp, H2.out, Hf2.out⟩
      · have Hx : Hid (labL m [l'.takeWhile nmB] (l'.dropWhile nmB) = sLabs l) := by
          show _ = _; rw [Hst2.out, hn]; rfl
        go_wp2_with (first | (at_builtin; refine wp_appS _ rfl _ _ rfl w.heap.size (.slice (some ⟨g, 0, none⟩) 0 cap) [] (l'.takeWhile nmB) w2.heap.size rfl (Hs2.out.frm (S := []) ((Frm.refl _ _).alloc _) (by simp)) rfl (by simp) (by simp) (by simp; omega) ?_; intro g2 cap2 w3 hs2 hg2 hb2))
        go_roundg m
        case measure => omega
        case rel =>
          refine ⟨[l'.takeWhile nmB], _, g2, cap2, by simp; omega, by simp, by simp, hb2, by simpa using hs2, Hx.out, ?_, ?_⟩
          · refine At.frm (S := [g]) (H2.out.frm (S := []) ((Frm.refl _ _).alloc _) (by simp)) (Frm.of_grown hg2) (by simp; omega)
          · exact (Hf2.out.alloc _).grown hg2 (fun k hk => by simp [Value.ownBlock] at hk; omega)
    · have hne : ((acc.length : Int) == 0) = false := beq_eq_false_iff_ne.2 (by have := List.length_pos_iff.2 hemp; omega)
      have hee : acc.isEmpty = false := by simpa using hemp
      go_wp2_with fail
      refine (take_any b t l' [44] _ Ha.out (by simp)).mono ?_
      rintro e w1 ⟨rfl, h1, hf1⟩
      have hs1 := Hs.out.frm hf1 (by simp; omega)
      have Hf1 : Hid (Frm [b] w w1) := Hf.out.trans hf1
      have Hs1 : Hid (SL w.heap.size w1 (.slice (some ⟨g, 0, none⟩) acc.length cap) acc) := hs1
      have H1 : Hid (At w1 b t (sRest [44] l')) := h1
      clear h1 hf1 hs1 Hf Hs Ha
      cases ht : sTake [44] l'
      · have Hx : Hid (sLabs l = (acc, true, l')) := by
          show _ = _; rw [← Hl.out]; unfold labL; simp [hee, ht]
        rw [sRest_no ht] at H1
        go_wp2
        go_ret2
        rw [Hx.out]
        exact ⟨_, rfl, Hs1.out, hac, H1.out, Hf1.out⟩
      · have Hst1 := Hst.out (sRest [44] l') wr (by rw [hee]; rfl) (Or.inr ht)
        have Hst2 : Hid (sLabs l = (if !(isNameL ((sRest [44] l').takeWhile nmB)) || decide (4 ≤ acc.length) then ([], false, (sRest [44] l').dropWhile nmB) else labL m (acc ++ [(sRest [44] l').takeWhile nmB]) ((sRest [44] l').dropWhile nmB))) := Hst1
        clear Hst Hst1
        go_wp2_with fail
        refine (takeName_any b t _ _ H1.out).mono ?_
        rintro e w2 ⟨rfl, h2, hf2⟩
        generalize sRest [44] l' = l1 at *
        have H2 : Hid (At w2 b t (l1.dropWhile nmB)) := h2
        have Hf2 : Hid (Frm [b] w w2) := Hf1.out.trans hf2
        have Hs2 : Hid (SL w.heap.size w2 (.slice (some ⟨g, 0, none⟩) acc.length cap) acc) := Hs1.out.frm hf2 (by simp; omega)
        have hz2 := Hf2.out.size
        clear h2 hf2 Hs1 Hf1
        cases hn : isNameL (l1.takeWhile nmB)
        · have Hx : Hid (sLabs l = ([], false, l1.dropWhile nmB)) := by
            show _ = _; rw [Hst2.out, hn]; rfl
          go_wp2
          go_ret2
          rw [Hx.out]
          exact ⟨_, rfl, SL.nil _ _, by simp, H2.out, Hf2.out⟩
        · by_cases h4 : 4 ≤ acc.length
          · have Hx : Hid (sLabs l = ([], false, l1.dropWhile nmB)) := by
              show _ = _; rw [Hst2.out, hn]; simp [h4]
            go_wp2
            go_ret2
            rw [Hx.out]
            exact ⟨_, rfl, SL.nil _ _, by simp, H2.out, Hf2.out⟩
          · have Hx : Hid (labL m (acc ++ [l1.takeWhile nmB]) (l1.dropWhile nmB) = sLabs l) := by
              show _ = _; rw [Hst2.out, hn]; simp [h4]
            go_wp2_with (first | (at_builtin; refine wp_appS _ rfl _ _ rfl w.heap.size (.slice (some ⟨g, 0, none⟩) acc.length cap) acc (l1.takeWhile nmB) w2.heap.size rfl (Hs2.out.frm (S := []) ((Frm.refl _ _).alloc _) (by simp)) rfl (by simp) (by omega) (by simp; omega) ?_; intro g2 cap2 w3 hs2 hg2 hb2))
            go_roundg m
            case measure => omega
            case rel =>
              refine ⟨acc ++ [l1.takeWhile nmB], _, g2, cap2, by simp; omega, by simp; omega, by simp, hb2, by simpa using hs2, Hx.out, ?_, ?_⟩
              · refine At.frm (S := [g]) (H2.out.frm (S := []) ((Frm.refl _ _).alloc _) (by simp)) (Frm.of_grown hg2) (by simp; omega)
              · exact (Hf2.out.alloc _).grown hg2 (fun k hk => by simp [Value.ownBlock] at hk; omega)

end Go.Proofs.YtpbkgeipigcefaaGreat

namespace Go.Proofs.YtpbkgeipigcefaaGreat
open Go.RowKit

structure RV where
  d : Int
  rc : List UInt8
  tb : Bool
  vby : Value
  wt : Int
  ev : Int
  rp : Int
  vif : Value
  co : Bool
def RV.cells (r : RV) : Array Value := #[.int .i64 r.d, .string (bs r.rc), .bool r.tb, r.vby, .int .i64 r.wt, .int .i64 r.ev, .int .i64 r.rp, r.vif, .bool r.co]
def RT (w : World) (rb : Nat) (r : RV) : Prop := w.heap[rb]? = some (.cells r.cells 96 (0, 0))
theorem RT.lt {w : World} {rb : Nat} {r : RV} (h : RT w rb r) : rb < w.heap.size := (Array.getElem?_eq_some_iff.1 h).1
theorem RT.cell {w : World} {rb : Nat} {r : RV} (h : RT w rb r) (o : Nat) : w.cell? ⟨rb, o, none⟩ = r.cells[o]? := by
  unfold RT at h; simp [World.cell?, h]
theorem RT.fz {w : World} {rb : Nat} {r : RV} (h : RT w rb r) (o : Nat) : w.frozen? ⟨rb, o, none⟩ = false := by
  unfold RT at h; simp [World.frozen?, h]
theorem RT.frm {S : List Nat} {w w' : World} {rb : Nat} {r : RV} (h : RT w rb r) (f : Frm S w w') (hS : rb ∉ S) : RT w' rb r :=
  (f.block rb h.lt hS).trans h
theorem RT.set {w : World} {rb : Nat} {r : RV} (h : RT w rb r) (o : Nat) (v : Value) (r' : RV) (e : r'.cells = r.cells.setIfInBounds o v) : RT (w.setCell ⟨rb, o, none⟩ v) rb r' := by
  unfold RT at *
  simp [World.setCell, Array.getElem?_modify, h, e]
theorem RT.drewN {w : World} {rb : Nat} {r : RV} (h : RT w rb r) (n : Nat) : RT (w.drewN n) rb r := h

def sRecv (l : List UInt8) : List UInt8 × Bool × List UInt8 :=
  if sTake [45] l then ([45], true, sRest [45] l) else (l.takeWhile nmB, isNameL (l.takeWhile nmB), l.dropWhile nmB)

set_option maxRecDepth 100000 in
set_option maxHeartbeats 1000000 in
theorem takeReceiver_any (b rb : Nat) (t l : List UInt8) (r : RV) (w : World) (h : At w b t l) (hr : RT w rb r) (hne : b ≠ rb) :
    Calls Tryz.prog 81 #[.pointer (some ⟨b, 0, none⟩), .pointer (some ⟨rb, 0, none⟩)] w fun e w' => e = .returned (.bool (sRecv l).2.1) ∧ At w' b t (sRecv l).2.2 ∧ RT w' rb { r with rc := (sRecv l).1 } ∧ Frm [b, rb] w w' := by
  have hb := h.lt
  have hrb := hr.lt
  have H : Hid (At w b t l) := h
  have HR : Hid (RT w rb r) := hr
  clear h hr
  go_enter Tryz.func81, Tryz.ntmps81
  go_wp2_with fail
  refine (take_any b t l [45] _ H.out (by simp)).mono ?_
  rintro e w1 ⟨rfl, h1, hf1⟩
  have hr1 := HR.out.frm hf1 (by simp; omega)
  cases ht1 : sTake [45] l
  case true =>
    have Hx : Hid (sRecv l = ([45], true, sRest [45] l)) := by
      show sRecv l = _; unfold sRecv; rw [ht1]; rfl
    have c1 : w1.cell? ⟨rb, 1, none⟩ = some (.string (bs r.rc)) := hr1.cell 1
    have f1 := hr1.fz 1
    have H1 : Hid (At w1 b t (sRest [45] l) ∧ Frm [b, rb] w w1) := ⟨h1, hf1.mono (by simp; omega)⟩
    have HR1 : Hid (RT w1 rb r) := hr1
    clear h1 hf1 hr1
    go_wp2
    go_ret
    rw [Hx.out]
    exact ⟨rfl, H1.out.1.frm (S := [rb]) ((Frm.refl _ _).setCell (by simp) _) (by simp; omega), HR1.out.set 1 _ _ rfl, H1.out.2.setCell (by simp) _⟩
  case false =>
  have Hx : Hid (sRecv l = (l.takeWhile nmB, isNameL (l.takeWhile nmB), l.dropWhile nmB)) := by
    show sRecv l = _; unfold sRecv; rw [ht1]; rfl
  rw [sRest_no ht1] at h1
  have H1 : Hid (At w1 b t l) := h1
  clear h1
  go_wp2_with fail
  refine (takeName_any b t l _ H1.out).mono ?_
  rintro e w2 ⟨rfl, h2, hf2⟩
  have hr2 := hr1.frm hf2 (by simp; omega)
  have c1 : w2.cell? ⟨rb, 1, none⟩ = some (.string (bs r.rc)) := hr2.cell 1
  have f1 := hr2.fz 1
  have H2 : Hid (At w2 b t (l.dropWhile nmB) ∧ Frm [b, rb] w w2) := ⟨h2, (hf1.trans hf2).mono (by simp; omega)⟩
  have HR2 : Hid (RT w2 rb r) := hr2
  clear h2 hf2 hf1 hr2 hr1 ht1
  go_wp2
  go_ret
  rw [Hx.out]
  exact ⟨rfl, H2.out.1.frm (S := [rb]) ((Frm.refl _ _).setCell (by simp) _) (by simp; omega), HR2.out.set 1 _ _ rfl, H2.out.2.setCell (by simp) _⟩

structure ByR where
  tells : Bool
  names : List (List UInt8)
  ok : Bool
  rest : List UInt8
def sBy (l : List UInt8) : ByR :=
  if sTake [32, 98, 121, 32] l then
    let l1 := sRest [32, 98, 121, 32] l
    if sTake [45] l1 then ⟨true, [], true, sRest [45] l1⟩
    else ⟨true, rise (sLabs l1).1, (sLabs l1).2.1, (sLabs l1).2.2⟩
  else ⟨false, [], true, l⟩

set_option maxRecDepth 100000 in
set_option maxHeartbeats 1000000 in
theorem takeBy_any (b rb : Nat) (t l : List UInt8) (r : RV) (w : World) (h : At w b t l) (hr : RT w rb r) (hne : b ≠ rb) (htb : r.tb = false) (hby : r.vby = .slice none 0 0) :
    Calls Tryz.prog 82 #[.pointer (some ⟨b, 0, none⟩), .pointer (some ⟨rb, 0, none⟩)] w fun e w' => e = .returned (.bool (sBy l).ok) ∧ At w' b t (sBy l).rest ∧ (∃ v, RT w' rb { r with tb := (sBy l).tells, vby := v } ∧ SL w.heap.size w' v (sBy l).names) ∧ Frm [b, rb] w w' := by
  obtain ⟨d, rc, tb, vby, wt, ev, rp, vif, co⟩ := r
  simp only at htb hby
  subst htb hby
  have hb := h.lt
  have hrb := hr.lt
  have H : Hid (At w b t l) := h
  have HR : Hid (RT w rb ⟨d, rc, false, .slice none 0 0, wt, ev, rp, vif, co⟩) := hr
  clear h hr
  go_enter Tryz.func82, Tryz.ntmps82
  go_wp2_with fail
  refine (take_any b t l [32, 98, 121, 32] _ H.out (by simp)).mono ?_
  rintro e w1 ⟨rfl, h1, hf1⟩
  have hr1 := HR.out.frm hf1 (by simp; omega)
  cases ht1 : sTake [32, 98, 121, 32] l
  case false =>
    have Hx : Hid (sBy l = ⟨false, [], true, l⟩) := by
      show sBy l = _; unfold sBy; rw [ht1]; rfl
    rw [sRest_no ht1] at h1
    have H1 : Hid (At w1 b t l ∧ Frm [b, rb] w w1) := ⟨h1, hf1.mono (by simp; omega)⟩
    have HR1 : Hid (RT w1 rb ⟨d, rc, false, .slice none 0 0, wt, ev, rp, vif, co⟩) := hr1
    clear h1 hf1 hr1
    go_wp2
    go_ret
    rw [Hx.out]
    exact ⟨rfl, H1.out.1, ⟨_, HR1.out, SL.nil _ _⟩, H1.out.2⟩
  case true =>
  have c2 : w1.cell? ⟨rb, 2, none⟩ = some (.bool false) := hr1.cell 2
  have f2 := hr1.fz 2
  generalize hl1 : sRest [32, 98, 121, 32] l = l1 at *
  have H1 : Hid (At w1 b t l1) := h1
  have HF1 : Hid (Frm [b, rb] w w1) := hf1.mono (by simp; omega)
  have HR1 : Hid (RT w1 rb ⟨d, rc, false, .slice none 0 0, wt, ev, rp, vif, co⟩) := hr1
  have Hl1 : Hid (sRest [32, 98, 121, 32] l = l1 ∧ sTake [32, 98, 121, 32] l = true) := ⟨hl1, ht1⟩
  clear h1 hf1 hr1 hl1 ht1
  go_wp2_with fail
  have hr1 := HR1.out.set 2 (.bool true) ⟨d, rc, true, .slice none 0 0, wt, ev, rp, vif, co⟩ rfl
  have h1 := H1.out.frm (S := [rb]) ((Frm.refl _ _).setCell (p := ⟨rb, 2, none⟩) (by simp) (.bool true)) (by simp; omega)
  have hf1 := HF1.out.setCell (p := ⟨rb, 2, none⟩) (by simp) (.bool true)
  refine (take_any b t l1 [45] _ h1 (by simp)).mono ?_
  rintro e w2 ⟨rfl, h2, hf2⟩
  have hr2 := hr1.frm hf2 (by simp; omega)
  have hf12 := hf1.trans (hf2.mono (S' := [b, rb]) (by simp; omega))
  have HF2 : Hid (Frm [b, rb] w w2) := hf12
  have HR2 : Hid (RT w2 rb ⟨d, rc, true, .slice none 0 0, wt, ev, rp, vif, co⟩) := hr2
  clear h1 hr1 hf1 hf2 hr2 hf12 c2 f2 H1 HF1 HR1
  cases ht2 : sTake [45] l1
  case true =>
    have Hx : Hid (sBy l = ⟨true, [], true, sRest [45] l1⟩) := by
      show sBy l = _; unfold sBy; rw [Hl1.out.1, Hl1.out.2]; simp [ht2]
    have H2 : Hid (At w2 b t (sRest [45] l1)) := h2
    clear h2
    go_wp2
    go_ret
    rw [Hx.out]
    exact ⟨rfl, H2.out, ⟨_, HR2.out, SL.nil _ _⟩, HF2.out⟩
  case false =>
  have Hx : Hid (sBy l = ⟨true, rise (sLabs l1).1, (sLabs l1).2.1, (sLabs l1).2.2⟩) := by
    show sBy l = _; unfold sBy; rw [Hl1.out.1, Hl1.out.2]; simp [ht2]
  rw [sRest_no ht2] at h2
  have H2 : Hid (At w2 b t l1) := h2
  clear h2 ht2
  go_wp2_with fail
  refine (takeLabels_any b t l1 _ H2.out).mono ?_
  rintro e w3 ⟨v', rfl, hs3, hl3, h3, hf3⟩
  have hr3 := HR2.out.frm hf3 (by simp; omega)
  have HF3 : Hid (Frm [b, rb] w w3) := HF2.out.trans (hf3.mono (S' := [b, rb]) (by simp; omega))
  have HS3 : Hid (SL w2.heap.size w3 v' (sLabs l1).1) := hs3
  have H3 : Hid (At w3 b t (sLabs l1).2.2) := h3
  have HR3 : Hid (RT w3 rb ⟨d, rc, true, .slice none 0 0, wt, ev, rp, vif, co⟩) := hr3
  clear hs3 h3 hf3 hr3 H2 HR2
  go_wp2_with fail
  refine (risingOnce_any v' _ _ ((HS3.out.rs (by omega)).base (Nat.zero_le _)) (by omega)).mono ?_
  rintro e w4 ⟨v4, rfl, hs4, hf4⟩
  have hr4 := HR3.out.frm hf4 (by simp)
  have c3 : w4.cell? ⟨rb, 3, none⟩ = some (.slice none 0 0) := hr4.cell 3
  have f3 := hr4.fz 3
  have HF4 : Hid (Frm [b, rb] w w4) := HF3.out.trans hf4.nil
  have HS4 : Hid (SL w.heap.size w4 v4 (rise (sLabs l1).1)) := hs4.base HF3.out.size
  have H4 : Hid (At w4 b t (sLabs l1).2.2) := H3.out.frm hf4 (by simp)
  have HR4 : Hid (RT w4 rb ⟨d, rc, true, .slice none 0 0, wt, ev, rp, vif, co⟩) := hr4
  clear hs4 hf4 hr4
  obtain ⟨a4, cap4, rfl⟩ := HS4.out.shape
  go_wp2
  go_ret
  rw [Hx.out]
  refine ⟨rfl, H4.out.frm (S := [rb]) ((Frm.refl _ _).setCell (by simp) _) (by simp; omega), ⟨.slice a4 (rise (sLabs l1).1).length cap4, HR4.out.set 3 _ _ rfl, ?_⟩, HF4.out.setCell (by simp) _⟩
  exact HS4.out.frm (S := [rb]) ((Frm.refl _ _).setCell (by simp) _) (by simp; omega)

end Go.Proofs.YtpbkgeipigcefaaGreat

