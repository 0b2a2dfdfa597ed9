import Derived.Test.YtjnaekffodgdcaaDoorW8
namespace Go.Proofs.YtjnaekffodgdcaaDoor
open Go.RowKit
set_option linter.unusedVariables false
set_option linter.unusedSimpArgs false
set_option linter.unnecessarySimpa false

theorem add0 (b j : Nat) : (⟨b, 0, none⟩ : Addr).add j = ⟨b, j, none⟩ := by unfold Addr.add; split <;> simp_all

/-- 'l = append(l, s)' of texts. -/
theorem wp_appS {ops : Array Oper} {rest : List Oper} {o : Oper} {a : Act} {Q : Exit → Act → World → Prop} (w : World) (hgd : o.guard = none) (s x : Operand)
    (ho : o.op = .call { callee := .builtin .append, args := #[s, x], argTypes := #[32, 32] })
    (base : Nat) (v : Value) (L : List (List UInt8)) (n : List UInt8) (b1 : Nat) (hs : a.eval s = v) (hown : SL base w v L) (hx : a.eval x = .slice (some ⟨b1, 0, none⟩) 1 1)
    (hc : w.cell? ⟨b1, 0, none⟩ = some (.string (bs n))) (hlen : L.length ≤ 1048576) (hbase : base ≤ w.heap.size)
    (h : ∀ g cap w', SL base w' (.slice (some ⟨g, 0, none⟩) (L.length + 1) cap) (L ++ [n]) → w.grownBy w' v.ownBlock → base ≤ g → wpList Tryd.prog ops Q rest (a.put o.dst (.slice (some ⟨g, 0, none⟩) (L.length + 1) cap)) w') :
    wpList Tryd.prog ops Q (o :: rest) a w := by
  obtain ⟨i0, hi, hz0, hz1, hz2⟩ := info_parts infoStr
  refine wpList_append_own w hgd s x 32 ho base 9 i0 (.string ByteArray.empty) 1 16 Tryd.underlying32 hi hz0 hz1 hz2 rfl (by decide) v L.length (sv L) hs hown ⟨b1, 0, none⟩ 1 1 [.string (bs n)] hx rfl ?_ (fun x hx => by simp at hx; subst hx; rfl) (by unfold maxLen; omega) (by omega) hbase ?_
  · intro j u hj
    have : j = 0 := by
      cases j with
      | zero => rfl
      | succ j => simp at hj
    subst this
    rw [add0]
    simp at hj
    rw [← hj]; exact hc
  · intro v' w' h1 h2 h3
    obtain ⟨g, cap, rfl⟩ := own_some h1 (fun e => by have := h3.1 e; simp at this)
    have h1' : SL base w' (.slice (some ⟨g, 0, none⟩) (L.length + 1) cap) (L ++ [n]) := by
      unfold SL; rw [← sv_append]; simpa using h1
    exact h g cap w' h1' h2 (h1.lt g rfl).1

def wnGo (n : List UInt8) : List (List UInt8) → List (List UInt8) × Bool → List (List UInt8) × Bool
  | [], s => s
  | x :: r, s => wnGo n r (if !s.2 && Op.bytesLess n x then (s.1 ++ [n] ++ [x], true) else (s.1 ++ [x], s.2))
def withN (L : List (List UInt8)) (n : List UInt8) : List (List UInt8) :=
  if (wnGo n L ([], false)).2 then (wnGo n L ([], false)).1 else (wnGo n L ([], false)).1 ++ [n]

theorem Frm.grown1 {a w w' : World} {v : Value} {base : Nat} (h : Frm [] a w) (hg : w.grownBy w' v.ownBlock) (hv : ∀ k, v.ownBlock = some k → a.heap.size ≤ k) : Frm [] a w' :=
  h.grown hg (fun k hk => Or.inr (hv k hk))

set_option maxRecDepth 100000 in
set_option maxHeartbeats 2000000 in
theorem withName_any (v : Value) (L : List (List UInt8)) (n : List UInt8) (w : World) (h : RS 0 w v L) (hL : L.length ≤ 1000) :
    Calls Tryd.prog 61 #[v, .string (bs n)] w fun e w' => ∃ v', e = .returned v' ∧ SL w.heap.size w' v' (withN L n) ∧ Frm [] w w' := by
  obtain ⟨a, cap, rfl, h1, h2, h3⟩ := h
  have H3 : Hid (∀ j (h : j < L.length), ∃ g off, a = some ⟨g, off, none⟩ ∧ 0 ≤ g ∧ w.cell? ⟨g, off + j, none⟩ = some (.string (bs L[j]))) := h3
  clear h3
  have hl := bs_toList
  go_enter Tryd.func61, Tryd.ntmps61
  go_wp2
  go_loopg [5, 6, 12] L.length (fun k v p i wr => ∃ (j : Nat) (acc : List (List UInt8)) (pb : Bool) (g cap : Nat), j + k = L.length ∧ i = .int .i64 j ∧ p = .bool pb ∧ v = .slice (some ⟨g, 0, none⟩) acc.length cap ∧ SL w.heap.size wr v acc ∧ w.heap.size ≤ g ∧ acc.length ≤ j + pb.toNat ∧ wnGo n (L.drop j) (acc, pb) = wnGo n L ([], false) ∧ Frm [] w wr)
  case atStart => exact ⟨0, [], false, _, _, by omega, rfl, rfl, rfl, World.ownsRow_lit _ #[] 0 (Nat.le_refl _) (by unfold maxLen; omega) (by simp), Nat.le_refl _, by simp, by simp, (Frm.refl _ _).alloc _⟩
  case round =>
    obtain ⟨j, acc, pb, g, cap', hj, rfl, rfl, rfl, hsl, hg, hac, hwn, hfr⟩ := hrel
    have hz := hfr.size
    have hpn : pb.toNat ≤ 1 := Bool.toNat_le pb
    have Hs : Hid (SL w.heap.size wr (.slice (some ⟨g, 0, none⟩) acc.length cap') acc) := hsl
    have Hw : Hid (wnGo n (L.drop j) (acc, pb) = wnGo n L ([], false)) := hwn
    have Hf : Hid (Frm [] w wr) := hfr
    clear hsl hwn hfr
    by_cases hlt : j < L.length
    · obtain ⟨g0, off, rfl, _, hc0⟩ := H3.out j hlt
      have hc : wr.cell? ⟨g0, off + j, none⟩ = some (.string (bs L[j])) := by
        rw [Hf.out.cell (World.block_lt_of_cell? w _ hc0) (by simp)]; exact hc0
      clear hc0
      have Hd : Hid (L.drop j = L[j] :: L.drop (j + 1)) := (List.drop_eq_getElem_cons hlt)
      generalize L[j] = x at *
      cases hbl : (!pb && Op.bytesLess n x)
      · have Hw2 : Hid (wnGo n (L.drop (j + 1)) (acc ++ [x], pb) = wnGo n L ([], false)) := by
          show wnGo n (L.drop (j + 1)) (acc ++ [x], pb) = _
          rw [← Hw.out, Hd.out]; conv => rhs; unfold wnGo
          simp only [hbl]; rfl
        clear Hw Hd
        have hbl2 : pb = true ∨ (pb = false ∧ Op.bytesLess n x = false) := by
          cases pb <;> simp_all
        clear hbl
        rcases hbl2 with rfl | ⟨rfl, hbl⟩
        all_goals
          go_wp2_with (first | (at_builtin; refine wp_appS _ rfl _ _ rfl w.heap.size (.slice (some ⟨g, 0, none⟩) acc.length cap') acc x wr.heap.size rfl (Hs.out.frm (S := []) ((Frm.refl _ _).alloc _) (by simp)) rfl (by simp) (by omega) (by simp; omega) ?_; intro g2 cap2 w2 hs2 hg2 hb2))
          go_roundg (gk - 1)
          case measure => omega
          case rel =>
            refine ⟨j + 1, acc ++ [x], _, g2, cap2, by omega, by go_num, rfl, by simp, by simpa using hs2, hb2, by simp at hac ⊢; omega, Hw2.out, ?_⟩
            exact (Hf.out.alloc _).grown1 (base := 0) hg2 (fun k hk => by simp [Value.ownBlock] at hk; omega)
      · have hpb : pb = false := by cases pb <;> simp_all
        have hbb : Op.bytesLess n x = true := by cases pb <;> simp_all
        subst hpb
        have Hw2 : Hid (wnGo n (L.drop (j + 1)) (acc ++ [n] ++ [x], true) = wnGo n L ([], false)) := by
          show wnGo n (L.drop (j + 1)) (acc ++ [n] ++ [x], true) = _
          rw [← Hw.out, Hd.out]; conv => rhs; unfold wnGo
          simp only [hbl]; rfl
        clear Hw Hd hbl
        go_wp2_with (first | (at_builtin; refine wp_appS _ rfl _ _ rfl w.heap.size (.slice (some ⟨g2, 0, none⟩) (acc.length + 1) cap2) (acc ++ [n]) x w2.heap.size rfl (hs2.frm (S := []) ((Frm.refl _ _).alloc _) (by simp)) rfl (by simp) (by simp; omega) (by simp; omega) ?_; intro g3 cap3 w3 hs3 hg3 hb3) | (at_builtin; refine wp_appS _ rfl _ _ rfl w.heap.size (.slice (some ⟨g, 0, none⟩) acc.length cap') acc n wr.heap.size rfl (Hs.out.frm (S := []) ((Frm.refl _ _).alloc _) (by simp)) rfl (by simp) (by omega) (by simp; omega) ?_; intro g2 cap2 w2 hs2 hg2 hb2; have hz2 := hg2.size; simp at hz2))
        go_roundg (gk - 1)
        case measure => omega
        case rel =>
          refine ⟨j + 1, acc ++ [n] ++ [x], _, g3, cap3, by omega, by go_num, rfl, by simp, by simpa using hs3, hb3, by simp at hac ⊢; omega, Hw2.out, ?_⟩
          exact (((Hf.out.alloc _).grown1 (base := 0) hg2 (fun k hk => by simp [Value.ownBlock] at hk; omega)).alloc _).grown1 (base := 0) hg3 (fun k hk => by simp [Value.ownBlock] at hk; omega)
    · have Hw2 : Hid (wnGo n L ([], false) = (acc, pb)) := by
        show wnGo n L ([], false) = _
        rw [← Hw.out, List.drop_eq_nil_of_le (by omega)]; rfl
      clear Hw
      cases pb
      · have Hx : Hid (withN L n = acc ++ [n]) := by
          show withN L n = _; unfold withN; rw [Hw2.out]; rfl
        go_wp2_with (first | (at_builtin; refine wp_appS _ rfl _ _ rfl w.heap.size (.slice (some ⟨g, 0, none⟩) acc.length cap') acc n wr.heap.size rfl (Hs.out.frm (S := []) ((Frm.refl _ _).alloc _) (by simp)) rfl (by simp) (by omega) (by simp; omega) ?_; intro g2 cap2 w2 hs2 hg2 hb2; have hz2 := hg2.size; simp at hz2))
        go_ret
        rw [Hx.out]
        exact ⟨_, rfl, hs2, (Hf.out.alloc _).grown1 (base := 0) hg2 (fun k hk => by simp [Value.ownBlock] at hk; omega)⟩
      · have Hx : Hid (withN L n = acc) := by
          show withN L n = _; unfold withN; rw [Hw2.out]; rfl
        go_wp2
        go_ret
        rw [Hx.out]
        exact ⟨_, rfl, Hs.out, Hf.out⟩

end Go.Proofs.YtjnaekffodgdcaaDoor
