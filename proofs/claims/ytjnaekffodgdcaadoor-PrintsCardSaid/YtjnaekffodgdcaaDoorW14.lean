import Derived.Test.YtjnaekffodgdcaaDoorW13
namespace Go.Proofs.YtjnaekffodgdcaaDoor
open Go.RowKit
set_option linter.unusedVariables false
set_option linter.unusedSimpArgs false
set_option linter.unnecessarySimpa false

def kRecv : List UInt8 := [114, 101, 99, 101, 105, 118, 101, 114, 115]
def recL : Nat → List (List UInt8) → List UInt8 → Option (List (List UInt8))
  | 0, _, _ => none
  | k + 1, acc, l =>
    if sTake [32] l then
      let nm := (sRest [32] l).takeWhile nmB
      if !(isNameL nm) || decide (8 ≤ acc.length) then none else recL k (acc ++ [nm]) ((sRest [32] l).dropWhile nmB)
    else if decide (0 < acc.length) && l.isEmpty then some acc else none
def sRecvs (t : List UInt8) : Option (List (List UInt8)) := if sTake kRecv t then recL 10 [] (sRest kRecv t) else none

theorem heap1 (w : World) (a : Obj) : (w.alloc a).heap[w.heap.size]? = some a := heap_alloc_new w a

set_option maxRecDepth 100000 in
set_option maxHeartbeats 2000000 in
theorem readReceivers_any (t : List UInt8) (w : World) (ht : t.length ≤ 1048576) :
    Calls Tryd.prog 34 #[.string (bs t)] w fun e w' => Frm [] w w' ∧ ∃ v' L, e = .returned (.tuple #[v', .bool (sRecvs t).isSome]) ∧ SL w.heap.size w' v' L ∧ ∀ L', sRecvs t = some L' → L = L' := by
  have ha0 : At (w.alloc (Obj.cells #[Value.string (bs t), Value.int IntKind.i64 0] 88)) w.heap.size t t :=
    ⟨0, ⟨heap1 _ _, Nat.zero_le _, ht⟩, rfl⟩
  have A0 : Hid (At (w.alloc (Obj.cells #[Value.string (bs t), Value.int IntKind.i64 0] 88)) w.heap.size t t) := ha0
  clear ha0
  go_enter Tryd.func34, Tryd.ntmps34
  go_wp2_with fail
  refine (take_any w.heap.size t t kRecv _ A0.out (by simp [kRecv])).mono ?_
  rintro e w1 ⟨rfl, h1, hf1⟩
  have HF1 : Hid (Frm [] w w1) := ((Frm.refl [] w).alloc _).new hf1 (by simp)
  have hz1 : w.heap.size + 1 ≤ w1.heap.size := by have := hf1.size; simpa using this
  cases ht1 : sTake kRecv t
  case false =>
    have Hx : Hid (sRecvs t = none) := by
      show sRecvs t = none; unfold sRecvs; rw [ht1]; rfl
    clear h1 hf1
    go_wp2
    go_ret2
    rw [Hx.out]
    exact ⟨HF1.out, _, [], rfl, SL.nil _ _, fun L' h => by cases h⟩
  case true =>
  have Hx : Hid (sRecvs t = recL 10 [] (sRest kRecv t)) := by
    show sRecvs t = _; unfold sRecvs; rw [ht1]; rfl
  have H1 : Hid (At w1 w.heap.size t (sRest kRecv t)) := h1
  clear h1 hf1 ht1
  go_wp2_with fail
  go_loopg [5] 10 (fun k v wr => ∃ (acc : List (List UInt8)) (l' : List UInt8) (g cap : Nat), acc.length + k = 10 ∧ acc.length ≤ 8 ∧ v = .slice (some ⟨g, 0, none⟩) acc.length cap ∧ w.heap.size + 1 ≤ g ∧ SL (w.heap.size + 1) wr v acc ∧ recL k acc l' = sRecvs t ∧ At wr w.heap.size t l' ∧ Frm [] w wr ∧ w.heap.size + 1 ≤ wr.heap.size)
  case atStart => exact ⟨[], sRest kRecv t, _, _, by simp, by simp, rfl, hz1, World.ownsRow_lit _ #[] 0 hz1 (by unfold maxLen; omega) (by simp), Hx.out.symm, H1.out.frm (S := []) ((Frm.refl _ _).alloc _) (by simp), HF1.out.alloc _, by simp; omega⟩
  case round =>
    obtain ⟨acc, l', g, cap, hk, hac, rfl, hg, hsl, hlb, hat, hfr, hz⟩ := hrel
    have Hs : Hid (SL (w.heap.size + 1) wr (.slice (some ⟨g, 0, none⟩) acc.length cap) acc) := hsl
    have Hl : Hid (recL gk acc l' = sRecvs t) := hlb
    have Ha : Hid (At wr w.heap.size t l') := hat
    have Hf : Hid (Frm [] w wr) := hfr
    clear hsl hlb hat hfr H1 HF1 Hx
    obtain ⟨m, rfl⟩ : ∃ m, gk = m + 1 := ⟨gk - 1, by omega⟩
    go_wp2_with fail
    refine (take_any w.heap.size t l' [32] _ Ha.out (by simp)).mono ?_
    rintro e w2 ⟨rfl, h2, hf2⟩
    have Hs2 : Hid (SL (w.heap.size + 1) w2 (.slice (some ⟨g, 0, none⟩) acc.length cap) acc) := Hs.out.frm hf2 (by simp)
    have Hf2 : Hid (Frm [] w w2) := Hf.out.new hf2 (by simp)
    have hz2 : w.heap.size + 1 ≤ w2.heap.size := by have := hf2.size; omega
    have H2 : Hid (At w2 w.heap.size t (sRest [32] l')) := h2
    clear h2 hf2 Hs Hf Ha
    cases ht : sTake [32] l'
    case false =>
      rw [sRest_no ht] at H2
      have Hx : Hid (sRecvs t = if decide (0 < acc.length) && l'.isEmpty then some acc else none) := by
        show _ = _; rw [← Hl.out]; conv => lhs; unfold recL
        rw [ht]; rfl
      by_cases h0 : 0 < acc.length
      · have h0' : decide ((0 : Int) < (acc.length : Int)) = true := decide_eq_true (by omega)
        go_wp2_with (go_at_call 42; refine (atEnd_any w.heap.size t l' _ (by exact H2.out)).mono ?_; rintro e w' ⟨rfl, n, rfl⟩)
        go_ret2
        refine ⟨Hf2.out.drewN _, _, acc, ?_, (Hs2.out.frm (S := []) ((Frm.refl _ _).drewN _) (by simp)).base (by omega), ?_⟩
        · rw [Hx.out]; cases l' <;> simp [h0] <;> rfl
        · intro L' h; rw [Hx.out] at h; cases l' <;> simp_all
      · have h0' : decide ((0 : Int) < (acc.length : Int)) = false := decide_eq_false (by omega)
        have Hx2 : Hid (sRecvs t = none) := by show _ = _; rw [Hx.out]; simp [h0]
        go_wp2
        go_ret2
        refine ⟨Hf2.out, _, acc, ?_, Hs2.out.base (by omega), ?_⟩
        · rw [Hx2.out]; rfl
        · intro L' h; rw [Hx2.out] at h; cases h
    case true =>
    generalize hl1 : sRest [32] l' = l1 at *
    have Hst2 : Hid (sRecvs t = (if !(isNameL (l1.takeWhile nmB)) || decide (8 ≤ acc.length) then none else recL m (acc ++ [l1.takeWhile nmB]) (l1.dropWhile nmB))) := by
      show _ = _; rw [← Hl.out]; conv => lhs; unfold recL
      rw [if_pos ht, hl1]
    clear hl1 Hl ht
    go_wp2_with fail
    refine (takeName_any w.heap.size t l1 _ H2.out).mono ?_
    rintro e w3 ⟨rfl, h3, hf3⟩
    have H3 : Hid (At w3 w.heap.size t (l1.dropWhile nmB)) := h3
    have Hf3 : Hid (Frm [] w w3) := Hf2.out.new hf3 (by simp)
    have Hs3 : Hid (SL (w.heap.size + 1) w3 (.slice (some ⟨g, 0, none⟩) acc.length cap) acc) := Hs2.out.frm hf3 (by simp)
    have hz3 : w.heap.size + 1 ≤ w3.heap.size := by have := hf3.size; omega
    clear h3 hf3 Hs2 Hf2 H2
    cases hn : isNameL (l1.takeWhile nmB)
    · have Hx : Hid (sRecvs t = none) := by
        show _ = _; rw [Hst2.out, hn]; rfl
      go_wp2
      go_ret2
      refine ⟨Hf3.out, _, [], ?_, SL.nil _ _, ?_⟩
      · rw [Hx.out]; rfl
      · intro L' h; rw [Hx.out] at h; cases h
    · by_cases h4 : 8 ≤ acc.length
      · have Hx : Hid (sRecvs t = none) := by
          show _ = _; rw [Hst2.out, hn]; simp [h4]
        go_wp2
        go_ret2
        refine ⟨Hf3.out, _, [], ?_, SL.nil _ _, ?_⟩
        · rw [Hx.out]; rfl
        · intro L' h; rw [Hx.out] at h; cases h
      · have Hx : Hid (recL m (acc ++ [l1.takeWhile nmB]) (l1.dropWhile nmB) = sRecvs t) := by
          show _ = _; rw [Hst2.out, hn]; simp [h4]
        go_wp2_with (first | (at_builtin; refine wp_appS _ rfl _ _ rfl (w.heap.size + 1) (.slice (some ⟨g, 0, none⟩) acc.length cap) acc (l1.takeWhile nmB) w3.heap.size rfl (Hs3.out.frm (S := []) ((Frm.refl _ _).alloc _) (by simp)) rfl (by simp) (by omega) (by simp; omega) ?_; intro g2 cap2 w4 hs2 hg2 hb2))
        go_roundg m
        case measure => omega
        case rel =>
          refine ⟨acc ++ [l1.takeWhile nmB], _, g2, cap2, by simp; omega, by simp; omega, by simp, hb2, by simpa using hs2, Hx.out, ?_, ?_, ?_⟩
          · refine At.frm (S := [g]) (H3.out.frm (S := []) ((Frm.refl _ _).alloc _) (by simp)) (Frm.of_grown hg2) (by simp; omega)
          · exact (Hf3.out.alloc _).grown hg2 (fun k hk => by simp [Value.ownBlock] at hk; omega)
          · have := hg2.size; simp at this; omega

end Go.Proofs.YtjnaekffodgdcaaDoor
