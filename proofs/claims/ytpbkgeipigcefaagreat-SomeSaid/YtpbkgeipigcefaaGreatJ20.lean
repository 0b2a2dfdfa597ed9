import Derived.Test.YtpbkgeipigcefaaGreatJ12
import Derived.Test.YtpbkgeipigcefaaGreatJ19
set_option linter.unusedVariables false
set_option linter.unusedSimpArgs false
set_option linter.unnecessarySimpa false
namespace Go.Proofs.YtpbkgeipigcefaaGreat
set_option linter.unusedVariables false
set_option linter.unusedSimpArgs false

/-- What tells a form of the table from the others. -/
structure KY where
  kd : Nat
  s : Nat
  fi : Nat
  se : Nat
  L : List Nat

def Ky (D : List NF) (n : Nat) (k : KY) (d : NF) : Prop :=
  (k.kd = 2 ∧ k.fi = 0 ∧ k.se = 0 ∧ k.L = [] ∧ d = .set k.s) ∨
  (k.kd = 3 ∧ k.s = 0 ∧ k.L = [] ∧ k.fi < n ∧ k.se < n ∧ ∃ x y, D[k.fi]? = some x ∧ D[k.se]? = some y ∧ d = .pair x y) ∨
  (k.kd = 4 ∧ k.s = 0 ∧ k.fi = 0 ∧ k.se = 0 ∧ k.L.Pairwise (· < ·) ∧ (∀ j ∈ k.L, j < n) ∧ d = .sum (srt (k.L.map fun j => D.getD j .zero))) ∨
  (k.kd = 5 ∧ k.s = 0 ∧ k.se = 0 ∧ k.L = [] ∧ k.fi < n ∧ ∃ x, D[k.fi]? = some x ∧ d = .star x)

theorem Ky.push {D R : List NF} {n : Nat} {k : KY} {d : NF} (h : Ky D n k d) (hn : n ≤ D.length) : Ky (D ++ R) n k d := by
  have e : ∀ j x, D[j]? = some x → (D ++ R)[j]? = some x := fun j x hj => by
    have := (List.getElem?_eq_some_iff.1 hj).1
    rw [List.getElem?_append_left this]; exact hj
  rcases h with h | ⟨h1, h2, h3, h4, h5, x, y, h6, h7, h8⟩ | ⟨h1, h2, h3, h4, h5, h6, h7⟩ | ⟨h1, h2, h3, h4, h5, x, h6, h7⟩
  · exact .inl h
  · exact .inr (.inl ⟨h1, h2, h3, h4, h5, x, y, e _ _ h6, e _ _ h7, h8⟩)
  · refine .inr (.inr (.inl ⟨h1, h2, h3, h4, h5, h6, ?_⟩))
    rw [h7]
    congr 2
    apply List.map_congr_left
    intro j hj
    have := h6 j hj
    simp [List.getD, List.getElem?_append_left (show j < D.length by omega)]
  · exact .inr (.inr (.inr ⟨h1, h2, h3, h4, h5, x, e _ _ h6, h7⟩))

theorem Ky.mono {D : List NF} {n m : Nat} {k : KY} {d : NF} (h : Ky D n k d) (hn : n ≤ m) : Ky D m k d := by
  rcases h with h | ⟨h1, h2, h3, h4, h5, h6⟩ | ⟨h1, h2, h3, h4, h5, h6, h7⟩ | ⟨h1, h2, h3, h4, h5, h6⟩
  · exact .inl h
  · exact .inr (.inl ⟨h1, h2, h3, by omega, by omega, h6⟩)
  · exact .inr (.inr (.inl ⟨h1, h2, h3, h4, h5, fun j hj => by have := h6 j hj; omega, h7⟩))
  · exact .inr (.inr (.inr ⟨h1, h2, h3, h4, by omega, h6⟩))

theorem rise_ext : ∀ {a b : List Nat}, a.Pairwise (· < ·) → b.Pairwise (· < ·) → (∀ j, j ∈ a ↔ j ∈ b) → a = b
  | [], [], _, _, _ => rfl
  | [], y :: b, _, _, h => by have := (h y).2 (by simp); simp at this
  | x :: a, [], _, _, h => by have := (h x).1 (by simp); simp at this
  | x :: a, y :: b, ha, hb, h => by
    rw [List.pairwise_cons] at ha hb
    have hxy : x = y := by
      have h1 := (h x).1 (by simp)
      have h2 := (h y).2 (by simp)
      rcases List.mem_cons.1 h1 with e | e
      · exact e
      · rcases List.mem_cons.1 h2 with e2 | e2
        · exact e2.symm
        · have a1 := ha.1 y e2; have a2 := hb.1 x e; omega
    subst hxy
    congr 1
    refine rise_ext ha.2 hb.2 fun j => ⟨fun hj => ?_, fun hj => ?_⟩
    · have := ha.1 j hj
      rcases List.mem_cons.1 ((h j).1 (by simp [hj])) with e | e
      · omega
      · exact e
    · have := hb.1 j hj
      rcases List.mem_cons.1 ((h j).2 (by simp [hj])) with e | e
      · omega
      · exact e

theorem nodup_get {D : List NF} (h : D.Nodup) {i j : Nat} {d : NF} (hi : D[i]? = some d) (hj : D[j]? = some d) : i = j := by
  obtain ⟨h1, e1⟩ := List.getElem?_eq_some_iff.1 hi
  obtain ⟨h2, e2⟩ := List.getElem?_eq_some_iff.1 hj
  have hne := List.pairwise_iff_getElem.1 h
  rcases Nat.lt_trichotomy i j with hl | hl | hl
  · exact absurd (e1.trans e2.symm) (hne i j h1 h2 hl)
  · exact hl
  · exact absurd (e2.trans e1.symm) (hne j i h2 h1 hl)

theorem getD_some {D : List NF} {j : Nat} (h : j < D.length) : D[j]? = some (D.getD j .zero) := by simp [List.getD, h]
theorem getD_mem {D : List NF} {j : Nat} (h : j < D.length) : D.getD j .zero ∈ D := List.mem_of_getElem? (getD_some h)

theorem Ky.inj {D : List NF} {n m : Nat} {k q : KY} {d : NF} (nd : D.Nodup) (wc : ∀ x ∈ D, WC x) (h : Ky D n k d) (g : Ky D m q d) (hn : n ≤ D.length) (hm : m ≤ D.length) : k = q := by
  obtain ⟨kd, s, fi, se, L⟩ := k
  obtain ⟨kd', s', fi', se', L'⟩ := q
  rcases h with ⟨h1, h2, h3, h4, h5⟩ | ⟨h1, h2, h3, h4, h5, x, y, h6, h7, h8⟩ | ⟨h1, h2, h3, h4, h5, h6, h7⟩ | ⟨h1, h2, h3, h4, h5, x, h6, h7⟩ <;>
    rcases g with ⟨g1, g2, g3, g4, g5⟩ | ⟨g1, g2, g3, g4, g5, x', y', g6, g7, g8⟩ | ⟨g1, g2, g3, g4, g5, g6, g7⟩ | ⟨g1, g2, g3, g4, g5, x', g6, g7⟩ <;>
    simp only at * <;> subst d <;> simp only [NF.set.injEq, NF.pair.injEq, NF.sum.injEq, NF.star.injEq, reduceCtorEq] at *
  · simp [*]
  · obtain ⟨rfl, rfl⟩ := g8
    simp [nodup_get nd h6 g6, nodup_get nd h7 g7, *]
  · have hT : ∀ (M : List Nat) (k : Nat), k ≤ D.length → (∀ j ∈ M, j < k) → Tell (M.map fun j => D.getD j .zero) := fun M k hk hM => tell_wf fun x hx => by
      obtain ⟨j, hj, rfl⟩ := List.mem_map.1 hx
      exact (wc _ (getD_mem (by have := hM j hj; omega))).1
    have hL : L = L' := by
      refine rise_ext h5 g5 fun j => ⟨fun hj => ?_, fun hj => ?_⟩
      · have hlt : j < D.length := by have := h6 j hj; omega
        have m1 : D.getD j .zero ∈ srt (L.map fun j => D.getD j .zero) := (srt_mem_iff (hT L n hn h6)).2 (List.mem_map.2 ⟨j, hj, rfl⟩)
        rw [g7, srt_mem_iff (hT L' m hm g6)] at m1
        obtain ⟨j', hj', e⟩ := List.mem_map.1 m1
        have hlt' : j' < D.length := by have := g6 j' hj'; omega
        have := nodup_get nd (getD_some hlt') (by rw [e]; exact getD_some hlt)
        exact this ▸ hj'
      · have hlt : j < D.length := by have := g6 j hj; omega
        have m1 : D.getD j .zero ∈ srt (L'.map fun j => D.getD j .zero) := (srt_mem_iff (hT L' m hm g6)).2 (List.mem_map.2 ⟨j, hj, rfl⟩)
        rw [← g7, srt_mem_iff (hT L n hn h6)] at m1
        obtain ⟨j', hj', e⟩ := List.mem_map.1 m1
        have hlt' : j' < D.length := by have := h6 j' hj'; omega
        have := nodup_get nd (getD_some hlt') (by rw [e]; exact getD_some hlt)
        exact this ▸ hj'
    simp [*]
  · subst g7
    simp [nodup_get nd h6 g6, *]

theorem Ky.same {D : List NF} {n m : Nat} {k : KY} {d e : NF} (h : Ky D n k d) (g : Ky D m k e) : d = e := by
  rcases h with ⟨h1, h2, h3, h4, h5⟩ | ⟨h1, h2, h3, h4, h5, x, y, h6, h7, h8⟩ | ⟨h1, h2, h3, h4, h5, h6, h7⟩ | ⟨h1, h2, h3, h4, h5, x, h6, h7⟩ <;>
    rcases g with ⟨g1, g2, g3, g4, g5⟩ | ⟨g1, g2, g3, g4, g5, x', y', g6, g7, g8⟩ | ⟨g1, g2, g3, g4, g5, g6, g7⟩ | ⟨g1, g2, g3, g4, g5, x', g6, g7⟩ <;>
    first | omega | skip
  · rw [h5, g5]
  · rw [h8, g8]; rw [h6] at g6; rw [h7] at g7; simp at g6 g7; simp [g6, g7]
  · rw [h7, g7]
  · rw [h7, g7]; rw [h6] at g6; simp at g6; simp [g6]

theorem Ky.two {D : List NF} {n : Nat} {k : KY} {d : NF} (h : Ky D n k d) : d ≠ .zero ∧ d ≠ .one := by
  rcases h with ⟨h1, h2, h3, h4, h5⟩ | ⟨h1, h2, h3, h4, h5, x, y, h6, h7, h8⟩ | ⟨h1, h2, h3, h4, h5, h6, h7⟩ | ⟨h1, h2, h3, h4, h5, x, h6, h7⟩ <;> subst d <;> simp

structure Tbl (K : List KY) (D : List NF) : Prop where
  len : K.length = D.length
  d0 : D[0]? = some .zero
  d1 : D[1]? = some .one
  k0 : K[0]? = some ⟨0, 0, 0, 0, []⟩
  k1 : K[1]? = some ⟨1, 0, 0, 0, []⟩
  ky : ∀ i k d, 2 ≤ i → K[i]? = some k → D[i]? = some d → Ky D i k d
  nd : D.Nodup
  wc : ∀ d ∈ D, WC d

theorem Tbl.two {K : List KY} {D : List NF} (t : Tbl K D) : 2 ≤ D.length := by
  have := (List.getElem?_eq_some_iff.1 t.d1).1; omega
theorem Tbl.ge {K : List KY} {D : List NF} (t : Tbl K D) {i : Nat} {d : NF} (h : D[i]? = some d) (h0 : d ≠ .zero) (h1 : d ≠ .one) : 2 ≤ i := by
  rcases i with _ | _ | i
  · rw [t.d0] at h; simp at h; exact absurd h.symm h0
  · rw [show (0 + 1) = 1 from rfl, t.d1] at h; simp at h; exact absurd h.symm h1
  · omega
theorem Tbl.kyAt {K : List KY} {D : List NF} (t : Tbl K D) {i : Nat} {d : NF} (hi : 2 ≤ i) (h : D[i]? = some d) : ∃ k, K[i]? = some k ∧ Ky D i k d := by
  have hl := (List.getElem?_eq_some_iff.1 h).1
  rw [← t.len] at hl
  exact ⟨K[i], List.getElem?_eq_getElem hl, t.ky i _ d hi (List.getElem?_eq_getElem hl) h⟩
theorem Tbl.found {K : List KY} {D : List NF} (t : Tbl K D) {k : KY} {d : NF} (h : Ky D D.length k d) {i : Nat} (hi : D[i]? = some d) : 2 ≤ i ∧ K[i]? = some k := by
  have h2 := t.ge hi h.two.1 h.two.2
  obtain ⟨q, hq, hk⟩ := t.kyAt h2 hi
  have hl := (List.getElem?_eq_some_iff.1 hi).1
  exact ⟨h2, by rw [hq, Ky.inj t.nd t.wc hk h (by omega) (Nat.le_refl _)]⟩
theorem Tbl.sameKey {K : List KY} {D : List NF} (t : Tbl K D) {k : KY} {d : NF} (h : Ky D D.length k d) {i : Nat} (hi : 2 ≤ i) (hk : K[i]? = some k) : D[i]? = some d := by
  have hl := (List.getElem?_eq_some_iff.1 hk).1
  rw [t.len] at hl
  have hd : D[i]? = some D[i] := List.getElem?_eq_getElem hl
  rw [hd, (t.ky i k _ hi hk hd).same h]
theorem Tbl.push {K : List KY} {D : List NF} (t : Tbl K D) {k : KY} {d : NF} (h : Ky D D.length k d) (hw : WC d) (hd : d ∉ D) : Tbl (K ++ [k]) (D ++ [d]) := by
  have h2 := t.two
  have hlen := t.len
  refine ⟨by simp [t.len], ?_, ?_, ?_, ?_, ?_, ?_, ?_⟩
  · rw [List.getElem?_append_left (by omega)]; exact t.d0
  · rw [List.getElem?_append_left (by omega)]; exact t.d1
  · rw [List.getElem?_append_left (by omega)]; exact t.k0
  · rw [List.getElem?_append_left (by omega)]; exact t.k1
  · intro i q e hi hq he
    by_cases hl : i < D.length
    · rw [List.getElem?_append_left (by omega)] at hq he
      exact (t.ky i q e hi hq he).push (by omega)
    · have hb := (List.getElem?_eq_some_iff.1 he).1
      simp at hb
      have : i = D.length := by omega
      subst this
      rw [List.getElem?_append_right (by omega)] at hq he
      simp [hlen] at hq he
      subst hq he
      exact h.push (Nat.le_refl _)
  · rw [List.nodup_append]
    exact ⟨t.nd, by simp, fun a ha b hb e => by simp at hb; subst hb; exact hd (e ▸ ha)⟩
  · intro x hx
    rcases List.mem_append.1 hx with e | e
    · exact t.wc x e
    · simp at e; exact e ▸ hw

def lastB (h : KY → Nat) (K : List KY) (b : Nat) : Nat → Nat
  | 0 => 0
  | n + 1 => if 2 ≤ n ∧ (K[n]?.map h) = some b then n else lastB h K b n
theorem lastB_spec (h : KY → Nat) (K : List KY) (b : Nat) : ∀ n, lastB h K b n = 0 ∨ (2 ≤ lastB h K b n ∧ lastB h K b n < n ∧ K[lastB h K b n]?.map h = some b)
  | 0 => .inl rfl
  | n + 1 => by
    unfold lastB
    split
    next e => exact .inr ⟨e.1, by omega, e.2⟩
    next e =>
      rcases lastB_spec h K b n with e1 | ⟨e1, e2, e3⟩
      · exact .inl e1
      · exact .inr ⟨e1, by omega, e3⟩
theorem lastB_max (h : KY → Nat) (K : List KY) (b : Nat) : ∀ n j, j < n → 2 ≤ j → K[j]?.map h = some b → j ≤ lastB h K b n
  | n + 1, j, hj, h2, hk => by
    unfold lastB
    split
    next e => omega
    next e =>
      by_cases hjn : j = n
      · subst hjn; exact absurd ⟨h2, hk⟩ e
      · exact lastB_max h K b n j (by omega) h2 hk
theorem lastB_push (h : KY → Nat) (K : List KY) (k : KY) (b : Nat) : ∀ n, n ≤ K.length → lastB h (K ++ [k]) b n = lastB h K b n
  | 0, _ => rfl
  | n + 1, hn => by
    unfold lastB
    rw [List.getElem?_append_left (by omega), lastB_push h K k b n (by omega)]
theorem lastB_new (h : KY → Nat) (K : List KY) (k : KY) (b : Nat) (h2 : 2 ≤ K.length) : lastB h (K ++ [k]) b (K.length + 1) = if h k = b then K.length else lastB h K b K.length := by
  rw [lastB, lastB_push h K k b _ (Nat.le_refl _), List.getElem?_append_right (Nat.le_refl _)]
  simp [h2]

end Go.Proofs.YtpbkgeipigcefaaGreat

namespace Go.Proofs.YtpbkgeipigcefaaGreat
open Go.RowKit

theorem row_frm {S : List Nat} {base : Nat} {w w' : World} {e : TypeId} {size n : Nat} {v : Value} {xs : List Value} (h : w.ownsRow base e size v n xs) (f : Frm S w w') (hS : ∀ k, v.ownBlock = some k → k ∉ S) : w'.ownsRow base e size v n xs := by
  refine ⟨h.1, ?_⟩
  rcases h.2 with hn | ⟨g, cap, cur, rfl, hb, hgg, rest⟩
  · exact .inl hn
  · refine .inr ⟨g, cap, cur, rfl, hb, ?_, rest⟩
    rw [f.block g (Array.getElem?_eq_some_iff.1 hgg).1 (hS g rfl)]
    exact hgg

def hshK (k : KY) : Int := Go.bits BinOp.xor IntKind.u32 (hashF k.kd k.s k.fi k.se k.L) (hashF k.kd k.s k.fi k.se k.L / 2 ^ 16)
def bkt (k : KY) : Nat := (hshK k % 1024).toNat
theorem bkt_lt (k : KY) : bkt k < 1024 := by unfold bkt; omega
theorem bkt_eq (k : KY) : hshK k % 1024 = (bkt k : Int) := by unfold bkt; omega
def kyE (e : FV × List Nat) : KY := ⟨e.1.kd, e.1.s, e.1.fi, e.1.se, e.2⟩

def PL (w : World) (v : Value) (L : List Nat) : Prop :=
  NL .i64 w v L ∧ (∀ a n c, v = .slice (some a) n c → ∃ cur fz, w.heap[a.block]? = some (.cells cur 3 fz)) ∧ L.length ≤ 10000000000000
theorem PL.cell1 {w : World} {v : Value} {L : List Nat} (h : PL w v L) : v.oneCell' = true := by
  obtain ⟨a, cap, rfl, _⟩ := h.1; rfl
theorem PL.nil (w : World) : PL w (.slice none 0 0) [] := ⟨⟨none, 0, rfl, fun j h => by simp at h⟩, fun a n c e => by simp at e, by simp⟩
theorem PL.of_row {base : Nat} {w : World} {v : Value} {L : List Nat} (h : IL base w v L) (hl : L.length ≤ 10000000000000) : PL w v L := by
  refine ⟨row_nl h, ?_, hl⟩
  intro a n c e
  rcases h.2 with ⟨e1, _⟩ | ⟨g, cap, cur, e1, _, hg, _⟩
  · rw [e1] at e; simp at e
  · rw [e1] at e; simp at e; obtain ⟨rfl, _⟩ := e; exact ⟨cur, _, hg⟩
def NoInt (w : World) (S : List Nat) : Prop := ∀ k ∈ S, ∀ cur fz, w.heap[k]? ≠ some (.cells cur 3 fz)
theorem PL.frm {S : List Nat} {w w' : World} {v : Value} {L : List Nat} (h : PL w v L) (f : Frm S w w') (hS : NoInt w S) : PL w' v L := by
  have hn : ∀ a n c, v = .slice (some a) n c → a.block ∉ S := fun a n c e hm => by
    obtain ⟨cur, fz, hc⟩ := h.2.1 a n c e
    exact hS _ hm cur fz hc
  refine ⟨h.1.frm f hn, ?_, h.2.2⟩
  intro a n c e
  obtain ⟨cur, fz, hc⟩ := h.2.1 a n c e
  exact ⟨cur, fz, (f.block _ (Array.getElem?_eq_some_iff.1 hc).1 (hn a n c e)).trans hc⟩
theorem NoInt.nil (w : World) : NoInt w [] := fun k hk => by simp at hk

structure TE (base : Nat) (w : World) (fb vb : Nat) (E : List (FV × List Nat)) (B : List Nat) (ak : Nat) : Prop where
  row : ∃ cap, FT w fb (.slice (some ⟨vb, 0, none⟩) E.length cap) B ak ∧ FL base w (.slice (some ⟨vb, 0, none⟩) E.length cap) (E.map Prod.fst)
  pl : ∀ e ∈ E, PL w e.1.vp e.2
  st : ∀ e ∈ E, e.1.s < 2 ^ 256
  fb : fb < base
  sz : base ≤ w.heap.size

theorem TE.vbs {base : Nat} {w : World} {fb vb : Nat} {E : List (FV × List Nat)} {B : List Nat} {ak : Nat} (h : TE base w fb vb E B ak) :
    base ≤ vb ∧ vb < w.heap.size ∧ ∃ cur, w.heap[vb]? = some (.cells cur 187 (0, 0)) := by
  obtain ⟨cap, _, h1⟩ := h.row
  have h2 := h1.lt vb rfl
  refine ⟨h2.1, h2.2, ?_⟩
  rcases h1.2 with ⟨e1, _⟩ | ⟨g, c, cur, e1, _, hg, _⟩
  · simp at e1
  · simp at e1; obtain ⟨rfl, _⟩ := e1; exact ⟨cur, hg⟩
theorem TE.noInt {base : Nat} {w : World} {fb vb : Nat} {E : List (FV × List Nat)} {B : List Nat} {ak : Nat} (h : TE base w fb vb E B ak) : NoInt w [fb, vb] := by
  obtain ⟨cap, h1, _⟩ := h.row
  obtain ⟨_, _, cur, h2⟩ := h.vbs
  intro k hk cur' fz
  simp only [List.mem_cons, List.not_mem_nil, or_false] at hk
  rcases hk with rfl | rfl
  · rw [h1.1]; simp
  · rw [h2]; simp
theorem TE.frm {S : List Nat} {base : Nat} {w w' : World} {fb vb : Nat} {E : List (FV × List Nat)} {B : List Nat} {ak : Nat} (h : TE base w fb vb E B ak) (f : Frm S w w') (h1 : fb ∉ S) (h2 : vb ∉ S) (h3 : NoInt w S) : TE base w' fb vb E B ak := by
  obtain ⟨cap, ht, hl⟩ := h.row
  exact ⟨⟨cap, ht.frm f h1, row_frm hl f (fun k hk => by simp [Value.ownBlock] at hk; subst hk; exact h2)⟩, fun e he => (h.pl e he).frm f h3, h.st, h.fb, Nat.le_trans h.sz f.size⟩
theorem TE.keep {base : Nat} {w w' : World} {fb vb : Nat} {E : List (FV × List Nat)} {B : List Nat} {ak : Nat} (h : TE base w fb vb E B ak) (f : Frm [] w w') : TE base w' fb vb E B ak :=
  h.frm f (by simp) (by simp) (NoInt.nil _)
theorem TE.cell {base : Nat} {w : World} {fb vb : Nat} {E : List (FV × List Nat)} {B : List Nat} {ak : Nat} (h : TE base w fb vb E B ak) {i : Nat} {e : FV × List Nat} (hi : E[i]? = some e) (k : Nat) (hk : k < 12) :
    w.cell? ⟨vb, i * 12 + k, none⟩ = e.1.cells.toList[k]? := by
  obtain ⟨cap, _, hl⟩ := h.row
  have h1 := fv_get (E.map Prod.fst) i k hk e.1 (by simp [hi])
  have h3 := World.ownsRow.cells hl (g := vb) rfl (i * 12 + k)
  have hlt : k < e.1.cells.toList.length := by simp [FV.cells]; omega
  rw [List.getElem?_eq_getElem hlt] at h1 ⊢
  have := h3 _ h1
  rw [add0] at this; exact this

structure TP (E : List (FV × List Nat)) (B : List Nat) (D : List NF) (ak c : Nat) : Prop where
  tb : Tbl (E.map kyE) D
  bu : ∀ b, b < 1024 → B.getD b 0 = lastB bkt (E.map kyE) b E.length
  lk : ∀ (i : Nat) (e : FV × List Nat), 2 ≤ i → E[i]? = some e → e.1.lk = lastB bkt (E.map kyE) (bkt (kyE e)) i
  te : ∀ (i : Nat) (e : FV × List Nat) (d : NF), E[i]? = some e → D[i]? = some d → e.1.te = nul d
  al : ∀ e ∈ E, e.1.ak ≤ ak
  mm : 1 ≤ ak → ∀ (i : Nat) (e : FV × List Nat) (d : NF), E[i]? = some e → D[i]? = some d → e.1.ak = ak → D[e.1.lf]? = some (left c d)
theorem TP.len {E : List (FV × List Nat)} {B : List Nat} {D : List NF} {ak c : Nat} (h : TP E B D ak c) : E.length = D.length := by have := h.tb.len; simpa using this
theorem TP.two {E : List (FV × List Nat)} {B : List Nat} {D : List NF} {ak c : Nat} (h : TP E B D ak c) : 2 ≤ E.length := by rw [h.len]; exact h.tb.two

theorem TP.push {E : List (FV × List Nat)} {B : List Nat} {D : List NF} {ak c : Nat} (h : TP E B D ak c) (hB : B.length = 1024) {f : FV} {L : List Nat} {d : NF}
    (hk : Ky D D.length (kyE (f, L)) d) (hw : WC d) (hd : d ∉ D) (hte : f.te = nul d) (hlk : f.lk = B.getD (bkt (kyE (f, L))) 0) (ha : f.ak = 0) :
    TP (E ++ [(f, L)]) (B.set (bkt (kyE (f, L))) E.length) (D ++ [d]) ak c := by
  have hl := h.len
  have h2 := h.two
  have hkl : (E.map kyE).length = E.length := by simp
  refine ⟨?_, ?_, ?_, ?_, ?_, ?_⟩
  · rw [List.map_append]; exact h.tb.push hk hw hd
  · intro b hb
    rw [List.map_append, List.length_append]
    show _ = lastB bkt (E.map kyE ++ [kyE (f, L)]) b (E.length + 1)
    have e := lastB_new bkt (E.map kyE) (kyE (f, L)) b (by omega)
    rw [hkl] at e
    rw [e]
    by_cases hbb : bkt (kyE (f, L)) = b
    · subst hbb; simp [List.getD, hB, hb]
    · rw [if_neg hbb, ← h.bu b hb]
      simp [List.getD, List.getElem?_set, hbb]
  · intro i e hi he
    rw [List.map_append]
    show _ = lastB bkt (E.map kyE ++ [kyE (f, L)]) _ i
    have hil := (List.getElem?_eq_some_iff.1 he).1
    simp at hil
    rw [lastB_push _ _ _ _ _ (by omega)]
    by_cases hlt : i < E.length
    · rw [List.getElem?_append_left hlt] at he
      exact h.lk i e hi he
    · have : i = E.length := by omega
      subst this
      simp at he
      subst he
      rw [← h.bu _ (bkt_lt _)]
      exact hlk
  · intro i e d' he hd'
    by_cases hlt : i < E.length
    · rw [List.getElem?_append_left hlt] at he
      rw [List.getElem?_append_left (by omega)] at hd'
      exact h.te i e d' he hd'
    · have hil := (List.getElem?_eq_some_iff.1 he).1
      simp at hil
      have : i = E.length := by omega
      subst this
      rw [hl] at hd'
      simp at he hd'
      subst he hd'
      exact hte
  · intro e he
    rcases List.mem_append.1 he with e1 | e1
    · exact h.al e e1
    · simp at e1; subst e1; simp [ha]
  · intro h1 i e d' he hd' hak
    by_cases hlt : i < E.length
    · rw [List.getElem?_append_left hlt] at he
      rw [List.getElem?_append_left (by omega)] at hd'
      have := h.mm h1 i e d' he hd' hak
      have hb := (List.getElem?_eq_some_iff.1 this).1
      rw [List.getElem?_append_left hb]; exact this
    · have hil := (List.getElem?_eq_some_iff.1 he).1
      simp at hil
      have : i = E.length := by omega
      subst this
      simp at he
      subst he
      simp only at hak; omega

def ZZ (w : World) (E : List (FV × List Nat)) (Z : List Nat) : Prop := (∀ k ∈ Z, k < w.heap.size) ∧ ∀ e ∈ E, ∀ x n c, e.1.vp = .slice (some x) n c → x.block ∉ Z
theorem ZZ.mono {w w' : World} {E : List (FV × List Nat)} {Z : List Nat} (h : ZZ w E Z) (hs : w.heap.size ≤ w'.heap.size) : ZZ w' E Z := ⟨fun k hk => Nat.lt_of_lt_of_le (h.1 k hk) hs, h.2⟩
def ST (base : Nat) (w : World) (fb vb : Nat) (D : List NF) (ak c : Nat) (U : List NF) (Z : List Nat) : Prop :=
  ∃ E B, TE base w fb vb E B ak ∧ TP E B D ak c ∧ (∀ x ∈ D, x ∈ U) ∧ U.length ≤ 1000000000000 ∧ ZZ w E Z
theorem ST.len {base : Nat} {w : World} {fb vb : Nat} {D : List NF} {ak c : Nat} {U : List NF} {Z : List Nat} (h : ST base w fb vb D ak c U Z) : D.length ≤ 1000000000000 := by
  obtain ⟨E, B, _, h2, h3, h4, _⟩ := h
  exact Nat.le_trans (nodup_len h2.tb.nd h3) h4
theorem ST.keep {base : Nat} {w w' : World} {fb vb : Nat} {D : List NF} {ak c : Nat} {U : List NF} {Z : List Nat} (h : ST base w fb vb D ak c U Z) (f : Frm [] w w') : ST base w' fb vb D ak c U Z := by
  obtain ⟨E, B, h1, h2, h3, h4, h5⟩ := h
  exact ⟨E, B, h1.keep f, h2, h3, h4, h5.mono f.size⟩
theorem ST.frm {S : List Nat} {base : Nat} {w w' : World} {fb vb : Nat} {D : List NF} {ak c : Nat} {U : List NF} {Z : List Nat} (h : ST base w fb vb D ak c U Z) (f : Frm S w w') (h1 : fb ∉ S) (h2 : vb ∉ S) (h3 : NoInt w S) : ST base w' fb vb D ak c U Z := by
  obtain ⟨E, B, k1, k2, k3, k4, k5⟩ := h
  exact ⟨E, B, k1.frm f h1 h2 h3, k2, k3, k4, k5.mono f.size⟩
structure FQ (fb vb vb' : Nat) (w w' : World) : Prop where
  fr : Frm [fb, vb] w w'
  mv : vb' = vb ∨ w.heap.size ≤ vb'
theorem FQ.refl (fb vb : Nat) (w : World) : FQ fb vb vb w w := ⟨Frm.refl _ _, .inl rfl⟩
theorem FQ.trans {fb a b c : Nat} {x y z : World} (h : FQ fb a b x y) (k : FQ fb b c y z) : FQ fb a c x z := by
  refine ⟨⟨k.fr.os.trans h.fr.os, k.fr.tape.trans h.fr.tape, k.fr.output.trans h.fr.output, Nat.le_trans h.fr.size k.fr.size, fun i hi hS => ?_⟩, ?_⟩
  · refine (k.fr.block i (Nat.lt_of_lt_of_le hi h.fr.size) ?_).trans (h.fr.block i hi hS)
    simp only [List.mem_cons, List.not_mem_nil, or_false, not_or] at hS ⊢
    refine ⟨hS.1, fun e => ?_⟩
    rcases h.mv with e1 | e1
    · exact hS.2 (e.trans e1)
    · omega
  · have := h.fr.size
    rcases k.mv with e | e
    · rcases h.mv with e1 | e1
      · exact .inl (e.trans e1)
      · exact .inr (by omega)
    · exact .inr (by omega)
theorem FQ.keepL {fb a b : Nat} {x y z : World} (h : Frm [] x y) (k : FQ fb a b y z) : FQ fb a b x z :=
  FQ.trans ⟨h.nil, .inl rfl⟩ k
theorem FQ.keepR {fb a b : Nat} {x y z : World} (h : FQ fb a b x y) (k : Frm [] y z) : FQ fb a b x z :=
  h.trans ⟨k.nil, .inl rfl⟩
theorem FQ.block {fb a b : Nat} {x y : World} (h : FQ fb a b x y) {k : Nat} (hk : k < x.heap.size) (h1 : k ≠ fb) (h2 : k ≠ a) : y.heap[k]? = x.heap[k]? := h.fr.block k hk (by simp [h1, h2])

end Go.Proofs.YtpbkgeipigcefaaGreat

namespace Go.Proofs.YtpbkgeipigcefaaGreat
open Go.RowKit

theorem bits_u32_nonneg (a b : Int) : 0 ≤ Go.bits BinOp.xor IntKind.u32 a b := by
  show 0 ≤ IntKind.u32.wrap ((BitVec.ofInt 32 a ^^^ BitVec.ofInt 32 b).toNat : Int)
  simp [IntKind.wrap, IntKind.bits, IntKind.signed]
  omega
theorem hshK_nonneg (k : KY) : 0 ≤ hshK k := bits_u32_nonneg _ _
theorem hsh_tmod (k : KY) : (hshK k).tmod 1024 = (bkt k : Int) := by rw [Int.tmod_eq_emod_of_nonneg (hshK_nonneg k)]; exact bkt_eq k

def RQ (base : Nat) (w : World) (fb vb : Nat) (D : List NF) (ak c : Nat) (U : List NF) (Z : List Nat) (y : NF) (e : Ending) (w' : World) : Prop :=
  ∃ vb' R r, e = .returned (.int .i64 (r : Nat)) ∧ ST base w' fb vb' (D ++ R) ak c U Z ∧ (D ++ R)[r]? = some y ∧ FQ fb vb vb' w w'

theorem TE.setB {base : Nat} {w : World} {fb vb : Nat} {E : List (FV × List Nat)} {B : List Nat} {ak : Nat} (h : TE base w fb vb E B ak) (b n : Nat) (hb : b < 1024) :
    TE base (w.setCell ⟨fb, 1 + b, none⟩ (.int .i64 n)) fb vb E (B.set b n) ak := by
  obtain ⟨cap, ht, hl⟩ := h.row
  have F : Frm [fb] w (w.setCell ⟨fb, 1 + b, none⟩ (.int .i64 n)) := (Frm.refl _ _).setCell (.inl (by simp)) _
  have hv := h.vbs
  have hfb := h.fb
  refine ⟨⟨cap, ht.setB b n hb, row_frm hl F fun k hk => by simp [Value.ownBlock] at hk; subst hk; simp; omega⟩, fun e he => (h.pl e he).frm F ?_, h.st, h.fb, ?_⟩
  · intro k hk; exact h.noInt k (by simp at hk; simp [hk])
  · exact Nat.le_trans h.sz F.size
theorem TE.setA {base : Nat} {w : World} {fb vb : Nat} {E : List (FV × List Nat)} {B : List Nat} {ak : Nat} (h : TE base w fb vb E B ak) (n : Nat) :
    TE base (w.setCell ⟨fb, 1025, none⟩ (.int .i64 n)) fb vb E B n := by
  obtain ⟨cap, ht, hl⟩ := h.row
  have F : Frm [fb] w (w.setCell ⟨fb, 1025, none⟩ (.int .i64 n)) := (Frm.refl _ _).setCell (.inl (by simp)) _
  have hv := h.vbs
  have hfb := h.fb
  refine ⟨⟨cap, ht.setA n, row_frm hl F fun k hk => by simp [Value.ownBlock] at hk; subst hk; simp; omega⟩, fun e he => (h.pl e he).frm F ?_, h.st, h.fb, ?_⟩
  · intro k hk; exact h.noInt k (by simp at hk; simp [hk])
  · exact Nat.le_trans h.sz F.size
theorem TE.grow {base : Nat} {w w' : World} {fb vb g cap : Nat} {E : List (FV × List Nat)} {B : List Nat} {ak : Nat} {f : FV} {L : List Nat} (h : TE base w fb vb E B ak) (hp : PL w f.vp L) (hs : f.s < 2 ^ 256)
    (hg : w.grownBy w' (some vb)) (hown : w'.ownsRow base 187 12 (.slice (some ⟨g, 0, none⟩) (E.length + 1) cap) (E.length + 1) (fv (E.map Prod.fst) ++ f.cells.toList)) :
    TE base (w'.setCell ⟨fb, 0, none⟩ (.slice (some ⟨g, 0, none⟩) (E.length + 1) cap)) fb g (E ++ [(f, L)]) B ak := by
  obtain ⟨cap0, ht, hl⟩ := h.row
  have hv := h.vbs
  have hfb := h.fb
  have F : Frm [vb] w w' := Frm.of_grow hg
  have F2 : Frm [fb] w' (w'.setCell ⟨fb, 0, none⟩ (.slice (some ⟨g, 0, none⟩) (E.length + 1) cap)) := (Frm.refl _ _).setCell (.inl (by simp)) _
  have F3 : Frm [fb, vb] w (w'.setCell ⟨fb, 0, none⟩ (.slice (some ⟨g, 0, none⟩) (E.length + 1) cap)) := (F.mono (by intro k _ hk; simp at hk; simp [hk])).trans (F2.mono (by intro k _ hk; simp at hk; simp [hk]))
  have hT := (ht.frm F (by simp; omega)).set0 (.slice (some ⟨g, 0, none⟩) (E.length + 1) cap)
  refine ⟨⟨cap, by simpa using hT, ?_⟩, ?_, ?_, h.fb, Nat.le_trans h.sz F3.size⟩
  · have := ownsRow_setCell_below hown (a := ⟨fb, 0, none⟩) hfb (.slice (some ⟨g, 0, none⟩) (E.length + 1) cap)
    unfold FL
    simpa [fv] using this
  · intro e he
    rcases List.mem_append.1 he with he | he
    · exact (h.pl e he).frm F3 h.noInt
    · simp at he; subst he; exact hp.frm F3 h.noInt
  · intro e he
    rcases List.mem_append.1 he with he | he
    · exact h.st e he
    · simp at he; subst he; exact hs

theorem form_get {base : Nat} {w : World} {fb vb : Nat} {E : List (FV × List Nat)} {B : List Nat} {ak : Nat} (h : TE base w fb vb E B ak) {i : Nat} {f : FV} {L : List Nat} (hi : E[i]? = some (f, L)) :
    w.cell? ⟨vb, i * 12, none⟩ = some (.int .i64 f.kd) ∧ w.cell? ⟨vb, i * 12 + 1, none⟩ = some (.int .u64 (wd f.s 0)) ∧ w.cell? ⟨vb, i * 12 + 2, none⟩ = some (.int .u64 (wd f.s 1)) ∧ w.cell? ⟨vb, i * 12 + 3, none⟩ = some (.int .u64 (wd f.s 2)) ∧ w.cell? ⟨vb, i * 12 + 4, none⟩ = some (.int .u64 (wd f.s 3)) ∧
    w.cell? ⟨vb, i * 12 + 5, none⟩ = some (.int .i64 f.fi) ∧ w.cell? ⟨vb, i * 12 + 6, none⟩ = some (.int .i64 f.se) ∧ w.cell? ⟨vb, i * 12 + 7, none⟩ = some f.vp ∧ w.cell? ⟨vb, i * 12 + 8, none⟩ = some (.bool f.te) ∧ w.cell? ⟨vb, i * 12 + 9, none⟩ = some (.int .i64 f.lk) ∧ w.cell? ⟨vb, i * 12 + 10, none⟩ = some (.int .i64 f.ak) ∧ w.cell? ⟨vb, i * 12 + 11, none⟩ = some (.int .i64 f.lf) :=
  ⟨h.cell hi 0 (by decide), h.cell hi 1 (by decide), h.cell hi 2 (by decide), h.cell hi 3 (by decide), h.cell hi 4 (by decide), h.cell hi 5 (by decide), h.cell hi 6 (by decide), h.cell hi 7 (by decide), h.cell hi 8 (by decide), h.cell hi 9 (by decide), h.cell hi 10 (by decide), h.cell hi 11 (by decide)⟩

def FX (w : World) (xb : Nat) (f : FV) : Prop := w.heap[xb]? = some (.cells f.cells 187 (0, 0))
theorem FX.lt {w : World} {xb : Nat} {f : FV} (h : FX w xb f) : xb < w.heap.size := (Array.getElem?_eq_some_iff.1 h).1
theorem FX.frm {S : List Nat} {w w' : World} {xb : Nat} {f : FV} (h : FX w xb f) (F : Frm S w w') (hS : xb ∉ S) : FX w' xb f := (F.block xb h.lt hS).trans h
theorem FX.fz {w : World} {xb : Nat} {f : FV} (h : FX w xb f) (o : Nat) : w.frozen? ⟨xb, o, none⟩ = false := by unfold FX at h; simp [World.frozen?, h]
theorem FX.get {w : World} {xb : Nat} {f : FV} (h : FX w xb f) :
    w.cell? ⟨xb, 0, none⟩ = some (.int .i64 f.kd) ∧ w.cell? ⟨xb, 1, none⟩ = some (.int .u64 (wd f.s 0)) ∧ w.cell? ⟨xb, 2, none⟩ = some (.int .u64 (wd f.s 1)) ∧ w.cell? ⟨xb, 3, none⟩ = some (.int .u64 (wd f.s 2)) ∧ w.cell? ⟨xb, 4, none⟩ = some (.int .u64 (wd f.s 3)) ∧
    w.cell? ⟨xb, 5, none⟩ = some (.int .i64 f.fi) ∧ w.cell? ⟨xb, 6, none⟩ = some (.int .i64 f.se) ∧ w.cell? ⟨xb, 7, none⟩ = some f.vp ∧ w.cell? ⟨xb, 8, none⟩ = some (.bool f.te) ∧ w.cell? ⟨xb, 9, none⟩ = some (.int .i64 f.lk) ∧ w.cell? ⟨xb, 10, none⟩ = some (.int .i64 f.ak) ∧ w.cell? ⟨xb, 11, none⟩ = some (.int .i64 f.lf) := by
  unfold FX at h
  simp only [World.cell?, h]
  exact ⟨rfl, rfl, rfl, rfl, rfl, rfl, rfl, rfl, rfl, rfl, rfl, rfl⟩
theorem FX.setLk {w : World} {xb : Nat} {f : FV} (h : FX w xb f) (n : Nat) : FX (w.setCell ⟨xb, 9, none⟩ (.int .i64 n)) xb { f with lk := n } := by
  unfold FX at h ⊢
  simp only [World.setCell, Array.getElem?_modify, h, if_true, Option.map_some]
  rfl
end Go.Proofs.YtpbkgeipigcefaaGreat

