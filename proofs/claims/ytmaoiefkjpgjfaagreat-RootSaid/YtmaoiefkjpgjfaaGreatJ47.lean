import Derived.Test.YtmaoiefkjpgjfaaGreatJ44
import Derived.Test.YtmaoiefkjpgjfaaGreatJ46
import Derived.Test.YtmaoiefkjpgjfaaGreatJ2
import Derived.Test.YtmaoiefkjpgjfaaGreatRows
import Derived.ProofKit
import Derived.OpenShut
import Derived.DataShut
import Derived.SizedLaws
import Derived.Carry
import Derived.Deep.SlicePairs
set_option linter.unusedVariables false
set_option linter.unusedSimpArgs false
set_option linter.unnecessarySimpa false
namespace Go.Proofs.YtmaoiefkjpgjfaaGreat
open Go.RowKit

/-- Does an automaton take a value? -/
def takesA (a : AutM) (v : List UInt8) : Bool := a.acc.getD (autT a 0 v) 0 == 1
/-- Does a matcher hold? -/
def mHolds (aut : List UInt8 → AutM) (V : List UInt8 → List UInt8) (m : CM) : Bool :=
  if m.2.1 = 0 then V m.1 == m.2.2 else if m.2.1 = 1 then !(V m.1 == m.2.2) else if m.2.1 = 2 then takesA (aut m.2.2) (V m.1) else !(takesA (aut m.2.2) (V m.1))
/-- Is a test of a compiler's met? -/
def stM (s : CS) (V : List UInt8 → List UInt8) (t : TstM) : Bool :=
  if t.k = 0 then V (s.n.getD t.n []) == s.c.getD t.x [] else takesA (s.a.getD t.x ⟨0, [], [], []⟩) (V (s.n.getD t.n []))
def stT (s : CS) (V : List UInt8 → List UInt8) (x : Nat) : Bool := match s.t[x]? with | some t => stM s V t | none => false
theorem tT_comp (C : List CR) (s : CS) (V : List UInt8 → List UInt8) : tT (compM C s) V = stT s V := rfl
/-- A compiler that has read more. -/
structure CSle (s s' : CS) : Prop where
  n : s.n <+: s'.n
  c : s.c <+: s'.c
  a : s.a <+: s'.a
  t : s.t <+: s'.t
theorem CSle.refl (s : CS) : CSle s s := ⟨List.prefix_refl _, List.prefix_refl _, List.prefix_refl _, List.prefix_refl _⟩
theorem CSle.trans {s s1 s2 : CS} (h : CSle s s1) (k : CSle s1 s2) : CSle s s2 := ⟨h.n.trans k.n, h.c.trans k.c, h.a.trans k.a, h.t.trans k.t⟩
theorem pre_getD {α : Type} {l l' : List α} (h : l <+: l') (d : α) {i : Nat} (hi : i < l.length) : l'.getD i d = l.getD i d := by
  obtain ⟨r, rfl⟩ := h
  simp [List.getD, List.getElem?_append_left hi]
theorem preS_get {α : Type} {l l' : List α} (h : l <+: l') {i : Nat} {x : α} (hi : l[i]? = some x) : l'[i]? = some x := by
  obtain ⟨r, rfl⟩ := h
  rw [List.getElem?_append_left (List.getElem?_eq_some_iff.1 hi).1]; exact hi
theorem stM_le {s s' : CS} (h : CSle s s') (V : List UInt8 → List UInt8) {t : TstM} (ok : TstOK s.n.length s.c.length s.a.length t) : stM s' V t = stM s V t := by
  have hx := ok.x
  unfold stM
  rw [pre_getD h.n [] ok.n]
  by_cases hk : t.k = 0
  · rw [if_neg (by omega)] at hx
    rw [if_pos hk, if_pos hk, pre_getD h.c [] hx]
  · rw [if_pos (by have := ok.k; omega)] at hx
    rw [if_neg hk, if_neg hk, pre_getD h.a _ hx]
theorem addx_pre (L : List (List UInt8)) (x : List UInt8) : L <+: addx L x := by unfold addx; split; exact List.prefix_append _ _; exact List.prefix_refl _
theorem addt_pre (L : List TstM) (x : TstM) : L <+: addt L x := by unfold addt; split; exact List.prefix_append _ _; exact List.prefix_refl _
theorem fdx_get (L : List (List UInt8)) (x : List UInt8) (h : fdx L x < L.length) : L[fdx L x] = x := by
  have := List.findIdx_getElem (p := (· == x)) (xs := L) (w := h)
  exact eq_of_beq this
theorem addx_get (L : List (List UInt8)) (x : List UInt8) : (addx L x)[fdx L x]? = some x := by
  unfold addx
  split
  · rename_i h; rw [h]; simp
  · rename_i h
    have h1 := fdx_le L x
    have h2 : fdx L x < L.length := by omega
    rw [List.getElem?_eq_getElem h2, fdx_get L x h2]
theorem addt_get (L : List TstM) (x : TstM) : (addt L x)[fdt L x]? = some x := by
  unfold addt
  split
  · rename_i h; rw [h]; simp
  · rename_i h
    have h1 := fdt_le L x
    have h2 : fdt L x < L.length := by omega
    have h3 := List.findIdx_getElem (p := (tEq · x)) (xs := L) (w := h2)
    rw [List.getElem?_eq_getElem h2]
    have h4 : tEq L[fdt L x] x = true := h3
    generalize L[fdt L x] = y at *
    obtain ⟨a, b, c⟩ := y
    obtain ⟨d, e, f⟩ := x
    simp [tEq] at h4
    simp [h4]
theorem getD_ofS {α : Type} {l : List α} {i : Nat} {x d : α} (h : l[i]? = some x) : l.getD i d = x := by simp [List.getD, h]
/-- Expressions beside their automata. -/
def XA (aut : List UInt8 → AutM) (s : CS) : Prop := ∀ (i : Nat) (v : List UInt8), s.x[i]? = some v → s.a[i]? = some (aut v)
def bHolds (aut : List UInt8 → AutM) (V : List UInt8 → List UInt8) (m : CM) : Bool := if m.2.1 = 2 ∨ m.2.1 = 3 then takesA (aut m.2.2) (V m.1) else V m.1 == m.2.2
theorem mHolds_b (aut : List UInt8 → AutM) (V : List UInt8 → List UInt8) {m : CM} (hm : m.2.1 ≤ 3) : mHolds aut V m = (bHolds aut V m == cholds m) := by
  obtain ⟨n, k, v⟩ := m
  simp only at hm
  rcases (show k = 0 ∨ k = 1 ∨ k = 2 ∨ k = 3 by omega) with rfl | rfl | rfl | rfl <;> simp [mHolds, bHolds, cholds]
theorem ptest_run {re : List UInt8 → Nat} {aut : List UInt8 → AutM} {s s1 : CS} {t : TstM} (h : CSok s) (hxa : XA aut s) {m : CM} (he : ptest re aut s m = some (t, s1)) (V : List UInt8 → List UInt8) :
    CSle s s1 ∧ XA aut s1 ∧ stM s1 V t = bHolds aut V m := by
  unfold ptest at he
  have hn := getD_ofS (d := []) (addx_get s.n m.1)
  split at he
  · rename_i hk
    split at he
    · rename_i hx
      cases he
      refine ⟨⟨addx_pre _ _, List.prefix_refl _, List.prefix_refl _, List.prefix_refl _⟩, hxa, ?_⟩
      have ha := hxa (fdx s.x m.2.2) m.2.2 (by rw [List.getElem?_eq_getElem hx, fdx_get _ _ hx])
      unfold stM bHolds
      rw [if_neg (by simp), if_pos hk]
      simp only
      rw [hn, getD_ofS ha]
    · rename_i hx
      split at he
      · cases he
        have hl : fdx s.x m.2.2 = s.x.length := by have := fdx_le s.x m.2.2; omega
        have hxa2 : XA aut { s with n := addx s.n m.1, x := s.x ++ [m.2.2], a := s.a ++ [aut m.2.2] } := by
          intro i v hi
          simp only at hi ⊢
          by_cases h1 : i < s.x.length
          · rw [List.getElem?_append_left h1] at hi
            rw [List.getElem?_append_left (by rw [← h.xa]; exact h1)]
            exact hxa i v hi
          · have h2 : i = s.x.length := by
              have := (List.getElem?_eq_some_iff.1 hi).1
              simp at this; omega
            subst h2
            simp at hi
            subst hi
            rw [h.xa]; simp
        refine ⟨⟨addx_pre _ _, List.prefix_refl _, List.prefix_append _ _, List.prefix_refl _⟩, hxa2, ?_⟩
        have ha : (s.a ++ [aut m.2.2])[fdx s.x m.2.2]? = some (aut m.2.2) := by rw [hl, h.xa]; simp
        unfold stM bHolds
        rw [if_neg (by simp), if_pos hk]
        simp only
        rw [hn, getD_ofS ha]
      · cases he
  · rename_i hk
    cases he
    refine ⟨⟨addx_pre _ _, addx_pre _ _, List.prefix_refl _, List.prefix_refl _⟩, hxa, ?_⟩
    unfold stM bHolds
    rw [if_pos rfl, if_neg hk]
    simp only
    rw [hn, getD_ofS (addx_get s.c m.2.2)]
theorem pmat_run {re : List UInt8 → Nat} {aut : List UInt8 → AutM} (ha : ∀ v, re v = 0 → AutOK (aut v)) (V : List UInt8 → List UInt8) : ∀ (M : List CM) (s : CS) (acc : List (Nat × Bool)) {l : List (Nat × Bool)} {s1 : CS}, CSok s → XA aut s → (∀ m ∈ M, GoodM m) → pmat re aut s acc M = .ok (l, s1) →
    CSle s s1 ∧ XA aut s1 ∧ ∃ l', l = acc ++ l' ∧ ∀ s', CSle s1 s' → allT (stT s' V) l' = M.all (mHolds aut V)
  | [], s, acc, l, s1, h, hx, _, e => by
    rw [pmat] at e
    cases e
    exact ⟨CSle.refl _, hx, [], by simp, fun s' _ => rfl⟩
  | m :: r, s, acc, l, s1, h, hx, hM, e => by
    rw [pmat] at e
    split at e
    · cases e
    · rename_i t s2 ht
      obtain ⟨g1, g2, g3⟩ := ptest_ok ha h (hM m (by simp)) ht
      obtain ⟨r1, r2, r3⟩ := ptest_run h hx ht V
      have le2 : CSle s2 { s2 with t := addt s2.t t } := ⟨List.prefix_refl _, List.prefix_refl _, List.prefix_refl _, addt_pre _ _⟩
      obtain ⟨k1, k2, l', k3, k4⟩ := pmat_run ha V r _ _ g1 r2 (fun x hx => hM x (by simp [hx])) e
      refine ⟨(r1.trans le2).trans k1, k2, (fdt s2.t t, cholds m) :: l', by rw [k3]; simp, fun s' hs' => ?_⟩
      have htg := addt_get s2.t t
      have hts : s'.t[fdt s2.t t]? = some t := preS_get hs'.t (preS_get k1.t htg)
      have ok : TstOK s2.n.length s2.c.length s2.a.length t := g1.t t (List.mem_of_getElem? htg)
      have e1 : stT s' V (fdt s2.t t) = bHolds aut V m := by
        unfold stT
        rw [hts]
        simp only
        rw [stM_le ((le2.trans k1).trans hs') V ok, r3]
      show (stT s' V (fdt s2.t t) == cholds m && allT (stT s' V) l') = _
      rw [k4 s' hs', e1, List.all_cons, mHolds_b aut V (hM m (by simp)).kind]
theorem pread_run {re : List UInt8 → Nat} {aut : List UInt8 → AutM} (ha : ∀ v, re v = 0 → AutOK (aut v)) (V : List UInt8 → List UInt8) : ∀ (C : List CR) (s : CS) (i : Nat) {s1 : CS}, CSok s → XA aut s → (∀ c ∈ C, GoodCR c) → pread re aut s i C = .ok s1 →
    CSle s s1 ∧ s.q <+: s1.q ∧ ∀ (j : Nat) (c : CR), C[j]? = some c → ∀ s', CSle s1 s' → allT (stT s' V) (s1.q.getD (s.q.length + j) []) = c.ifs.all (mHolds aut V)
  | [], s, i, s1, h, hx, _, e => by
    rw [pread] at e
    cases e
    exact ⟨CSle.refl _, List.prefix_refl _, fun j c hj => by simp at hj⟩
  | c :: r, s, i, s1, h, hx, hC, e => by
    rw [pread] at e
    have hc := hC c (by simp)
    split at e
    · cases e
    · rename_i l s2 hl
      obtain ⟨g1, g2, g3⟩ := pmat_ok ha c.ifs s [] h hc.ifs (by simp) hl
      obtain ⟨r1, r2, l', r3, r4⟩ := pmat_run ha V c.ifs s [] h hx hc.ifs hl
      have hq := pmat_tge c.ifs s [] hl
      have hil := hc.ifl
      simp at g3 r3
      subst r3
      obtain ⟨k1, k2, k3⟩ := pread_run ha V r { s2 with q := s2.q ++ [l] } (i + 1) ⟨g1.n, g1.c, g1.a, g1.xa, g1.t, fun x hx => by
        rcases List.mem_append.1 hx with e1 | e1
        · exact g1.q x e1
        · rw [List.mem_singleton.1 e1]; exact g2, fun x hx => by
        rcases List.mem_append.1 hx with e1 | e1
        · exact g1.ql x e1
        · rw [List.mem_singleton.1 e1]; omega⟩ r2 (fun x hx => hC x (by simp [hx])) e
      have le2 : CSle s2 { s2 with q := s2.q ++ [l] } := ⟨List.prefix_refl _, List.prefix_refl _, List.prefix_refl _, List.prefix_refl _⟩
      simp only [hq] at k2 k3
      refine ⟨(r1.trans le2).trans k1, (List.prefix_append _ _).trans k2, fun j c' hj s' hs' => ?_⟩
      cases j with
      | zero =>
        simp at hj
        subst hj
        have : s1.q[s.q.length + 0]? = some l := preS_get k2 (by simp)
        rw [getD_ofS this]
        exact r4 s' ((le2.trans k1).trans hs')
      | succ j =>
        have := k3 j c' (by simpa using hj) s' hs'
        rw [List.length_append, List.length_singleton] at this
        rw [show s.q.length + (j + 1) = s.q.length + 1 + j by omega]
        exact this
/-- What a route sends, told by matchers. -/
def hold (aut : List UInt8 → AutM) (V : List UInt8 → List UInt8) (C : List CR) (c : Nat) : Bool := match C[c]? with | some x => x.ifs.all (mHolds aut V) | none => false
def walkH (H : Nat → Bool) (C : List CR) (S : Nat → List Nat) : List Nat → List Nat
  | [] => []
  | c :: r => if H c then S c ++ (if (C[c]?.map (·.co)) = some true then walkH H C S r else []) else walkH H C S r
def sentH (H : Nat → Bool) (C : List CR) : Nat → Nat → List Nat
  | 0, _ => []
  | f + 1, r => if (kids C r).any H then walkH H C (sentH H C f) (kids C r) else [r]
theorem walkK_H {T : Nat → Bool} {C : List CR} {q : List (List (Nat × Bool))} {H : Nat → Bool} {S S' : Nat → List Nat} : ∀ K : List Nat, (∀ c ∈ K, allT T (q.getD c []) = H c ∧ S c = S' c) → walkK T C q S K = walkH H C S' K
  | [], _ => rfl
  | c :: r, h => by
    rw [walkK, walkH, (h c (by simp)).1, (h c (by simp)).2, walkK_H r (fun x hx => h x (by simp [hx]))]
theorem sent_H {T : Nat → Bool} {C : List CR} {q : List (List (Nat × Bool))} {H : Nat → Bool} (h : ∀ c, c < C.length → allT T (q.getD c []) = H c) : ∀ f r, sent T C q f r = sentH H C f r
  | 0, _ => rfl
  | f + 1, r => by
    have hk : ∀ c ∈ kids C r, allT T (q.getD c []) = H c ∧ sent T C q f c = sentH H C f c := fun c hc => ⟨h c (mem_kids' hc).1, sent_H h f c⟩
    rw [sent, sentH, walkK_H _ hk]
    have : (kids C r).any (fun c => allT T (q.getD c [])) = (kids C r).any H := by
      rw [Bool.eq_iff_iff, List.any_eq_true, List.any_eq_true]
      constructor
      · rintro ⟨x, hx, e⟩; exact ⟨x, hx, by rw [← (hk x hx).1]; exact e⟩
      · rintro ⟨x, hx, e⟩; exact ⟨x, hx, by rw [(hk x hx).1]; exact e⟩
    rw [this]
/-- A compiled program sends what the walk of its tree sends. -/
theorem run_comp {re : List UInt8 → Nat} {aut : List UInt8 → AutM} (ha : ∀ v, re v = 0 → AutOK (aut v)) {t : List UInt8} {L : List (List UInt8)} {C : List CR} {s : CS} (ht : t.length ≤ 1048576) (h : cRead t = .ok (L, C)) (hp : pread re aut cs0 0 C = .ok s) (V : List UInt8 → List UInt8) :
    runM (compM C s) V (compM C s).code.length 0 = sentH (hold aut V C) C 6 0 := by
  obtain ⟨h1, h2, h3, h4⟩ := cRead_tree h
  have hg := (cRead1_good t L C ht h1).2.2
  have ok0 : CSok cs0 := ⟨by simp [cs0], by simp [cs0], by simp [cs0], rfl, by simp [cs0], by simp [cs0], by simp [cs0]⟩
  obtain ⟨k1, k2, k3⟩ := pread_ok ha C cs0 0 0 ok0 ⟨by simp [cs0], by simp [cs0], by simp [cs0], by simp [cs0], by simp [cs0]⟩ hg hp
  obtain ⟨_, _, p3⟩ := pread_run ha V C cs0 0 ok0 (fun i v hi => by simp [cs0] at hi) hg hp
  have hne : C.isEmpty = false := by cases C with | nil => simp at h2 | cons => rfl
  have hg0 : GL [⟨0, 0, 0, 0⟩] := by
    intro i hi
    simp at hi
    subst hi
    exact .inl rfl
  obtain ⟨r1, r2, r3⟩ := layR_good C s.q 6 0 0 [⟨0, 0, 0, 0⟩] hg0 (by simp)
  have r4 := layR_gx C (nt := s.t.length) k1.q 6 0 0 [⟨0, 0, 0, 0⟩] h2 (by intro x hx; rw [List.mem_singleton.1 hx]; exact .inl ⟨rfl, rfl, rfl, rfl⟩)
  have e1 : (compM C s).code = turnM (layR C s.q 6 0 0 [⟨0, 0, 0, 0⟩]).2 (layR C s.q 6 0 0 [⟨0, 0, 0, 0⟩]).1 := by
    show codeM C s.q = _
    unfold codeM
    rw [hne]; rfl
  rw [turn_run (m := compM C s) r1 (nr := C.length) r4 _ r2 e1 V, (layR_run _ C s.q 6 0 0 [⟨0, 0, 0, 0⟩] hg0 (by simp)).2, tT_comp]
  have : rl (stT s V) [(⟨0, 0, 0, 0⟩ : InM)] 0 = [] := rfl
  rw [this, List.append_nil]
  refine sent_H (fun c hc => ?_) 6 0
  have := p3 c C[c] (List.getElem?_eq_getElem hc) s (CSle.refl _)
  unfold hold
  rw [List.getElem?_eq_getElem hc]
  rw [show cs0.q.length + c = c from Nat.zero_add c] at this
  exact this
end Go.Proofs.YtmaoiefkjpgjfaaGreat
namespace Go.Proofs.YtmaoiefkjpgjfaaGreat
open Go.RowKit

/-- How many letters and labels, counted while they are few. -/
def szL : Nat → List LBL → Nat
  | n, [] => n
  | n, x :: r => if n ≤ 16384 then szL (n + x.1.length + x.2.length) r else n
theorem szL_le : ∀ (L : List LBL) (n : Nat), n ≤ szL n L
  | [], n => Nat.le_refl _
  | x :: r, n => by
    unfold szL
    split
    · have := szL_le r (n + x.1.length + x.2.length)
      omega
    · exact Nat.le_refl _
theorem szL_all : ∀ (L : List LBL) (n : Nat), szL n L ≤ 16384 → ∀ x ∈ L, x.1.length ≤ 16384 ∧ x.2.length ≤ 16384
  | [], n, _ => by simp
  | y :: r, n, h => by
    have hn := Nat.le_trans (szL_le (y :: r) n) h
    unfold szL at h
    rw [if_pos hn] at h
    have h2 := szL_le r (n + y.1.length + y.2.length)
    intro x hx
    rcases List.mem_cons.1 hx with rfl | hx
    · omega
    · exact szL_all r _ h x hx
/-- Labels that are read, however many. -/
def LQ (w : World) (a : Option Addr) (L : List LBL) : Prop :=
  ∀ (j : Nat) (h : j < L.length), ∃ g off, a = some ⟨g, off, none⟩ ∧ g < w.heap.size ∧ w.cell? ⟨g, off + j * 2, none⟩ = some (.string (bs L[j].1)) ∧ w.cell? ⟨g, off + j * 2 + 1, none⟩ = some (.string (bs L[j].2))
theorem LQ.lr {w : World} {a : Option Addr} {L : List LBL} (h : LQ w a L) (cap : Nat) (hl : L.length ≤ 1048576) : LR w (.slice a L.length cap) L := ⟨a, cap, rfl, hl, h⟩
theorem LQ.frm {w w' : World} {a : Option Addr} {L : List LBL} (h : LQ w a L) (f : Frm [] w w') : LQ w' a L := by
  intro j hj
  obtain ⟨g, off, rfl, h2, h3, h4⟩ := h j hj
  exact ⟨g, off, rfl, Nat.lt_of_lt_of_le h2 f.size, (f.cell (p := ⟨g, off + j * 2, none⟩) h2 (by simp)).trans h3, (f.cell (p := ⟨g, off + j * 2 + 1, none⟩) h2 (by simp)).trans h4⟩
end Go.Proofs.YtmaoiefkjpgjfaaGreat
namespace Go.Proofs.YtmaoiefkjpgjfaaGreat
open Go.RowKit

/-- What a compiled program sends. -/
def hitsC (C : List CR) (V : List UInt8 → List UInt8) : List HitM := (sentH (hold autC V C) C 6 0).map fun i => (hitsN C C.length).getD i ⟨[], [], 0, 0, 0⟩
theorem hitsA_comp {t : List UInt8} {L : List (List UInt8)} {C : List CR} {s : CS} (ht : t.length ≤ 1048576) (h : cRead t = .ok (L, C)) (hp : pread reC autC cs0 0 C = .ok s) (A : List LBL) : hitsA (compM C s) A = hitsC C (lblV A) := by
  unfold hitsA
  rw [run_comp autC_ok ht h hp (lblV A)]
  rfl
def rtT0 : List UInt8 := [114, 101, 99, 101, 105, 118, 101, 114, 115, 32, 97, 10, 114, 111, 117, 116, 101, 32, 97, 32, 98, 121, 32, 122, 44, 121, 10]
def rtC0 : List CR := [⟨0, [97], true, [[121], [122]], -1, -1, -1, [], false⟩]
theorem rt_read : cRead rtT0 = .ok ([[97]], rtC0) := by rfl
theorem rt_res : cRes reC rtT0 = (0, 0) := by rw [cRes, rt_read]; rfl
theorem rt_hits (V : List UInt8 → List UInt8) : hitsC rtC0 V = [⟨[97], [[121], [122]], 30, 300, 14400⟩] := by rfl
theorem lbl_none (n : List UInt8) : lblV [([108], [])] n = lblV [] n := by
  unfold lblV
  rw [List.find?_cons]
  split
  · rename_i x h
    split at h
    · cases h; rfl
    · simp at h
  · rfl

set_option maxRecDepth 100000 in
set_option maxHeartbeats 8000000 in
theorem root_any (w : World) (a : Option Addr) (cap : Nat) (L : List LBL) (hL : LR w (.slice a L.length cap) L) (hv : LV L) (hcap : L.length ≤ cap) (r : List UInt8) (hr : r.length ≤ 16384) :
    Calls Tryz.prog 4 #[.slice a L.length cap, .string (bs r)] w fun e w' => e = .returned (.bool true) ∧ Frm [] w w' := by
  have hsz := bs_size
  have hap := bs_append
  have hl := bs_toList
  have k1 : ({ data := #[114, 101, 99, 101, 105, 118, 101, 114, 115, 32, 97, 10, 114, 111, 117, 116, 101, 32, 97, 32, 98, 121, 32, 122, 44, 121, 10] } : ByteArray) = bs rtT0 := rfl
  have k2 : ({ data := #[97] } : ByteArray) = bs [97] := rfl
  have k3 : ({ data := #[121] } : ByteArray) = bs [121] := rfl
  have k4 : ({ data := #[98] } : ByteArray) = bs [98] := rfl
  have k5 : ({ data := #[108, 61, 126] } : ByteArray) = bs [108, 61, 126] := rfl
  have k6 : ({ data := #[] } : ByteArray) = bs [] := rfl
  have HL := hide hL
  have HV := hide hv
  have N1 := hide (compile_any rtT0 w (by decide))
  clear hL hv
  go_enter Tryz.func4, Tryz.ntmps4
  go_wp2_with fail
  refine (N1.out).mono ?_
  clear N1
  rintro e w1 ⟨hF1, ⟨h1, rfl⟩ | ⟨Ln, C, s, V, pb, h1, h2, h3, rfl, h4, h5, h6⟩⟩
  · rw [rt_res] at h1; exact absurd rfl h1
  rw [rt_read] at h2
  cases h2
  have F1 := hide hF1
  have HA := hide (hitsA_comp (A := L) (by decide) rt_read h3)
  have N2 := hide (route_any w1 pb V _ h4 h5 a L.length cap L (HL.out.frm hF1 (by simp)) HV.out hcap)
  clear hF1 h1 h3 h4 h5
  generalize compM rtC0 s = m at *
  go_wp2_with fail
  refine (N2.out).mono ?_
  clear N2
  rintro e w2 ⟨hF2, ⟨hlb, rfl⟩ | ⟨hlb, vh, rfl, hH⟩⟩
  · have F2 := hide (F1.out.trans hF2)
    clear hF2 hlb
    go_wp2
    go_ret
    exact ⟨rfl, F2.out⟩
  have F2 := hide (F1.out.trans hF2)
  rw [HA.out, rt_hits] at hH
  obtain ⟨ah, ch, rfl, hch, hcell⟩ := hH
  obtain ⟨g, o, vb, rfl, hR⟩ := hcell 0 (by simp)
  simp only [List.getElem_cons_zero, Nat.zero_mul, Nat.add_zero] at hR
  simp only [List.length_singleton] at hch ⊢
  have c0 := hR.c0
  have c1 := hR.c1
  have c2 := hR.c2
  have c3 := hR.c3
  have c4 := hR.c4
  obtain ⟨ab, cb, rfl, hb⟩ := hR.r.str
  obtain ⟨gb, ob, rfl, hgb, b0⟩ := hb 0 (by simp)
  simp only [List.getElem_cons_zero, Nat.add_zero, List.length_cons, List.length_nil, Nat.zero_add, Nat.reduceAdd] at c0 c1 c2 c3 c4 b0
  clear hF2 hlb hcell hR hb HA
  have N3 := hide (kquoted_any r w2 (by omega))
  go_wp2_with fail
  refine (N3.out).mono ?_
  clear N3
  rintro e w3 ⟨rfl, hF3⟩
  have F3 := hide (F2.out.trans hF3)
  have hql : (quoteV r).length ≤ 70000 := by
    have := quoteL_len r
    unfold quoteV
    rw [List.length_append, List.length_append]
    simp only [List.length_cons, List.length_nil]
    omega
  have N4 := hide (fork_any ([108, 61, 126] ++ quoteV r) w3 (by simp; omega))
  clear hF3
  generalize quoteV r = qr at *
  go_wp2_with fail
  refine (N4.out).mono ?_
  clear N4
  rintro e w4 ⟨hF4, ⟨h1, rfl⟩ | ⟨Ln, C, s4, V4, pb4, h1, h2, h3, rfl, h4, h5, h6⟩⟩
  · have F4 := hide (F3.out.trans hF4)
    have hne : (((cRes reC (fkT ([108, 61, 126] ++ qr))).1 : Int) != 0) = true := by rw [bne_iff_ne]; omega
    generalize (cRes reC (fkT ([108, 61, 126] ++ qr))).1 = n at *
    clear hF4 h1
    go_wp2
    go_ret
    exact ⟨rfl, F4.out⟩
  have F4 := hide (F3.out.trans hF4)
  have HPR := hide h4
  have HOK := hide h5
  clear hF4 h1 h2 h3 h4 h5
  generalize compM C s4 = m4 at *
  have N5 := hide (route_any w4 pb4 V4 m4 HPR.out HOK.out none 0 0 [] ⟨none, 0, rfl, by simp, fun j hj => absurd hj (by simp)⟩ (fun x hx => by simp at hx) (by simp))
  go_wp2_with fail
  refine (N5.out).mono ?_
  clear N5
  rintro e w5 ⟨hF5, ⟨hlb, rfl⟩ | ⟨hlb, vh5, rfl, hH5⟩⟩
  · exact absurd hlb (by decide)
  have F5 := hide (F4.out.trans hF5)
  have N6 := hide (chosen_any w5 pb4 V4 m4 (HPR.out.frm hF5 (by simp)) HOK.out [] (by simp))
  have HE : Hid ((labsOK [([108], [])] && oneB (hitsA m4 [([108], [])])) = oneB (hitsA m4 [])) := by
    show _ = _
    have e1 : labsOK [([108], [])] = true := by decide
    have e2 : hitsA m4 [([108], [])] = hitsA m4 [] := by
      unfold hitsA
      rw [show lblV [([108], [])] = lblV [] from funext lbl_none]
    rw [e1, e2]; rfl
  rw [HE.out] at N6
  clear hF5 hlb HE
  generalize hitsA m4 [] = hs at *
  obtain ⟨a5, c5, rfl, hch5, hcell5⟩ := hH5
  by_cases hs1 : hs.length = 1
  · obtain ⟨x, rfl⟩ : ∃ x, hs = [x] := List.length_eq_one_iff.1 hs1
    obtain ⟨g5, o5, vb5, rfl, hr5⟩ := hcell5 0 (by simp)
    have d0 := hr5.c0
    have HO : Hid (oneB [x] = (x.rc == [98])) := rfl
    rw [HO.out] at N6
    simp only [List.getElem_cons_zero, Nat.zero_mul, Nat.add_zero, List.length_singleton] at d0 hch5 ⊢
    generalize x.rc = rc at *
    clear hcell5 hr5 hs1
    go_wp2_with fail
    refine (N6.out).mono ?_
    rintro e w6 ⟨hF6, rfl⟩
    have F6 := hide (F5.out.trans hF6)
    clear hF6 N6
    generalize (rc == [98]) = bb at *
    go_wp2
    go_ret
    refine ⟨?_, F6.out⟩
    cases bb <;> rfl
  · have HO : Hid (oneB hs = false) := by
      show _ = _
      match hs, hs1 with
      | [], _ => rfl
      | [_], h => exact absurd rfl h
      | _ :: _ :: _, _ => rfl
    have hd : ((hs.length : Int) == 1) = false := by rw [beq_eq_false_iff_ne]; omega
    rw [HO.out] at N6
    clear hcell5
    go_wp2_with fail
    refine (N6.out).mono ?_
    rintro e w6 ⟨hF6, rfl⟩
    have F6 := hide (F5.out.trans hF6)
    clear hF6 N6
    go_wp2
    go_ret
    exact ⟨rfl, F6.out⟩
end Go.Proofs.YtmaoiefkjpgjfaaGreat
namespace Go.Proofs.YtmaoiefkjpgjfaaGreat
open Go.RowKit

set_option maxRecDepth 100000 in
set_option maxHeartbeats 4000000 in
theorem rootLaw_any (w : World) (a : Option Addr) (cap : Nat) (L : List LBL) (h : LQ w a L) (hN : L.length ≤ 4398046511104) (hs : ∀ x ∈ L, x.1.length ≤ 140737488355328 ∧ x.2.length ≤ 140737488355328) (hcap : L.length ≤ cap) (r : List UInt8) (hr : r.length ≤ 140737488355328) :
    Calls Tryz.prog 3 #[.slice a L.length cap, .string (bs r)] w fun e w' => e = .returned (.bool true) ∧ Frm [] w w' := by
  have H := hide h
  have HS := hide hs
  have hl := bs_toList
  have hz := bs_size
  have RT : Hid (szL (r.length + L.length) L ≤ 16384 → ∀ q, Calls Tryz.prog 4 #[.slice a L.length cap, .string (bs r)] (w.drewN q) fun e w' => e = .returned (.bool true) ∧ Frm [] w w') := by
    intro hb q
    have h1 := szL_le L (r.length + L.length)
    have h2 := szL_all L (r.length + L.length) hb
    refine (root_any (w.drewN q) a cap L ((H.out.frm ((Frm.refl [] w).drewN q)).lr cap (by omega)) (fun x hx => ⟨by have := (h2 x hx).1; omega, by have := (h2 x hx).2; omega⟩) hcap r (by omega)).mono ?_
    rintro e w' ⟨rfl, hF⟩
    exact ⟨rfl, ((Frm.refl [] w).drewN q).trans hF⟩
  clear h hs
  go_enter Tryz.func3, Tryz.ntmps3
  go_wp2_with fail
  go_loopg [5, 6] L.length (fun k v3 v4 wr => ∃ j n q : Nat, j + k = L.length ∧ v4 = .int .i64 j ∧ v3 = .int .i64 n ∧ n ≤ 562949953421312 ∧ wr = w.drewN q ∧ Hid (szL n (L.drop j) = szL (r.length + L.length) L))
  case atStart => exact ⟨0, r.length + L.length, 0, by omega, rfl, by go_num, by omega, rfl, by show _ = _; simp⟩
  case round =>
    obtain ⟨j, n, q, hjk, rfl, rfl, hn, hw, HF⟩ := hrel
    subst hw
    by_cases hlt : j < L.length
    · have hd1 : decide ((j : Int) < (L.length : Int)) = true := decide_eq_true (by omega)
      by_cases hn2 : n ≤ 16384
      · have hd2 : decide ((n : Int) ≤ 16384) = true := decide_eq_true (by omega)
        have hd2' : decide (n ≤ 16384) = true := decide_eq_true hn2
        obtain ⟨g, off, rfl, hg, hc1, hc2⟩ := H.out j hlt
        have hx := HS.out L[j] (List.getElem_mem hlt)
        have HF2 : Hid (szL (n + L[j].1.length + L[j].2.length) (L.drop (j + 1)) = szL (r.length + L.length) L) := by
          show _ = _
          rw [← HF.out, List.drop_eq_getElem_cons hlt, szL, if_pos hn2]
        clear HF
        generalize L[j] = x at *
        obtain ⟨nm, vl⟩ := x
        simp only at hc1 hc2 hx HF2
        have hz1 := bs_size nm
        have hz2 := bs_size vl
        go_wp2_with fail
        go_quiet (fail)
        go_wp2
        go_roundg (gk - 1)
        case measure => omega
        case rel => exact ⟨j + 1, n + nm.length + vl.length, _, by omega, by go_num, by go_num, by omega, rfl, HF2⟩
      · have hd2 : decide ((n : Int) ≤ 16384) = false := decide_eq_false (by omega)
        have hd2' : decide (n ≤ 16384) = false := decide_eq_false hn2
        have hd3 : decide ((16384 : Int) < (n : Int)) = true := decide_eq_true (by omega)
        have hd3' : decide (16384 < n) = true := decide_eq_true (by omega)
        clear HF RT
        go_wp2
        go_ret
        exact ⟨rfl, (Frm.refl [] w).drewN q⟩
    · have hd1 : decide ((j : Int) < (L.length : Int)) = false := decide_eq_false (by omega)
      have HV : Hid (szL (r.length + L.length) L = n) := by
        show _ = _
        rw [← HF.out, List.drop_eq_nil_of_le (by omega)]; rfl
      clear HF
      by_cases hn2 : n ≤ 16384
      · have hd3 : decide ((16384 : Int) < (n : Int)) = false := decide_eq_false (by omega)
        have hd3' : decide (16384 < n) = false := decide_eq_false (by omega)
        have N1 := hide (RT.out (by rw [HV.out]; exact hn2) q)
        clear RT
        go_wp2_with fail
        refine (N1.out).mono ?_
        clear N1
        rintro e w' ⟨rfl, hF⟩
        have F := hide hF
        clear hF
        go_wp2
        go_ret
        exact ⟨rfl, F.out⟩
      · have hd3 : decide ((16384 : Int) < (n : Int)) = true := decide_eq_true (by omega)
        have hd3' : decide (16384 < n) = true := decide_eq_true (by omega)
        clear RT
        go_wp2
        go_ret
        exact ⟨rfl, (Frm.refl [] w).drewN q⟩
end Go.Proofs.YtmaoiefkjpgjfaaGreat
namespace Go.Proofs.YtmaoiefkjpgjfaaGreat
open Go.ChangeShapes Go.WideShapes Go.ChangeAt Go.RowKit
open Go.ChangeMaps (open_string shut_string)

/-- The bytes of a string; none of what is none. -/
def strL : Value → List UInt8
  | .string s => s.data.toList
  | _ => []
theorem weightsAll_mem {H : Type} {P : Program} {e : TypeId} {d : DataW H} {n : Nat} : ∀ {l : List (DataW H)}, d ∈ l → n ∈ d.weights P e → n ∈ DataW.weightsAll P e l
  | [], hd, _ => by simp at hd
  | x :: r, hd, hn => by
    simp only [DataW.weightsAll, List.mem_append]
    rcases List.mem_cons.1 hd with rfl | hd
    · exact .inl hn
    · exact .inr (weightsAll_mem hd hn)
theorem cellsLab : Tryz.prog.cellsOf 24 = 2 := by kernel_rfl
theorem cellsStr : Tryz.prog.cellsOf 9 = 1 := by kernel_rfl
theorem bytesLab : Tryz.prog.bytesOf 24 = 32 := by kernel_rfl

set_option maxRecDepth 100000 in
theorem labels_open {H : Type} {enc : TypeId × Value → H} {W : World} {a : Option Addr} {len cap : Nat} {d : DataW H} {ps : List MemPlace} (h : DataW.Trod enc Tryz.prog W 0 (fun _ => true) true 22 (.slice a len cap) d ps)
    (hw : ∀ n ∈ d.weights Tryz.prog 22, n ≤ reachBytes) :
    ∃ L : List LBL, L.length = len ∧ LQ W a L ∧ L.length ≤ 4398046511104 ∧ ∀ x ∈ L, x.1.length ≤ 140737488355328 ∧ x.2.length ≤ 140737488355328 := by
  obtain ⟨fuel, h⟩ := h
  have hcs : (Value.slice a len cap).cells.toList = [.slice a len cap] := rfl
  rw [hcs] at h
  rcases Deep.open_slice_pairs Tryz.underlying22 Tryz.underlying24 cellsLab rfl rfl cellsStr cellsStr h with ⟨hc, _⟩ | ⟨ad, len', cap', m, n, V0, V1, D0, D1, P0, P1, hc, _, hl, hm, hmm, hx, hall⟩
  · simp only [List.cons.injEq, and_true, Value.slice.injEq] at hc
    obtain ⟨rfl, rfl, rfl⟩ := hc
    exact ⟨[], rfl, fun j hj => absurd hj (by simp), by simp, by simp⟩
  · simp only [List.cons.injEq, and_true, Value.slice.injEq] at hc
    obtain ⟨rfl, rfl, rfl⟩ := hc
    simp only [if_true] at hmm
    subst hmm
    simp only [Prod.mk.injEq] at hx
    obtain ⟨rfl, rfl⟩ := hx
    have hrb : reachBytes ≤ 140737488355328 := Nat.le_of_lt reachBytes_lt
    have hS : ∀ i, i < m → ∃ s0 s1 : ByteArray, V0 i = .string s0 ∧ V1 i = .string s1 ∧ D0 i = .lit (.string s0.data.toList) ∧ D1 i = .lit (.string s1.data.toList) := by
      intro i hi
      obtain ⟨_, _, h1, h2⟩ := hall i hi
      obtain ⟨s0, e0, f0, _⟩ := DataW.trod_string Tryz.underlying9 h1
      obtain ⟨s1, e1, f1, _⟩ := DataW.trod_string Tryz.underlying9 h2
      simp only [List.cons.injEq, and_true] at e0 e1
      simp only [Prod.mk.injEq] at f0 f1
      exact ⟨s0, s1, e0, e1, f0.1, f1.1⟩
    have hlen : len * 32 ≤ reachBytes := by
      have := hw ((len + (m - len)) * 32) (by simp [DataW.weights, Tryz.underlying22, bytesLab])
      omega
    refine ⟨(List.range len).map fun i => (strL (V0 i), strL (V1 i)), by simp, ?_, by simp; omega, ?_⟩
    · intro j hj
      simp only [List.length_map, List.length_range] at hj
      obtain ⟨b, off, spot⟩ := ad
      obtain ⟨c0, c1, _, _⟩ := hall j (by omega)
      obtain ⟨s0, s1, e0, e1, _, _⟩ := hS j (by omega)
      have hspot : spot = none := by
        have := World.cell?_spot (hall 0 (by omega)).1
        simpa [Addr.add] using this
      subst hspot
      rw [add_plain] at c0 c1
      refine ⟨b, off, rfl, World.block_lt_of_cell? W _ c0, ?_, ?_⟩
      · rw [c0, e0]; simp [strL, e0, bs_of]
      · rw [← Nat.add_assoc] at c1
        rw [c1, e1]; simp [strL, e1, bs_of]
    · intro x hx
      obtain ⟨i, hi, rfl⟩ := List.mem_map.1 hx
      rw [List.mem_range] at hi
      obtain ⟨s0, s1, e0, e1, f0, f1⟩ := hS i (by omega)
      have hwt : ∀ k, k = s0.data.toList.length ∨ k = s1.data.toList.length → k ≤ reachBytes := by
        intro k hk
        apply hw
        have hmem : k ∈ DataW.weightsAll Tryz.prog 24 ((List.range len).map fun i => DataW.agg [D0 i, D1 i]) := by
          refine weightsAll_mem (d := .agg [D0 i, D1 i]) (List.mem_map.2 ⟨i, List.mem_range.2 hi, rfl⟩) ?_
          rw [f0, f1]
          simp only [DataW.weights, Tryz.underlying24]
          rcases hk with rfl | rfl <;> simp [DataW.weightsEach, DataW.weights]
        simp only [DataW.weights, Tryz.underlying22, List.mem_cons, List.mem_append]
        exact .inr (.inl hmem)
      have h1 := hwt _ (.inl rfl)
      have h2 := hwt _ (.inr rfl)
      simp only [e0, e1, strL]
      omega
end Go.Proofs.YtmaoiefkjpgjfaaGreat
namespace Go.Proofs.YtmaoiefkjpgjfaaGreat
open Go.ChangeShapes Go.WideShapes Go.ChangeAt Go.RowKit

theorem labels_cap {H : Type} {enc : TypeId × Value → H} {W : World} {a : Option Addr} {len cap : Nat} {d : DataW H} {ps : List MemPlace} (h : DataW.Trod enc Tryz.prog W 0 (fun _ => true) true 22 (.slice a len cap) d ps) : len ≤ cap := by
  obtain ⟨fuel, h⟩ := h
  have hcs : (Value.slice a len cap).cells.toList = [.slice a len cap] := rfl
  rw [hcs] at h
  rcases Deep.open_slice_pairs Tryz.underlying22 Tryz.underlying24 cellsLab rfl rfl cellsStr cellsStr h with ⟨hc, _⟩ | ⟨ad, len', cap', m, n, V0, V1, D0, D1, P0, P1, hc, _, hl, hm, hmm, hx, hall⟩
  · simp only [List.cons.injEq, and_true, Value.slice.injEq] at hc
    omega
  · simp only [List.cons.injEq, and_true, Value.slice.injEq] at hc
    obtain ⟨rfl, rfl, rfl⟩ := hc
    exact hl
end Go.Proofs.YtmaoiefkjpgjfaaGreat
namespace Go.Proofs.YtmaoiefkjpgjfaaGreat.fnRoot
open Go.ChangeShapes Go.WideShapes Go.ChangeAt Go.RowKit
open Go.ChangeMaps (open_string shut_string)

theorem own : ownKnob Tryz.prog.godebug = none := by kernel_rfl
theorem laidOut : laidOutB Tryz.prog = true := by kernel_rfl

set_option maxRecDepth 100000 in
theorem lifted (os : Os) (started : os.Started) (H : Type) (enc : TypeId × Value → H) :
    ReturnsInHanded {} Tryz.checked os 3 .any (Rows.rootSpec.pre6 enc Tryz.prog Tryz.f3 Rows.rootRow.domain false) (Rows.rootSpec.post enc Tryz.prog Tryz.f3 false true false false) := by
  refine returnsInHanded_of_change_sized (C := Tryz.checked) own started (by kernel_rfl) Tryz.func3
    (ChangeSpec.witness6 (enc := enc) (C := Tryz.checked) false ⟨#[], #[.slice none 0 0, .string ByteArray.empty], []⟩ 8 (by kernel_rfl) (by kernel_rfl) (by kernel_rfl) (by kernel_rfl)) ?_
  intro W base args ds gs before hval0 hW hcnd hsz0 _
  have hval : ∀ (j : Nat) t v, Tryz.f3.params[j]? = some t → args[j]? = some v → Value.okWide Tryz.prog W .any base t v := hval0
  have hW' := hW
  obtain ⟨p, q, hA0, hV, rfl, hfz, hnd⟩ := hW
  have hA : DataW.TrodAll enc Tryz.prog W 0 (fun _ => true) true Tryz.f3.params.toList args.toList ds p := hA0
  have hsz : (DataW.weightsEach Tryz.prog (Tryz.f3.params.toList ++ Rows.rootSpec.plain.varTypes Tryz.prog) (ds ++ gs)).all (· ≤ reachBytes) = true := hsz0
  rw [Tryz.params3] at hA hval hsz
  obtain ⟨v0, v1, d0, d1, p0, p1, rfl, rfl, rfl, h0, h1⟩ := trodAll_two hA
  obtain ⟨rfl, rfl⟩ := trodVars_none hV
  obtain ⟨s, rfl, rfl, rfl, hs⟩ := open_string Tryz.underlying9 (hval 1 9 v1 rfl rfl) h1
  have hok := hval 0 22 v0 rfl rfl
  obtain ⟨a1, len1, cap1, rfl⟩ := okWide_slice Tryz.underlying22 hok
  clear hA0 hval0 hsz0
  simp only [List.append_nil] at hW'
  have hlt : ∀ x ∈ p0, x.block < W.heap.size := fun x hx => by simpa using hW'.lt x (by simpa using hx)
  have hsl : s.data.toList.length ≤ 140737488355328 := Nat.le_trans (sized_string (j := 1) hsz rfl rfl) (Nat.le_of_lt reachBytes_lt)
  obtain ⟨L, rfl, hQ, hN, hLs⟩ := labels_open h0 (fun n hn => by
    have := List.all_eq_true.1 hsz _ (DataW.weights_mem_each (j := 0) (t := 22) (d := d0) rfl rfl n hn)
    simpa using this)
  have hb : Value.string s = .string (bs s.data.toList) := by rw [bs_of]
  rw [hb]
  refine (rootLaw_any W a1 cap1 L hQ hN hLs (labels_cap h0) s.data.toList hsl).mono fun e W' ⟨he, hf⟩ => ?_
  rw [← hb]
  subst he
  refine ⟨_, rfl, [d0, .lit (.string s.data.toList)], [], _, [], p0 ++ [], [], by simpa using hW', trodAll_cons_mk (shut_bool Tryz.underlying4 _) trodAll_mk0, trodAll_mk2 (Below.trod laidOut (by kernel_rfl) (of_decide_eq_true (by kernel_rfl)) h0 hf.below (fun x hx => hlt x (by simpa using hx))) (shut_string Tryz.underlying9 hs), rfl, hf.below.frame _, fun h => by cases h⟩

theorem over : Rows.rootRow.holds Tryz.pinned (OpenSpec.ofChange Rows.rootSpec) :=
  OpenClaim.holds_of_wide 3 Tryz.f3 rfl rfl rfl rfl rfl rfl rfl ⟨rfl, rfl, rfl, rfl, rfl⟩ rfl rfl rfl rfl rfl (by kernel_rfl) Tryz.func3 (by kernel_rfl)
    (of_decide_eq_true (by kernel_rfl)) (by unfold Func.isWrapper; first | (rw [if_pos (by decide +kernel)]; kernel_rfl) | (rw [if_neg (by decide +kernel)]; exact ⟨rfl, rfl⟩))
    (fun os started H enc _ => lifted os started H enc)
end Go.Proofs.YtmaoiefkjpgjfaaGreat.fnRoot

namespace Go.Proofs.YtmaoiefkjpgjfaaGreat
theorem root_said : Rows.RootSaid := fnRoot.over
end Go.Proofs.YtmaoiefkjpgjfaaGreat
