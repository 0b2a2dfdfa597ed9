import Derived.Test.YtmaoiefkjpgjfaaGreatJ1
set_option linter.unusedVariables false
set_option linter.unusedSimpArgs false
set_option linter.unnecessarySimpa false
namespace Go.Proofs.YtmaoiefkjpgjfaaGreat
open Go.RowKit

/-- The number that bytes are, the high one first; a number as so many bytes. -/
def nmV (l : List UInt8) : Nat := l.foldl (fun v x => v * 256 + x.toNat) 0
def nb : Nat → Nat → List UInt8
  | 0, _ => []
  | n + 1, v => nb n (v / 256) ++ [UInt8.ofNat (v % 256)]
theorem nb_len : ∀ n v, (nb n v).length = n
  | 0, _ => rfl
  | n + 1, v => by rw [nb, List.length_append, nb_len n]; rfl
theorem nmV_snoc (l : List UInt8) (x : UInt8) : nmV (l ++ [x]) = nmV l * 256 + x.toNat := by simp [nmV]
theorem nb_nmV : ∀ (n : Nat) (l : List UInt8), l.length = n → nb n (nmV l) = l
  | 0, l, h => by rw [List.length_eq_zero_iff.1 h]; rfl
  | n + 1, l, h => by
    obtain ⟨r, x, rfl⟩ : ∃ r x, l = r ++ [x] := by
      rcases List.eq_nil_or_concat l with e | ⟨r, x, e⟩
      · rw [e] at h; simp at h
      · exact ⟨r, x, by simpa using e⟩
    have hx := x.toNat_lt
    rw [nb, nmV_snoc, show (nmV r * 256 + x.toNat) / 256 = nmV r by omega, show (nmV r * 256 + x.toNat) % 256 = x.toNat by omega, nb_nmV n r (by simp at h; omega), UInt8.ofNat_toNat]
theorem nmV_lt : ∀ (n : Nat) (l : List UInt8), l.length = n → nmV l < 256 ^ n
  | 0, l, h => by rw [List.length_eq_zero_iff.1 h]; decide
  | n + 1, l, h => by
    obtain ⟨r, x, rfl⟩ : ∃ r x, l = r ++ [x] := by
      rcases List.eq_nil_or_concat l with e | ⟨r, x, e⟩
      · rw [e] at h; simp at h
      · exact ⟨r, x, by simpa using e⟩
    have hx := x.toNat_lt
    have := nmV_lt n r (by simp at h; omega)
    rw [nmV_snoc, Nat.pow_succ]
    omega

/-- What is taken from the front of bytes, and what is left of them. -/
abbrev PT (α : Type) : Type := List UInt8 → Option (α × List UInt8)
/-- A number of n bytes, from lo on, below hi. -/
def pN (n lo hi : Nat) : PT Nat := fun s => if n ≤ s.length ∧ lo ≤ nmV (s.take n) ∧ nmV (s.take n) < hi then some (nmV (s.take n), s.drop n) else none
/-- A text whose length lies below hi. -/
def pT (hi : Nat) : PT (List UInt8) := fun s => (pN 1 0 hi s).bind fun x => if x.1 ≤ x.2.length then some (x.2.take x.1, x.2.drop x.1) else none
def pNm : PT (List UInt8) := fun s => (pT 9 s).bind fun x => if isNameL x.1 = true then some x else none
/-- n more things behind acc. -/
def pR {α : Type} (p : Nat → PT α) : Nat → List α → PT (List α)
  | 0, acc => fun s => some (acc, s)
  | n + 1, acc => fun s => (p acc.length s).bind fun x => pR p n (acc ++ [x.1]) x.2
theorem pR_succ {α : Type} (p : Nat → PT α) (n : Nat) (acc : List α) (s : List UInt8) : pR p (n + 1) acc s = (p acc.length s).bind fun x => pR p n (acc ++ [x.1]) x.2 := rfl
/-- How many, which lies below hi, and as many names. -/
def pL (hi : Nat) : PT (List (List UInt8)) := fun s => (pN 1 0 hi s).bind fun x => pR (fun _ => pNm) x.1 [] x.2
structure AutM where
  k : Nat
  cl : List Nat
  acc : List Nat
  nx : List Nat
def pA : PT AutM := fun s => (pN 1 1 41 s).bind fun x => (pN 2 1 257 x.2).bind fun y => (pR (fun _ => pN 1 0 y.1) 256 [] y.2).bind fun c => (pR (fun _ => pN 1 0 2) x.1 [] c.2).bind fun a => (pR (fun _ => pN 1 0 x.1) (x.1 * y.1) [] a.2).bind fun n => some (⟨y.1, c.1, a.1, n.1⟩, n.2)
structure TstM where
  n : Nat
  k : Nat
  x : Nat
def pTs (nn nc na : Nat) : PT TstM := fun s => (pN 1 0 nn s).bind fun x => (pN 1 0 2 x.2).bind fun y => (pN 1 0 (if y.1 = 1 then na else nc) y.2).bind fun z => some (⟨x.1, y.1, z.1⟩, z.2)
def risB : List (List UInt8) → Bool
  | [] => true
  | [_] => true
  | a :: b :: l => Op.bytesLess a b && risB (b :: l)
structure HitM where
  rc : List UInt8
  bl : List (List UInt8)
  wt : Nat
  ev : Nat
  rp : Nat
def pH : PT HitM := fun s => (pNm s).bind fun x => (pL 5 x.2).bind fun y => if risB y.1 = true then (pN 3 0 100000 y.2).bind fun a => (pN 3 0 100000 a.2).bind fun b => (pN 3 0 100000 b.2).bind fun c => some (⟨x.1, y.1, a.1, b.1, c.1⟩, c.2) else none
structure InM where
  op : Nat
  x : Nat
  a : Nat
  b : Nat
def stands (nr nt n i : Nat) (c : InM) : Bool :=
  match c.op with
  | 0 => c.x == 0 && c.a == 0 && c.b == 0
  | 1 => decide (c.x < nr) && (decide (i < c.a) && decide (c.a < n)) && c.b == 0
  | 2 => decide (c.x < nt) && (decide (i < c.a) && decide (c.a < n)) && (decide (i < c.b) && decide (c.b < n))
  | _ => false
def pI (nr nt n : Nat) (i : Nat) : PT InM := fun s => (pN 1 0 3 s).bind fun o => (pN 1 0 256 o.2).bind fun x => (pN 2 0 65536 x.2).bind fun a => (pN 2 0 65536 a.2).bind fun b => if stands nr nt n i ⟨o.1, x.1, a.1, b.1⟩ = true then some (⟨o.1, x.1, a.1, b.1⟩, b.2) else none
structure Mach where
  names : List (List UInt8)
  consts : List (List UInt8)
  autos : List AutM
  tests : List TstM
  routes : List HitM
  code : List InM
def pCs : PT (List (List UInt8)) := fun s => (pN 1 0 256 s).bind fun x => pR (fun _ => pT 41) x.1 [] x.2
def pAs : PT (List AutM) := fun s => (pN 1 0 256 s).bind fun x => pR (fun _ => pA) x.1 [] x.2
def pTss (nn nc na : Nat) : PT (List TstM) := fun s => (pN 1 0 256 s).bind fun x => pR (fun _ => pTs nn nc na) x.1 [] x.2
def pHs : PT (List HitM) := fun s => (pN 1 0 17 s).bind fun x => pR (fun _ => pH) x.1 [] x.2
def pIs (nr nt : Nat) : PT (List InM) := fun s => (pN 2 1 65536 s).bind fun x => pR (pI nr nt x.1) x.1 [] x.2
/-- What stands behind the mark. -/
def pM : PT Mach := fun s => (pL 256 s).bind fun a => (pCs a.2).bind fun b => (pAs b.2).bind fun c => (pTss a.1.length b.1.length c.1.length c.2).bind fun d => (pHs d.2).bind fun e => (pIs e.1.length d.1.length e.2).bind fun f => some (⟨a.1, b.1, c.1, d.1, e.1, f.1⟩, f.2)
def markL : List UInt8 := [79, 66, 49]
/-- The program that bytes are. -/
def ld (s : List UInt8) : Option Mach := if s.take 3 = markL then (pM (s.drop 3)).bind fun m => if m.2 = [] then some m.1 else none else none

/-- A program's bytes. -/
def eT (t : List UInt8) : List UInt8 := nb 1 t.length ++ t
def eTs (l : List (List UInt8)) : List UInt8 := nb 1 l.length ++ l.flatMap eT
def eA (a : AutM) : List UInt8 := nb 1 a.acc.length ++ (nb 2 a.k ++ (a.cl.flatMap (nb 1) ++ (a.acc.flatMap (nb 1) ++ a.nx.flatMap (nb 1))))
def eTt (t : TstM) : List UInt8 := nb 1 t.n ++ (nb 1 t.k ++ nb 1 t.x)
def eH (h : HitM) : List UInt8 := eT h.rc ++ (eTs h.bl ++ (nb 3 h.wt ++ (nb 3 h.ev ++ nb 3 h.rp)))
def eI (c : InM) : List UInt8 := nb 1 c.op ++ (nb 1 c.x ++ (nb 2 c.a ++ nb 2 c.b))
def eM (m : Mach) : List UInt8 := markL ++ (eTs m.names ++ (eTs m.consts ++ ((nb 1 m.autos.length ++ m.autos.flatMap eA) ++ ((nb 1 m.tests.length ++ m.tests.flatMap eTt) ++ ((nb 1 m.routes.length ++ m.routes.flatMap eH) ++ (nb 2 m.code.length ++ m.code.flatMap eI))))))

theorem pN_some {n lo hi : Nat} {s : List UInt8} {x : Nat × List UInt8} (h : pN n lo hi s = some x) : s = nb n x.1 ++ x.2 ∧ lo ≤ x.1 ∧ x.1 < hi := by
  unfold pN at h
  split at h
  · rename_i h1
    cases h
    refine ⟨?_, h1.2⟩
    rw [nb_nmV n _ (by rw [List.length_take]; omega), List.take_append_drop]
  · cases h
theorem pN_len {n lo hi : Nat} {s : List UInt8} {x : Nat × List UInt8} (h : pN n lo hi s = some x) : x.2.length + n = s.length := by
  rw [(pN_some h).1, List.length_append, nb_len]; omega
theorem pT_some {hi : Nat} {s : List UInt8} {x : List UInt8 × List UInt8} (h : pT hi s = some x) : s = eT x.1 ++ x.2 ∧ x.1.length < hi := by
  unfold pT at h
  obtain ⟨y, h1, h2⟩ := Option.bind_eq_some_iff.1 h
  obtain ⟨e, _, h3⟩ := pN_some h1
  split at h2
  · rename_i h4
    cases h2
    have hl : (y.2.take y.1).length = y.1 := by rw [List.length_take]; omega
    refine ⟨?_, by rw [hl]; exact h3⟩
    rw [e]; unfold eT; rw [hl, List.append_assoc, List.take_append_drop]
  · cases h2
theorem pNm_some {s : List UInt8} {x : List UInt8 × List UInt8} (h : pNm s = some x) : s = eT x.1 ++ x.2 ∧ x.1.length < 9 ∧ isNameL x.1 = true := by
  unfold pNm at h
  obtain ⟨y, h1, h2⟩ := Option.bind_eq_some_iff.1 h
  split at h2
  · rename_i h4
    cases h2
    exact ⟨(pT_some h1).1, (pT_some h1).2, h4⟩
  · cases h2
theorem pR_some {α : Type} {p : Nat → PT α} {enc : α → List UInt8} {C : Nat → α → Prop} (hp : ∀ i s x, p i s = some x → s = enc x.1 ++ x.2 ∧ C i x.1) :
    ∀ (n : Nat) (acc : List α) (s : List UInt8) (y : List α × List UInt8), pR p n acc s = some y → ∃ l, y.1 = acc ++ l ∧ l.length = n ∧ s = l.flatMap enc ++ y.2 ∧ ∀ j (h : j < l.length), C (acc.length + j) l[j]
  | 0, acc, s, y, h => by
    cases h
    exact ⟨[], by simp, rfl, by simp, fun j h => by simp at h⟩
  | n + 1, acc, s, y, h => by
    obtain ⟨x, h1, h2⟩ := Option.bind_eq_some_iff.1 h
    obtain ⟨l, e1, e2, e3, e4⟩ := pR_some hp n _ _ _ h2
    obtain ⟨e5, e6⟩ := hp _ _ _ h1
    refine ⟨x.1 :: l, by rw [e1]; simp, by simp [e2], by rw [e5, e3]; simp, ?_⟩
    intro j hj
    cases j with
    | zero => exact e6
    | succ j =>
      have := e4 j (by simpa using hj)
      rw [List.length_append, List.length_singleton] at this
      rw [List.getElem_cons_succ, show acc.length + (j + 1) = acc.length + 1 + j by omega]
      exact this
theorem pR_all {α : Type} {p : Nat → PT α} {enc : α → List UInt8} {C : α → Prop} (hp : ∀ i s x, p i s = some x → s = enc x.1 ++ x.2 ∧ C x.1) {n : Nat} {s : List UInt8} {y : List α × List UInt8} (h : pR p n [] s = some y) :
    y.1.length = n ∧ s = y.1.flatMap enc ++ y.2 ∧ ∀ x ∈ y.1, C x := by
  obtain ⟨l, e1, e2, e3, e4⟩ := pR_some (C := fun _ => C) hp n [] s y h
  rw [List.nil_append] at e1
  subst e1
  refine ⟨e2, e3, ?_⟩
  intro x hx
  obtain ⟨j, hj, rfl⟩ := List.getElem_of_mem hx
  exact e4 j hj
def okName (n : List UInt8) : Prop := n.length < 9 ∧ isNameL n = true
theorem pL_some {hi : Nat} {s : List UInt8} {x : List (List UInt8) × List UInt8} (h : pL hi s = some x) : s = eTs x.1 ++ x.2 ∧ x.1.length < hi ∧ ∀ n ∈ x.1, okName n := by
  obtain ⟨y, h1, h2⟩ := Option.bind_eq_some_iff.1 h
  obtain ⟨e, _, h3⟩ := pN_some h1
  obtain ⟨e1, e2, e3⟩ := pR_all (enc := eT) (C := okName) (fun _ s x h => by obtain ⟨a, b, c⟩ := pNm_some h; exact ⟨a, b, c⟩) h2
  refine ⟨?_, by omega, e3⟩
  rw [e, e2]; unfold eTs; rw [e1]; simp
structure AutOK (a : AutM) : Prop where
  s1 : 1 ≤ a.acc.length
  s2 : a.acc.length ≤ 40
  k1 : 1 ≤ a.k
  k2 : a.k ≤ 256
  cl : a.cl.length = 256
  cls : ∀ c ∈ a.cl, c < a.k
  acc : ∀ c ∈ a.acc, c < 2
  nx : a.nx.length = a.acc.length * a.k
  nxs : ∀ c ∈ a.nx, c < a.acc.length
theorem pA_some {s : List UInt8} {x : AutM × List UInt8} (h : pA s = some x) : s = eA x.1 ++ x.2 ∧ AutOK x.1 := by
  obtain ⟨a, h1, h⟩ := Option.bind_eq_some_iff.1 h
  obtain ⟨b, h2, h⟩ := Option.bind_eq_some_iff.1 h
  obtain ⟨c, h3, h⟩ := Option.bind_eq_some_iff.1 h
  obtain ⟨d, h4, h⟩ := Option.bind_eq_some_iff.1 h
  obtain ⟨e, h5, h⟩ := Option.bind_eq_some_iff.1 h
  cases h
  obtain ⟨q1, q2, q3⟩ := pN_some h1
  obtain ⟨r1, r2, r3⟩ := pN_some h2
  obtain ⟨l3, e3, c3⟩ := pR_all (enc := nb 1) (C := fun c => c < b.1) (fun _ s x h => ⟨(pN_some h).1, (pN_some h).2.2⟩) h3
  obtain ⟨l4, e4, c4⟩ := pR_all (enc := nb 1) (C := fun c => c < 2) (fun _ s x h => ⟨(pN_some h).1, (pN_some h).2.2⟩) h4
  obtain ⟨l5, e5, c5⟩ := pR_all (enc := nb 1) (C := fun c => c < a.1) (fun _ s x h => ⟨(pN_some h).1, (pN_some h).2.2⟩) h5
  refine ⟨?_, ⟨by show 1 ≤ d.1.length; omega, by show d.1.length ≤ 40; omega, by show 1 ≤ b.1; omega, by show b.1 ≤ 256; omega, l3, c3, c4, by rw [l5, l4], by rw [l4]; exact c5⟩⟩
  rw [q1, r1, e3, e4, e5]; unfold eA; rw [l4]; simp
structure TstOK (nn nc na : Nat) (t : TstM) : Prop where
  n : t.n < nn
  k : t.k < 2
  x : t.x < if t.k = 1 then na else nc
theorem pTs_some {nn nc na : Nat} {s : List UInt8} {x : TstM × List UInt8} (h : pTs nn nc na s = some x) : s = eTt x.1 ++ x.2 ∧ TstOK nn nc na x.1 := by
  obtain ⟨a, h1, h⟩ := Option.bind_eq_some_iff.1 h
  obtain ⟨b, h2, h⟩ := Option.bind_eq_some_iff.1 h
  obtain ⟨c, h3, h⟩ := Option.bind_eq_some_iff.1 h
  cases h
  obtain ⟨q1, q2, q3⟩ := pN_some h1
  obtain ⟨r1, r2, r3⟩ := pN_some h2
  obtain ⟨t1, t2, t3⟩ := pN_some h3
  refine ⟨?_, ⟨q3, r3, t3⟩⟩
  rw [q1, r1, t1]; unfold eTt; simp
structure HitOK (h : HitM) : Prop where
  rc : okName h.rc
  b1 : h.bl.length < 5
  b2 : ∀ n ∈ h.bl, okName n
  wt : h.wt < 100000
  ev : h.ev < 100000
  rp : h.rp < 100000
theorem pH_some {s : List UInt8} {x : HitM × List UInt8} (h : pH s = some x) : s = eH x.1 ++ x.2 ∧ HitOK x.1 := by
  obtain ⟨a, h1, h⟩ := Option.bind_eq_some_iff.1 h
  obtain ⟨b, h2, h⟩ := Option.bind_eq_some_iff.1 h
  split at h
  · obtain ⟨c, h3, h⟩ := Option.bind_eq_some_iff.1 h
    obtain ⟨d, h4, h⟩ := Option.bind_eq_some_iff.1 h
    obtain ⟨e, h5, h⟩ := Option.bind_eq_some_iff.1 h
    cases h
    obtain ⟨q1, q2, q3⟩ := pNm_some h1
    obtain ⟨r1, r2, r3⟩ := pL_some h2
    obtain ⟨t1, t2, t3⟩ := pN_some h3
    obtain ⟨u1, u2, u3⟩ := pN_some h4
    obtain ⟨v1, v2, v3⟩ := pN_some h5
    refine ⟨?_, ⟨⟨q2, q3⟩, r2, r3, t3, u3, v3⟩⟩
    rw [q1, r1, t1, u1, v1]; unfold eH; simp
  · cases h
structure InOK (nr nt n i : Nat) (c : InM) : Prop where
  s : stands nr nt n i c = true
  op : c.op < 3
  x : c.x < 256
  a : c.a < 65536
  b : c.b < 65536
theorem pI_some {nr nt n i : Nat} {s : List UInt8} {x : InM × List UInt8} (h : pI nr nt n i s = some x) : s = eI x.1 ++ x.2 ∧ InOK nr nt n i x.1 := by
  obtain ⟨a, h1, h⟩ := Option.bind_eq_some_iff.1 h
  obtain ⟨b, h2, h⟩ := Option.bind_eq_some_iff.1 h
  obtain ⟨c, h3, h⟩ := Option.bind_eq_some_iff.1 h
  obtain ⟨d, h4, h⟩ := Option.bind_eq_some_iff.1 h
  split at h
  · rename_i hs
    cases h
    obtain ⟨q1, q2, q3⟩ := pN_some h1
    obtain ⟨r1, r2, r3⟩ := pN_some h2
    obtain ⟨t1, t2, t3⟩ := pN_some h3
    obtain ⟨u1, u2, u3⟩ := pN_some h4
    refine ⟨?_, ⟨hs, q3, r3, t3, u3⟩⟩
    rw [q1, r1, t1, u1]; unfold eI; simp
  · cases h
theorem pCs_some {s : List UInt8} {x : List (List UInt8) × List UInt8} (h : pCs s = some x) : s = eTs x.1 ++ x.2 ∧ x.1.length < 256 ∧ ∀ t ∈ x.1, t.length < 41 := by
  obtain ⟨y, h1, h2⟩ := Option.bind_eq_some_iff.1 h
  obtain ⟨e, _, h3⟩ := pN_some h1
  obtain ⟨e1, e2, e3⟩ := pR_all (enc := eT) (C := fun t => t.length < 41) (fun _ s x h => pT_some h) h2
  refine ⟨?_, by omega, e3⟩
  rw [e, e2]; unfold eTs; rw [e1]; simp
theorem pAs_some {s : List UInt8} {x : List AutM × List UInt8} (h : pAs s = some x) : s = (nb 1 x.1.length ++ x.1.flatMap eA) ++ x.2 ∧ x.1.length < 256 ∧ ∀ t ∈ x.1, AutOK t := by
  obtain ⟨y, h1, h2⟩ := Option.bind_eq_some_iff.1 h
  obtain ⟨e, _, h3⟩ := pN_some h1
  obtain ⟨e1, e2, e3⟩ := pR_all (enc := eA) (C := AutOK) (fun _ s x h => pA_some h) h2
  refine ⟨?_, by omega, e3⟩
  rw [e, e2, e1]; simp
theorem pTss_some {nn nc na : Nat} {s : List UInt8} {x : List TstM × List UInt8} (h : pTss nn nc na s = some x) : s = (nb 1 x.1.length ++ x.1.flatMap eTt) ++ x.2 ∧ x.1.length < 256 ∧ ∀ t ∈ x.1, TstOK nn nc na t := by
  obtain ⟨y, h1, h2⟩ := Option.bind_eq_some_iff.1 h
  obtain ⟨e, _, h3⟩ := pN_some h1
  obtain ⟨e1, e2, e3⟩ := pR_all (enc := eTt) (C := TstOK nn nc na) (fun _ s x h => pTs_some h) h2
  refine ⟨?_, by omega, e3⟩
  rw [e, e2, e1]; simp
theorem pHs_some {s : List UInt8} {x : List HitM × List UInt8} (h : pHs s = some x) : s = (nb 1 x.1.length ++ x.1.flatMap eH) ++ x.2 ∧ x.1.length < 17 ∧ ∀ t ∈ x.1, HitOK t := by
  obtain ⟨y, h1, h2⟩ := Option.bind_eq_some_iff.1 h
  obtain ⟨e, _, h3⟩ := pN_some h1
  obtain ⟨e1, e2, e3⟩ := pR_all (enc := eH) (C := HitOK) (fun _ s x h => pH_some h) h2
  refine ⟨?_, by omega, e3⟩
  rw [e, e2, e1]; simp
theorem pIs_some {nr nt : Nat} {s : List UInt8} {x : List InM × List UInt8} (h : pIs nr nt s = some x) : s = (nb 2 x.1.length ++ x.1.flatMap eI) ++ x.2 ∧ 1 ≤ x.1.length ∧ x.1.length < 65536 ∧ ∀ j (h : j < x.1.length), InOK nr nt x.1.length j x.1[j] := by
  obtain ⟨y, h1, h2⟩ := Option.bind_eq_some_iff.1 h
  obtain ⟨e, h4, h3⟩ := pN_some h1
  obtain ⟨l, e1, e2, e3, e4⟩ := pR_some (enc := eI) (C := InOK nr nt y.1) (fun _ s x h => pI_some h) _ _ _ _ h2
  rw [List.nil_append] at e1
  subst e1
  refine ⟨?_, by omega, by omega, ?_⟩
  · rw [e, e3, e2]; simp
  · intro j hj
    have := e4 j hj
    simpa [e2] using this
/-- What is held of a program that was loaded. -/
structure MOK (m : Mach) : Prop where
  names : m.names.length < 256 ∧ ∀ n ∈ m.names, okName n
  consts : m.consts.length < 256 ∧ ∀ n ∈ m.consts, n.length < 41
  autos : m.autos.length < 256 ∧ ∀ a ∈ m.autos, AutOK a
  tests : m.tests.length < 256 ∧ ∀ t ∈ m.tests, TstOK m.names.length m.consts.length m.autos.length t
  routes : m.routes.length < 17 ∧ ∀ h ∈ m.routes, HitOK h
  code : 1 ≤ m.code.length ∧ m.code.length < 65536 ∧ ∀ j (h : j < m.code.length), InOK m.routes.length m.tests.length m.code.length j m.code[j]
theorem pM_some {s : List UInt8} {x : Mach × List UInt8} (h : pM s = some x) : markL ++ s = eM x.1 ++ x.2 ∧ MOK x.1 := by
  obtain ⟨a, h1, h⟩ := Option.bind_eq_some_iff.1 h
  obtain ⟨b, h2, h⟩ := Option.bind_eq_some_iff.1 h
  obtain ⟨c, h3, h⟩ := Option.bind_eq_some_iff.1 h
  obtain ⟨d, h4, h⟩ := Option.bind_eq_some_iff.1 h
  obtain ⟨e, h5, h⟩ := Option.bind_eq_some_iff.1 h
  obtain ⟨f, h6, h⟩ := Option.bind_eq_some_iff.1 h
  cases h
  have q1 := pL_some h1
  have q2 := pCs_some h2
  have q3 := pAs_some h3
  have q4 := pTss_some h4
  have q5 := pHs_some h5
  have q6 := pIs_some h6
  refine ⟨?_, ⟨q1.2, q2.2, q3.2, q4.2, q5.2, q6.2⟩⟩
  rw [q1.1, q2.1, q3.1, q4.1, q5.1, q6.1]; unfold eM; simp only [List.append_assoc]
theorem ld_some {s : List UInt8} {m : Mach} (h : ld s = some m) : s = eM m ∧ MOK m := by
  unfold ld at h
  split at h
  · rename_i hm
    obtain ⟨x, h1, h2⟩ := Option.bind_eq_some_iff.1 h
    split at h2
    · rename_i h3
      cases h2
      obtain ⟨e1, e2⟩ := pM_some h1
      rw [h3, List.append_nil, ← hm, List.take_append_drop] at e1
      exact ⟨e1, e2⟩
    · cases h2
  · cases h

/-- Does a test hold? Where does a program send? -/
def autT (a : AutM) (s : Nat) : List UInt8 → Nat
  | [] => s
  | b :: v => autT a (a.nx.getD (s * a.k + a.cl.getD b.toNat 0) 0) v
def tstM (m : Mach) (v : List UInt8) (t : TstM) : Bool :=
  if t.k = 0 then v == m.consts.getD t.x [] else (m.autos.getD t.x ⟨0, [], [], []⟩).acc.getD (autT (m.autos.getD t.x ⟨0, [], [], []⟩) 0 v) 0 == 1
/-- The routes that are sent, by their numbers, the program going on at k. -/
def runM (m : Mach) (V : List UInt8 → List UInt8) : Nat → Nat → List Nat
  | 0, _ => []
  | n + 1, k => match m.code[k]? with
    | some c => match c.op with
      | 0 => []
      | 1 => c.x :: runM m V n c.a
      | _ => match m.tests[c.x]? with
        | some t => runM m V n (if tstM m (V (m.names.getD t.n [])) t then c.a else c.b)
        | none => []
    | none => []

end Go.Proofs.YtmaoiefkjpgjfaaGreat
namespace Go.Proofs.YtmaoiefkjpgjfaaGreat
open Go.RowKit

/-- A row that is read: things of k cells each; its block is none of A. -/
def RW (A : List Nat) (k : Nat) (w : World) (v : Value) (vs : List (List Value)) : Prop :=
  ∃ a cap, v = .slice a vs.length cap ∧ vs.length ≤ cap ∧ ∀ (j : Nat) (h : j < vs.length), ∃ g off, a = some ⟨g, off, none⟩ ∧ g ∉ A ∧ g < w.heap.size ∧ ∀ c x, vs[j][c]? = some x → w.cell? ⟨g, off + j * k + c, none⟩ = some x
theorem RW.frm {A S : List Nat} {k : Nat} {w w' : World} {v : Value} {vs : List (List Value)} (h : RW A k w v vs) (f : Frm S w w') (hS : ∀ g ∈ S, g ∈ A) : RW A k w' v vs := by
  obtain ⟨a, cap, rfl, h1, h2⟩ := h
  refine ⟨a, cap, rfl, h1, fun j hj => ?_⟩
  obtain ⟨g, off, rfl, h3, h4, h5⟩ := h2 j hj
  exact ⟨g, off, rfl, h3, Nat.lt_of_lt_of_le h4 f.size, fun c x hx => (f.cell (p := ⟨g, off + j * k + c, none⟩) h4 (fun hm => h3 (hS g hm))).trans (h5 c x hx)⟩
theorem RW.grown {A : List Nat} {k : Nat} {w w' : World} {v : Value} {vs : List (List Value)} {row : Option Nat} (h : RW A k w v vs) (hg : w.grownBy w' row) (hr : ∀ r, row = some r → r ∈ A) : RW A k w' v vs :=
  h.frm (S := A) ((Frm.refl A w).grown hg (fun r e => .inl (hr r e))) (fun _ h => h)
theorem RW.avoid {A B : List Nat} {k : Nat} {w : World} {v : Value} {vs : List (List Value)} (h : RW A k w v vs) (hB : ∀ g ∈ B, g ∈ A ∨ w.heap.size ≤ g) : RW B k w v vs := by
  obtain ⟨a, cap, rfl, h1, h2⟩ := h
  refine ⟨a, cap, rfl, h1, fun j hj => ?_⟩
  obtain ⟨g, off, rfl, h3, h4, h5⟩ := h2 j hj
  refine ⟨g, off, rfl, fun hm => ?_, h4, h5⟩
  rcases hB g hm with h | h
  · exact h3 h
  · omega
theorem RW.nil (A : List Nat) (k : Nat) (w : World) : RW A k w (.slice none 0 0) [] := ⟨none, 0, rfl, Nat.le_refl _, fun j hj => absurd hj (by simp)⟩

/-- A row that the call has made: things of k cells each. -/
def OW (e : TypeId) (k base : Nat) (w : World) (v : Value) (vs : List (List Value)) : Prop := w.ownsRow base e k v vs.length vs.flatten ∧ ∀ x ∈ vs, x.length = k
theorem OW.nil (e : TypeId) (k base : Nat) (w : World) : OW e k base w (.slice none 0 0) [] := ⟨World.ownsRow_nil w base e k, by simp⟩
theorem OW.frm {e : TypeId} {k base : Nat} {S : List Nat} {w w' : World} {v : Value} {vs : List (List Value)} (h : OW e k base w v vs) (f : Frm S w w') (hS : ∀ g ∈ S, g < base) : OW e k base w' v vs := ⟨own_frm h.1 f hS, h.2⟩
theorem OW.shape {e : TypeId} {k base : Nat} {w : World} {v : Value} {vs : List (List Value)} (h : OW e k base w v vs) : ∃ a cap, v = .slice a vs.length cap := by
  rcases h.1.2 with ⟨e, h0⟩ | ⟨g, cap, cur, e, _⟩
  · exact ⟨none, 0, by rw [e, h0]⟩
  · exact ⟨_, _, e⟩
theorem OW.lt {e : TypeId} {k base : Nat} {w : World} {v : Value} {vs : List (List Value)} (h : OW e k base w v vs) {g : Nat} (hg : v.ownBlock = some g) : base ≤ g ∧ g < w.heap.size := h.1.lt g hg
theorem OW.empty (e : TypeId) (k base : Nat) (w : World) (hb : base ≤ w.heap.size) : OW e k base (w.alloc (.cells #[] e)) (.slice (some ⟨w.heap.size, 0, none⟩) 0 0) [] := by
  refine ⟨⟨by simp, .inr ⟨w.heap.size, 0, #[], rfl, hb, ?_, Nat.le_refl _, by unfold maxLen; omega, by simp, by simp⟩⟩, by simp⟩
  show (w.heap.push (.cells #[] e))[w.heap.size]? = _
  simp
theorem vflat_get {k : Nat} : ∀ (vs : List (List Value)), (∀ x ∈ vs, x.length = k) → ∀ (j : Nat) (h : j < vs.length) (c : Nat) (x : Value), vs[j][c]? = some x → vs.flatten[j * k + c]? = some x
  | [], _, j, h, _, _, _ => absurd h (by simp)
  | y :: vs, hk, 0, _, c, x, hx => by
    have hx' : y[c]? = some x := hx
    have hc : c < y.length := (List.getElem?_eq_some_iff.1 hx').1
    rw [List.flatten_cons, Nat.zero_mul, Nat.zero_add, List.getElem?_append_left hc]; exact hx'
  | y :: vs, hk, j + 1, h, c, x, hx => by
    have hy := hk y (by simp)
    have hm : (j + 1) * k = j * k + k := Nat.succ_mul j k
    rw [List.flatten_cons, List.getElem?_append_right (by omega), show (j + 1) * k + c - y.length = j * k + c by omega]
    exact vflat_get vs (fun z hz => hk z (by simp [hz])) j (by simpa using h) c x (by simpa using hx)
theorem OW.rw {e : TypeId} {k base : Nat} {w : World} {v : Value} {vs : List (List Value)} (h : OW e k base w v vs) {A : List Nat} (hA : ∀ g, v.ownBlock = some g → g ∉ A) : RW A k w v vs := by
  rcases h.1.2 with ⟨rfl, h0⟩ | ⟨g, cap, cur, rfl, hb, hg, hn, hc, hcs, ht⟩
  · rw [List.length_eq_zero_iff.1 h0]; exact RW.nil _ _ _
  · refine ⟨_, cap, rfl, hn, fun j hj => ⟨g, 0, rfl, hA g rfl, (Array.getElem?_eq_some_iff.1 hg).1, fun c x hx => ?_⟩⟩
    have := World.ownsRow.cells h.1 (g := g) rfl (j * k + c) x (vflat_get vs h.2 j hj c x hx)
    rwa [add0, show j * k + c = 0 + j * k + c by omega] at this
theorem info_parts2 {e : TypeId} {z : Value} {k b : Nat} (h : (Tryz.prog.info? e).map (fun i => (i.zero, i.size, i.bytes)) = some (some z, k, b)) : ∃ i, Tryz.prog.info? e = some i ∧ i.zero = some z ∧ i.size = k ∧ i.bytes = b := by
  cases hi : Tryz.prog.info? e with
  | none => rw [hi] at h; cases h
  | some i =>
    rw [hi] at h
    simp only [Option.map_some, Option.some.injEq, Prod.mk.injEq] at h
    exact ⟨i, rfl, h.1, h.2.1, h.2.2⟩
/-- Append of one thing. -/
theorem wp_appG {ops : Array Oper} {rest : List Oper} {o : Oper} {a : Act} {Q : Exit → Act → World → Prop} (w : World) (hgd : o.guard = none) (s x : Operand) (t e : TypeId) (z : Value) (k by1 : Nat)
    (hinfo : (Tryz.prog.info? e).map (fun i => (i.zero, i.size, i.bytes)) = some (some z, k, by1)) (ht : Tryz.prog.underlying t = some (.slice e)) (hzs : z.cells.size = k) (hsz : 0 < k)
    (ho : o.op = .call { callee := .builtin .append, args := #[s, x], argTypes := #[t, t] })
    (base : Nat) (v : Value) (vs : List (List Value)) (b1 : Nat) (cs : List Value) (hs : a.eval s = v) (hown : OW e k base w v vs) (hx : a.eval x = .slice (some ⟨b1, 0, none⟩) 1 1)
    (hcl : cs.length = k) (hc : ∀ j u, cs[j]? = some u → w.cell? ⟨b1, j, none⟩ = some u) (hv : ∀ u ∈ cs, u.oneCell' = true) (hlen : (vs.length + 1) * by1 ≤ 140737488355328) (hlen2 : vs.length ≤ 140737488355328) (hbase : base ≤ w.heap.size)
    (h : ∀ g cap w', OW e k base w' (.slice (some ⟨g, 0, none⟩) (vs.length + 1) cap) (vs ++ [cs]) → w.grownBy w' v.ownBlock → (v.ownBlock = some g ∨ g = w.heap.size) → g < w'.heap.size → wpList Tryz.prog ops Q rest (a.put o.dst (.slice (some ⟨g, 0, none⟩) (vs.length + 1) cap)) w') :
    wpList Tryz.prog ops Q (o :: rest) a w := by
  obtain ⟨i0, hi, hz0, hz1, hz2⟩ := info_parts2 hinfo
  refine wpList_append_lies w hgd s x t ho base e i0 z k by1 ht hi hz0 hz1 hz2 hzs hsz v vs.length vs.flatten hs hown.1 ⟨b1, 0, none⟩ 1 1 cs hx (by rw [hcl]; omega) ?_ hv (by decide) (by unfold maxLen; omega) hlen hbase w.heap.size rfl ?_
  · intro j u hj
    rw [add0]; exact hc j u hj
  · intro g cap w' h1 h2 h3 h4
    refine h g cap w' ⟨?_, ?_⟩ h2 h3 h4
    · rw [List.flatten_append, List.flatten_singleton, List.length_append]; exact h1
    · intro y hy
      rw [List.mem_append, List.mem_singleton] at hy
      rcases hy with hy | rfl
      · exact hown.2 y hy
      · exact hcl
end Go.Proofs.YtmaoiefkjpgjfaaGreat
