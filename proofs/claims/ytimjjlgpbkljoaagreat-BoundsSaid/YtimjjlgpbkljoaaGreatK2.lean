import Derived.Test.YtimjjlgpbkljoaaGreatMI
import Derived.Test.YtimjjlgpbkljoaaGreatK1
namespace Go.Proofs.YtimjjlgpbkljoaaGreat
open Go.RowKit
set_option linter.unusedVariables false
set_option linter.unusedSimpArgs false
set_option linter.unnecessarySimpa false

/-- A row of one's own: the type of its things, their cells, where it lies, what it holds. -/
structure RD where
  ty : TypeId
  k : Nat
  v : Value
  vs : List (List Value)
/-- Rows of one's own, each in a block of its own. -/
structure RWS (base : Nat) (w : World) (rs : List RD) : Prop where
  o : ∀ (i : Nat) (r : RD), rs[i]? = some r → OW r.ty r.k base w r.v r.vs
  d : ∀ (i j : Nat) (r s : RD), i ≠ j → rs[i]? = some r → rs[j]? = some s → ∀ g, r.v.ownBlock = some g → s.v.ownBlock ≠ some g
/-- The blocks of rows. -/
def owns (rs : List RD) : List Nat := rs.flatMap fun r => r.v.ownBlock.toList
theorem mem_owns {rs : List RD} {g : Nat} : g ∈ owns rs ↔ ∃ (i : Nat) (r : RD), rs[i]? = some r ∧ r.v.ownBlock = some g := by
  unfold owns
  rw [List.mem_flatMap]
  constructor
  · rintro ⟨r, hr, hg⟩
    obtain ⟨i, hi, rfl⟩ := List.mem_iff_getElem.1 hr
    exact ⟨i, rs[i], List.getElem?_eq_getElem hi, by simpa using hg⟩
  · rintro ⟨i, r, hi, hg⟩
    exact ⟨r, List.mem_of_getElem? hi, by simp [hg]⟩
theorem OW.farG {e : TypeId} {k base : Nat} {w w' : World} {v : Value} {vs : List (List Value)} {row : Option Nat} (h : OW e k base w v vs) (hg : w.grownBy w' row) (hb : ∀ g, row = some g → v.ownBlock ≠ some g) : OW e k base w' v vs := by
  refine ⟨⟨h.1.1, ?_⟩, h.2⟩
  rcases h.1.2 with hn | ⟨g, cap, cur, rfl, hbg, hgg, rest⟩
  · exact .inl hn
  · refine .inr ⟨g, cap, cur, rfl, hbg, ?_, rest⟩
    rw [hg.block g (Array.getElem?_eq_some_iff.1 hgg).1 (fun e => hb g e.symm rfl)]
    exact hgg
theorem RWS.frm {base : Nat} {S : List Nat} {w w' : World} {rs : List RD} (h : RWS base w rs) (f : Frm S w w') (hS : ∀ g ∈ S, g < base) : RWS base w' rs := ⟨fun i r hr => (h.o i r hr).frm f hS, h.d⟩
theorem RWS.grow {base gg : Nat} {w w' : World} {rs : List RD} (h : RWS base w rs) (i : Nat) {r r' : RD} (hi : rs[i]? = some r) (hg : w.grownBy w' r.v.ownBlock) (ho : OW r'.ty r'.k base w' r'.v r'.vs) (hb : r'.v.ownBlock = some gg) (ha : r.v.ownBlock = some gg ∨ gg = w.heap.size) : RWS base w' (rs.set i r') := by
  have hil : i < rs.length := (List.getElem?_eq_some_iff.1 hi).1
  have get : ∀ (j : Nat) (s : RD), (rs.set i r')[j]? = some s → (j = i ∧ s = r') ∨ (j ≠ i ∧ rs[j]? = some s) := by
    intro j s hs
    by_cases e : j = i
    · subst e
      rw [List.getElem?_set_self hil] at hs
      exact .inl ⟨rfl, (Option.some.inj hs).symm⟩
    · rw [List.getElem?_set_ne (fun h => e h.symm)] at hs
      exact .inr ⟨e, hs⟩
  have nw : ∀ (j : Nat) (s : RD), j ≠ i → rs[j]? = some s → s.v.ownBlock ≠ some gg := by
    intro j s hj hs e
    rcases ha with ha | ha
    · exact h.d i j r s (fun k => hj k.symm) hi hs gg ha e
    · have := (h.o j s hs).lt e; omega
  refine ⟨fun j s hs => ?_, fun j k a b hjk hj hk g hga => ?_⟩
  · rcases get j s hs with ⟨_, rfl⟩ | ⟨hj, hs⟩
    · exact ho
    · exact (h.o j s hs).farG hg (fun g hr => h.d i j r s (fun k => hj k.symm) hi hs g hr)
  · rcases get j a hj with ⟨rfl, rfl⟩ | ⟨hj1, hj2⟩ <;> rcases get k b hk with ⟨rfl, rfl⟩ | ⟨hk1, hk2⟩
    · exact absurd rfl hjk
    · rw [hb] at hga; cases hga; exact nw k b hk1 hk2
    · intro e; rw [hb] at e; cases e; exact nw j a hj1 hj2 hga
    · exact h.d j k a b hjk hj2 hk2 g hga
theorem RowI.turn {α : Type} {I : Inn α} {A B : List Nat} {gg : Nat} {w w' : World} {row : Option Nat} {css : List (Array Value)} {xs : List α} (h : RowI I A w css xs) (hg : w.grownBy w' row) (hr : ∀ r, row = some r → r ∈ A) (ha : row = some gg ∨ gg = w.heap.size) (hB : ∀ g ∈ B, g ∈ A ∨ g = gg) : RowI I B w' css xs := by
  have h1 : RowI I (A ++ [w.heap.size]) w css xs := h.avoid (by intro g hm; simp at hm; rcases hm with hm | hm; exact .inl hm; exact .inr (by omega))
  have h2 : RowI I (A ++ [w.heap.size]) w' css xs := h1.frm (S := row.toList) ((Frm.refl row.toList w).grown hg (fun r hr => .inl (by simp [hr]))) (by intro g hm; simp at hm; simp [hr g hm])
  refine h2.avoid (fun g hm => .inl ?_)
  rcases hB g hm with hm | rfl
  · simp [hm]
  · rcases ha with ha | ha
    · simp [hr _ ha]
    · simp [ha]
/-- The conditions of a route. -/
def cc (L : List (Nat × Bool)) : List (List Value) := L.map fun c => [.int .i64 (c.1 : Nat), .bool c.2]
theorem cc_len (L : List (Nat × Bool)) : (cc L).length = L.length := by simp [cc]
theorem cc_snoc (L : List (Nat × Bool)) (c : Nat × Bool) : cc L ++ [[.int .i64 (c.1 : Nat), .bool c.2]] = cc (L ++ [c]) := by simp [cc]
def conI : Inn (List (Nat × Bool)) where
  rel A w cs x := ∃ vb, cs = #[vb] ∧ RW A 2 w vb (cc x)
  frm := by
    rintro A S w w' cs x ⟨vb, h1, h2⟩ f hS
    exact ⟨vb, h1, h2.frm f hS⟩
  avoid := by
    rintro A B w cs x ⟨vb, h1, h2⟩ hB
    exact ⟨vb, h1, h2.avoid hB⟩
/-- A compiler's rows: what it has read. None of their inner rows lies in a block of Z. -/
structure KG (Z : List Nat) (w0 : World) (kb : Nat) (w : World) (rs : List RD) (ca : List (Array Value)) (sa : List AutM) (cq : List (Array Value)) (sq : List (List (Nat × Bool))) : Prop where
  fr : Frm [kb] w0 w
  lo : kb < w0.heap.size
  rw : RWS w0.heap.size w rs
  ai : RowI autI (Z ++ kb :: owns rs) w ca sa
  qi : RowI conI (Z ++ kb :: owns rs) w cq sq
theorem KG.frm {Z : List Nat} {w0 : World} {kb : Nat} {S : List Nat} {w w' : World} {rs : List RD} {ca : List (Array Value)} {sa : List AutM} {cq : List (Array Value)} {sq : List (List (Nat × Bool))} (h : KG Z w0 kb w rs ca sa cq sq) (f : Frm S w w') (hS : ∀ g ∈ S, g = kb) : KG Z w0 kb w' rs ca sa cq sq :=
  ⟨h.fr.over f (fun x hx => .inr (by simp [hS x hx])), h.lo, h.rw.frm f (fun g hg => by rw [hS g hg]; exact h.lo), h.ai.frm f (fun g hg => by simp [hS g hg]), h.qi.frm f (fun g hg => by simp [hS g hg])⟩
/-- One block more that no inner row lies in. -/
theorem KG.addZ {Z : List Nat} {w0 : World} {kb : Nat} {w : World} {rs : List RD} {ca : List (Array Value)} {sa : List AutM} {cq : List (Array Value)} {sq : List (List (Nat × Bool))} (h : KG Z w0 kb w rs ca sa cq sq) {b : Nat} (hb : w.heap.size ≤ b) : KG (b :: Z) w0 kb w rs ca sa cq sq :=
  ⟨h.fr, h.lo, h.rw, h.ai.avoid (fun g hg => by simp at hg ⊢; rcases hg with rfl | hg; exact .inr hb; exact .inl hg), h.qi.avoid (fun g hg => by simp at hg ⊢; rcases hg with rfl | hg; exact .inr hb; exact .inl hg)⟩
theorem KG.lessZ {Z : List Nat} {w0 : World} {kb : Nat} {w : World} {rs : List RD} {ca : List (Array Value)} {sa : List AutM} {cq : List (Array Value)} {sq : List (List (Nat × Bool))} {b : Nat} (h : KG (b :: Z) w0 kb w rs ca sa cq sq) : KG Z w0 kb w rs ca sa cq sq :=
  ⟨h.fr, h.lo, h.rw, h.ai.avoid (fun g hg => .inl (by simp at hg ⊢; exact .inr hg)), h.qi.avoid (fun g hg => .inl (by simp at hg ⊢; exact .inr hg))⟩
/-- Blocks of Z that are no rows of the compiler's may turn. -/
theorem KG.off {Z : List Nat} {w0 : World} {kb : Nat} {S : List Nat} {w w' : World} {rs : List RD} {ca : List (Array Value)} {sa : List AutM} {cq : List (Array Value)} {sq : List (List (Nat × Bool))} (h : KG Z w0 kb w rs ca sa cq sq) (f : Frm S w w') (hZ : ∀ g ∈ S, g ∈ Z) (h0 : ∀ g ∈ S, w0.heap.size ≤ g) (ho : ∀ g ∈ S, g ∉ owns rs) : KG Z w0 kb w' rs ca sa cq sq := by
  refine ⟨h.fr.over f (fun x hx => .inl (h0 x hx)), h.lo, ⟨fun i r hr => ?_, h.rw.d⟩, h.ai.frm f (fun g hg => by simp [hZ g hg]), h.qi.frm f (fun g hg => by simp [hZ g hg])⟩
  have ow := h.rw.o i r hr
  refine ⟨⟨ow.1.1, ?_⟩, ow.2⟩
  rcases ow.1.2 with hn | ⟨g, cap, cur, e, hbg, hgg, rest⟩
  · exact .inl hn
  · refine .inr ⟨g, cap, cur, e, hbg, ?_, rest⟩
    rw [f.block g (Array.getElem?_eq_some_iff.1 hgg).1 (fun hm => ho g hm (mem_owns.2 ⟨i, r, hr, by rw [e]; rfl⟩))]
    exact hgg
theorem KG.grow {Z : List Nat} {w0 : World} {kb gg : Nat} {w w' : World} {rs : List RD} {ca : List (Array Value)} {sa : List AutM} {cq : List (Array Value)} {sq : List (List (Nat × Bool))} (h : KG Z w0 kb w rs ca sa cq sq) (i : Nat) {r r' : RD} (hi : rs[i]? = some r) (hg : w.grownBy w' r.v.ownBlock) (ho : OW r'.ty r'.k w0.heap.size w' r'.v r'.vs) (hb : r'.v.ownBlock = some gg) (ha : r.v.ownBlock = some gg ∨ gg = w.heap.size) : KG Z w0 kb w' (rs.set i r') ca sa cq sq := by
  have hil : i < rs.length := (List.getElem?_eq_some_iff.1 hi).1
  have hr : ∀ g, r.v.ownBlock = some g → g ∈ Z ++ kb :: owns rs := fun g e => List.mem_append.2 (.inr (List.mem_cons.2 (.inr (mem_owns.2 ⟨i, r, hi, e⟩))))
  have hB : ∀ g ∈ Z ++ kb :: owns (rs.set i r'), g ∈ Z ++ kb :: owns rs ∨ g = gg := by
    intro g hm
    rcases List.mem_append.1 hm with hm | hm
    · exact .inl (List.mem_append.2 (.inl hm))
    rcases List.mem_cons.1 hm with rfl | hm
    · exact .inl (by simp)
    · obtain ⟨j, s, hj, hs⟩ := mem_owns.1 hm
      by_cases e : j = i
      · subst e
        rw [List.getElem?_set_self hil] at hj
        cases hj
        rw [hb] at hs
        exact .inr (Option.some.inj hs).symm
      · rw [List.getElem?_set_ne (fun h => e h.symm)] at hj
        exact .inl (List.mem_append.2 (.inr (List.mem_cons.2 (.inr (mem_owns.2 ⟨j, s, hj, hs⟩)))))
  exact ⟨h.fr.grown hg (fun g e => .inr ((h.rw.o i r hi).lt e).1), h.lo, h.rw.grow i hi hg ho hb ha, h.ai.turn hg hr ha hB, h.qi.turn hg hr ha hB⟩

/-- The four rows of a compiler besides its program's. -/
structure V4 where
  rt : Value
  x : Value
  q : Value
  l : Value
abbrev kcell (V : V6) (U : V4) : Array Value := #[V.n, V.c, V.a, V.t, V.r, V.i, U.rt, U.x, U.q, U.l]
/-- The compiler in memory. -/
def KR (w : World) (b : Nat) (V : V6) (U : V4) : Prop := w.heap[b]? = some (.cells (kcell V U) 51 (0, 0))
theorem KR.c {w : World} {b : Nat} {V : V6} {U : V4} (h : KR w b V U) (i : Nat) : w.cell? ⟨b, i, none⟩ = (kcell V U)[i]? := by
  unfold KR at h
  simp [World.cell?, h]
theorem KR.fz {w : World} {b : Nat} {V : V6} {U : V4} (h : KR w b V U) (o : Nat) : w.frozen? ⟨b, o, none⟩ = false := by
  unfold KR at h
  simp [World.frozen?, h]
theorem KR.lt {w : World} {b : Nat} {V : V6} {U : V4} (h : KR w b V U) : b < w.heap.size := (Array.getElem?_eq_some_iff.1 h).1
theorem KR.frm {S : List Nat} {w w' : World} {b : Nat} {V : V6} {U : V4} (h : KR w b V U) (f : Frm S w w') (hS : b ∉ S) : KR w' b V U := (f.block b h.lt hS).trans h
theorem KR.grown {w w' : World} {b : Nat} {V : V6} {U : V4} {row : Option Nat} (h : KR w b V U) (hg : w.grownBy w' row) (hr : ∀ r, row = some r → r ≠ b) : KR w' b V U := (hg.block b h.lt (fun e => hr b e.symm rfl)).trans h
theorem KR.set {w : World} {b : Nat} {V V' : V6} {U U' : V4} (h : KR w b V U) (i : Nat) (v : Value) (e : (kcell V U).setIfInBounds i v = kcell V' U') : KR (w.setCell ⟨b, i, none⟩ v) b V' U' := by
  unfold KR at h ⊢
  rw [← e]
  simp [World.setCell, Array.getElem?_modify, h]

/-- The rows that a compiler's reading turns. -/
abbrev krs (V : V6) (U : V4) (s : CS) (ca cq : List (Array Value)) : List RD :=
  [⟨9, 1, V.n, sc s.n⟩, ⟨9, 1, V.c, sc s.c⟩, ⟨9, 1, U.x, sc s.x⟩, ⟨105, 259, V.a, lst ca⟩, ⟨68, 3, V.t, tc s.t⟩, ⟨64, 1, U.q, lst cq⟩]
/-- A compiler that has read some. -/
structure KS (Z : List Nat) (w0 : World) (kb : Nat) (w : World) (V : V6) (U : V4) (s : CS) : Prop where
  row : KR w kb V U
  g : ∃ ca cq, KG Z w0 kb w (krs V U s ca cq) ca s.a cq s.q
theorem KS.frm {Z : List Nat} {w0 : World} {kb : Nat} {w w' : World} {V : V6} {U : V4} {s : CS} (h : KS Z w0 kb w V U s) (f : Frm [] w w') : KS Z w0 kb w' V U s := by
  obtain ⟨ca, cq, g⟩ := h.g
  exact ⟨h.row.frm f (by simp), ca, cq, g.frm f (by simp)⟩
theorem KS.addZ {Z : List Nat} {w0 : World} {kb : Nat} {w : World} {V : V6} {U : V4} {s : CS} (h : KS Z w0 kb w V U s) {b : Nat} (hb : w.heap.size ≤ b) : KS (b :: Z) w0 kb w V U s := by
  obtain ⟨ca, cq, g⟩ := h.g
  exact ⟨h.row, ca, cq, g.addZ hb⟩
theorem KS.lessZ {Z : List Nat} {w0 : World} {kb b : Nat} {w : World} {V : V6} {U : V4} {s : CS} (h : KS (b :: Z) w0 kb w V U s) : KS Z w0 kb w V U s := by
  obtain ⟨ca, cq, g⟩ := h.g
  exact ⟨h.row, ca, cq, g.lessZ⟩
end Go.Proofs.YtimjjlgpbkljoaaGreat
