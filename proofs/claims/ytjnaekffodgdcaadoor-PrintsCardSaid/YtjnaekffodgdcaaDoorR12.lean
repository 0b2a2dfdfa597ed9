import Derived.Test.YtjnaekffodgdcaaDoorD1
namespace Go.Proofs.YtjnaekffodgdcaaDoor
open Go.RowKit
set_option linter.unusedVariables false
set_option linter.unusedSimpArgs false
set_option linter.unnecessarySimpa false

/-! The routes as a tree: its faults. -/
def rootR (i : Nat) (r : RR) : Bool := (i == 0) && (r.d == 0) && r.ifs.isEmpty && !r.on && !(r.rc == [45])
def belowR (i n : Nat) (r : RR) : Bool := decide (0 < i) && decide (0 < r.d) && decide (r.d ≤ n)
def growGo : List RR → Nat → Nat → Nat
  | [], _, _ => 0
  | r :: R, i, n => if (!(rootR i r) && !(belowR i n r)) || decide (5 < r.d) || decide (16 ≤ i) then i + 2 else growGo R (i + 1) (r.d + 1)
def treeFR (R : List RR) : Nat := if R.isEmpty then 2 else growGo R 0 0
def nameGoR (L : List (List UInt8)) : List RR → Nat → Nat
  | [], _ => 0
  | r :: R, i => if !(r.rc == [45]) && !(L.contains r.rc) then i + 2 else nameGoR L R (i + 1)
def grF (L : List (List UInt8)) (R : List RR) : Nat × Nat :=
  if treeFR R ≠ 0 then (3, treeFR R) else if dupGo [] L then (4, 1) else if nameGoR L R 0 ≠ 0 then (4, nameGoR L R 0) else (0, 0)

theorem LP.take {base : Nat} {w : World} {a : Option Addr} {n cap : Nat} {B : List Nat} (h : LP base w (.slice a n cap) B) (d : Nat) (hd : d ≤ B.length) : LP base w (.slice a d cap) (B.take d) := by
  have hn : n = B.length := by
    rcases h.2 with ⟨e, e2⟩ | ⟨g, c, cur, e, _⟩
    · simp at e; omega
    · simp at e; exact e.2.1
  subst hn
  have hm : min d B.length = d := Nat.min_eq_left hd
  unfold LP at *
  rw [List.length_take, hm]
  refine ⟨by simp [hm], ?_⟩
  rcases h.2 with ⟨e, e2⟩ | ⟨g, c, cur, e, h1, h2, h3, h4, h5, h6⟩
  · simp at e
    obtain ⟨rfl, _, rfl⟩ := e
    have : d = 0 := by omega
    subst this
    exact .inl ⟨rfl, rfl⟩
  · simp at e
    obtain ⟨rfl, rfl⟩ := e
    refine .inr ⟨g, cap, cur, rfl, h1, h2, by omega, h4, h5, ?_⟩
    rw [Nat.mul_one] at h6 ⊢
    rw [List.map_take, ← h6, List.take_take, hm]
theorem LP.frm {S : List Nat} {base : Nat} {w w' : World} {v : Value} {B : List Nat} (h : LP base w v B) (f : Frm S w w') (hS : ∀ k, k ∈ S → k < base) : LP base w' v B := own_frm h f hS

structure GI (w wr : World) (cb : Nat) (X : List (Nat × RRV × RR)) (K : Nat → Value) (B : List Nat) (vw : Value) (j : Nat) : Prop where
  lt : ∀ x ∈ X, x.1 < w.heap.size
  rb : ∀ x ∈ X, RB wr x.1 { x.2.1 with vk := K x.1 }
  kid : ∀ x ∈ X, ∃ n xs, n ≤ j ∧ wr.ownsRow w.heap.size 40 1 (K x.1) n xs
  sep : ∀ x ∈ X, ∀ y ∈ X, x.1 ≠ y.1 → ∀ g, (K x.1).ownBlock = some g → (K y.1).ownBlock ≠ some g
  sepw : ∀ x ∈ X, ∀ g, (K x.1).ownBlock = some g → vw.ownBlock ≠ some g
  way : LP w.heap.size wr vw B
  wayX : ∀ b ∈ B, ∃ x ∈ X, x.1 = b
  frm : Frm (cb :: X.map (·.1)) w wr

theorem GI.frm0 {w wr wq : World} {cb : Nat} {X : List (Nat × RRV × RR)} {K : Nat → Value} {B : List Nat} {vw : Value} {j : Nat} (h : GI w wr cb X K B vw j) (f : Frm [] wr wq) : GI w wq cb X K B vw j :=
  ⟨h.lt, fun x hx => (h.rb x hx).frm f (by simp), fun x hx => by
    obtain ⟨n, xs, h1, h2⟩ := h.kid x hx
    exact ⟨n, xs, h1, own_frm h2 f (by simp)⟩, h.sep, h.sepw, h.way.frm f (by simp), h.wayX, h.frm.trans f.nil⟩

theorem GI.root {w wr : World} {cb : Nat} {X : List (Nat × RRV × RR)} {K : Nat → Value} {B : List Nat} {vw : Value} {j : Nat} (h : GI w wr cb X K B vw j) (hcb : cb < w.heap.size) (hcx : ∀ x ∈ X, x.1 ≠ cb) (v : Value) : GI w (wr.setCell ⟨cb, 1, none⟩ v) cb X K B vw j := by
  have f : Frm [cb] wr (wr.setCell ⟨cb, 1, none⟩ v) := (Frm.refl _ _).setCell (by simp) _
  refine ⟨h.lt, fun x hx => (h.rb x hx).frm f (by simpa using hcx x hx), fun x hx => ?_, h.sep, h.sepw, h.way.frm f (by simpa using hcb), h.wayX, h.frm.setCell (by simp) _⟩
  obtain ⟨n, xs, h1, h2⟩ := h.kid x hx
  exact ⟨n, xs, h1, own_frm h2 f (by simpa using hcb)⟩

theorem GI.cut {w wr : World} {cb : Nat} {X : List (Nat × RRV × RR)} {K : Nat → Value} {B : List Nat} {a : Option Addr} {n cap : Nat} {j : Nat} (h : GI w wr cb X K B (.slice a n cap) j) (d : Nat) (hd : d ≤ B.length) : GI w wr cb X K (B.take d) (.slice a d cap) j :=
  ⟨h.lt, h.rb, h.kid, h.sep, fun x hx g hg => by
    have := h.sepw x hx g hg
    cases a <;> simpa [Value.ownBlock] using this, h.way.take d hd, fun b hb => h.wayX b (List.mem_of_mem_take hb), h.frm⟩

theorem GI.up {w wr : World} {cb : Nat} {X : List (Nat × RRV × RR)} {K : Nat → Value} {B : List Nat} {vw : Value} {j : Nat} (h : GI w wr cb X K B vw j) : GI w wr cb X K B vw (j + 1) :=
  ⟨h.lt, h.rb, fun x hx => by
    obtain ⟨n, xs, h1, h2⟩ := h.kid x hx
    exact ⟨n, xs, by omega, h2⟩, h.sep, h.sepw, h.way, h.wayX, h.frm⟩

theorem GI.wayStep {w wr w4 : World} {cb : Nat} {X : List (Nat × RRV × RR)} {K : Nat → Value} {B : List Nat} {vw : Value} {j : Nat} (h : GI w wr cb X K B vw j) {g n cap b : Nat} (hb : ∃ x ∈ X, x.1 = b)
    (hg : wr.grownBy w4 vw.ownBlock) (ho : LP w.heap.size w4 (.slice (some ⟨g, 0, none⟩) n cap) (B ++ [b])) (hat : vw.ownBlock = some g ∨ g = wr.heap.size) : GI w w4 cb X K (B ++ [b]) (.slice (some ⟨g, 0, none⟩) n cap) j := by
  have F4 := Frm.of_grow hg
  have hwb : ∀ k, vw.ownBlock = some k → w.heap.size ≤ k := fun k hk => (h.way.lt k hk).1
  have hne : ∀ x ∈ X, (K x.1).ownBlock = none ∨ (K x.1).ownBlock ≠ vw.ownBlock := fun x hx => by
    cases e : (K x.1).ownBlock with
    | none => exact .inl rfl
    | some k => exact .inr (fun e2 => h.sepw x hx k e e2.symm)
  refine ⟨h.lt, fun x hx => (h.rb x hx).frm F4 ?_, fun x hx => ?_, h.sep, fun x hx k hk => ?_, ho, fun b' hb' => ?_, h.frm.grown hg (fun k hk => .inr (hwb k hk))⟩
  · rw [Option.mem_toList]
    intro e
    have := hwb _ e; have := h.lt x hx; omega
  · obtain ⟨n, xs, h1, h2⟩ := h.kid x hx
    exact ⟨n, xs, h1, h2.kept hg (hne x hx)⟩
  · obtain ⟨n, xs, h1, h2⟩ := h.kid x hx
    have hk2 := h2.lt k hk
    intro e
    simp [Value.ownBlock] at e
    subst e
    rcases hat with hat | hat
    · exact h.sepw x hx _ hk hat
    · omega
  · rw [List.mem_append, List.mem_singleton] at hb'
    rcases hb' with hb' | rfl
    · exact h.wayX b' hb'
    · exact hb

theorem RB.kids {w : World} {b : Nat} {r : RRV} (h : RB w b r) (v : Value) : RB (w.setCell ⟨b, 7, none⟩ v) b { r with vk := v } := by
  obtain ⟨rc, vby, t0, t1, t2, vif, on, vk, d, row⟩ := r
  exact h.set 7 v _ rfl

theorem LP.kept' {base : Nat} {w w4 : World} {v : Value} {B : List Nat} {row : Option Nat} (h : LP base w v B) (hg : w.grownBy w4 row) (hne : v.ownBlock = none ∨ v.ownBlock ≠ row) : LP base w4 v B := World.ownsRow.kept h hg hne

theorem GI.kidStep {w wr w4 : World} {cb : Nat} {X : List (Nat × RRV × RR)} {K : Nat → Value} {B : List Nat} {vw : Value} {j : Nat} (h : GI w wr cb X K B vw j) {x : Nat × RRV × RR} (hx : x ∈ X) {g n cap : Nat} {xs : List Value} (hnj : n ≤ j)
    (hg : wr.grownBy w4 (K x.1).ownBlock) (ho : w4.ownsRow w.heap.size 40 1 (.slice (some ⟨g, 0, none⟩) (n + 1) cap) (n + 1) xs) (hat : (K x.1).ownBlock = some g ∨ g = wr.heap.size) :
    GI w (w4.setCell ⟨x.1, 7, none⟩ (.slice (some ⟨g, 0, none⟩) (n + 1) cap)) cb X (fun b => if b = x.1 then .slice (some ⟨g, 0, none⟩) (n + 1) cap else K b) B vw (j + 1) := by
  have F4 := Frm.of_grow hg
  obtain ⟨nx, xsx, _, hox⟩ := h.kid x hx
  have hwb : ∀ k, (K x.1).ownBlock = some k → w.heap.size ≤ k := fun k hk => (hox.lt k hk).1
  have f : ∀ u, Frm [x.1] w4 (w4.setCell ⟨x.1, 7, none⟩ u) := fun u => (Frm.refl _ _).setCell (by simp) _
  have hlx := h.lt x hx
  have rb4 : ∀ y ∈ X, RB w4 y.1 { y.2.1 with vk := K y.1 } := fun y hy => (h.rb y hy).frm F4 (by
    rw [Option.mem_toList]; intro e
    have := hwb _ e; have := h.lt y hy; omega)
  have old : ∀ y ∈ X, ∀ k, (K y.1).ownBlock = some k → k < wr.heap.size := fun y hy k hk => by
    obtain ⟨n, xs, _, h2⟩ := h.kid y hy
    exact (h2.lt k hk).2
  refine ⟨h.lt, fun y hy => ?_, fun y hy => ?_, fun y hy z hz hyz k hk => ?_, fun y hy k hk => ?_, ?_, h.wayX, ?_⟩
  · by_cases e : y.1 = x.1
    · simp only [e, if_true]
      have := rb4 y hy
      rw [e] at this
      exact this.kids _
    · simp only [e, if_false]
      exact (rb4 y hy).frm (f _) (by simpa using e)
  · by_cases e : y.1 = x.1
    · simp only [e, if_true]
      exact ⟨n + 1, xs, by omega, own_frm ho (f _) (by simpa using hlx)⟩
    · simp only [e, if_false]
      obtain ⟨n', xs', h1, h2⟩ := h.kid y hy
      refine ⟨n', xs', by omega, own_frm (h2.kept hg ?_) (f _) (by simpa using hlx)⟩
      cases e1 : (K y.1).ownBlock with
      | none => exact .inl rfl
      | some k => exact .inr (fun e2 => h.sep y hy x hx e k e1 e2.symm)
  · by_cases e : y.1 = x.1
    · have e2 : z.1 ≠ x.1 := fun e3 => hyz (e.trans e3.symm)
      simp only [e, if_true, Value.ownBlock, Option.some.injEq] at hk
      subst hk
      simp only [e2, if_false]
      intro e3
      rcases hat with hat | hat
      · exact h.sep x hx z hz (fun e4 => e2 e4.symm) _ hat e3
      · have := old z hz _ e3; omega
    · simp only [e, if_false] at hk
      by_cases e2 : z.1 = x.1
      · simp only [e2, if_true, Value.ownBlock, ne_eq, Option.some.injEq]
        intro e3
        subst e3
        rcases hat with hat | hat
        · exact h.sep y hy x hx e _ hk hat
        · have := old y hy _ hk; omega
      · simp only [e2, if_false]
        exact h.sep y hy z hz hyz k hk
  · by_cases e : y.1 = x.1
    · simp only [e, if_true, Value.ownBlock, Option.some.injEq] at hk
      subst hk
      intro e3
      rcases hat with hat | hat
      · exact h.sepw x hx _ hat e3
      · have := h.way.lt _ e3; omega
    · simp only [e, if_false] at hk
      exact h.sepw y hy k hk
  · refine LP.frm (LP.kept' ?_ hg ?_) (f _) (by simpa using hlx)
    · exact h.way
    · cases e1 : vw.ownBlock with
      | none => exact .inl rfl
      | some k => exact .inr (fun e2 => h.sepw x hx k e2.symm e1)
  · exact (h.frm.grown hg (fun k hk => .inr (hwb k hk))).setCell (by simp; exact .inl (.inr ⟨_, _, hx⟩)) _

end Go.Proofs.YtjnaekffodgdcaaDoor
