import Derived.Test.YthlemieldfbbfabM14
namespace Go.Proofs.Ythlemieldfbbfab
open Go.RowKit
set_option linter.unusedVariables false
set_option linter.unusedSimpArgs false
set_option linter.unnecessarySimpa false

/-- A program that was loaded, wherever it lies. -/
structure PR (A : List Nat) (w : World) (pb : Nat) (V : V6) (m : Mach) : Prop where
  row : w.heap[pb]? = some (.cells V.cells 60 (0, 0))
  pg : PG (pb :: A) w V m
  av : pb ∉ A
def ALoadQ (A : List Nat) (t : List UInt8) (w : World) (e : Ending) (w' : World) : Prop :=
  Frm [] w w' ∧ ((ld t = none ∧ e = .returned (.tuple #[.pointer none, .int .i64 9])) ∨ (∃ m V pb, ld t = some m ∧ e = .returned (.tuple #[.pointer (some ⟨pb, 0, none⟩), .int .i64 0]) ∧ PR A w' pb V m ∧ w.heap.size ≤ pb))

set_option maxRecDepth 100000 in
set_option maxHeartbeats 4000000 in
theorem aLoad_any (A : List Nat) (t : List UInt8) (w : World) (ht : t.length ≤ 262144) (hA : ∀ g ∈ A, g < w.heap.size) :
    Calls Try.prog 9 #[.string (bs t)] w (ALoadQ A t w) := by
  have N1 := hide (pLoad_any A t w ht hA)
  have HA := hide hA
  clear hA
  go_enter Try.func9, Try.ntmps9
  go_wp2_with fail
  refine (N1.out).mono ?_
  clear N1
  rintro e w1 ⟨hF1, h1⟩
  have F1 := hide hF1
  have hz1 := hF1.size
  clear hF1
  rcases h1 with ⟨hl, rfl⟩ | ⟨m, V, hl, rfl, hG, hc⟩
  · have HL := hide hl
    clear hl
    simp only [V6.z, V6.cells]
    go_wp2
    go_ret2
    exact ⟨F1.out.alloc _, .inl ⟨HL.out, rfl⟩⟩
  · have HL := hide hl
    have G := hide hG
    obtain ⟨a1, c1, e1⟩ := hG.n.shape
    obtain ⟨a2, c2, e2⟩ := hG.c.shape
    obtain ⟨css, h3, _⟩ := hG.a
    obtain ⟨a3, c3, e3⟩ := h3.shape
    obtain ⟨a4, c4, e4⟩ := hG.t.shape
    obtain ⟨dss, h5, _⟩ := hG.r
    obtain ⟨a5, c5, e5⟩ := h5.shape
    obtain ⟨a6, c6, e6⟩ := hG.i.shape
    obtain ⟨v1, v2, v3, v4, v5, v6⟩ := V
    simp only at e1 e2 e3 e4 e5 e6
    generalize (sc m.names).length = n1 at *
    generalize (sc m.consts).length = n2 at *
    generalize (lst css).length = n3 at *
    generalize (tc m.tests).length = n4 at *
    generalize (lst dss).length = n5 at *
    generalize (icl m.code).length = n6 at *
    subst e1 e2 e3 e4 e5 e6
    clear hl hG h3 h5 hc
    simp only [V6.cells]
    go_wp2
    go_ret2
    refine ⟨(F1.out.alloc _).alloc _, .inr ⟨m, ⟨.slice a1 n1 c1, .slice a2 n2 c2, .slice a3 n3 c3, .slice a4 n4 c4, .slice a5 n5 c5, .slice a6 n6 c6⟩, w1.heap.size + 1, HL.out, rfl, ⟨?_, ?_, fun hm => by have := HA.out _ hm; omega⟩, by omega⟩⟩
    · have := heap1 (w1.alloc (Obj.cells (V6.cells ⟨.slice a1 n1 c1, .slice a2 n2 c2, .slice a3 n3 c3, .slice a4 n4 c4, .slice a5 n5 c5, .slice a6 n6 c6⟩) 56)) (Obj.cells (V6.cells ⟨.slice a1 n1 c1, .slice a2 n2 c2, .slice a3 n3 c3, .slice a4 n4 c4, .slice a5 n5 c5, .slice a6 n6 c6⟩) 60)
      rw [show (w1.alloc (Obj.cells (V6.cells ⟨.slice a1 n1 c1, .slice a2 n2 c2, .slice a3 n3 c3, .slice a4 n4 c4, .slice a5 n5 c5, .slice a6 n6 c6⟩) 56)).heap.size = w1.heap.size + 1 by simp] at this
      exact this
    · exact (G.out.avoid (B := (w1.heap.size + 1) :: A) (by intro g hg; simp at hg; rcases hg with h | h; right; omega; left; exact h)).frm (S := []) (((Frm.refl [] _).alloc _).alloc _) (by simp)
end Go.Proofs.Ythlemieldfbbfab
