import Derived.Test.YtimjjlgpbkljoaaGreatB0
import Derived.Test.YtimjjlgpbkljoaaGreatMB
namespace Go.Proofs.YtimjjlgpbkljoaaGreat
open Go.RowKit
set_option linter.unusedVariables false
set_option linter.unusedSimpArgs false
set_option linter.unnecessarySimpa false

/-- The scanner at block b: the text t, the place i. -/
def SC (w : World) (b : Nat) (t : List UInt8) (i : Nat) : Prop :=
  w.heap[b]? = some (.cells #[.string (bs t), .int .i64 i] 95 (0, 0)) ∧ i ≤ t.length ∧ t.length ≤ 1048576
theorem SC.c0 {w : World} {b : Nat} {t : List UInt8} {i : Nat} (h : SC w b t i) : w.cell? ⟨b, 0, none⟩ = some (.string (bs t)) := by
  simp [World.cell?, h.1]
theorem SC.c1 {w : World} {b : Nat} {t : List UInt8} {i : Nat} (h : SC w b t i) : w.cell? ⟨b, 1, none⟩ = some (.int .i64 i) := by
  simp [World.cell?, h.1]
theorem SC.fz {w : World} {b : Nat} {t : List UInt8} {i : Nat} (h : SC w b t i) (o : Nat) : w.frozen? ⟨b, o, none⟩ = false := by
  simp [World.frozen?, h.1]
theorem SC.lt {w : World} {b : Nat} {t : List UInt8} {i : Nat} (h : SC w b t i) : b < w.heap.size :=
  (Array.getElem?_eq_some_iff.1 h.1).1
theorem SC.frm {S : List Nat} {w w' : World} {b : Nat} {t : List UInt8} {i : Nat} (h : SC w b t i) (f : Frm S w w') (hS : b ∉ S) : SC w' b t i :=
  ⟨(f.block b h.lt hS).trans h.1, h.2⟩
theorem SC.drew {w : World} {b : Nat} {t : List UInt8} {i : Nat} (h : SC w b t i) : SC w.drew b t i := h
theorem SC.drewN {w : World} {b : Nat} {t : List UInt8} {i : Nat} (n : Nat) (h : SC w b t i) : SC (w.drewN n) b t i := h
theorem SC.set {w : World} {b : Nat} {t : List UInt8} {i : Nat} (h : SC w b t i) (j : Nat) (hj : j ≤ t.length) : SC (w.setCell ⟨b, 1, none⟩ (.int .i64 j)) b t j := by
  refine ⟨?_, hj, h.2.2⟩
  simp [World.setCell, Array.getElem?_modify, h.1]
/-- What is ahead of the scanner at b is l. -/
def At (w : World) (b : Nat) (t l : List UInt8) : Prop := ∃ i, SC w b t i ∧ t.drop i = l
theorem At.frm {S : List Nat} {w w' : World} {b : Nat} {t l : List UInt8} (h : At w b t l) (f : Frm S w w') (hS : b ∉ S) : At w' b t l := by
  obtain ⟨i, h1, h2⟩ := h; exact ⟨i, h1.frm f hS, h2⟩
theorem At.lt {w : World} {b : Nat} {t l : List UInt8} (h : At w b t l) : b < w.heap.size := by
  obtain ⟨i, h1, _⟩ := h; exact h1.lt

end Go.Proofs.YtimjjlgpbkljoaaGreat
