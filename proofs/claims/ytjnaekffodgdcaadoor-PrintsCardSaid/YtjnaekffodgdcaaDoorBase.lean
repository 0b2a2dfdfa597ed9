import Derived.Test.YtjnaekffodgdcaaDoorChecked
import Derived.WalkKit
import Derived.WalkSpells
import Derived.WalkLawsBesides
import Derived.Deep.QuietTactic
import Derived.BigQuiet
import Derived.Deep.LoopGhost
import Derived.Deep.RegionHeld3
import Derived.Deep.AppendLies
namespace Go.Proofs.YtjnaekffodgdcaaDoor
open Go.RowKit
set_option linter.unusedVariables false
set_option linter.unusedSimpArgs false
set_option linter.unnecessarySimpa false

/-- The bytes of a list, as Go's string. -/
def bs (l : List UInt8) : ByteArray := ⟨l.toArray⟩
theorem bs_size (l : List UInt8) : (bs l).size = l.length := rfl
theorem bs_data (l : List UInt8) : (bs l).data.toList = l := by simp [bs]
theorem bs_toList (l : List UInt8) : (bs l).toList = l := by rw [ByteArray.toList_eq]; simp [bs]
theorem bs_of (s : ByteArray) : bs s.data.toList = s := by cases s; simp [bs]
theorem bs_append (a b : List UInt8) : bs a ++ bs b = bs (a ++ b) := by
  apply ByteArray.ext; simp [bs]
theorem bs_extract (l : List UInt8) (a b : Nat) : (bs l).extract a b = bs ((l.take b).drop a) := by
  apply ByteArray.ext; simp [bs, ByteArray.data_extract, List.extract_eq_take_drop, List.take_drop]
  by_cases h : a ≤ b
  · rw [Nat.add_sub_cancel' h]
  · rw [show b - a = 0 by omega, Nat.add_zero, List.drop_eq_nil_of_le (by simp only [List.length_take]; omega), List.drop_eq_nil_of_le (by simp only [List.length_take]; omega)]
theorem bs_get (l : List UInt8) (k : Nat) (h : k < (bs l).size) : (bs l)[k] = l[k]'h := rfl

/-- What is not in S is as it was. -/
structure Frm (S : List Nat) (w w' : World) : Prop where
  os : w'.os = w.os
  tape : w'.tape = w.tape
  output : w'.output = w.output
  size : w.heap.size ≤ w'.heap.size
  block : ∀ k, k < w.heap.size → k ∉ S → w'.heap[k]? = w.heap[k]?

theorem Frm.refl (S : List Nat) (w : World) : Frm S w w := ⟨rfl, rfl, rfl, Nat.le_refl _, fun _ _ _ => rfl⟩
theorem Frm.trans {S : List Nat} {a b c : World} (h : Frm S a b) (k : Frm S b c) : Frm S a c :=
  ⟨k.os.trans h.os, k.tape.trans h.tape, k.output.trans h.output, Nat.le_trans h.size k.size,
   fun i hi hS => (k.block i (Nat.lt_of_lt_of_le hi h.size) hS).trans (h.block i hi hS)⟩
theorem Frm.mono {S S' : List Nat} {a b : World} (h : Frm S a b) (hs : ∀ k, k < a.heap.size → k ∈ S → k ∈ S') : Frm S' a b :=
  ⟨h.os, h.tape, h.output, h.size, fun k hk hS => h.block k hk (fun hm => hS (hs k hk hm))⟩
theorem Frm.nil {S : List Nat} {a b : World} (h : Frm [] a b) : Frm S a b := h.mono (by simp)
theorem Frm.drew {S : List Nat} {a w : World} (h : Frm S a w) : Frm S a w.drew := ⟨h.os, h.tape, h.output, h.size, h.block⟩
theorem Frm.drewN {S : List Nat} {a w : World} (n : Nat) (h : Frm S a w) : Frm S a (w.drewN n) := ⟨h.os, h.tape, h.output, h.size, h.block⟩
theorem Frm.setCell {S : List Nat} {a w : World} (h : Frm S a w) {p : Addr} (hp : p.block ∈ S ∨ a.heap.size ≤ p.block) (u : Value) : Frm S a (w.setCell p u) := by
  refine ⟨h.os, h.tape, h.output, ?_, fun k hk hS => ?_⟩
  · have := h.size; simp [World.setCell]; exact this
  · have hne : k ≠ p.block := by
      intro e
      rcases hp with hp | hp
      · exact hS (e ▸ hp)
      · omega
    rw [Below.heap_setCell _ _ _ _ hne]
    exact h.block k hk hS
theorem Frm.alloc {S : List Nat} {a w : World} (h : Frm S a w) (o : Obj) : Frm S a (w.alloc o) := by
  refine ⟨h.os, h.tape, h.output, ?_, fun k hk hS => ?_⟩
  · have := h.size; simp; omega
  · rw [Below.heap_alloc _ _ _ (Nat.lt_of_lt_of_le hk h.size)]; exact h.block k hk hS
theorem Frm.grown {S : List Nat} {a w w' : World} {row : Option Nat} (h : Frm S a w) (hg : w.grownBy w' row) (hr : ∀ k, row = some k → k ∈ S ∨ a.heap.size ≤ k) : Frm S a w' := by
  refine ⟨hg.os.trans h.os, hg.tape.trans h.tape, hg.output.trans h.output, Nat.le_trans h.size hg.size, fun k hk hS => ?_⟩
  rw [hg.block k (Nat.lt_of_lt_of_le hk h.size) (fun e => (hr k e.symm).elim hS (fun h1 => by omega))]
  exact h.block k hk hS
theorem Frm.below {a b : World} (h : Frm [] a b) : Below a.heap.size a b := ⟨h.os, h.tape, h.output, h.size, fun k hk => h.block k hk (by simp)⟩
theorem Frm.of_below {S : List Nat} {a b : World} (h : Below a.heap.size a b) : Frm S a b := ⟨h.os, h.tape, h.output, h.size, fun k hk _ => h.block k hk⟩
theorem Frm.cell {S : List Nat} {w w' : World} (h : Frm S w w') {p : Addr} (hp : p.block < w.heap.size) (hS : p.block ∉ S) : w'.cell? p = w.cell? p := World.cell?_of_block (h.block _ hp hS)
theorem Frm.frozen {S : List Nat} {w w' : World} (h : Frm S w w') {p : Addr} (hp : p.block < w.heap.size) (hS : p.block ∉ S) : w'.frozen? p = w.frozen? p := World.frozen?_of_block (h.block _ hp hS)

/-- A text that a machine can hold with room to spare. -/
def MaxT : Nat := 1048576

/-- The scanner at block b: the text t, the place i. -/
def SC (w : World) (b : Nat) (t : List UInt8) (i : Nat) : Prop :=
  w.heap[b]? = some (.cells #[.string (bs t), .int .i64 i] 88 (0, 0)) ∧ i ≤ t.length ∧ t.length ≤ 1048576

theorem SC.c0 {w : World} {b : Nat} {t : List UInt8} {i : Nat} (h : SC w b t i) : w.cell? ⟨b, 0, none⟩ = some (.string (bs t)) := by
  simp [World.cell?, h.1]
theorem SC.c1 {w : World} {b : Nat} {t : List UInt8} {i : Nat} (h : SC w b t i) : w.cell? ⟨b, 1, none⟩ = some (.int .i64 i) := by
  simp [World.cell?, h.1]
theorem SC.fz {w : World} {b : Nat} {t : List UInt8} {i : Nat} (h : SC w b t i) (o : Nat) : w.frozen? ⟨b, o, none⟩ = false := by
  simp [World.frozen?, h.1]
theorem SC.lt {w : World} {b : Nat} {t : List UInt8} {i : Nat} (h : SC w b t i) : b < w.heap.size :=
  (Array.getElem?_eq_some_iff.1 h.1).1
theorem SC.frm {S : List Nat} {w w' : World} {b : Nat} {t : List UInt8} {i : Nat} (h : SC w b t i) (f : Frm S w w') (hS : b ∉ S) : SC w' b t i :=
  ⟨(f.block b h.lt hS).trans h.1, h.2⟩
theorem SC.drew {w : World} {b : Nat} {t : List UInt8} {i : Nat} (h : SC w b t i) : SC w.drew b t i := h
theorem SC.drewN {w : World} {b : Nat} {t : List UInt8} {i : Nat} (n : Nat) (h : SC w b t i) : SC (w.drewN n) b t i := h
theorem SC.set {w : World} {b : Nat} {t : List UInt8} {i : Nat} (h : SC w b t i) (j : Nat) (hj : j ≤ t.length) : SC (w.setCell ⟨b, 1, none⟩ (.int .i64 j)) b t j := by
  refine ⟨?_, hj, h.2.2⟩
  simp [World.setCell, Array.getElem?_modify, h.1]

/-- What is ahead of the scanner at b is l. -/
def At (w : World) (b : Nat) (t l : List UInt8) : Prop := ∃ i, SC w b t i ∧ t.drop i = l
theorem At.frm {S : List Nat} {w w' : World} {b : Nat} {t l : List UInt8} (h : At w b t l) (f : Frm S w w') (hS : b ∉ S) : At w' b t l := by
  obtain ⟨i, h1, h2⟩ := h; exact ⟨i, h1.frm f hS, h2⟩
theorem At.lt {w : World} {b : Nat} {t l : List UInt8} (h : At w b t l) : b < w.heap.size := by
  obtain ⟨i, h1, _⟩ := h; exact h1.lt

theorem ret_bool {a b : Bool} (h : a = b) : Ending.returned (.bool a) = .returned (.bool b) := by rw [h]
theorem ret_int {k : IntKind} {a b : Int} (h : a = b) : Ending.returned (.int k a) = .returned (.int k b) := by rw [h]
theorem ret_str {a b : List UInt8} (h : a = b) : Ending.returned (.string (bs a)) = .returned (.string (bs b)) := by rw [h]

end Go.Proofs.YtjnaekffodgdcaaDoor
