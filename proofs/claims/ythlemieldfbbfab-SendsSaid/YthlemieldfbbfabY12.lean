import Derived.Test.YthlemieldfbbfabRows
import Derived.Test.YthlemieldfbbfabY9
import Derived.ProofKit
import Derived.OpenShut
import Derived.DataShut
import Derived.SizedLaws
import Derived.Carry
import Derived.Deep.SlicePairs
namespace Go.Proofs.Ythlemieldfbbfab
open Go.ChangeShapes Go.WideShapes Go.ChangeAt Go.RowKit
open Go.ChangeMaps (open_string shut_string)

/-- The bytes of a string; none of what is none. -/
def strL : Value → List UInt8
  | .string s => s.data.toList
  | _ => []
theorem weightsAll_mem {H : Type} {P : Program} {e : TypeId} {d : DataW H} {n : Nat} : ∀ {l : List (DataW H)}, d ∈ l → n ∈ d.weights P e → n ∈ DataW.weightsAll P e l
  | [], hd, _ => by simp at hd
  | x :: r, hd, hn => by
    simp only [DataW.weightsAll, List.mem_append]
    rcases List.mem_cons.1 hd with rfl | hd
    · exact .inl hn
    · exact .inr (weightsAll_mem hd hn)
theorem cellsLab : Try.prog.cellsOf 79 = 2 := by kernel_rfl
theorem cellsStr : Try.prog.cellsOf 9 = 1 := by kernel_rfl
theorem bytesLab : Try.prog.bytesOf 79 = 32 := by kernel_rfl

set_option maxRecDepth 100000 in
theorem labels_open {H : Type} {enc : TypeId × Value → H} {W : World} {a : Option Addr} {len cap : Nat} {d : DataW H} {ps : List MemPlace} (h : DataW.Trod enc Try.prog W 0 (fun _ => true) true 32 (.slice a len cap) d ps)
    (hw : ∀ n ∈ d.weights Try.prog 32, n ≤ reachBytes) :
    ∃ L : List LBL, L.length = len ∧ LQ W a L ∧ L.length ≤ 4398046511104 ∧ ∀ x ∈ L, x.1.length ≤ 140737488355328 ∧ x.2.length ≤ 140737488355328 := by
  obtain ⟨fuel, h⟩ := h
  have hcs : (Value.slice a len cap).cells.toList = [.slice a len cap] := rfl
  rw [hcs] at h
  rcases Deep.open_slice_pairs Try.underlying32 Try.underlying79 cellsLab rfl rfl cellsStr cellsStr h with ⟨hc, _⟩ | ⟨ad, len', cap', m, n, V0, V1, D0, D1, P0, P1, hc, _, hl, hm, hmm, hx, hall⟩
  · simp only [List.cons.injEq, and_true, Value.slice.injEq] at hc
    obtain ⟨rfl, rfl, rfl⟩ := hc
    exact ⟨[], rfl, fun j hj => absurd hj (by simp), by simp, by simp⟩
  · simp only [List.cons.injEq, and_true, Value.slice.injEq] at hc
    obtain ⟨rfl, rfl, rfl⟩ := hc
    simp only [if_true] at hmm
    subst hmm
    simp only [Prod.mk.injEq] at hx
    obtain ⟨rfl, rfl⟩ := hx
    have hrb : reachBytes ≤ 140737488355328 := Nat.le_of_lt reachBytes_lt
    have hS : ∀ i, i < m → ∃ s0 s1 : ByteArray, V0 i = .string s0 ∧ V1 i = .string s1 ∧ D0 i = .lit (.string s0.data.toList) ∧ D1 i = .lit (.string s1.data.toList) := by
      intro i hi
      obtain ⟨_, _, h1, h2⟩ := hall i hi
      obtain ⟨s0, e0, f0, _⟩ := DataW.trod_string Try.underlying9 h1
      obtain ⟨s1, e1, f1, _⟩ := DataW.trod_string Try.underlying9 h2
      simp only [List.cons.injEq, and_true] at e0 e1
      simp only [Prod.mk.injEq] at f0 f1
      exact ⟨s0, s1, e0, e1, f0.1, f1.1⟩
    have hlen : len * 32 ≤ reachBytes := by
      have := hw ((len + (m - len)) * 32) (by simp [DataW.weights, Try.underlying32, bytesLab])
      omega
    refine ⟨(List.range len).map fun i => (strL (V0 i), strL (V1 i)), by simp, ?_, by simp; omega, ?_⟩
    · intro j hj
      simp only [List.length_map, List.length_range] at hj
      obtain ⟨b, off, spot⟩ := ad
      obtain ⟨c0, c1, _, _⟩ := hall j (by omega)
      obtain ⟨s0, s1, e0, e1, _, _⟩ := hS j (by omega)
      have hspot : spot = none := by
        have := World.cell?_spot (hall 0 (by omega)).1
        simpa [Addr.add] using this
      subst hspot
      rw [add_plain] at c0 c1
      refine ⟨b, off, rfl, World.block_lt_of_cell? W _ c0, ?_, ?_⟩
      · rw [c0, e0]; simp [strL, e0, bs_of]
      · rw [← Nat.add_assoc] at c1
        rw [c1, e1]; simp [strL, e1, bs_of]
    · intro x hx
      obtain ⟨i, hi, rfl⟩ := List.mem_map.1 hx
      rw [List.mem_range] at hi
      obtain ⟨s0, s1, e0, e1, f0, f1⟩ := hS i (by omega)
      have hwt : ∀ k, k = s0.data.toList.length ∨ k = s1.data.toList.length → k ≤ reachBytes := by
        intro k hk
        apply hw
        have hmem : k ∈ DataW.weightsAll Try.prog 79 ((List.range len).map fun i => DataW.agg [D0 i, D1 i]) := by
          refine weightsAll_mem (d := .agg [D0 i, D1 i]) (List.mem_map.2 ⟨i, List.mem_range.2 hi, rfl⟩) ?_
          rw [f0, f1]
          simp only [DataW.weights, Try.underlying79]
          rcases hk with rfl | rfl <;> simp [DataW.weightsEach, DataW.weights]
        simp only [DataW.weights, Try.underlying32, List.mem_cons, List.mem_append]
        exact .inr (.inl hmem)
      have h1 := hwt _ (.inl rfl)
      have h2 := hwt _ (.inr rfl)
      simp only [e0, e1, strL]
      omega
end Go.Proofs.Ythlemieldfbbfab
