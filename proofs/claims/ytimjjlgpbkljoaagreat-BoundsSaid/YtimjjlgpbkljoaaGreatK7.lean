import Derived.Test.YtimjjlgpbkljoaaGreatK6
import Derived.Laws.MakeOwn
namespace Go.Proofs.YtimjjlgpbkljoaaGreat
open Go.RowKit
set_option linter.unusedVariables false
set_option linter.unusedSimpArgs false
set_option linter.unnecessarySimpa false

theorem layChk_len (y n : Nat) (l : List InM) : ∀ q : List (Nat × Bool), (layChk q y n l).2.length = l.length + q.length
  | [] => rfl
  | c :: r => by simp [layChk, layChk_len y n l r]; omega
def bnd : Nat → Nat
  | 0 => 0
  | f + 1 => 16 * (bnd f + 8) + 1
theorem getD_short {q : List (List (Nat × Bool))} (hq : ∀ x ∈ q, x.length ≤ 4) (c : Nat) : (q.getD c []).length ≤ 4 := by
  by_cases h : c < q.length
  · simp [List.getD, h]; exact hq _ (List.getElem_mem h)
  · simp [List.getD, h]
theorem lay1_bnd {rec : Nat → Nat → List InM → Nat × List InM} {R : Nat} (hr : ∀ c d l, (rec c d l).2.length ≤ l.length + R) (C : List CR) {q : List (List (Nat × Bool))} (hq : ∀ x ∈ q, x.length ≤ 4) (d : Nat) (l : List InM) : ∀ K : List Nat, (lay1 rec C q d l K).2.2.length ≤ l.length + K.length * (R + 4)
  | [] => by simp [lay1]
  | c :: r => by
    have h1 := lay1_bnd hr C hq d l r
    rw [lay1]
    generalize lay1 rec C q d l r = x at *
    have h2 := hr c (if (C[c]?.map (·.co)) = some true then x.1 else d) x.2.2
    generalize rec c (if (C[c]?.map (·.co)) = some true then x.1 else d) x.2.2 = b at *
    have h3 := layChk_len b.1 x.1 b.2 (q.getD c [])
    have h4 := getD_short hq c
    show (layChk _ _ _ _).2.length ≤ _
    rw [List.length_cons, Nat.add_mul]
    omega
theorem lay2_bnd {q : List (List (Nat × Bool))} (hq : ∀ x ∈ q, x.length ≤ 4) (first : Nat) (l : List InM) : ∀ Z : List (Nat × Nat), (lay2 q first l Z).2.length ≤ l.length + Z.length * 4
  | [] => by simp [lay2]
  | z :: r => by
    have h1 := lay2_bnd hq first l r
    rw [lay2]
    have h3 := layChk_len z.2 (lay2 q first l r).1 (lay2 q first l r).2 (q.getD z.1 [])
    have h4 := getD_short hq z.1
    rw [List.length_cons, Nat.add_mul]
    omega
theorem kids_len (C : List CR) (r : Nat) : (kids C r).length ≤ C.length := by
  rw [kids_eq]
  exact Nat.le_trans (List.length_filter_le _ _) (by simp)
theorem layR_bnd {C : List CR} (hC : C.length ≤ 16) {q : List (List (Nat × Bool))} (hq : ∀ x ∈ q, x.length ≤ 4) : ∀ f r d l, (layR C q f r d l).2.length ≤ l.length + bnd f
  | 0, _, _, l => by simp [layR]
  | f + 1, r, d, l => by
    have h1 := lay1_bnd (layR_bnd hC hq f) C hq d l (kids C r)
    rw [layR]
    generalize lay1 (layR C q f) C q d l (kids C r) = x at *
    have h2 := lay2_bnd hq x.2.2.length (x.2.2 ++ [⟨1, r, d, 0⟩]) ((kids C r).zip x.2.1)
    have h3 := kids_len C r
    have h4 : ((kids C r).zip x.2.1).length ≤ (kids C r).length := by rw [List.length_zip]; exact Nat.min_le_left _ _
    have h5 : (kids C r).length * (bnd f + 4) ≤ 16 * (bnd f + 4) := Nat.mul_le_mul_right _ (by omega)
    simp at h2
    rw [bnd]
    show (lay2 _ _ _ _).2.length ≤ _
    omega
theorem parGo_some {C : List CR} {d : Nat} : ∀ {i p : Nat}, parGo C d i = some p → p < i ∧ ∃ c, C[p]? = some c ∧ c.d + 1 = d
  | 0, p, h => by simp [parGo] at h
  | j + 1, p, h => by
    rw [parGo] at h
    split at h
    · rename_i e
      cases h
      obtain ⟨c, hc, he⟩ := Option.map_eq_some_iff.1 e
      exact ⟨by omega, c, hc, he⟩
    · obtain ⟨h1, h2⟩ := parGo_some h
      exact ⟨by omega, h2⟩
theorem mem_kids {C : List CR} {r c : Nat} (h : c ∈ kids C r) (hr : r < C.length) : ∃ hc : c < C.length, r < c ∧ C[r].d + 1 = C[c].d := by
  rw [kids_eq, List.mem_filter, List.mem_range] at h
  obtain ⟨hc, hk⟩ := h
  simp [kidB] at hk
  refine ⟨hc, hk.1, ?_⟩
  have := hk.2
  unfold par at this
  rw [List.getElem?_eq_getElem hc] at this
  obtain ⟨_, c', h1, h2⟩ := parGo_some this
  rw [List.getElem?_eq_getElem hr] at h1
  cases h1
  exact h2
/-- What laying reads. -/
structure LC (w0 : World) (kb : Nat) (rt vq : Value) (C : List CR) (q : List (List (Nat × Bool))) : Prop where
  hrt : RTS [kb] w0 rt C
  hq : QR [kb] w0 vq q
  ql : q.length = C.length
  qb : ∀ x ∈ q, x.length ≤ 4
  cl : C.length ≤ 16
  d : ∀ c ∈ C, c.d ≤ 5
/-- Where the children begin. -/
def BG (w : World) (gb : Nat) (L : List Nat) : Prop := w.heap[gb]? = some (.cells (nv .i64 L).toArray 3 (0, 0))
theorem BG.cell {w : World} {gb : Nat} {L : List Nat} (h : BG w gb L) (i : Nat) (hi : i < L.length) : w.cell? ⟨gb, i, none⟩ = some (.int .i64 (L[i] : Nat)) := by
  unfold BG at h
  simp [World.cell?, h, nv, hi]
theorem BG.fz {w : World} {gb : Nat} {L : List Nat} (h : BG w gb L) (i : Nat) : w.frozen? ⟨gb, i, none⟩ = false := by
  unfold BG at h
  simp [World.frozen?, h]
theorem BG.lt {w : World} {gb : Nat} {L : List Nat} (h : BG w gb L) : gb < w.heap.size := (Array.getElem?_eq_some_iff.1 h).1
theorem BG.frm {S : List Nat} {w w' : World} {gb : Nat} {L : List Nat} (h : BG w gb L) (f : Frm S w w') (hS : gb ∉ S) : BG w' gb L := (f.block gb h.lt hS).trans h
theorem BG.set {w : World} {gb : Nat} {L : List Nat} (h : BG w gb L) (i y : Nat) : BG (w.setCell ⟨gb, i, none⟩ (.int .i64 y)) gb (L.set i y) := by
  unfold BG at h ⊢
  simp [World.setCell, Array.getElem?_modify, h, nv, List.map_set]
theorem infoInt1 : (Tryz.prog.info? 3).map (fun i => (i.zero, i.size, i.bytes)) = some (some (.int .i64 0), 1, 8) := by kernel_rfl
theorem made_ints (n : Nat) : madeCells #[.int .i64 0] n = (nv .i64 (List.replicate n 0)).toArray := by
  apply Array.ext
  · simp [size_madeCells, nv]
  · intro i h1 h2
    simp [madeCells, nv, Nat.mod_one]
theorem run_ints (n : Nat) (hn : n ≤ 1000000) (u : World) : (Instr.makeSlice 90 (.int .i64 (n : Int)) (.int .i64 (n : Int))).run Tryz.prog u = .ok (.slice (some ⟨u.heap.size, 0, none⟩) n n) (u.alloc (.cells (nv .i64 (List.replicate n 0)).toArray 3)) := by
  obtain ⟨i0, hi, hz0, hz1, hz2⟩ := info_parts2 infoInt1
  have := run_make (P := Tryz.prog) u 90 3 i0 _ Tryz.underlying90 hi hz0 .i64 .i64 (n : Int) (n : Int) (by omega) (Int.le_refl _) (by rw [hz2]; omega) (by omega)
  rw [hz1, Int.toNat_natCast, Nat.mul_one] at this
  rw [this]
  have e : (Value.int .i64 0).cells = #[.int .i64 0] := rfl
  rw [e, made_ints]
end Go.Proofs.YtimjjlgpbkljoaaGreat
