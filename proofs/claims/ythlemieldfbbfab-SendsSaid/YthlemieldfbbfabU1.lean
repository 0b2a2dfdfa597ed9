import Derived.Test.YthlemieldfbbfabT5
import Derived.Test.YthlemieldfbbfabS6
namespace Go.Proofs.Ythlemieldfbbfab
open Go.RowKit
set_option linter.unusedVariables false
set_option linter.unusedSimpArgs false
set_option linter.unnecessarySimpa false

theorem PR.avoid {A B : List Nat} {w : World} {pb : Nat} {V : V6} {m : Mach} (h : PR A w pb V m) (hB : ∀ g ∈ B, g ∈ A) : PR B w pb V m := ⟨h.row, h.pg.avoid (fun g hg => by left; simp at hg ⊢; rcases hg with h1 | h1; exact .inl h1; exact .inr (hB g h1)), fun hm => h.av (hB _ hm)⟩
theorem PR.frm {A S : List Nat} {w w' : World} {pb : Nat} {V : V6} {m : Mach} (h : PR A w pb V m) (f : Frm S w w') (hS : ∀ g ∈ S, g ∈ A) : PR A w' pb V m :=
  ⟨(f.block pb (Array.getElem?_eq_some_iff.1 h.row).1 (fun hm => h.av (hS _ hm))).trans h.row, h.pg.frm f (fun g hg => by simp [hS g hg]), h.av⟩
theorem RM.frm {A S : List Nat} {w w' : World} {mb : Nat} {V : V6} {m : Mach} (h : RM A w mb V m) (f : Frm S w w') (hS : ∀ g ∈ S, g ∈ A) (hm : mb ∉ A) : RM A w' mb V m := by
  obtain ⟨c1, h1, h2⟩ := h.a
  obtain ⟨c2, h3, h4⟩ := h.t
  obtain ⟨c3, h5, h6⟩ := h.r
  obtain ⟨c4, h7, h8⟩ := h.i
  exact ⟨h.row.frm f (fun k => hm (hS _ k)), h.n.frm f hS, h.c.frm f hS, ⟨c1, h1.frm f hS, h2.frm f hS⟩, ⟨c2, h3.frm f hS, h4.frm f hS⟩, ⟨c3, h5.frm f hS, h6.frm f hS⟩, ⟨c4, h7.frm f hS, h8.frm f hS⟩⟩
theorem RM.avoid {A B : List Nat} {w : World} {mb : Nat} {V : V6} {m : Mach} (h : RM A w mb V m) (hB : ∀ g ∈ B, g ∈ A) : RM B w mb V m := by
  obtain ⟨c1, h1, h2⟩ := h.a
  obtain ⟨c2, h3, h4⟩ := h.t
  obtain ⟨c3, h5, h6⟩ := h.r
  obtain ⟨c4, h7, h8⟩ := h.i
  have hB2 : ∀ g ∈ B, g ∈ A ∨ w.heap.size ≤ g := fun g hg => .inl (hB g hg)
  exact ⟨h.row, h.n.avoid hB2, h.c.avoid hB2, ⟨c1, h1.avoid hB2, h2.avoid hB2⟩, ⟨c2, h3.avoid hB2, h4.avoid hB2⟩, ⟨c3, h5.avoid hB2, h6.avoid hB2⟩, ⟨c4, h7.avoid hB2, h8.avoid hB2⟩⟩
abbrev pz : Array Value := #[.pointer none, .pointer none, .pointer none, .string ByteArray.empty]
theorem pairSize : (Try.prog.info? 26).map (·.size) = some 4 := by kernel_rfl
theorem loadPair {w : World} {g : Nat} {cs : Array Value} (h : w.heap[g]? = some (.cells cs 26 (0, 0))) (hs : cs.size = 4) : (loadVar 26 ⟨g, 0, none⟩).run Try.prog w = .ok (.agg cs) w :=
  run_loadVar_row w g 26 26 cs (0, 0) _ h Try.underlying26 rfl (by rw [hs]; exact pairSize)
/-- What both sides answer of bytes. -/
def LawQ (t : List UInt8) (w : World) (e : Ending) (w' : World) : Prop :=
  Frm [] w w' ∧ ((ld t = none ∧ e = .returned (.tuple #[.agg pz, .bool true])) ∨ (∃ m V pb V2 mb, ld t = some m ∧ e = .returned (.tuple #[.agg #[.pointer (some ⟨pb, 0, none⟩), .pointer none, .pointer (some ⟨mb, 0, none⟩), .string (bs t)], .bool true]) ∧ PR [] w' pb V m ∧ RM [] w' mb V2 m ∧ w.heap.size ≤ pb ∧ w.heap.size ≤ mb))

set_option maxRecDepth 100000 in
set_option maxHeartbeats 4000000 in
theorem lloaded_any (t : List UInt8) (w : World) (ht : t.length ≤ 262144) :
    Calls Try.prog 5 #[.string (bs t)] w (LawQ t w) := by
  have F0 := hide ((Frm.refl [] w).alloc (Obj.cells pz 26))
  have R0 : Hid ((w.alloc (Obj.cells pz 26)).heap[w.heap.size]? = some (.cells pz 26 (0, 0))) := heap1 _ _
  have N1 := hide (aLoad_any [w.heap.size] t (w.alloc (Obj.cells pz 26)) ht (by simp))
  go_enter Try.func5, Try.ntmps5
  go_wp2_with fail
  refine (N1.out).mono ?_
  clear N1
  rintro e w1 ⟨hF1, h1⟩
  have F1 := hide (F0.out.trans hF1)
  have R1 : (w1.heap[w.heap.size]? = some (.cells pz 26 (0, 0))) := (hF1.block w.heap.size (by simp) (by simp)).trans R0.out
  have hz1 := hF1.size
  simp at hz1
  have N2 := hide (rLoaded_any [w.heap.size] t w1 ht (by intro g hg; simp at hg; omega))
  have RR1 := hide R1
  clear hF1 F0 R0 R1
  rcases h1 with ⟨hl, rfl⟩ | ⟨m, V, pb, hl, rfl, hP, hpb⟩
  · have HL := hide hl
    clear hl
    go_wp2_with fail
    refine (N2.out).mono ?_
    clear N2
    rintro e w2 ⟨hF2, h2⟩
    have R2 : (w2.heap[w.heap.size]? = some (.cells pz 26 (0, 0))) := (hF2.block w.heap.size (by omega) (by simp)).trans RR1.out
    have F2 := hide (F1.out.trans hF2)
    have hR2 := hide R2
    have d0 : w2.cell? ⟨w.heap.size, 0, none⟩ = some (.pointer none) := by simp [World.cell?, R2]
    have d1 : w2.cell? ⟨w.heap.size, 1, none⟩ = some (.pointer none) := by simp [World.cell?, R2]
    have d2 : w2.cell? ⟨w.heap.size, 2, none⟩ = some (.pointer none) := by simp [World.cell?, R2]
    have d3 : w2.cell? ⟨w.heap.size, 3, none⟩ = some (.string ByteArray.empty) := by simp [World.cell?, R2]
    have dz : ∀ o, w2.frozen? ⟨w.heap.size, o, none⟩ = false := fun o => by simp [World.frozen?, R2]
    clear hF2 R2
    rcases h2 with ⟨_, rfl⟩ | ⟨_, _, _, h, _⟩
    · go_wp2
      refine bodyPost_ret (results_cell_tmpA rfl _ _ w.heap.size pz rfl (loadPair (set4_row _ _ _ _ hR2.out) rfl)) rfl ?_
      exact ⟨F2.out.over (set4_frm _ _ _ _ _ _) (by simp), .inl ⟨HL.out, rfl⟩⟩
    · rw [HL.out] at h; cases h
  · have HL := hide hl
    have P1 := hide hP
    clear hl hP
    go_wp2_with fail
    refine (N2.out).mono ?_
    clear N2
    rintro e w2 ⟨hF2, h2⟩
    have R2 : (w2.heap[w.heap.size]? = some (.cells pz 26 (0, 0))) := (hF2.block w.heap.size (by omega) (by simp)).trans RR1.out
    have F2 := hide (F1.out.trans hF2)
    have P2 := hide (P1.out.frm hF2 (by simp))
    have hR2 := hide R2
    have d0 : w2.cell? ⟨w.heap.size, 0, none⟩ = some (.pointer none) := by simp [World.cell?, R2]
    have d1 : w2.cell? ⟨w.heap.size, 1, none⟩ = some (.pointer none) := by simp [World.cell?, R2]
    have d2 : w2.cell? ⟨w.heap.size, 2, none⟩ = some (.pointer none) := by simp [World.cell?, R2]
    have d3 : w2.cell? ⟨w.heap.size, 3, none⟩ = some (.string ByteArray.empty) := by simp [World.cell?, R2]
    have dz : ∀ o, w2.frozen? ⟨w.heap.size, o, none⟩ = false := fun o => by simp [World.frozen?, R2]
    clear hF2 R2
    rcases h2 with ⟨h, _⟩ | ⟨m2, V2, mb, h, rfl, hM, hmn, hmb⟩
    · rw [HL.out] at h; cases h
    · have hmm : m2 = m := by rw [HL.out] at h; cases h; rfl
      subst hmm
      have M2 := hide hM
      clear h hM
      go_wp2
      refine bodyPost_ret (results_cell_tmpA rfl _ _ w.heap.size #[.pointer (some ⟨pb, 0, none⟩), .pointer none, .pointer (some ⟨mb, 0, none⟩), .string (bs t)] rfl (loadPair (set4_row _ _ _ _ hR2.out) rfl)) rfl ?_
      refine ⟨F2.out.over (set4_frm _ _ _ _ _ _) (by simp), .inr ⟨_, V, pb, V2, mb, HL.out, rfl, (P2.out.frm (set4_frm _ _ _ _ _ _) (by simp)).avoid (by simp), (M2.out.frm (set4_frm _ _ _ _ _ _) (by simp) hmn).avoid (by simp), ?_, by omega⟩⟩
      simp at hpb
      omega

set_option maxRecDepth 100000 in
set_option maxHeartbeats 4000000 in
theorem lsaved_any (t : List UInt8) (m : Mach) (V : V6) (pb mb : Nat) (w : World) (hP : PR [] w pb V m) (hM : MOK m) (ht : t = eM m) (hL : t.length ≤ 300000000) :
    Calls Try.prog 6 #[.agg #[.pointer (some ⟨pb, 0, none⟩), .pointer none, .pointer (some ⟨mb, 0, none⟩), .string (bs t)]] w fun e w' => ∃ x, e = .returned (.tuple #[.string (bs x), .bool true]) ∧ Frm [] w w' := by
  have hL2 := hL
  rw [ht] at hL2
  have HT := hide ht
  have N1 := hide (aSave_any [] pb V m (w.alloc (Obj.cells #[.pointer (some ⟨pb, 0, none⟩), .pointer none, .pointer (some ⟨mb, 0, none⟩), .string (bs t)] 26)) (hP.frm (S := []) ((Frm.refl [] _).alloc _) (by simp)) hM hL2)
  have B0 : Hid ((w.alloc (Obj.cells #[.pointer (some ⟨pb, 0, none⟩), .pointer none, .pointer (some ⟨mb, 0, none⟩), .string (bs t)] 26)).heap[w.heap.size]? = some (.cells #[.pointer (some ⟨pb, 0, none⟩), .pointer none, .pointer (some ⟨mb, 0, none⟩), .string (bs t)] 26 (0, 0))) := heap1 _ _
  rw [← ht] at N1
  clear hP hM ht hL2
  go_enter Try.func6, Try.ntmps6
  go_wp2_with fail
  refine (N1.out).mono ?_
  clear N1
  rintro e w1 ⟨rfl, hF⟩
  have B1 : (w1.heap[w.heap.size]? = some (.cells #[.pointer (some ⟨pb, 0, none⟩), .pointer none, .pointer (some ⟨mb, 0, none⟩), .string (bs t)] 26 (0, 0))) := (hF.block w.heap.size (by simp) (by simp)).trans B0.out
  have F := hide (((Frm.refl [] w).alloc _).trans hF)
  have d2 : w1.cell? ⟨w.heap.size, 2, none⟩ = some (.pointer (some ⟨mb, 0, none⟩)) := by simp [World.cell?, B1]
  have d3 : w1.cell? ⟨w.heap.size, 3, none⟩ = some (.string (bs t)) := by simp [World.cell?, B1]
  clear hF B1 B0
  go_wp2_with fail
  go_quiet (fail)
  go_wp2
  go_ret2
  exact ⟨t, by simp, F.out.drewN _⟩

set_option maxRecDepth 100000 in
set_option maxHeartbeats 4000000 in
theorem loads_any (t : List UInt8) (w : World) (ht : t.length ≤ 9223372036854775807) :
    Calls Try.prog 3 #[.string (bs t)] w fun e w' => e = .returned (.bool true) ∧ Frm [] w w' := by
  have hsz := bs_size t
  by_cases hbig : 16384 < t.length
  · have hd : decide ((16384 : Int) < (t.length : Int)) = true := decide_eq_true (by omega)
    have hd' : decide (16384 < t.length) = true := decide_eq_true hbig
    go_enter Try.func3, Try.ntmps3
    go_wp2
    go_ret
    exact ⟨rfl, Frm.refl _ _⟩
  · have hd : decide ((16384 : Int) < (t.length : Int)) = false := decide_eq_false (by omega)
    have hd' : decide (16384 < t.length) = false := decide_eq_false hbig
    have N1 := hide (lloaded_any t w (by omega))
    go_enter Try.func3, Try.ntmps3
    go_wp2_with fail
    refine (N1.out).mono ?_
    clear N1
    rintro e w1 ⟨hF1, h1⟩
    have F1 := hide hF1
    clear hF1
    rcases h1 with ⟨_, rfl⟩ | ⟨m, V, pb, V2, mb, hl, rfl, hP, hM, _, _⟩
    · go_wp2
      go_ret
      exact ⟨rfl, F1.out.alloc _⟩
    · have N2 := hide (lsaved_any t m V pb mb (w1.alloc (Obj.cells #[.pointer (some ⟨pb, 0, none⟩), .pointer none, .pointer (some ⟨mb, 0, none⟩), .string (bs t)] 26)) (hP.frm (S := []) ((Frm.refl [] _).alloc _) (by simp)) (ld_some hl).2 (ld_some hl).1 (by omega))
      clear hl hP hM
      go_wp2_with fail
      refine (N2.out).mono ?_
      clear N2
      rintro e w2 ⟨x, rfl, hF2⟩
      have F2 := hide ((F1.out.alloc _).trans hF2)
      clear hF2
      go_wp2
      go_ret
      exact ⟨rfl, F2.out⟩
end Go.Proofs.Ythlemieldfbbfab
