import Derived.Test.YthlemieldfbbfabM11
namespace Go.Proofs.Ythlemieldfbbfab
open Go.RowKit
set_option linter.unusedVariables false
set_option linter.unusedSimpArgs false
set_option linter.unnecessarySimpa false

def pI0 : PT InM := fun s => (pN 1 0 3 s).bind fun o => (pN 1 0 256 o.2).bind fun x => (pN 2 0 65536 x.2).bind fun a => (pN 2 0 65536 a.2).bind fun b => some (⟨o.1, x.1, a.1, b.1⟩, b.2)
theorem pI_eq (nr nt n i : Nat) (s : List UInt8) : pI nr nt n i s = (pI0 s).bind fun x => if stands nr nt n i x.1 = true then some x else none := by
  unfold pI pI0
  cases pN 1 0 3 s with
  | none => rfl
  | some o =>
    simp only [Option.bind_some]
    cases pN 1 0 256 o.2 with
    | none => rfl
    | some x =>
      simp only [Option.bind_some]
      cases pN 2 0 65536 x.2 with
      | none => rfl
      | some a =>
        simp only [Option.bind_some]
        cases pN 2 0 65536 a.2 with
        | none => rfl
        | some b => rfl
def icell (x : InM) : Array Value := #[.int .i64 (x.op : Nat), .int .i64 (x.x : Nat), .int .i64 (x.a : Nat), .int .i64 (x.b : Nat)]
theorem icell_one (x : InM) : (icell x).all (·.oneCell') = true := by simp [icell, Value.oneCell']
def icl (L : List InM) : List (List Value) := L.map fun x => (icell x).toList
theorem icl_len (L : List InM) : (icl L).length = L.length := by simp [icl]
theorem icl_snoc (L : List InM) (x : InM) : icl L ++ [(icell x).toList] = icl (L ++ [x]) := by simp [icl]
theorem insSize : (Try.prog.info? 109).map (·.size) = some 4 := by kernel_rfl
theorem infoIns : (Try.prog.info? 109).map (fun i => (i.zero, i.size, i.bytes)) = some (some (.agg #[.int .i64 0, .int .i64 0, .int .i64 0, .int .i64 0]), 4, 32) := by kernel_rfl
abbrev IZ (w : World) (rb : Nat) : Prop := w.heap[rb]? = some (.cells #[.int .i64 0, .int .i64 0, .int .i64 0, .int .i64 0] 109 (0, 0))
theorem set4_row {w : World} {g : Nat} {t : TypeId} {o0 o1 o2 o3 : Value} (v0 v1 v2 v3 : Value) (h : w.heap[g]? = some (.cells #[o0, o1, o2, o3] t (0, 0))) : ((((w.setCell ⟨g, 0, none⟩ v0).setCell ⟨g, 1, none⟩ v1).setCell ⟨g, 2, none⟩ v2).setCell ⟨g, 3, none⟩ v3).heap[g]? = some (.cells #[v0, v1, v2, v3] t (0, 0)) := by
  simp [World.setCell, Array.getElem?_modify, h]
theorem set4_frm (w : World) (g : Nat) (v0 v1 v2 v3 : Value) : Frm [g] w ((((w.setCell ⟨g, 0, none⟩ v0).setCell ⟨g, 1, none⟩ v1).setCell ⟨g, 2, none⟩ v2).setCell ⟨g, 3, none⟩ v3) :=
  ((((Frm.refl [g] w).setCell (p := ⟨g, 0, none⟩) (.inl (by simp)) v0).setCell (p := ⟨g, 1, none⟩) (.inl (by simp)) v1).setCell (p := ⟨g, 2, none⟩) (.inl (by simp)) v2).setCell (p := ⟨g, 3, none⟩) (.inl (by simp)) v3
theorem loadIns {w : World} {g : Nat} {cs : Array Value} (h : w.heap[g]? = some (.cells cs 109 (0, 0))) (hs : cs.size = 4) : (loadVar 109 ⟨g, 0, none⟩).run Try.prog w = .ok (.agg cs) w :=
  run_loadVar_row w g 109 109 cs (0, 0) _ h Try.underlying109 rfl (by rw [hs]; exact insSize)

def InsQ (w : World) (b : Nat) (t : List UInt8) (i : Nat) (V : V6) (e : Ending) (w' : World) : Prop :=
  ∃ (i' : Nat) (ok : Bool) (x : InM), e = .returned (.tuple #[.agg (icell x), .bool ok]) ∧ LD w' b t i' V ∧ Frm [b] w w' ∧ PO ok pI0 (t.drop i) x (t.drop i') ∧ x.op < 16777216 ∧ x.x < 16777216 ∧ x.a < 16777216 ∧ x.b < 16777216

set_option maxRecDepth 100000 in
set_option maxHeartbeats 4000000 in
theorem takeInstruction_any (b : Nat) (t : List UInt8) (i : Nat) (V : V6) (w : World) (h : LD w b t i V) :
    Calls Try.prog 64 #[.pointer (some ⟨b, 0, none⟩)] w (InsQ w b t i V) := by
  have F0 := hide ((Frm.refl [b] w).alloc (Obj.cells #[.int .i64 0, .int .i64 0, .int .i64 0, .int .i64 0] 109))
  have R0 : Hid (IZ (w.alloc (Obj.cells #[.int .i64 0, .int .i64 0, .int .i64 0, .int .i64 0] 109)) w.heap.size) := heap1 _ _
  have N1 := hide (takeNumber_any b t i V 1 0 3 1 0 2 _ (h.frm (S := []) ((Frm.refl [] w).alloc (Obj.cells #[.int .i64 0, .int .i64 0, .int .i64 0, .int .i64 0] 109)) (by simp)) (by omega) (by omega) (by omega) rfl rfl rfl)
  have hb := h.lt
  clear h
  go_enter Try.func64, Try.ntmps64
  go_wp2_with fail
  refine (N1.out).mono ?_
  rintro e w1 ⟨i1, n1, ok1, rfl, hL1, hF1, hP1, hv1⟩
  have N2 := hide (takeNumber_any b t i1 V 1 0 256 1 0 255 w1 hL1 (by omega) (by omega) (by omega) rfl rfl rfl)
  have F1 := hide (F0.out.trans hF1)
  have hz1 := hF1.size
  simp at hz1
  have R1 : Hid (IZ w1 w.heap.size) := (hF1.block w.heap.size (by simp) (by simp; omega)).trans R0.out
  have P1 := hide hP1
  clear hL1 hF1 hP1 N1 F0 R0
  go_wp2_with fail
  refine (N2.out).mono ?_
  rintro e w2 ⟨i2, n2, ok2, rfl, hL2, hF2, hP2, hv2⟩
  have N3 := hide (takeNumber_any b t i2 V 2 0 65536 2 0 65535 w2 hL2 (by omega) (by omega) (by omega) rfl rfl rfl)
  have F2 := hide (F1.out.trans hF2)
  have hz2 := hF2.size
  have R2 : Hid (IZ w2 w.heap.size) := (hF2.block w.heap.size (by omega) (by simp; omega)).trans R1.out
  have P2 := hide hP2
  clear hL2 hF2 hP2 N2 F1 R1
  go_wp2_with fail
  refine (N3.out).mono ?_
  rintro e w3 ⟨i3, n3, ok3, rfl, hL3, hF3, hP3, hv3⟩
  have N4 := hide (takeNumber_any b t i3 V 2 0 65536 2 0 65535 w3 hL3 (by omega) (by omega) (by omega) rfl rfl rfl)
  have F3 := hide (F2.out.trans hF3)
  have hz3 := hF3.size
  have R3 : Hid (IZ w3 w.heap.size) := (hF3.block w.heap.size (by omega) (by simp; omega)).trans R2.out
  have P3 := hide hP3
  clear hL3 hF3 hP3 N3 F2 R2
  go_wp2_with fail
  refine (N4.out).mono ?_
  rintro e w4 ⟨i4, n4, ok4, rfl, hL4, hF4, hP4, hv4⟩
  have L4 := hide hL4
  have F4 := hide (F3.out.trans hF4)
  have hz4 := hF4.size
  have R4 : Hid (IZ w4 w.heap.size) := (hF4.block w.heap.size (by omega) (by simp; omega)).trans R3.out
  have HP : Hid (PO (ok1 && ok2 && ok3 && ok4) pI0 (t.drop i) ⟨n1, n2, n3, n4⟩ (t.drop i4)) := by
    show PO _ _ _ _ _
    unfold PO pI0
    rcases P1.out with ⟨e1, h1⟩ | ⟨e1, h1⟩
    · rw [h1]
      simp only [Option.bind_some]
      rcases P2.out with ⟨e2, h2⟩ | ⟨e2, h2⟩
      · rw [h2]
        simp only [Option.bind_some]
        rcases P3.out with ⟨e3, h3⟩ | ⟨e3, h3⟩
        · rw [h3]
          simp only [Option.bind_some]
          rcases hP4 with ⟨e4, h4⟩ | ⟨e4, h4⟩
          · rw [h4, e1, e2, e3, e4]; left; exact ⟨rfl, rfl⟩
          · rw [h4, e1, e2, e3, e4]; right; exact ⟨rfl, rfl⟩
        · rw [h3, e1, e2, e3]; right; exact ⟨rfl, rfl⟩
      · rw [h2, e1, e2]; right; exact ⟨rfl, rfl⟩
    · rw [h1, e1]; right; exact ⟨rfl, rfl⟩
  clear hL4 hF4 hP4 N4 F3 R3 P1 P2 P3
  have dz : ∀ o, w4.frozen? ⟨w.heap.size, o, none⟩ = false := fun o => by simp [World.frozen?, R4.out]
  have d0 : w4.cell? ⟨w.heap.size, 0, none⟩ = some (.int .i64 0) := by simp [World.cell?, R4.out]
  have d1 : w4.cell? ⟨w.heap.size, 1, none⟩ = some (.int .i64 0) := by simp [World.cell?, R4.out]
  have d2 : w4.cell? ⟨w.heap.size, 2, none⟩ = some (.int .i64 0) := by simp [World.cell?, R4.out]
  have d3 : w4.cell? ⟨w.heap.size, 3, none⟩ = some (.int .i64 0) := by simp [World.cell?, R4.out]
  have hw4 : w.heap.size < w4.heap.size := by omega
  cases ok1 <;> cases ok2 <;> cases ok3
  all_goals
    go_wp2
    refine bodyPost_ret (results_cell_tmpA rfl _ _ w.heap.size (icell ⟨n1, n2, n3, n4⟩) rfl (loadIns ((((Frm.refl [] _).alloc _).block w.heap.size (by simp [World.setCell]; omega) (by simp)).trans (set4_row _ _ _ _ R4.out)) rfl)) rfl ?_
    exact ⟨i4, _, ⟨n1, n2, n3, n4⟩, rfl, (L4.out.frm (set4_frm _ _ _ _ _ _) (by simp; omega)).frm ((Frm.refl [] _).alloc _) (by simp), (F4.out.over (set4_frm _ _ _ _ _ _) (by simp)).alloc _, HP.out, hv1, hv2, hv3, hv4⟩

end Go.Proofs.Ythlemieldfbbfab
