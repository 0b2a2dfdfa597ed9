import Derived.Test.YtjnaekffodgdcaaDoorW18
import Derived.Test.YtjnaekffodgdcaaDoorP1
namespace Go.Proofs.YtjnaekffodgdcaaDoor
open Go.RowKit
set_option linter.unusedVariables false
set_option linter.unusedSimpArgs false
set_option linter.unnecessarySimpa false

def cRead (t : List UInt8) : Except (Nat × Nat) (List (List UInt8) × List CR) :=
  if 1200 < t.length then .error (1, 0) else
  match cRead1 t with
  | .error n => .error (2, n)
  | .ok (L, C) => if 0 < treeF C then .error (3, treeF C) else if 0 < nameF L C then .error (4, nameF L C) else .ok (L, C)

def ReadRep (base : Nat) (w : World) (vr vt : Value) (e ln : Int) : Except (Nat × Nat) (List (List UInt8) × List CR) → Prop
  | .error (n, l) => vr = .slice none 0 0 ∧ vt = .slice none 0 0 ∧ e = n ∧ ln = l ∧ 1 ≤ n
  | .ok (R, C) => e = 0 ∧ ln = 0 ∧ SL base w vr R ∧ ∃ rvs, RL base w vt rvs ∧ Reps base w rvs C ∧ rvs.length ≤ 1048576

theorem results_read {w : World} {rb : Nat} {vr vt : Value} {e ln : Int} {tmps : Array Value} (h : CB w rb vr vt) (h2 : tmps.getD 2 undef = .pointer (some ⟨rb, 0, none⟩)) (h3 : tmps.getD 3 undef = .int .i64 e) (h4 : tmps.getD 4 undef = .int .i64 ln) :
    (results Tryd.f8 tmps).run Tryd.prog w = .ok (.tuple #[.agg #[vr, vt], .int .i64 e, .int .i64 ln]) w := by
  have h2' : tmps[2]?.getD undef = .pointer (some ⟨rb, 0, none⟩) := by simpa using h2
  have h3' : tmps[3]?.getD undef = .int .i64 e := by simpa using h3
  have h4' : tmps[4]?.getD undef = .int .i64 ln := by simpa using h4
  simp only [results, Tryd.results8]
  simp [Sem.run_bind, Result.andThen, h2', h3', h4', asAddr, load_cfg h]

theorem treeF_nat (C : List CR) : (0 : Int) ≤ (treeF C : Int) := by omega

set_option maxRecDepth 100000 in
set_option maxHeartbeats 4000000 in
theorem cfgRead_any (t : List UInt8) (w : World) (ht : t.length ≤ 1048576) :
    Calls Tryd.prog 8 #[.string (bs t)] w fun e w' => Frm [] w w' ∧ ∃ vr vt er ln, e = .returned (.tuple #[.agg #[vr, vt], .int .i64 er, .int .i64 ln]) ∧ ReadRep w.heap.size w' vr vt er ln (cRead t) := by
  have hsz := bs_size t
  have hb0 := heap1 w (Obj.cells #[.slice none 0 0, .slice none 0 0] 35)
  have HB0 : Hid (CB (w.alloc (Obj.cells #[.slice none 0 0, .slice none 0 0] 35)) w.heap.size (.slice none 0 0) (.slice none 0 0)) := hb0
  clear hb0
  by_cases h1200 : 1200 < t.length
  · have Hx : Hid (cRead t = .error (1, 0)) := by show _ = _; unfold cRead; rw [if_pos h1200]
    go_enter Tryd.func8, Tryd.ntmps8
    go_wp2
    refine bodyPost_ret (results_read (vr := .slice none 0 0) (vt := .slice none 0 0) (e := 1) (ln := 0) (rb := w.heap.size) ?_ (by rfl) (by rfl) (by rfl)) rfl ?_
    · exact HB0.out
    · rw [Hx.out]
      exact ⟨(Frm.refl _ _).alloc _, _, _, _, _, rfl, rfl, rfl, rfl, rfl, Nat.le_refl _⟩
  have HX : Hid (cRead t = match cRead1 t with
    | .error n => .error (2, n)
    | .ok (L, C) => if 0 < treeF C then .error (3, treeF C) else if 0 < nameF L C then .error (4, nameF L C) else .ok (L, C)) := by
    show _ = _; unfold cRead; rw [if_neg h1200]
  go_enter Tryd.func8, Tryd.ntmps8
  go_wp2_with fail
  refine (readLines_any t _ (by omega)).mono ?_
  rintro e w1 ⟨hf1, vr, vt, ln, rfl, hrep⟩
  have hz1 : w.heap.size < w1.heap.size := by have := hf1.size; simp at this; omega
  have KB : Hid (CB w1 w.heap.size (.slice none 0 0) (.slice none 0 0)) := HB0.out.frm hf1 (by simp)
  have KF : Hid (Frm [] w w1) := ((Frm.refl _ _).alloc _).trans hf1
  clear hf1 HB0
  cases hr1 : cRead1 t with
  | error n =>
    rw [hr1] at hrep HX
    obtain ⟨rfl, rfl, rfl, hn⟩ := hrep
    have d0 := KB.out.c0
    have d1 := KB.out.c1
    have df := KB.out.fz
    have hgt : (0 : Int) < (n : Int) := by omega
    go_wp2
    refine bodyPost_ret (results_read (vr := .slice none 0 0) (vt := .slice none 0 0) (e := 2) (ln := n) (rb := w.heap.size) ?_ (by rfl) (by rfl) (by rfl)) rfl ?_
    · exact ((KB.out.set0 _).set1 _).frm (S := []) ((Frm.refl _ _).alloc _) (by simp)
    · rw [HX.out]
      exact ⟨((KF.out.setCell (by simp) _).setCell (by simp) _).alloc _, _, _, _, _, rfl, rfl, rfl, rfl, rfl, by omega⟩
  | ok LC =>
    obtain ⟨L, C⟩ := LC
    have hgood := cRead1_good t L C (by omega) hr1
    rw [hr1] at hrep HX
    obtain ⟨rfl, hs, rvs, hrl, hrp, hrn⟩ := hrep
    obtain ⟨a0, n0, rfl⟩ := hs.shape
    obtain ⟨a1, n1, rfl⟩ := own_shape hrl
    have KS : Hid (SL (w.heap.size + 1) w1 (.slice a0 L.length n0) L) := hide (by simpa using hs)
    have KL : Hid (RL (w.heap.size + 1) w1 (.slice a1 rvs.length n1) rvs) := hide (by simpa using hrl)
    have KP : Hid (Reps (w.heap.size + 1) w1 rvs C) := hide (by simpa using hrp)
    have KG : Hid ((∀ m ∈ L, isNameL m = true) ∧ L.length ≤ 8 ∧ (∀ c ∈ C, GoodCR c)) := hgood
    clear hs hrl hrp hgood hr1
    have hnew := heap1 w1 (Obj.cells #[.slice a0 L.length n0, .slice a1 rvs.length n1] 35)
    have HN : Hid (CB (w1.alloc (Obj.cells #[.slice a0 L.length n0, .slice a1 rvs.length n1] 35)) w1.heap.size (.slice a0 L.length n0) (.slice a1 rvs.length n1)) := hnew
    clear hnew
    go_wp2_with fail
    refine (treeFault_any (w.heap.size + 1) _ rvs C _ (KL.out.frm (S := []) ((Frm.refl _ _).alloc _) (by simp)) (KP.out.frm (S := []) ((Frm.refl _ _).alloc _) (by intro k hk; simp at hk)) hrn (fun c hc => (KG.out.2.2 c hc).d)).mono ?_
    rintro e w2 ⟨rfl, hf2⟩
    have F12 : Frm [] w1 w2 := ((Frm.refl _ _).alloc _).trans hf2
    have KN2 : Hid (CB w2 w1.heap.size (.slice a0 L.length n0) (.slice a1 rvs.length n1)) := HN.out.frm hf2 (by simp)
    have KB2 : Hid (CB w2 w.heap.size (.slice none 0 0) (.slice none 0 0)) := KB.out.frm F12 (by simp)
    have KF2 : Hid (Frm [] w w2) := KF.out.trans F12
    have KS2 : Hid (SL (w.heap.size + 1) w2 (.slice a0 L.length n0) L) := KS.out.frm F12 (by simp)
    have KL2 : Hid (RL (w.heap.size + 1) w2 (.slice a1 rvs.length n1) rvs) := KL.out.frm F12 (by simp)
    have KP2 : Hid (Reps (w.heap.size + 1) w2 rvs C) := KP.out.frm F12 (by intro k hk; simp at hk)
    clear hf2 F12 HN KB KF KS KL KP
    by_cases htf : 0 < treeF C
    · have Hx : Hid (cRead t = .error (3, treeF C)) := by show _ = _; rw [HX.out]; simp [htf]
      have d0 := KB2.out.c0
      have d1 := KB2.out.c1
      have df := KB2.out.fz
      have hgt : (0 : Int) < (treeF C : Int) := by omega
      generalize treeF C = tf at *
      go_wp2
      refine bodyPost_ret (results_read (vr := .slice none 0 0) (vt := .slice none 0 0) (e := 3) (ln := tf) (rb := w.heap.size) ?_ (by rfl) (by rfl) (by rfl)) rfl ?_
      · exact (KB2.out.set0 _).set1 _
      · rw [Hx.out]
        exact ⟨(KF2.out.setCell (by simp) _).setCell (by simp) _, _, _, _, _, rfl, rfl, rfl, rfl, rfl, by omega⟩
    · have htz : treeF C = 0 := by omega
      have e0 := KN2.out.c0
      have e1 := KN2.out.c1
      rw [htz]
      go_wp2_with fail
      refine (nameFault_any (w.heap.size + 1) _ _ L rvs C _ KS2.out KL2.out KP2.out hrn (by have := KG.out.2.1; omega)).mono ?_
      rintro e w3 ⟨rfl, hf3⟩
      have KN3 : Hid (CB w3 w1.heap.size (.slice a0 L.length n0) (.slice a1 rvs.length n1)) := KN2.out.frm hf3 (by simp)
      have KB3 : Hid (CB w3 w.heap.size (.slice none 0 0) (.slice none 0 0)) := KB2.out.frm hf3 (by simp)
      have KF3 : Hid (Frm [] w w3) := KF2.out.trans hf3
      have KS3 : Hid (SL (w.heap.size + 1) w3 (.slice a0 L.length n0) L) := KS2.out.frm hf3 (by simp)
      have KL3 : Hid (RL (w.heap.size + 1) w3 (.slice a1 rvs.length n1) rvs) := KL2.out.frm hf3 (by simp)
      have KP3 : Hid (Reps (w.heap.size + 1) w3 rvs C) := KP2.out.frm hf3 (by intro k hk; simp at hk)
      clear hf3 KN2 KB2 KF2 KS2 KL2 KP2 e0 e1
      have d0 := KB3.out.c0
      have d1 := KB3.out.c1
      have df := KB3.out.fz
      by_cases hnf : 0 < nameF L C
      · have Hx : Hid (cRead t = .error (4, nameF L C)) := by show _ = _; rw [HX.out]; simp [htz, hnf]
        have hgt : (0 : Int) < (nameF L C : Int) := by omega
        generalize nameF L C = nf at *
        clear htz htf
        go_wp2
        refine bodyPost_ret (results_read (vr := .slice none 0 0) (vt := .slice none 0 0) (e := 4) (ln := nf) (rb := w.heap.size) ?_ (by rfl) (by rfl) (by rfl)) rfl ?_
        · exact (KB3.out.set0 _).set1 _
        · rw [Hx.out]
          exact ⟨(KF3.out.setCell (by simp) _).setCell (by simp) _, _, _, _, _, rfl, rfl, rfl, rfl, rfl, by omega⟩
      · have hnz : nameF L C = 0 := by omega
        have Hx : Hid (cRead t = .ok (L, C)) := by show _ = _; rw [HX.out]; simp [htz, hnz]
        rw [hnz]
        have e0 := KN3.out.c0
        have e1 := KN3.out.c1
        clear htz htf hnz hnf
        go_wp2
        refine bodyPost_ret (results_read (vr := .slice a0 L.length n0) (vt := .slice a1 rvs.length n1) (e := 0) (ln := 0) (rb := w.heap.size) ?_ (by rfl) (by rfl) (by rfl)) rfl ?_
        · exact (KB3.out.set0 _).set1 _
        · have F : Frm [w.heap.size] w3 ((w3.setCell ⟨w.heap.size, 0, none⟩ (.slice a0 L.length n0)).setCell ⟨w.heap.size, 1, none⟩ (.slice a1 rvs.length n1)) := ((Frm.refl _ _).setCell (by simp) _).setCell (by simp) _
          rw [Hx.out]
          refine ⟨(KF3.out.setCell (by simp) _).setCell (by simp) _, _, _, _, _, rfl, rfl, rfl, (KS3.out.frm F (by simp)).base (by omega), rvs, own_base (KL3.out.frm F (by simp)) (by omega), (KP3.out.frm F (by intro k hk; simp at hk; exact Or.inl (by omega))).base (by omega), hrn⟩

end Go.Proofs.YtjnaekffodgdcaaDoor
