import Derived.Test.YthlemieldfbbfabY7
import Derived.Test.YthlemieldfbbfabY8
import Derived.Test.YthlemieldfbbfabYT
import Derived.Test.YthlemieldfbbfabY10
import Derived.WalkSpells
namespace Go.Proofs.Ythlemieldfbbfab
open Go.RowKit
set_option linter.unusedVariables false
set_option linter.unusedSimpArgs false
set_option linter.unnecessarySimpa false

theorem runM_len (m : Mach) (V : List UInt8 → List UInt8) : ∀ k i, (runM m V k i).length ≤ k := by
  intro k
  induction k with
  | zero => intro i; simp [runM]
  | succ k ih =>
    intro i
    rw [runM]
    repeat' split
    all_goals first | (simp; done) | (simp only [List.length_cons]; have := ih; omega) | (refine Nat.le_trans (ih _) (by omega)) | (simp only [List.length_cons]; exact Nat.succ_le_succ (ih _))
theorem hitsM_few {m : Mach} (ok : MOK m) (l : List Nat) : ∀ x ∈ hitsM m l, x.bl.length ≤ 1000 := by
  intro x hx
  obtain ⟨i, _, rfl⟩ := List.mem_map.1 hx
  by_cases h : i < m.routes.length
  · have := (ok.routes.2 m.routes[i] (List.getElem_mem h)).b1
    simp [List.getD, h]
    omega
  · simp [List.getD, h]
theorem RowI.plain {A : List Nat} {w : World} {css : List (Array Value)} {xs : List HitM} (h : RowI hitT A w css xs) : RowI hitI A w css xs :=
  ⟨h.1, fun n cs x h1 h2 => by obtain ⟨g, e, r⟩ := h.2 n cs x h1 h2; exact ⟨_, e, r⟩⟩

set_option maxRecDepth 100000 in
set_option maxHeartbeats 8000000 in
theorem routed_any (w : World) (t : List UInt8) (pb mb : Nat) (V V2 : V6) (m : Mach) (hP : PR [] w pb V m) (hM : RM [] w mb V2 m) (ok : MOK m) (a : Option Addr) (cap : Nat) (L : List LBL) (h : LQ w a L) (hN : L.length ≤ 16384) (hs : ∀ x ∈ L, x.1.length ≤ 16384 ∧ x.2.length ≤ 16384) :
    Calls Try.prog 8 #[.agg #[.pointer (some ⟨pb, 0, none⟩), .pointer none, .pointer (some ⟨mb, 0, none⟩), .string (bs t)], .slice a L.length cap] w fun e w' => ∃ v, e = .returned (.tuple #[v, .bool true]) ∧ Frm [] w w' := by
  have HLV : Hid (LV L) := fun x hx => by have := hs x hx; omega
  have hxl : (hitsM m (runM m (lblV L) m.code.length 0)).length ≤ 1048576 := by
    have h1 := runM_len m (lblV L) m.code.length 0
    have h2 := ok.code.2.1
    simp only [hitsM, List.length_map]
    omega
  have HXF := hide (hitsM_few ok (runM m (lblV L) m.code.length 0))
  have OK := hide ok
  obtain ⟨w0, hw0⟩ : ∃ w0, w0 = w.alloc (Obj.cells #[.pointer (some ⟨pb, 0, none⟩), .pointer none, .pointer (some ⟨mb, 0, none⟩), .string (bs t)] 26) := ⟨_, rfl⟩
  have F0 : Frm [] w w0 := by rw [hw0]; exact (Frm.refl [] _).alloc _
  have B0 : w0.heap[w.heap.size]? = some (.cells #[.pointer (some ⟨pb, 0, none⟩), .pointer none, .pointer (some ⟨mb, 0, none⟩), .string (bs t)] 26 (0, 0)) := by rw [hw0]; exact heap1 _ _
  have hb0 : w.heap.size < w0.heap.size := (Array.getElem?_eq_some_iff.1 B0).1
  have N1 : Hid (Calls Try.prog 13 #[.slice a L.length cap] w0 fun e w' => ∃ b, e = .returned (.slice (some ⟨b, 0, none⟩) L.length (L.length + 1)) ∧ Frm [] w0 w' ∧ CP w' b L) := (copied_any w0 a cap L (h.frm F0) hN).mono (fun e w' h => ⟨_, h⟩)
  have P0 := hide (hP.frm F0 (by simp))
  have M0 := hide (hM.frm F0 (by simp) (by simp))
  have Q0 := hide (h.frm F0)
  have HB0 := hide B0
  have HF0 := hide F0
  clear hP hM h hs F0 ok B0
  rw [hw0] at N1
  go_enter Try.func8, Try.ntmps8
  go_wp2_with fail
  refine (N1.out).mono ?_
  clear N1
  rw [← hw0]
  rintro e w1 ⟨b, rfl, hF1, hC1⟩
  have B1 : w1.heap[w.heap.size]? = _ := (hF1.block w.heap.size hb0 (by simp)).trans HB0.out
  have d0 : w1.cell? ⟨w.heap.size, 0, none⟩ = some (.pointer (some ⟨pb, 0, none⟩)) := by simp [World.cell?, B1]
  have P1 := hide (P0.out.frm hF1 (by simp))
  have M1 := hide (M0.out.frm hF1 (by simp) (by simp))
  have Q1 := hide (Q0.out.frm hF1)
  have C1 := hide hC1
  have HF1 := hide (HF0.out.trans hF1)
  have hb1 : w.heap.size < w1.heap.size := (Array.getElem?_eq_some_iff.1 B1).1
  have HB1 := hide B1
  have N2 := hide (aRoute_any w1 pb V m P1.out OK.out (some ⟨b, 0, none⟩) L.length (L.length + 1) L (hC1.q.lr (L.length + 1) (by omega)) HLV.out (by omega))
  clear hF1 hC1 B1 P0 M0 Q0 HB0 HF0 hb0
  go_wp2_with fail
  refine (N2.out).mono ?_
  clear N2
  rintro e w2 ⟨v, css, hF2, hR⟩
  have B2 : w2.heap[w.heap.size]? = _ := (hF2.block w.heap.size hb1 (by simp)).trans HB1.out
  have M2 := hide (M1.out.frm hF2 (by simp) (by simp))
  have Q2 := hide (Q1.out.frm hF2)
  have C2 := hide (C1.out.frm hF2)
  have HF2 := hide (HF1.out.trans hF2)
  have hb2 : w.heap.size < w2.heap.size := (Array.getElem?_eq_some_iff.1 B2).1
  have HB2 := hide B2
  have N3 := hide (still_any w2 b a cap L Q2.out C2.out hN)
  clear hF2 B2 P1 M1 Q1 C1 HF1 hb1 HB1 d0
  rcases hR with ⟨hlab, rfl⟩ | ⟨hlab, rfl, hO, hI⟩
  · go_wp2_with fail
    refine (N3.out).mono ?_
    clear N3
    rintro e w3 ⟨rfl, q, rfl⟩
    have F3 := hide (HF2.out.drewN q)
    have N4 := hide (rLabels_any rName_any (.slice a L.length cap) L (w2.drewN q) ((Q2.out.frm ((Frm.refl [] _).drewN q)).lr cap (by omega)) HLV.out)
    rw [hlab] at N4
    go_wp2_with fail
    refine (N4.out).mono ?_
    clear N4
    rintro e w4 ⟨rfl, hF4⟩
    have F4 := hide (F3.out.trans hF4)
    have hnn : ∀ u : World, (binOp BinOp.eql 34 (.slice none 0 0) (.slice none 0 0)).run Try.prog u = .ok (.bool true) u := fun u => (run_eql_nil_slice u 34 75 none 0 0 0 0 Try.underlying34).trans (by simp)
    clear hF4
    go_wp2
    go_ret2
    exact ⟨_, rfl, F4.out⟩
  · obtain ⟨ao, co, he⟩ := hO.shape
    rw [lst_len] at he
    subst he
    have O2 := hide (hO.rw (A := []) (by simp))
    have I2 := hide hI
    clear hO hI
    go_wp2_with fail
    refine (N3.out).mono ?_
    clear N3
    rintro e w3 ⟨rfl, q, rfl⟩
    have F3 := hide (HF2.out.drewN q)
    have N4 := hide (rLabels_any rName_any (.slice a L.length cap) L (w2.drewN q) ((Q2.out.frm ((Frm.refl [] _).drewN q)).lr cap (by omega)) HLV.out)
    rw [hlab] at N4
    go_wp2_with fail
    refine (N4.out).mono ?_
    clear N4
    rintro e w4 ⟨rfl, hF4⟩
    have F24 : Frm [] w2 w4 := ((Frm.refl [] w2).drewN q).trans hF4
    have F4 := hide (F3.out.trans hF4)
    have O4 := hide (O2.out.frm F24 (by simp))
    have I4 := hide (I2.out.frm F24 (by simp))
    have M4 := hide (M2.out.frm F24 (by simp) (by simp))
    have Q4 := hide (Q2.out.frm F24)
    have B4 : w4.heap[w.heap.size]? = _ := (F24.block w.heap.size hb2 (by simp)).trans HB2.out
    have d2 : w4.cell? ⟨w.heap.size, 2, none⟩ = some (.pointer (some ⟨mb, 0, none⟩)) := by simp [World.cell?, B4]
    have N5 := hide (tight_any w4 _ [] css _ O4.out I4.out hxl HXF.out)
    clear hF4 F24 B4 O2 I2 M2 Q2 HB2 F3 HF2 C2
    go_wp2_with fail
    refine (N5.out).mono ?_
    clear N5
    rintro e w5 ⟨rfl, q5, rfl⟩
    have F45 : Frm [] w4 (w4.drewN q5) := (Frm.refl [] _).drewN q5
    have N6 := hide (rRun_any (w4.drewN q5) mb V2 m (M4.out.frm F45 (by simp) (by simp)) OK.out (.slice a L.length cap) L ((Q4.out.frm F45).lr cap (by omega)) HLV.out.val)
    have F5 := hide (F4.out.trans F45)
    have O5 := hide (O4.out.frm F45 (by simp))
    have I5 := hide (I4.out.frm F45 (by simp))
    clear F45 O4 I4 M4 Q4 F4
    go_wp2_with fail
    refine (N6.out).mono ?_
    clear N6
    rintro e w6 ⟨v6, css6, rfl, hF6, hO6, hI6⟩
    obtain ⟨ao6, co6, he6⟩ := hO6.shape
    rw [lst_len] at he6
    subst he6
    have N7 := hide (sameHits_any w6 _ _ [] [] css css6 _ (O5.out.frm hF6 (by simp)) (hO6.rw (A := []) (by simp)) (I5.out.frm hF6 (by simp)).plain hI6 hxl HXF.out)
    have F6 := hide (F5.out.trans hF6)
    clear hF6 hO6 hI6 O5 I5 F5
    go_wp2_with fail
    refine (N7.out).mono ?_
    clear N7
    rintro e w7 ⟨rfl, q7, rfl⟩
    go_wp2
    go_ret2
    exact ⟨_, rfl, F6.out.drewN _⟩

set_option maxRecDepth 100000 in
set_option maxHeartbeats 4000000 in
theorem sends_any (t : List UInt8) (w : World) (ht : t.length ≤ 140737488355328) (a : Option Addr) (cap : Nat) (L : List LBL) (h : LQ w a L) (hN : L.length ≤ 4398046511104) (hs : ∀ x ∈ L, x.1.length ≤ 140737488355328 ∧ x.2.length ≤ 140737488355328) :
    Calls Try.prog 4 #[.string (bs t), .slice a L.length cap] w fun e w' => e = .returned (.bool true) ∧ Frm [] w w' := by
  have N1 := hide (much_any w t ht a cap L h hN hs)
  have Q := hide h
  clear h
  cases hd : decide (16384 < t.length + szL L.length L)
  · rw [hd] at N1
    have hsm : ¬ 16384 < t.length + szL L.length L := of_decide_eq_false hd
    have hLn := szL_le L L.length
    have HS := hide (szL_all L L.length (by omega))
    clear hd hs
    go_enter Try.func4, Try.ntmps4
    go_wp2_with fail
    refine (N1.out).mono ?_
    clear N1
    rintro e w1 ⟨rfl, q, rfl⟩
    have N2 := hide (lloaded_any t (w.drewN q) (by omega))
    go_wp2_with fail
    refine (N2.out).mono ?_
    clear N2
    rintro e w2 ⟨hF2, h2⟩
    have F2 := hide (((Frm.refl [] w).drewN q).trans hF2)
    clear hF2
    rcases h2 with ⟨_, rfl⟩ | ⟨m, V, pb, V2, mb, hl, rfl, hP, hM, _, _⟩
    · go_wp2
      go_ret
      exact ⟨rfl, F2.out.alloc _⟩
    · have FA : Frm [] w2 (w2.alloc (Obj.cells #[.pointer (some ⟨pb, 0, none⟩), .pointer none, .pointer (some ⟨mb, 0, none⟩), .string (bs t)] 26)) := (Frm.refl [] _).alloc _
      have N3 := hide (routed_any (w2.alloc (Obj.cells #[.pointer (some ⟨pb, 0, none⟩), .pointer none, .pointer (some ⟨mb, 0, none⟩), .string (bs t)] 26)) t pb mb V V2 m (hP.frm FA (by simp)) (hM.frm FA (by simp) (by simp)) (ld_some hl).2 a cap L (Q.out.frm (F2.out.trans FA)) (by omega) HS.out)
      clear hl hP hM FA
      go_wp2_with fail
      refine (N3.out).mono ?_
      clear N3
      rintro e w3 ⟨x, rfl, hF3⟩
      have F3 := hide ((F2.out.alloc _).trans hF3)
      clear hF3
      go_wp2
      go_ret
      exact ⟨rfl, F3.out⟩
  · rw [hd] at N1
    clear hd hs
    go_enter Try.func4, Try.ntmps4
    go_wp2_with fail
    refine (N1.out).mono ?_
    clear N1
    rintro e w1 ⟨rfl, q, rfl⟩
    go_wp2
    go_ret
    exact ⟨rfl, (Frm.refl [] w).drewN q⟩
end Go.Proofs.Ythlemieldfbbfab
