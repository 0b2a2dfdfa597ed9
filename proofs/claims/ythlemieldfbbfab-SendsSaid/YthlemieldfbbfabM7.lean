import Derived.Test.YthlemieldfbbfabM6
namespace Go.Proofs.Ythlemieldfbbfab
open Go.RowKit
set_option linter.unusedVariables false
set_option linter.unusedSimpArgs false
set_option linter.unnecessarySimpa false

/-- Append of one thing, at a step of a region that draws its order. -/
theorem step_appG {ops : Array Oper} {o : Oper} {a : Act} {K : Act → World → Prop} {Q : Exit → Act → World → Prop} {E : Prop} (w : World) (hgd : o.guard = none) (s x : Operand) (t e : TypeId) (z : Value) (k by1 : Nat)
    (hinfo : (Try.prog.info? e).map (fun i => (i.zero, i.size, i.bytes)) = some (some z, k, by1)) (ht : Try.prog.underlying t = some (.slice e)) (hzs : z.cells.size = k) (hsz : 0 < k)
    (ho : o.op = .call { callee := .builtin .append, args := #[s, x], argTypes := #[t, t] })
    (base : Nat) (v : Value) (vs : List (List Value)) (b1 : Nat) (cs : Array Value) (fr : Nat × Nat) (hs : a.eval s = v) (hown : OW e k base w v vs) (hx : a.eval x = .slice (some ⟨b1, 0, none⟩) 1 1)
    (hcl : cs.size = k) (hb : w.heap[b1]? = some (.cells cs e fr)) (hv : cs.all (·.oneCell') = true) (hlen : (vs.length + 1) * by1 ≤ 140737488355328) (hlen2 : vs.length ≤ 140737488355328) (hbase : base ≤ w.heap.size) (H : Nat) (hH : w.heap.size = H)
    (h : ∀ g cap w', OW e k base w' (.slice (some ⟨g, 0, none⟩) (vs.length + 1) cap) (vs ++ [cs.toList]) → w.grownBy w' v.ownBlock → (v.ownBlock = some g ∨ g = H) → g < w'.heap.size → K (a.put o.dst (.slice (some ⟨g, 0, none⟩) (vs.length + 1) cap)) w') :
    if Region.wanted o (yielded ops a.tmps) = true then Oper.wp Try.prog o a w K Q else E := by
  obtain ⟨i0, hi, hz0, hz1, hz2⟩ := info_parts2 hinfo
  refine step_append_lies w hgd s x t ho base e i0 z k by1 ht hi hz0 hz1 hz2 hzs hsz v vs.length vs.flatten hs hown.1 ⟨b1, 0, none⟩ 1 1 cs.toList hx (by rw [Array.length_toList, hcl]; omega) (World.news_of_block hb) ?_ (by decide) (by unfold maxLen; omega) hlen hbase H hH ?_
  · intro u hu
    exact (Array.all_eq_true_iff_forall_mem.1 hv) u (by simpa using hu)
  · intro g cap w' h1 h2 h3 h4
    refine h g cap w' ⟨?_, ?_⟩ h2 h3 h4
    · rw [List.flatten_append, List.flatten_singleton, List.length_append]; exact h1
    · intro y hy
      rw [List.mem_append, List.mem_singleton] at hy
      rcases hy with hy | rfl
      · exact hown.2 y hy
      · rw [Array.length_toList]; exact hcl

def tcell (x : TstM) : Array Value := #[.int .i64 (x.n : Nat), .int .i64 (x.k : Nat), .int .i64 (x.x : Nat)]
def tc (L : List TstM) : List (List Value) := L.map fun x => (tcell x).toList
theorem tcell_one (x : TstM) : (tcell x).all (·.oneCell') = true := by simp [tcell, Value.oneCell']
theorem tc_len (L : List TstM) : (tc L).length = L.length := by simp [tc]
theorem tc_snoc (L : List TstM) (x : TstM) : tc L ++ [(tcell x).toList] = tc (L ++ [x]) := by simp [tc]
theorem pTs_eq (nn nc na : Nat) (s : List UInt8) : pTs nn nc na s = (pN 1 0 nn s).bind fun x => (pN 1 0 2 x.2).bind fun y => (pN 1 0 (if y.1 = 1 then na else nc) y.2).bind fun z => some (⟨x.1, y.1, z.1⟩, z.2) := rfl

theorem testSize : (Try.prog.info? 106).map (·.size) = some 3 := by kernel_rfl
theorem infoTest : (Try.prog.info? 106).map (fun i => (i.zero, i.size, i.bytes)) = some (some (.agg #[.int .i64 0, .int .i64 0, .int .i64 0]), 3, 24) := by kernel_rfl

set_option maxRecDepth 100000 in
set_option maxHeartbeats 4000000 in
theorem takeTest_any (b : Nat) (t : List UInt8) (i : Nat) (V : V6) (nn nc na : Nat) (w : World) (h : LD w b t i V) (hn : ∃ a c, V.n = .slice a nn c) (hc : ∃ a c, V.c = .slice a nc c) (ha : ∃ a c, V.a = .slice a na c) (hnn : nn ≤ 1000) (hnc : nc ≤ 1000) (hna : na ≤ 1000) :
    Calls Try.prog 62 #[.pointer (some ⟨b, 0, none⟩)] w fun e w' => ∃ (i' : Nat) (ok : Bool) (x : TstM), e = .returned (.tuple #[.agg (tcell x), .bool ok]) ∧ LD w' b t i' V ∧ Frm [b] w w' ∧ PO ok (pTs nn nc na) (t.drop i) x (t.drop i') := by
  obtain ⟨n, c, a, t', r, ii⟩ := V
  obtain ⟨an, cn, rfl⟩ := hn
  obtain ⟨ac, cc, rfl⟩ := hc
  obtain ⟨aa, ca, rfl⟩ := ha
  have c2 := h.cn
  have hb := h.lt
  have F0 := hide ((Frm.refl [b] w).alloc (Obj.cells #[.int .i64 0, .int .i64 0, .int .i64 0] 106))
  have L0 := hide (h.frm (S := []) ((Frm.refl [] w).alloc (Obj.cells #[.int .i64 0, .int .i64 0, .int .i64 0] 106)) (by simp))
  have R0 : Hid ((w.alloc (Obj.cells #[.int .i64 0, .int .i64 0, .int .i64 0] 106)).heap[w.heap.size]? = some (Obj.cells #[.int .i64 0, .int .i64 0, .int .i64 0] 106)) := heap1 _ _
  have N1 := hide (takeNumber_any b t i _ 1 0 nn 1 0 ((nn : Int) - 1) _ L0.out (by omega) (by omega) (by omega) rfl rfl rfl)
  clear h
  go_enter Try.func62, Try.ntmps62
  go_wp2_with fail
  refine (N1.out).mono ?_
  rintro e w1 ⟨i1, x, ok1, rfl, hL1, hF1, hP1, hv1⟩
  have L1 := hide hL1
  have F1 := hide (F0.out.trans hF1)
  have hz1 := hF1.size
  simp at hz1
  have R1 : Hid (w1.heap[w.heap.size]? = some (Obj.cells #[.int .i64 0, .int .i64 0, .int .i64 0] 106)) := (hF1.block w.heap.size (by simp) (by simp; omega)).trans R0.out
  have P1 := hide hP1
  clear hL1 hF1 hP1 N1 F0 R0 L0
  have N2 := hide (takeNumber_any b t i1 _ 1 0 2 1 0 1 _ L1.out (by omega) (by omega) (by omega) rfl rfl rfl)
  clear c2
  go_wp2_with fail
  refine (N2.out).mono ?_
  rintro e w2 ⟨i2, y, ok2, rfl, hL2, hF2, hP2, hv2⟩
  have L2 := hide hL2
  have F2 := hide (F1.out.trans hF2)
  have hz2 := hF2.size
  have R2 : Hid (w2.heap[w.heap.size]? = some (Obj.cells #[.int .i64 0, .int .i64 0, .int .i64 0] 106)) := (hF2.block w.heap.size (by omega) (by simp; omega)).trans R1.out
  have P2 := hide hP2
  have c3 := hL2.cc
  have c4 := hL2.ca
  clear hL2 hF2 hP2 N2 F1 R1 L1
  have hbL := L2.out.lt
  obtain ⟨m, hm, HM⟩ : ∃ m : Nat, m ≤ 1000 ∧ Hid (m = if y = 1 then na else nc) := ⟨_, by split <;> omega, rfl⟩
  have N3 := hide (takeNumber_any b t i2 _ 1 0 m 1 0 ((m : Int) - 1) _ L2.out (by omega) (by omega) (by omega) rfl rfl rfl)
  have HF : Hid (∀ i3 z ok3, PO ok3 (pN 1 0 m) (t.drop i2) z (t.drop i3) → PO (ok1 && ok2 && ok3) (pTs nn nc na) (t.drop i) ⟨x, y, z⟩ (t.drop i3)) := by
    intro i3 z ok3 h3
    unfold PO
    rw [pTs_eq]
    rcases P1.out with ⟨e1, h1⟩ | ⟨e1, h1⟩
    · rw [h1]
      rcases P2.out with ⟨e2, h2⟩ | ⟨e2, h2⟩
      · simp only [Option.bind_some]
        rw [h2]
        simp only [Option.bind_some]
        rw [← HM.out]
        rcases h3 with ⟨e3, h3⟩ | ⟨e3, h3⟩
        · rw [h3, e1, e2, e3]; left; exact ⟨rfl, rfl⟩
        · rw [h3, e1, e2, e3]; right; exact ⟨rfl, rfl⟩
      · simp only [Option.bind_some]
        rw [h2, e1, e2]; right; exact ⟨rfl, rfl⟩
    · rw [h1, e1]; right; exact ⟨rfl, rfl⟩
  clear P1 P2
  have hy3 : ((y : Int) == 1) = (y == 1) := by rw [Bool.eq_iff_iff, beq_iff_eq, beq_iff_eq]; omega
  cases hy : (y == 1)
  all_goals
    have hmy : Hid (m = if (y == 1) = true then na else nc) := by
      show _ = _; rw [HM.out]; simp
    have hmy2 := hmy.out
    rw [hy] at hmy2
    simp only [if_true, Bool.false_eq_true, if_false] at hmy2
    subst hmy2
    clear hmy HM
    go_wp2_with fail
    refine (N3.out).mono ?_
    rintro e w3 ⟨i3, z, ok3, rfl, hL3, hF3, hP3, hv3⟩
    have L3 := hide hL3
    have F3 := hide (F2.out.trans hF3)
    have hz3 := hF3.size
    have R3 : Hid (w3.heap[w.heap.size]? = some (Obj.cells #[.int .i64 0, .int .i64 0, .int .i64 0] 106)) := (hF3.block w.heap.size (by omega) (by simp; omega)).trans R2.out
    have HP := hide (HF.out i3 z ok3 hP3)
    have d0 : w3.cell? ⟨w.heap.size, 0, none⟩ = some (.int .i64 0) := by simp [World.cell?, R3.out]
    have d1 : w3.cell? ⟨w.heap.size, 1, none⟩ = some (.int .i64 0) := by simp [World.cell?, R3.out]
    have d2 : w3.cell? ⟨w.heap.size, 2, none⟩ = some (.int .i64 0) := by simp [World.cell?, R3.out]
    have dz : ∀ o, w3.frozen? ⟨w.heap.size, o, none⟩ = false := fun o => by simp [World.frozen?, R3.out]
    clear hL3 hF3 hP3 N3 R2 L2 F2 HF
    cases ok1 <;> cases ok2 <;> cases ok3
    all_goals
      go_wp2
      have FS := (((Frm.refl [w.heap.size] w3).setCell (p := ⟨w.heap.size, 0, none⟩) (.inl (by simp)) (.int .i64 (x : Nat))).setCell (p := ⟨w.heap.size, 1, none⟩) (.inl (by simp)) (.int .i64 (y : Nat))).setCell (p := ⟨w.heap.size, 2, none⟩) (.inl (by simp)) (.int .i64 (z : Nat))
      refine bodyPost_ret (results_cell_tmpA rfl _ _ w.heap.size (tcell ⟨x, y, z⟩) rfl (run_loadVar_row _ w.heap.size 106 106 _ (0, 0) _ ?_ Try.underlying106 rfl testSize)) rfl ?_
      · have h := R3.out
        simp [World.setCell, Array.getElem?_modify, h, tcell]
      exact ⟨i3, _, ⟨x, y, z⟩, rfl, L3.out.frm FS (by simp; omega), F3.out.over FS (by simp), HP.out⟩
end Go.Proofs.Ythlemieldfbbfab
