import Derived.Test.YthlemieldfbbfabM8
import Derived.Great.BuildSlice
namespace Go.Proofs.Ythlemieldfbbfab
open Go.RowKit
set_option linter.unusedVariables false
set_option linter.unusedSimpArgs false
set_option linter.unnecessarySimpa false

/-- What cells of one thing mean, with the rows that it has; those lie in none of the blocks A. -/
structure Inn (α : Type) where
  rel : List Nat → World → Array Value → α → Prop
  frm : ∀ {A S : List Nat} {w w' : World} {cs : Array Value} {x : α}, rel A w cs x → Frm S w w' → (∀ g ∈ S, g ∈ A) → rel A w' cs x
  avoid : ∀ {A B : List Nat} {w : World} {cs : Array Value} {x : α}, rel A w cs x → (∀ g ∈ B, g ∈ A ∨ w.heap.size ≤ g) → rel B w cs x
def RowI {α : Type} (I : Inn α) (A : List Nat) (w : World) (css : List (Array Value)) (xs : List α) : Prop := css.length = xs.length ∧ ∀ (n : Nat) cs x, css[n]? = some cs → xs[n]? = some x → I.rel A w cs x
theorem RowI.nil {α : Type} (I : Inn α) (A : List Nat) (w : World) : RowI I A w [] [] := ⟨rfl, fun n cs x h => by simp at h⟩
theorem RowI.frm {α : Type} {I : Inn α} {A S : List Nat} {w w' : World} {css : List (Array Value)} {xs : List α} (h : RowI I A w css xs) (f : Frm S w w') (hS : ∀ g ∈ S, g ∈ A) : RowI I A w' css xs := ⟨h.1, fun n cs x h1 h2 => I.frm (h.2 n cs x h1 h2) f hS⟩
theorem RowI.avoid {α : Type} {I : Inn α} {A B : List Nat} {w : World} {css : List (Array Value)} {xs : List α} (h : RowI I A w css xs) (hB : ∀ g ∈ B, g ∈ A ∨ w.heap.size ≤ g) : RowI I B w css xs := ⟨h.1, fun n cs x h1 h2 => I.avoid (h.2 n cs x h1 h2) hB⟩
theorem RowI.snoc {α : Type} {I : Inn α} {A : List Nat} {w : World} {css : List (Array Value)} {xs : List α} {cs : Array Value} {x : α} (h : RowI I A w css xs) (hx : I.rel A w cs x) : RowI I A w (css ++ [cs]) (xs ++ [x]) := by
  refine ⟨by simp [h.1], fun n c y h1 h2 => ?_⟩
  rcases Nat.lt_trichotomy n css.length with hn | hn | hn
  · rw [List.getElem?_append_left hn] at h1
    rw [List.getElem?_append_left (by rw [← h.1]; exact hn)] at h2
    exact h.2 n c y h1 h2
  · subst hn
    rw [List.getElem?_append_right (Nat.le_refl _)] at h1
    rw [List.getElem?_append_right (by rw [h.1]; exact Nat.le_refl _), h.1] at h2
    simp at h1 h2
    subst h1 h2
    exact hx
  · rw [List.getElem?_eq_none (by simp; omega)] at h1; cases h1
theorem RowI.app {α : Type} {I : Inn α} {A : List Nat} {g : Nat} {w w' : World} {row : Option Nat} {css : List (Array Value)} {xs : List α} (h : RowI I (A ++ row.toList) w css xs) (hg : w.grownBy w' row) (ha : row = some g ∨ g = w.heap.size) : RowI I (A ++ [g]) w' css xs := by
  have h1 : RowI I (A ++ (g :: row.toList)) w css xs := h.avoid (by
    intro x hx
    simp at hx
    rcases hx with hx | rfl | hx
    · left; simp [hx]
    · rcases ha with ha | ha
      · left; simp [ha]
      · right; omega
    · left; simp [hx])
  have h2 : RowI I (A ++ (g :: row.toList)) w' css xs := h1.frm (S := row.toList) ((Frm.refl row.toList w).grown hg (fun r e => .inl (by simp [e]))) (by intro x hx; simp at hx; simp [hx])
  exact h2.avoid (by intro x hx; left; simp at hx ⊢; rcases hx with hx | hx <;> simp [hx])
def lst (css : List (Array Value)) : List (List Value) := css.map (·.toList)
theorem lst_len (css : List (Array Value)) : (lst css).length = css.length := by simp [lst]
theorem lst_snoc (css : List (Array Value)) (c : Array Value) : lst css ++ [c.toList] = lst (css ++ [c]) := by simp [lst]

/-- The cells of an automaton. -/
def acell (x : AutM) (va vn : Value) : Array Value := (Value.int .i64 x.k :: (nv .u8 x.cl ++ [va, vn])).toArray
def autI : Inn AutM where
  rel A w cs x := ∃ va vn, cs = acell x va vn ∧ RW A 1 w va (bc x.acc) ∧ RW A 1 w vn (ic x.nx)
  frm := by
    rintro A S w w' cs x ⟨va, vn, h1, h2, h3⟩ f hS
    exact ⟨va, vn, h1, h2.frm f hS, h3.frm f hS⟩
  avoid := by
    rintro A B w cs x ⟨va, vn, h1, h2, h3⟩ hB
    exact ⟨va, vn, h1, h2.avoid hB, h3.avoid hB⟩
theorem infoAut : (Try.prog.info? 104).map (fun i => (i.zero, i.size, i.bytes)) = some (some (.agg Try.zeroCells104), 259, 312) := by kernel_rfl

theorem step_autoLoad {ops : Array Oper} {o : Oper} {a : Act} {K : Act → World → Prop} {Q : Exit → Act → World → Prop} {E : Prop} (w : World) (hgd : o.guard = none) (x : Operand) (ho : o.op = .load 104 x) (g : Nat) (hx : a.eval x = .pointer (some ⟨g, 0, none⟩)) (cs : Array Value) (hl : (loadVar 104 ⟨g, 0, none⟩).run Try.prog w = .ok (.agg cs) w) (h : K (a.put o.dst (.agg cs)) w) :
    if Region.wanted o (yielded ops a.tmps) = true then Oper.wp Try.prog o a w K Q else E := by
  have hw : Region.wanted o (yielded ops a.tmps) = true := by simp [Region.wanted, hgd]
  rw [if_pos hw]
  exact wp_autoLoad x ho g hx cs hl h
theorem step_autoBuild {ops : Array Oper} {o : Oper} {a : Act} {K : Act → World → Prop} {Q : Exit → Act → World → Prop} {E : Prop} (w : World) (hgd : o.guard = none) (x : Operand) (ho : o.op = .buildSlice 52 1 #[(0, x)]) (cs : Array Value) (hx : a.eval x = .agg cs) (hs : cs.size = 259) (h : K (a.put o.dst (.slice (some ⟨w.heap.size, 0, none⟩) 1 1)) (w.alloc (.cells cs 104))) :
    if Region.wanted o (yielded ops a.tmps) = true then Oper.wp Try.prog o a w K Q else E := by
  have hw : Region.wanted o (yielded ops a.tmps) = true := by simp [Region.wanted, hgd]
  rw [if_pos hw]
  obtain ⟨i0, hi, hz0, hz1, hz2⟩ := info_parts2 infoAut
  refine wp_buildSlice 52 104 1 _ ho cs i0 _ Try.underlying52 hi hz0 (by rw [hz1]; decide) (by rw [hz1]; decide) ?_ h
  have e : ((#[(0, x)] : Array (Nat × Operand)).map fun (y : Nat × Operand) => (y.1, a.eval y.2)).toList = (([Value.agg cs] : List Value).zipIdx 0).map fun y => (y.2, y.1) := by
    simp [hx]
  have e2 := Great.fill_whole (s := 259) (by omega) [Value.agg cs] ((Array.range (1 * 259)).map ((Value.agg Try.zeroCells104).cells[· % (Value.agg Try.zeroCells104).cells.size]!)) (by intro v hv; simp at hv; subst hv; exact hs) (by simp)
  rw [hz1]
  refine Eq.trans (congrArg _ e) (e2.trans ?_)
  simp [Value.cells]
def AutsQ (A : List Nat) (w : World) (b : Nat) (t : List UInt8) (i : Nat) (V : V6) (e : Ending) (w' : World) : Prop :=
  ∃ (i' : Nat) (ok : Bool) (v : Value) (x : List AutM) (css : List (Array Value)), e = .returned (.bool ok) ∧ LD w' b t i' { V with a := v } ∧ Frm [b] w w' ∧ PO ok pAs (t.drop i) x (t.drop i') ∧ OW 104 259 w.heap.size w' v (lst css) ∧ (ok = true → RowI autI ((b :: A) ++ v.ownBlock.toList) w' css x)

set_option maxRecDepth 100000 in
set_option maxHeartbeats 4000000 in
theorem takeAutomata_any (b : Nat) (t : List UInt8) (i : Nat) (V : V6) (w : World) (h : LD w b t i V) (hV : V.a = .slice none 0 0) (A : List Nat) (hA : ∀ g ∈ A, g < w.heap.size) :
    Calls Try.prog 39 #[.pointer (some ⟨b, 0, none⟩)] w (AutsQ A w b t i V) := by
  have N1 := hide (takeNumber_any b t i V 1 0 256 1 0 255 w h (by omega) (by omega) (by omega) rfl rfl rfl)
  have hb := h.lt
  have HV := hide hV
  clear h hV
  go_enter Try.func39, Try.ntmps39
  go_wp2_with fail
  refine (N1.out).mono ?_
  rintro e w1 ⟨i1, v, ok, rfl, hL1, hF1, hP1, hv⟩
  have L1 := hide hL1
  have F1 := hide hF1
  have P1 := hide hP1
  clear hL1 hF1 hP1 N1
  have hz1 := F1.out.size
  go_wp2_with fail
  go_loopg [4, 5] v (fun k v4 v5 wr => ∃ (j i' : Nat) (acc : List AutM) (css : List (Array Value)) (vr : Value) (okb : Bool), j + k = v ∧ v5 = .int .i64 j ∧ v4 = .bool okb ∧ OW 104 259 w.heap.size wr vr (lst css) ∧ LD wr b t i' { V with a := vr } ∧ Frm [b] w wr ∧ css.length ≤ j ∧ (okb = true → RowI autI ((b :: A) ++ vr.ownBlock.toList) wr css acc) ∧
      Hid ((okb = true ∧ v < 256 ∧ pR (fun _ => pA) (v - j) acc (t.drop i') = pAs (t.drop i)) ∨ (okb = false ∧ pAs (t.drop i) = none)))
  case atStart =>
    refine ⟨0, i1, [], [], .slice none 0 0, ok, by omega, rfl, rfl, OW.nil _ _ _ _, ?_, F1.out, by simp, fun _ => RowI.nil _ _ _, ?_⟩
    · have := L1.out; rw [← HV.out]; exact this
    rcases P1.out with ⟨h1, h2⟩ | ⟨h1, h2⟩
    · exact .inl ⟨h1, (pN_some h2).2.2, by unfold pAs; rw [h2]; rfl⟩
    · exact .inr ⟨h1, by unfold pAs; rw [h2]; rfl⟩
  case round =>
    obtain ⟨j, i2, acc, css, vr, okb, hjk, rfl, rfl, hO, hL, hF, hal, hI, HR⟩ := hrel
    obtain ⟨ao, co, he⟩ := hO.shape
    rw [lst_len] at he
    subst he
    have O := hide hO
    have L := hide hL
    have F := hide hF
    have hz := hF.size
    have I := hide hI
    clear hO hL hF hI
    cases okb with
    | false =>
      have HP : Hid (pAs (t.drop i) = none) := by
        rcases HR.out with ⟨h, _⟩ | ⟨_, h⟩
        · cases h
        · exact h
      clear HR
      go_wp2
      go_ret
      exact ⟨i2, false, _, acc, css, rfl, L.out, F.out, .inr ⟨rfl, HP.out⟩, O.out, fun h => by cases h⟩
    | true =>
      have HP : Hid (v < 256 ∧ pR (fun _ => pA) (v - j) acc (t.drop i2) = pAs (t.drop i)) := by
        rcases HR.out with ⟨_, h⟩ | ⟨h, _⟩
        · exact h
        · cases h
      clear HR
      by_cases hlt : j < v
      · have hd1 : decide ((j : Int) < (v : Int)) = true := decide_eq_true (by omega)
        have N2 := hide (takeAutomaton_any b t i2 _ wr L.out)
        go_wp2_with fail
        refine (N2.out).mono ?_
        rintro e w2 ⟨i3, ok2, cs, x, rfl, hL2, hF2, hP2, hcs, hall, hrw⟩
        have L2 := hide hL2
        have F2 := hide hF2
        have O2 := hide (O.out.frm (hF2) (by intro g hg; simp at hg; omega))
        have HP2 : Hid ((ok2 = true ∧ v < 256 ∧ pR (fun _ => pA) (v - (j + 1)) (acc ++ [x]) (t.drop i3) = pAs (t.drop i)) ∨ (ok2 = false ∧ pAs (t.drop i) = none)) := by
          have h := HP.out
          rw [show v - j = (v - (j + 1)) + 1 by omega] at h
          rcases hP2 with ⟨h1, h2⟩ | ⟨h1, h2⟩
          · refine .inl ⟨h1, h.1, ?_⟩
            rw [← h.2, pR_succ, h2]; rfl
          · refine .inr ⟨h1, ?_⟩
            rw [← h.2, pR_succ, h2]; rfl
        have hz2 := hF2.size
        have hvh := HP.out.1
        have c := hL2.ca
        have z := hL2.fz 4
        have hb2 := hL2.lt
        have hob : ∀ r, Value.ownBlock (.slice ao css.length co) = some r → w.heap.size ≤ r := fun r hr => (O2.out.lt hr).1
        have HOB := hide hob
        have HTC := hide (lst_len css)
        have hzr := O.out
        have I2 : Hid (ok2 = true → RowI autI ((b :: A) ++ (Value.ownBlock (.slice ao css.length co)).toList) w2 (css ++ [cs]) (acc ++ [x])) := fun h => by
          refine RowI.snoc ((I.out (by simp)).frm hF2 (by simp)) ?_
          obtain ⟨va, vn, e1, o1, o2⟩ := hrw h
          have hne : ∀ v e k vs, OW e k wr.heap.size w2 v vs → ∀ g, v.ownBlock = some g → g ∉ (b :: A) ++ (Value.ownBlock (.slice ao css.length co)).toList := by
            intro v e k vs ho g hg hm
            have h1 := (ho.lt hg).1
            simp at hm
            rcases hm with hm | hm | hm
            · omega
            · have := hA g hm; omega
            · have := (O.out.lt hm).2; omega
          exact ⟨va, vn, e1, o1.rw (hne _ _ _ _ o1), o2.rw (hne _ _ _ _ o2)⟩
        have ag : Value.ownBlock (.slice ao css.length co) ≠ some b := fun e => by have := HOB.out _ e; omega
        obtain ⟨W3, hst, hfr3, hh3, hz3⟩ : ∃ W3, (storeCells ⟨w2.heap.size, 0, none⟩ cs.toList).run Try.prog (w2.alloc (Obj.cells Try.zeroCells104 104)) = .ok () W3 ∧ Hid (Frm [] w2 W3) ∧ Hid (W3.heap[w2.heap.size]? = some (.cells cs 104 (0, 0))) ∧ W3.heap.size = w2.heap.size + 1 := by
          have hh : (w2.alloc (Obj.cells Try.zeroCells104 104)).heap[w2.heap.size]? = some (.cells Try.zeroCells104 104 (0, 0)) := heap1 _ _
          exact ⟨_, store_row hh (by rw [hcs, autoZero9]) hall, ((Frm.refl [] w2).alloc _).over (Frm.setRow _ _ _) (by simp), setRow_at hh, by simp [World.setRow]⟩
        have HCS := hide hcs
        have HALL := hide hall
        clear hL2 hF2 hP2 HP N2 L O hob hcs hall hrw hzr I
        have c3 : W3.cell? ⟨b, 4, none⟩ = some (.slice ao css.length co) := (hfr3.out.cell (p := ⟨b, 4, none⟩) hb2 (by simp)).trans c
        have z3 : W3.frozen? ⟨b, 4, none⟩ = false := (hfr3.out.frozen (p := ⟨b, 4, none⟩) hb2 (by simp)).trans z
        have O3 := hide (O2.out.frm (S := []) hfr3.out (by simp))
        have hbz : b < W3.heap.size := by omega
        have g2 : ∀ o : Obj, (W3.drew.alloc o).frozen? ⟨b, 4, none⟩ = false := fun o => ((((Frm.refl [] W3).drew).alloc o).frozen hbz (by simp)).trans z3
        have hzW : w.heap.size ≤ W3.heap.size := by omega
        clear hz3
        go_wp2_with fail
        clear hst
        refine wp_region_any (by kernel_rfl) ?_
        change wpAny _ _ _ _ _ _ _ (World.drew _)
        refine wpAny_take (i := 0) (v := ?v0) rfl (by kernel_rfl) (by kernel_rfl) (by kernel_rfl) (fun _ _ _ h => h) (Or.inl ⟨by rfl, ?h0⟩) ?_
        case h0 => intro w; go_simp; with_reducible rfl
        refine wpAny_take (i := 1) (v := ?v1) rfl (by kernel_rfl) (by kernel_rfl) (by kernel_rfl) (fun _ _ _ h => h) (Or.inl ⟨by rfl, ?h1⟩) ?_
        case h1 => intro w; go_simp; with_reducible rfl
        refine wpAny_take (i := 2) (v := ?v2) rfl (by kernel_rfl) (by kernel_rfl) (by kernel_rfl) (fun _ _ _ h => h) (Or.inl ⟨by rfl, ?h2⟩) ?_
        case h2 => intro w; go_simp; with_reducible rfl
        refine wpAny_take (i := 3) (v := ?v3) rfl (by kernel_rfl) (by kernel_rfl) (by kernel_rfl) (fun _ _ _ h => h) (Or.inl ⟨by rfl, ?h3⟩) ?_
        case h3 => intro w; go_simp; with_reducible rfl
        refine wpAny_take (i := 4) (v := ?v4) rfl (by kernel_rfl) (by kernel_rfl) (by kernel_rfl) (fun _ _ _ h => h) (Or.inl ⟨by rfl, ?h4⟩) ?_
        case h4 => intro w; go_simp; with_reducible rfl
        refine wpAny_ready (rs := [5, 6]) (by kernel_rfl) (by simp) ?_
        refine AllReady.cons rfl (fun K hK => ?_) (AllReady.cons rfl (fun K hK => ?_) AllReady.nil)
        · go_simp
          refine hK _ _ ?_
          clear hK K
          refine wpAny_ready (rs := [6]) (by kernel_rfl) (by simp) ?_
          refine AllReady.cons rfl (fun K hK => ?_) AllReady.nil
          refine step_autoLoad _ (by rfl) _ (by rfl) w2.heap.size (by rfl) cs (autoLoad hh3.out HCS.out) ?_
          refine hK _ _ ?_
          clear hK K
          refine wpAny_ready (rs := [7]) (by kernel_rfl) (by simp) ?_
          refine AllReady.cons rfl (fun K hK => ?_) AllReady.nil
          refine step_autoBuild _ (by rfl) _ (by rfl) cs (by rfl) HCS.out ?_
          refine hK _ _ ?_
          clear hK K
          refine wpAny_ready (rs := [8]) (by kernel_rfl) (by simp) ?_
          refine AllReady.cons rfl (fun K hK => ?_) AllReady.nil
          (refine step_appG _ (by rfl) _ _ 52 104 _ 259 312 infoAut Try.underlying52 autoZero9 (by omega) (by rfl) w.heap.size (.slice ao css.length co) (lst css) W3.heap.size cs (0, 0) (by rfl) (O3.out.frm (S := []) (((Frm.refl [] _).drew).alloc _) (by simp)) (by rfl) HCS.out (by exact heap1 _ _) HALL.out (by rw [HTC.out]; omega) (by rw [HTC.out]; omega) (by simp; omega) (W3.heap.size + 1) (by simp) ?_; intro gg cap2 w4 hown4 hgrow hat hlt4; have c4 := (hgrow.cell_far ⟨b, 4, none⟩ (by simp; omega) (Ne.symm ag)); have f4 := (hgrow.frozen_far ⟨b, 4, none⟩ (by simp; omega) (Ne.symm ag)); have f5 := f4.trans (g2 _); rw [HTC.out] at hown4 ⊢)
          refine hK _ _ ?_
          clear hK K
          refine wpAny_take (i := 9) (v := ?v9) rfl (by kernel_rfl) (by kernel_rfl) (by kernel_rfl) (fun _ _ _ h => h) (Or.inl ⟨by rfl, ?h9⟩) ?_
          case h9 => intro w; go_simp; try with_reducible rfl
          refine wpAny_take (i := 10) (v := ?v10) rfl (by kernel_rfl) (by kernel_rfl) (by kernel_rfl) (fun _ _ _ h => h) (Or.inl ⟨by rfl, ?h10⟩) ?_
          case h10 => intro w; go_simp; try with_reducible rfl
          refine wpAny_take (i := 11) (v := ?v11) rfl (by kernel_rfl) (by kernel_rfl) (by kernel_rfl) (fun _ _ _ h => h) (Or.inl ⟨by rfl, ?h11⟩) ?_
          case h11 => intro w; go_simp; try with_reducible rfl
          refine wpAny_ready (rs := [12]) (by kernel_rfl) (by simp) ?_
          refine AllReady.cons rfl (fun K hK => ?_) AllReady.nil
          go_simp
          refine hK _ _ ?_
          clear hK K
          refine wpAny_done (by kernel_rfl) ?_ _
          have G4 := hide hgrow
          have O4 := hide hown4
          clear hgrow hown4
          go_wp2
          go_roundg (gk - 1)
          case measure => omega
          case rel =>
            have F3 : Frm [] w2 (W3.drew.alloc (Obj.cells cs 104)) := (hfr3.out.drew).alloc _
            have L4 := (L2.out.frm F3 (by simp)).grown G4.out (fun r hr => by have := HOB.out r hr; omega)
            have O5 := O4.out
            rw [lst_snoc] at O5
            have FB : ∀ u, Frm [b] w4 (w4.setCell ⟨b, 4, none⟩ u) := fun u => (Frm.refl [b] _).setCell (p := ⟨b, 4, none⟩) (.inl (by simp)) u
            refine ⟨j + 1, i3, acc ++ [x], css ++ [cs], _, ok2, by omega, by go_num, rfl, O5.frm (FB _) (by simp; omega), L4.setA _, ((((F.out.trans F2.out).trans (F3.mono (by simp)))).grown G4.out (fun r hr => .inr (HOB.out r hr))).trans (FB _), by simp; omega, fun h => ?_, HP2⟩
            have R3 : RowI autI ((b :: A) ++ (Value.ownBlock (.slice ao css.length co)).toList) (W3.drew.alloc (Obj.cells cs 104)) (css ++ [cs]) (acc ++ [x]) := (I2.out h).frm F3 (by simp)
            have R4 := R3.app (g := gg) G4.out (hat.imp id (fun h => by rw [h]; simp))
            exact R4.frm (FB _) (by simp)
        · refine step_autoLoad _ (by rfl) _ (by rfl) w2.heap.size (by rfl) cs (autoLoad hh3.out HCS.out) ?_
          refine hK _ _ ?_
          clear hK K
          refine wpAny_ready (rs := [5, 7]) (by kernel_rfl) (by simp) ?_
          refine AllReady.cons rfl (fun K hK => ?_) (AllReady.cons rfl (fun K hK => ?_) AllReady.nil)
          · go_simp
            refine hK _ _ ?_
            clear hK K
            refine wpAny_ready (rs := [7]) (by kernel_rfl) (by simp) ?_
            refine AllReady.cons rfl (fun K hK => ?_) AllReady.nil
            refine step_autoBuild _ (by rfl) _ (by rfl) cs (by rfl) HCS.out ?_
            refine hK _ _ ?_
            clear hK K
            refine wpAny_ready (rs := [8]) (by kernel_rfl) (by simp) ?_
            refine AllReady.cons rfl (fun K hK => ?_) AllReady.nil
            (refine step_appG _ (by rfl) _ _ 52 104 _ 259 312 infoAut Try.underlying52 autoZero9 (by omega) (by rfl) w.heap.size (.slice ao css.length co) (lst css) W3.heap.size cs (0, 0) (by rfl) (O3.out.frm (S := []) (((Frm.refl [] _).drew).alloc _) (by simp)) (by rfl) HCS.out (by exact heap1 _ _) HALL.out (by rw [HTC.out]; omega) (by rw [HTC.out]; omega) (by simp; omega) (W3.heap.size + 1) (by simp) ?_; intro gg cap2 w4 hown4 hgrow hat hlt4; have c4 := (hgrow.cell_far ⟨b, 4, none⟩ (by simp; omega) (Ne.symm ag)); have f4 := (hgrow.frozen_far ⟨b, 4, none⟩ (by simp; omega) (Ne.symm ag)); have f5 := f4.trans (g2 _); rw [HTC.out] at hown4 ⊢)
            refine hK _ _ ?_
            clear hK K
            refine wpAny_take (i := 9) (v := ?v9) rfl (by kernel_rfl) (by kernel_rfl) (by kernel_rfl) (fun _ _ _ h => h) (Or.inl ⟨by rfl, ?h9⟩) ?_
            case h9 => intro w; go_simp; try with_reducible rfl
            refine wpAny_take (i := 10) (v := ?v10) rfl (by kernel_rfl) (by kernel_rfl) (by kernel_rfl) (fun _ _ _ h => h) (Or.inl ⟨by rfl, ?h10⟩) ?_
            case h10 => intro w; go_simp; try with_reducible rfl
            refine wpAny_take (i := 11) (v := ?v11) rfl (by kernel_rfl) (by kernel_rfl) (by kernel_rfl) (fun _ _ _ h => h) (Or.inl ⟨by rfl, ?h11⟩) ?_
            case h11 => intro w; go_simp; try with_reducible rfl
            refine wpAny_ready (rs := [12]) (by kernel_rfl) (by simp) ?_
            refine AllReady.cons rfl (fun K hK => ?_) AllReady.nil
            go_simp
            refine hK _ _ ?_
            clear hK K
            refine wpAny_done (by kernel_rfl) ?_ _
            have G4 := hide hgrow
            have O4 := hide hown4
            clear hgrow hown4
            go_wp2
            go_roundg (gk - 1)
            case measure => omega
            case rel =>
              have F3 : Frm [] w2 (W3.drew.alloc (Obj.cells cs 104)) := (hfr3.out.drew).alloc _
              have L4 := (L2.out.frm F3 (by simp)).grown G4.out (fun r hr => by have := HOB.out r hr; omega)
              have O5 := O4.out
              rw [lst_snoc] at O5
              have FB : ∀ u, Frm [b] w4 (w4.setCell ⟨b, 4, none⟩ u) := fun u => (Frm.refl [b] _).setCell (p := ⟨b, 4, none⟩) (.inl (by simp)) u
              refine ⟨j + 1, i3, acc ++ [x], css ++ [cs], _, ok2, by omega, by go_num, rfl, O5.frm (FB _) (by simp; omega), L4.setA _, ((((F.out.trans F2.out).trans (F3.mono (by simp)))).grown G4.out (fun r hr => .inr (HOB.out r hr))).trans (FB _), by simp; omega, fun h => ?_, HP2⟩
              have R3 : RowI autI ((b :: A) ++ (Value.ownBlock (.slice ao css.length co)).toList) (W3.drew.alloc (Obj.cells cs 104)) (css ++ [cs]) (acc ++ [x]) := (I2.out h).frm F3 (by simp)
              have R4 := R3.app (g := gg) G4.out (hat.imp id (fun h => by rw [h]; simp))
              exact R4.frm (FB _) (by simp)
          · refine step_autoBuild _ (by rfl) _ (by rfl) cs (by rfl) HCS.out ?_
            refine hK _ _ ?_
            clear hK K
            refine wpAny_ready (rs := [5]) (by kernel_rfl) (by simp) ?_
            refine AllReady.cons rfl (fun K hK => ?_) AllReady.nil
            have c3a : (W3.drew.alloc (Obj.cells cs 104)).cell? ⟨b, 4, none⟩ = some (.slice ao css.length co) := ((((Frm.refl [] W3).drew).alloc _).cell (p := ⟨b, 4, none⟩) hbz (by simp)).trans c3
            go_simp
            refine hK _ _ ?_
            clear hK K
            refine wpAny_ready (rs := [8]) (by kernel_rfl) (by simp) ?_
            refine AllReady.cons rfl (fun K hK => ?_) AllReady.nil
            (refine step_appG _ (by rfl) _ _ 52 104 _ 259 312 infoAut Try.underlying52 autoZero9 (by omega) (by rfl) w.heap.size (.slice ao css.length co) (lst css) W3.heap.size cs (0, 0) (by rfl) (O3.out.frm (S := []) (((Frm.refl [] _).drew).alloc _) (by simp)) (by rfl) HCS.out (by exact heap1 _ _) HALL.out (by rw [HTC.out]; omega) (by rw [HTC.out]; omega) (by simp; omega) (W3.heap.size + 1) (by simp) ?_; intro gg cap2 w4 hown4 hgrow hat hlt4; have c4 := (hgrow.cell_far ⟨b, 4, none⟩ (by simp; omega) (Ne.symm ag)); have f4 := (hgrow.frozen_far ⟨b, 4, none⟩ (by simp; omega) (Ne.symm ag)); have f5 := f4.trans (g2 _); rw [HTC.out] at hown4 ⊢)
            refine hK _ _ ?_
            clear hK K
            refine wpAny_take (i := 9) (v := ?v9) rfl (by kernel_rfl) (by kernel_rfl) (by kernel_rfl) (fun _ _ _ h => h) (Or.inl ⟨by rfl, ?h9⟩) ?_
            case h9 => intro w; go_simp; try with_reducible rfl
            refine wpAny_take (i := 10) (v := ?v10) rfl (by kernel_rfl) (by kernel_rfl) (by kernel_rfl) (fun _ _ _ h => h) (Or.inl ⟨by rfl, ?h10⟩) ?_
            case h10 => intro w; go_simp; try with_reducible rfl
            refine wpAny_take (i := 11) (v := ?v11) rfl (by kernel_rfl) (by kernel_rfl) (by kernel_rfl) (fun _ _ _ h => h) (Or.inl ⟨by rfl, ?h11⟩) ?_
            case h11 => intro w; go_simp; try with_reducible rfl
            refine wpAny_ready (rs := [12]) (by kernel_rfl) (by simp) ?_
            refine AllReady.cons rfl (fun K hK => ?_) AllReady.nil
            go_simp
            refine hK _ _ ?_
            clear hK K
            refine wpAny_done (by kernel_rfl) ?_ _
            have G4 := hide hgrow
            have O4 := hide hown4
            clear hgrow hown4
            go_wp2
            go_roundg (gk - 1)
            case measure => omega
            case rel =>
              have F3 : Frm [] w2 (W3.drew.alloc (Obj.cells cs 104)) := (hfr3.out.drew).alloc _
              have L4 := (L2.out.frm F3 (by simp)).grown G4.out (fun r hr => by have := HOB.out r hr; omega)
              have O5 := O4.out
              rw [lst_snoc] at O5
              have FB : ∀ u, Frm [b] w4 (w4.setCell ⟨b, 4, none⟩ u) := fun u => (Frm.refl [b] _).setCell (p := ⟨b, 4, none⟩) (.inl (by simp)) u
              refine ⟨j + 1, i3, acc ++ [x], css ++ [cs], _, ok2, by omega, by go_num, rfl, O5.frm (FB _) (by simp; omega), L4.setA _, ((((F.out.trans F2.out).trans (F3.mono (by simp)))).grown G4.out (fun r hr => .inr (HOB.out r hr))).trans (FB _), by simp; omega, fun h => ?_, HP2⟩
              have R3 : RowI autI ((b :: A) ++ (Value.ownBlock (.slice ao css.length co)).toList) (W3.drew.alloc (Obj.cells cs 104)) (css ++ [cs]) (acc ++ [x]) := (I2.out h).frm F3 (by simp)
              have R4 := R3.app (g := gg) G4.out (hat.imp id (fun h => by rw [h]; simp))
              exact R4.frm (FB _) (by simp)
      · have hjv : j = v := by omega
        have hd1 : decide ((j : Int) < (v : Int)) = false := decide_eq_false (by omega)
        have HP2 : Hid (pAs (t.drop i) = some (acc, t.drop i2)) := by
          have h := HP.out.2
          rw [hjv, Nat.sub_self] at h
          exact h.symm
        clear HP
        subst hjv
        go_wp2
        go_ret
        exact ⟨i2, true, _, acc, css, rfl, L.out, F.out, .inl ⟨rfl, HP2.out⟩, O.out, fun _ => I.out (by simp)⟩
end Go.Proofs.Ythlemieldfbbfab
