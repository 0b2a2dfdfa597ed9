import Derived.Test.YtjnaekffodgdcaaDoorW15
namespace Go.Proofs.YtjnaekffodgdcaaDoor
open Go.RowKit
set_option linter.unusedVariables false
set_option linter.unusedSimpArgs false
set_option linter.unnecessarySimpa false

def Reps (base : Nat) (w : World) (R : List RV) (C : List CR) : Prop := R.length = C.length ∧ ∀ (i : Nat) (rv : RV) (c : CR), R[i]? = some rv → C[i]? = some c → CRep base w rv c
theorem Reps.frm {S : List Nat} {base : Nat} {w w' : World} {R : List RV} {C : List CR} (h : Reps base w R C) (f : Frm S w w') (hS : Apart w base S) : Reps base w' R C :=
  ⟨h.1, fun i rv c h1 h2 => (h.2 i rv c h1 h2).frm f hS⟩
theorem Reps.nil (base : Nat) (w : World) : Reps base w [] [] := ⟨rfl, fun i rv c h => by simp at h⟩
theorem Reps.snoc {base : Nat} {w : World} {R : List RV} {C : List CR} {rv : RV} {c : CR} (h : Reps base w R C) (h1 : CRep base w rv c) : Reps base w (R ++ [rv]) (C ++ [c]) := by
  refine ⟨by simp [h.1], fun i rv' c' h2 h3 => ?_⟩
  by_cases hi : i < R.length
  · rw [List.getElem?_append_left hi] at h2
    rw [List.getElem?_append_left (by rw [← h.1]; exact hi)] at h3
    exact h.2 i rv' c' h2 h3
  · rw [List.getElem?_append_right (by omega)] at h2
    rw [List.getElem?_append_right (by rw [← h.1]; omega)] at h3
    rw [← h.1] at h3
    have hz : i - R.length = 0 := by
      by_cases hz : i - R.length = 0
      · exact hz
      · rw [List.getElem?_eq_none (by simp; omega)] at h2; cases h2
    rw [hz] at h2 h3
    simp at h2 h3
    subst h2 h3
    exact h1
theorem Reps.base {base base' : Nat} {w : World} {R : List RV} {C : List CR} (h : Reps base w R C) (hb : base' ≤ base) : Reps base' w R C :=
  ⟨h.1, fun i rv c h1 h2 => (h.2 i rv c h1 h2).base hb⟩

/-- The lines of a text: receivers and routes, or the line that is none. -/
def rlGo : List UInt8 → Nat → List UInt8 → List (List UInt8) → List CR → Except Nat (List (List UInt8) × List CR)
  | [], ln, cur, R, C => if !(cur.isEmpty) || ln == 1 then .error ln else .ok (R, C)
  | c :: r, ln, cur, R, C =>
    if c == 10 then
      (if ln == 1 then (match sRecvs cur with | none => .error 1 | some R' => rlGo r 2 [] R' C)
       else (match sRoute cur with | none => .error ln | some x => rlGo r (ln + 1) [] R (C ++ [x])))
    else rlGo r ln (cur ++ [c]) R C
def cRead1 (t : List UInt8) : Except Nat (List (List UInt8) × List CR) := rlGo t 1 [] [] []

theorem load_cfg {w : World} {cb : Nat} {vr vt : Value} (h : CB w cb vr vt) : (loadVar 35 ⟨cb, 0, none⟩).run Tryd.prog w = .ok (.agg #[vr, vt]) w := by
  have h0 := h.c0
  have h1 := h.c1
  simp [go_sem, h0, h1]
theorem results_lines {w : World} {rb : Nat} {vr vt : Value} {ln : Int} {tmps : Array Value} (h : CB w rb vr vt) (h2 : tmps.getD 2 undef = .pointer (some ⟨rb, 0, none⟩)) (h3 : tmps.getD 3 undef = .int .i64 ln) :
    (results Tryd.f16 tmps).run Tryd.prog w = .ok (.tuple #[.agg #[vr, vt], .int .i64 ln]) w := by
  rw [results_cell_tmp Tryd.results16, h2, h3]
  simp [asAddr, load_cfg h]

theorem RL.frm {S : List Nat} {base : Nat} {w w' : World} {v : Value} {R : List RV} (h : RL base w v R) (f : Frm S w w') (hS : ∀ k, k ∈ S → k < base) : RL base w' v R := own_frm h f hS

theorem own_block {w : World} {base : Nat} {e : TypeId} {size : Nat} {v : Value} {n : Nat} {xs : List Value} (h : w.ownsRow base e size v n xs) (k : Nat) (hk : v.ownBlock = some k) : ∃ cur fz, w.heap[k]? = some (.cells cur e fz) := by
  rcases h.2 with ⟨rfl, _⟩ | ⟨g, cap, cur, rfl, hb, hg, _⟩
  · simp [Value.ownBlock] at hk
  · simp [Value.ownBlock] at hk
    subst hk
    exact ⟨cur, _, hg⟩
theorem own_base {w : World} {base base' : Nat} {e : TypeId} {size : Nat} {v : Value} {n : Nat} {xs : List Value} (h : w.ownsRow base e size v n xs) (hb : base' ≤ base) : w.ownsRow base' e size v n xs := by
  refine ⟨h.1, ?_⟩
  rcases h.2 with hn | ⟨g, cap, cur, rfl, hg, rest⟩
  · exact .inl hn
  · exact .inr ⟨g, cap, cur, rfl, by omega, rest⟩
/-- What the lines come to, in memory. -/
def LinesRep (base : Nat) (w : World) (vr vt : Value) (ln : Int) : Except Nat (List (List UInt8) × List CR) → Prop
  | .error n => vr = .slice none 0 0 ∧ vt = .slice none 0 0 ∧ ln = n ∧ 1 ≤ n
  | .ok (R, C) => ln = 0 ∧ SL base w vr R ∧ ∃ rvs, RL base w vt rvs ∧ Reps base w rvs C ∧ rvs.length ≤ 1048576

set_option maxRecDepth 100000 in
set_option maxHeartbeats 4000000 in
theorem readLines_any (t : List UInt8) (w : World) (ht : t.length ≤ 1040000) :
    Calls Tryd.prog 16 #[.string (bs t)] w fun e w' => Frm [] w w' ∧ ∃ vr vt ln, e = .returned (.tuple #[.agg #[vr, vt], .int .i64 ln]) ∧ LinesRep w.heap.size w' vr vt ln (cRead1 t) := by
  have hsz := bs_size t
  have hx := bs_extract t
  have hb0 : CB ((w.alloc (Obj.cells #[.slice none 0 0, .slice none 0 0] 35)).alloc (Obj.cells #[.slice none 0 0, .slice none 0 0] 35)) w.heap.size (.slice none 0 0) (.slice none 0 0) := by
    unfold CB; rw [Below.heap_alloc _ _ _ (by simp)]; exact heap_alloc_new w _
  have hb1 : CB ((w.alloc (Obj.cells #[.slice none 0 0, .slice none 0 0] 35)).alloc (Obj.cells #[.slice none 0 0, .slice none 0 0] 35)) (w.heap.size + 1) (.slice none 0 0) (.slice none 0 0) := by
    unfold CB; have := heap_alloc_new (w.alloc (Obj.cells #[.slice none 0 0, .slice none 0 0] 35)) (Obj.cells #[.slice none 0 0, .slice none 0 0] 35)
    rw [← this]; simp
  have B0 := hb0
  have HB0 : Hid (CB ((w.alloc (Obj.cells #[.slice none 0 0, .slice none 0 0] 35)).alloc (Obj.cells #[.slice none 0 0, .slice none 0 0] 35)) w.heap.size (.slice none 0 0) (.slice none 0 0)) := hb0
  have HB1 : Hid (CB ((w.alloc (Obj.cells #[.slice none 0 0, .slice none 0 0] 35)).alloc (Obj.cells #[.slice none 0 0, .slice none 0 0] 35)) (w.heap.size + 1) (.slice none 0 0) (.slice none 0 0)) := hb1
  clear hb0 hb1 B0
  go_enter Tryd.func16, Tryd.ntmps16
  go_wp2_with fail
  go_loopg [5, 6, 7] t.length (fun k vl vs vi wr => ∃ (ln st ii : Nat) (L : List (List UInt8)) (vr vt : Value) (C : List CR) (R : List RV), ii + k = t.length ∧ st ≤ ii ∧ 1 ≤ ln ∧ ln ≤ ii + 1 ∧ vl = .int .i64 ln ∧ vs = .int .i64 st ∧ vi = .int .i64 ii ∧
    CB wr (w.heap.size + 1) vr vt ∧ CB wr w.heap.size (.slice none 0 0) (.slice none 0 0) ∧ SL (w.heap.size + 2) wr vr L ∧ RL (w.heap.size + 2) wr vt R ∧ Reps (w.heap.size + 2) wr R C ∧ R.length ≤ ln ∧ rlGo (t.drop ii) ln ((t.take ii).drop st) L C = cRead1 t ∧ Frm [] w wr ∧ w.heap.size + 2 ≤ wr.heap.size)
  case atStart => exact ⟨1, 0, 0, [], _, _, [], [], by omega, by omega, by omega, by omega, rfl, rfl, rfl, HB1.out, HB0.out, SL.nil _ _, RL.nil _ _, Reps.nil _ _, by simp, rfl, ((Frm.refl _ _).alloc _).alloc _, by simp⟩
  case round =>
  obtain ⟨ln, st, ii, L, vr, vt, C, R, hk, hst, hl1, hl2, rfl, rfl, rfl, hcb, hrb, hsl, hrl, hrp, hrn, hgo, hfr, hz⟩ := hrel
  have KC : Hid (CB wr (w.heap.size + 1) vr vt) := hcb
  have KR : Hid (CB wr w.heap.size (.slice none 0 0) (.slice none 0 0)) := hrb
  have KS : Hid (SL (w.heap.size + 2) wr vr L) := hsl
  have KL : Hid (RL (w.heap.size + 2) wr vt R) := hrl
  have KP : Hid (Reps (w.heap.size + 2) wr R C) := hrp
  have KG : Hid (rlGo (t.drop ii) ln ((t.take ii).drop st) L C = cRead1 t) := hgo
  have KF : Hid (Frm [] w wr) := hfr
  clear hcb hrb hsl hrl hrp hgo hfr HB0 HB1
  by_cases hlt : ii < t.length
  · have hbg2 : (bs t)[ii]'(by rw [hsz]; omega) = t[ii] := rfl
    have Hd : Hid (t.drop ii = t[ii] :: t.drop (ii + 1)) := List.drop_eq_getElem_cons hlt
    have Ht : Hid (t.take (ii + 1) = t.take ii ++ [t[ii]]) := List.take_succ_eq_append_getElem hlt
    generalize t[ii] = c at *
    by_cases hc : (c == 10) = true
    · have hc1 : ((c.toNat : Int) != 10) = false := by
        have : c = 10 := by simpa using hc
        subst this; rfl
      by_cases hl : ln = 1
      · subst hl
        have Hg2 : Hid (cRead1 t = (match sRecvs ((t.take ii).drop st) with | none => .error 1 | some R' => rlGo (t.drop (ii + 1)) 2 [] R' C)) := by
          show _ = _; rw [← KG.out, Hd.out]; conv => lhs; unfold rlGo
          rw [hc]; rfl
        go_wp2_with fail
        refine (addLine1_any (w.heap.size + 1) ((t.take ii).drop st) vr vt wr (by simp; omega) KC.out).mono ?_
        rintro e w1 ⟨hf1, rfl, vr', L', hc1', hs1, hL⟩
        have KR1 : Hid (CB w1 w.heap.size (.slice none 0 0) (.slice none 0 0)) := KR.out.frm hf1 (by simp)
        have KF1 : Hid (Frm [] w w1) := KF.out.new hf1 (by simp)
        have hz1 : w.heap.size + 2 ≤ w1.heap.size := by have := hf1.size; omega
        cases hR : sRecvs ((t.take ii).drop st) with
        | none =>
          rw [hR] at Hg2
          have d0 := KR1.out.c0
          have d1 := KR1.out.c1
          have df := KR1.out.fz
          clear hf1 hc1' hs1 hL
          simp only [Option.isSome_none]
          go_wp2
          refine bodyPost_ret (results_lines (vr := .slice none 0 0) (vt := .slice none 0 0) (ln := 1) (rb := w.heap.size) ?_ (by rfl) (by rfl)) rfl ?_
          · exact (KR1.out.set0 _).set1 _
          · refine ⟨(KF1.out.setCell (by simp) _).setCell (by simp) _, _, _, _, rfl, ?_⟩
            rw [Hg2.out]
            exact ⟨rfl, rfl, rfl, Nat.le_refl _⟩
        | some R' =>
          rw [hR] at Hg2
          obtain rfl := hL R' hR
          have KC1 : Hid (CB w1 (w.heap.size + 1) vr' vt) := hc1'
          have KS1 : Hid (SL (w.heap.size + 2) w1 vr' L') := hs1.base hz
          have KL1 : Hid (RL (w.heap.size + 2) w1 vt R) := KL.out.frm hf1 (by simp)
          have KP1 : Hid (Reps (w.heap.size + 2) w1 R C) := KP.out.frm hf1 (by intro k hk; simp at hk; exact Or.inl (by omega))
          clear hf1 hc1' hs1 hL hR KC KR KS KL KP KF
          simp only [Option.isSome_some]
          go_wp2
          go_roundg (gk - 1)
          case measure => omega
          case rel =>
            refine ⟨2, ii + 1, ii + 1, L', vr', vt, C, R, by omega, by omega, by omega, by omega, by go_num, by go_num, by go_num, KC1.out, KR1.out, KS1.out, KL1.out, KP1.out, by omega, ?_, KF1.out, hz1⟩
            have he : (t.take (ii + 1)).drop (ii + 1) = [] := List.drop_eq_nil_of_le (by rw [List.length_take]; omega)
            rw [Hg2.out, he]
      · have Hg2 : Hid (cRead1 t = (match sRoute ((t.take ii).drop st) with | none => .error ln | some x => rlGo (t.drop (ii + 1)) (ln + 1) [] L (C ++ [x]))) := by
          show _ = _; rw [← KG.out, Hd.out]; conv => lhs; unfold rlGo
          rw [hc, if_pos rfl, if_neg (by simpa using hl)]
        have hl' : ((ln : Int) == 1) = false := beq_eq_false_iff_ne.2 (by omega)
        go_wp2_with fail
        refine (addLine2_any (w.heap.size + 1) (w.heap.size + 2) ln ((t.take ii).drop st) vr vt R wr (by simp; omega) KC.out KL.out (by omega) (by omega) hz hl').mono ?_
        rintro e w1 ⟨hf1, rfl, vt', rv, hc1', hl1', hrep⟩
        have KR1 : Hid (CB w1 w.heap.size (.slice none 0 0) (.slice none 0 0)) := KR.out.frm hf1 (by
          simp only [List.mem_cons, Option.mem_toList, not_or]
          exact ⟨by omega, fun e => by have := (KL.out.lt _ e).1; omega⟩)
        have KF1 : Hid (Frm [] w w1) := KF.out.new hf1 (by
          simp only [List.mem_cons, Option.mem_toList]
          rintro x (rfl | e)
          · omega
          · have := (KL.out.lt _ e).1; omega)
        have hz1 : w.heap.size + 2 ≤ w1.heap.size := by have := hf1.size; omega
        cases hR : sRoute ((t.take ii).drop st) with
        | none =>
          rw [hR] at Hg2
          have d0 := KR1.out.c0
          have d1 := KR1.out.c1
          have df := KR1.out.fz
          clear hf1 hc1' hl1' hrep
          simp only [Option.isSome_none]
          go_wp2
          refine bodyPost_ret (results_lines (vr := .slice none 0 0) (vt := .slice none 0 0) (ln := ln) (rb := w.heap.size) ?_ (by rfl) (by rfl)) rfl ?_
          · exact (KR1.out.set0 _).set1 _
          · refine ⟨(KF1.out.setCell (by simp) _).setCell (by simp) _, _, _, _, rfl, ?_⟩
            rw [Hg2.out]
            exact ⟨rfl, rfl, rfl, hl1⟩
        | some x =>
          rw [hR] at Hg2
          have hap : Apart wr (w.heap.size + 2) ((w.heap.size + 1) :: vt.ownBlock.toList) := by
            intro k hk
            simp only [List.mem_cons, Option.mem_toList] at hk
            rcases hk with rfl | e
            · exact Or.inl (by omega)
            · obtain ⟨cur, fz, h1⟩ := own_block KL.out k e
              exact Or.inr ⟨cur, _, fz, h1, by decide, by decide⟩
          have KC1 : Hid (CB w1 (w.heap.size + 1) vr vt') := hc1'
          have KS1 : Hid (SL (w.heap.size + 2) w1 vr L) := own_frmT KS.out hf1 (fun k hk => (hap k hk).imp id (fun ⟨a, b, c, d, e⟩ => ⟨a, b, c, d, e.1⟩))
          have KL1 : Hid (RL (w.heap.size + 2) w1 vt' (R ++ [rv])) := hl1'
          have KP1 : Hid (Reps (w.heap.size + 2) w1 (R ++ [rv]) (C ++ [x])) := (KP.out.frm hf1 hap).snoc ((hrep x hR).base hz)
          clear hf1 hc1' hl1' hrep hR KC KR KS KL KP KF
          simp only [Option.isSome_some]
          go_wp2
          go_roundg (gk - 1)
          case measure => omega
          case rel =>
            refine ⟨ln + 1, ii + 1, ii + 1, L, vr, vt', C ++ [x], R ++ [rv], by omega, by omega, by omega, by omega, by go_num, by go_num, by go_num, KC1.out, KR1.out, KS1.out, KL1.out, KP1.out, by simp; omega, ?_, KF1.out, hz1⟩
            have he : (t.take (ii + 1)).drop (ii + 1) = [] := List.drop_eq_nil_of_le (by rw [List.length_take]; omega)
            rw [Hg2.out, he]
    · have hc1 : ((c.toNat : Int) != 10) = true := by
        rw [bne_iff_ne]; intro h
        apply hc
        have : c.toNat = 10 := by omega
        have : c = 10 := UInt8.toNat_inj.1 this
        subst this; rfl
      have Hg2 : Hid (rlGo (t.drop (ii + 1)) ln ((t.take (ii + 1)).drop st) L C = cRead1 t) := by
        show _ = _; rw [← KG.out, Hd.out]; conv => rhs; unfold rlGo
        rw [if_neg hc, Ht.out, List.drop_append_of_le_length (by simp; omega)]
      go_wp2
      go_roundg (gk - 1)
      case measure => omega
      case rel =>
        exact ⟨ln, st, ii + 1, L, vr, vt, C, R, by omega, by omega, by omega, by omega, rfl, rfl, by go_num, KC.out, KR.out, KS.out, KL.out, KP.out, hrn, Hg2.out, KF.out, hz⟩
  · have Hg2 : Hid (cRead1 t = if !((t.drop st).isEmpty) || ln == 1 then .error ln else .ok (L, C)) := by
      show _ = _; rw [← KG.out, List.drop_eq_nil_of_le (by omega), List.take_of_length_le (by omega)]; rfl
    have d0 := KR.out.c0
    have d1 := KR.out.c1
    have df := KR.out.fz
    by_cases hs : st < t.length
    · have hs' : decide ((st : Int) < (t.length : Int)) = true := decide_eq_true (by omega)
      have Hg3 : Hid (cRead1 t = .error ln) := by
        show _ = _; rw [Hg2.out]
        have : (t.drop st).isEmpty = false := by simpa using hs
        rw [this]; rfl
      go_wp2
      refine bodyPost_ret (results_lines (vr := .slice none 0 0) (vt := .slice none 0 0) (ln := ln) (rb := w.heap.size) ?_ (by rfl) (by rfl)) rfl ?_
      · exact (KR.out.set0 _).set1 _
      · refine ⟨(KF.out.setCell (by simp) _).setCell (by simp) _, _, _, _, rfl, ?_⟩
        rw [Hg3.out]
        exact ⟨rfl, rfl, rfl, hl1⟩
    · have hs' : decide ((st : Int) < (t.length : Int)) = false := decide_eq_false (by omega)
      have he : (t.drop st).isEmpty = true := by simpa using hs
      by_cases hl : ln = 1
      · subst hl
        have Hg3 : Hid (cRead1 t = .error 1) := by
          show _ = _; rw [Hg2.out]; simp
        go_wp2
        refine bodyPost_ret (results_lines (vr := .slice none 0 0) (vt := .slice none 0 0) (ln := 1) (rb := w.heap.size) ?_ (by rfl) (by rfl)) rfl ?_
        · exact (KR.out.set0 _).set1 _
        · refine ⟨(KF.out.setCell (by simp) _).setCell (by simp) _, _, _, _, rfl, ?_⟩
          rw [Hg3.out]
          exact ⟨rfl, rfl, rfl, hl1⟩
      · have hl' : ((ln : Int) == 1) = false := beq_eq_false_iff_ne.2 (by omega)
        have Hg3 : Hid (cRead1 t = .ok (L, C)) := by
          show _ = _; rw [Hg2.out, he]
          have : (ln == 1) = false := by simpa using hl
          rw [this]; rfl
        have e0 := KC.out.c0
        have e1 := KC.out.c1
        obtain ⟨a0, n0, rfl⟩ := KS.out.shape
        obtain ⟨a1, n1, rfl⟩ := own_shape KL.out
        go_wp2
        refine bodyPost_ret (results_lines (vr := .slice a0 L.length n0) (vt := .slice a1 R.length n1) (ln := 0) (rb := w.heap.size) ?_ (by rfl) (by rfl)) rfl ?_
        · exact (KR.out.set0 _).set1 _
        · have F : Frm [w.heap.size] wr ((wr.setCell ⟨w.heap.size, 0, none⟩ (.slice a0 L.length n0)).setCell ⟨w.heap.size, 1, none⟩ (.slice a1 R.length n1)) := ((Frm.refl _ _).setCell (by simp) _).setCell (by simp) _
          refine ⟨(KF.out.setCell (by simp) _).setCell (by simp) _, _, _, _, rfl, ?_⟩
          rw [Hg3.out]
          exact ⟨rfl, (KS.out.frm F (by simp)).base (by omega), R, own_base (KL.out.frm F (by simp)) (by omega), (KP.out.frm F (by intro k hk; simp at hk; exact Or.inl (by omega))).base (by omega), by omega⟩

end Go.Proofs.YtjnaekffodgdcaaDoor
