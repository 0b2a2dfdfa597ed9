import Derived.Test.YtpbkgeipigcefaaGreatJ40
import Derived.Test.YtpbkgeipigcefaaGreatJ41
import Derived.Test.YtpbkgeipigcefaaGreatJ29
import Derived.Test.YtpbkgeipigcefaaGreatJ39
set_option linter.unusedVariables false
set_option linter.unusedSimpArgs false
set_option linter.unnecessarySimpa false
namespace Go.Proofs.YtpbkgeipigcefaaGreat
open Go.RowKit

set_option maxRecDepth 100000 in
set_option maxHeartbeats 4000000 in
theorem areLabels_any (v : Value) (L : List LBL) (w : World) (h : LR w v L) (hn : ∀ x ∈ L, x.1.length ≤ 1048576 ∧ x.2.length ≤ 1048576) (hcap : ∀ a n c, v = .slice a n c → L.length ≤ c) :
    Calls Tryz.prog 40 #[v] w fun e w' => e = .returned (.bool (labsOK L)) ∧ Frm [] w w' := by
  have HLR := hide h
  obtain ⟨a, cap, rfl, h0, h1⟩ := h
  have hc := hcap a _ cap rfl
  have H1 := hide h1
  have HN := hide hn
  have hl := bs_toList
  have hsz := bs_size
  clear h1 hn hcap
  by_cases hL : 12 < L.length
  · have HV : Hid (labsOK L = false) := by show _ = _; unfold labsOK; rw [decide_eq_false (by omega)]; rfl
    have hd : decide ((12 : Int) < (L.length : Int)) = true := decide_eq_true (by omega)
    have hd' : decide (12 < L.length) = true := decide_eq_true hL
    go_enter Tryz.func40, Tryz.ntmps40
    go_wp2
    go_ret
    rw [HV.out]
    exact ⟨rfl, Frm.refl _ _⟩
  · have HO : Hid (labsOK L = labsB [] L) := by show _ = _; unfold labsOK; rw [decide_eq_true (by omega)]; rfl
    have hd : decide ((12 : Int) < (L.length : Int)) = false := decide_eq_false (by omega)
    have hd' : decide (12 < L.length) = false := decide_eq_false hL
    go_enter Tryz.func40, Tryz.ntmps40
    go_wp2_with fail
    go_loopg [10] L.length (fun k v10 wr => ∃ j : Nat, j + k = L.length ∧ v10 = .int .i64 j ∧ Frm [] w wr ∧ Hid (labsB (L.take j) (L.drop j) = labsOK L))
    case atStart => exact ⟨0, by omega, rfl, Frm.refl _ _, by show _ = _; rw [HO.out]; simp⟩
    case round =>
      obtain ⟨j, hjk, rfl, hfr, HF⟩ := hrel
      have F := hide hfr
      have hzr := hfr.size
      clear hfr
      by_cases hlt : j < L.length
      · have hd1 : decide ((j : Int) < (L.length : Int)) = true := decide_eq_true (by omega)
        obtain ⟨g, off, rfl, hg, hc1, hc2⟩ := H1.out j hlt
        have hx := HN.out L[j] (List.getElem_mem hlt)
        have q1 := (F.out.cell (p := ⟨g, off + j * 2, none⟩) hg (by simp)).trans hc1
        have q2 := (F.out.cell (p := ⟨g, off + j * 2 + 1, none⟩) hg (by simp)).trans hc2
        have HA : Hid (labsOK L = (isNameL L[j].1 && decide (L[j].2.length ≤ 40) && !((L.take j).any fun y => y.1 == L[j].1) && labsB (L.take (j + 1)) (L.drop (j + 1)))) := by
          show _ = _; rw [← HF.out]; exact labsB_at L j hlt
        clear HF hc1 hc2
        generalize hLj : L[j] = x at *
        clear hLj
        obtain ⟨nm, vl⟩ := x
        simp only at q1 q2 hx HA
        by_cases hvl : 40 < vl.length
        · have hd2 : decide ((40 : Int) < (vl.length : Int)) = true := decide_eq_true (by omega)
          have hd2' : decide (40 < vl.length) = true := decide_eq_true hvl
          have HV : Hid (labsOK L = false) := by show _ = _; rw [HA.out, decide_eq_false (by omega)]; simp
          go_wp2_with fail
          go_quiet (fail)
          go_wp2
          go_ret
          rw [HV.out]
          exact ⟨rfl, (F.out.alloc _).drewN _⟩
        · have hd2 : decide ((40 : Int) < (vl.length : Int)) = false := decide_eq_false (by omega)
          have hd2' : decide (40 < vl.length) = false := decide_eq_false hvl
          cases hin : isNameL nm
          · have HV : Hid (labsOK L = false) := by show _ = _; rw [HA.out, hin]; rfl
            have NA : Hid (∀ W, Calls Tryz.prog 50 #[.string (bs nm)] W fun e w' => e = .returned (.bool false) ∧ w' = W) := fun W => by have := IsName_any nm W hx.1; rw [hin] at this; exact this.mono (fun e w' h => ⟨h.1, h.2.symm⟩)
            go_wp2_with fail
            go_quiet ((go_at_call 50; exact Calls.quiet_of_same (NA.out _)))
            go_wp2
            go_ret
            rw [HV.out]
            exact ⟨rfl, (F.out.alloc _).drewN _⟩
          · have NA : Hid (∀ W, Calls Tryz.prog 50 #[.string (bs nm)] W fun e w' => e = .returned (.bool true) ∧ W = w') := fun W => by have := IsName_any nm W hx.1; rw [hin] at this; exact this
            have HA2 : Hid (labsOK L = (!((L.take j).any fun y => y.1 == nm) && labsB (L.take (j + 1)) (L.drop (j + 1)))) := by
              show _ = _; rw [HA.out, hin, decide_eq_true (by omega)]; rfl
            have LT : Hid (∀ W, Frm [] w W → Calls Tryz.prog 51 #[.slice (some ⟨g, off, none⟩) j cap, .string (bs nm)] W fun e w' => e = .returned (.bool ((L.take j).any fun x => x.1 == nm)) ∧ Frm [] W w') := fun W hW => isNamed_any _ (L.take j) nm W ((HLR.out.frm hW (by simp)).take j (by omega))
            have hjc : j ≤ cap := by omega
            clear HA
            have FN : Hid (Frm [] w (wr.alloc (Obj.cells #[.string (bs nm), .string (bs vl)] 32)).drew) := (F.out.alloc _).drew
            cases han : ((L.take j).any fun x => x.1 == nm)
            · rw [han] at LT
              have HF2 : Hid (labsB (L.take (j + 1)) (L.drop (j + 1)) = labsOK L) := by show _ = _; rw [HA2.out, han]; rfl
              go_wp2_with fail
              go_region_with (first | (go_at_call 50; refine (NA.out _).mono ?_; rintro e w' ⟨rfl, rfl⟩) | (go_at_call 51; refine (LT.out _ FN.out).mono ?_; rintro e w' ⟨rfl, hF'⟩))
              all_goals
                have F2 := hide (FN.out.trans hF')
                clear hF'
                go_wp2
                go_roundg (gk - 1)
                case measure => omega
                case rel => exact ⟨j + 1, by omega, by go_num, F2.out, HF2⟩
            · rw [han] at LT
              have HV : Hid (labsOK L = false) := by show _ = _; rw [HA2.out, han]; rfl
              go_wp2_with fail
              go_region_with (first | (go_at_call 50; refine (NA.out _).mono ?_; rintro e w' ⟨rfl, rfl⟩) | (go_at_call 51; refine (LT.out _ FN.out).mono ?_; rintro e w' ⟨rfl, hF'⟩))
              all_goals
                have F2 := hide (FN.out.trans hF')
                clear hF'
                go_wp2
                go_ret
                rw [HV.out]
                exact ⟨rfl, F2.out⟩
      · have hd1 : decide ((j : Int) < (L.length : Int)) = false := decide_eq_false (by omega)
        have HV : Hid (labsOK L = true) := by
          show _ = _
          rw [← HF.out, List.drop_eq_nil_of_le (by omega)]; rfl
        clear HF
        go_wp2
        go_ret
        rw [HV.out]
        exact ⟨rfl, F.out⟩
end Go.Proofs.YtpbkgeipigcefaaGreat

namespace Go.Proofs.YtpbkgeipigcefaaGreat
open Go.RowKit

def LV (L : List LBL) : Prop := ∀ x ∈ L, x.1.length ≤ 1048576 ∧ x.2.length ≤ 1048576
theorem LV.val {L : List LBL} (h : LV L) (n : List UInt8) : (lblV L n).length ≤ 1048576 := by
  unfold lblV
  cases hf : L.find? fun x => x.1 == n with
  | none => simp
  | some x => exact (h x (List.mem_of_find?_eq_some hf)).2
def RouteQ (m : Mach) (L : List LBL) (w : World) (e : Ending) (w' : World) : Prop :=
  ∃ v css, Frm [] w w' ∧ ((labsOK L = false ∧ e = .returned (.tuple #[.slice none 0 0, .int .i64 8])) ∨ (labsOK L = true ∧ e = .returned (.tuple #[v, .int .i64 0]) ∧ OW 57 5 w.heap.size w' v (lst css) ∧ RowI hitT [] w' css (hitsM m (runM m (lblV L) m.code.length 0))))

set_option maxRecDepth 100000 in
set_option maxHeartbeats 4000000 in
theorem aRoute_any (w : World) (pb : Nat) (V : V6) (m : Mach) (h : PR [] w pb V m) (ok : MOK m) (a : Option Addr) (k cap : Nat) (L : List LBL) (hL : LR w (.slice a k cap) L) (hv : LV L) (hcap : L.length ≤ cap) :
    Calls Tryz.prog 28 #[.pointer (some ⟨pb, 0, none⟩), .slice a k cap] w (RouteQ m L w) := by
  have N1 := hide (areLabels_any (.slice a k cap) L w hL hv (fun a' n' c' e => by cases e; exact hcap))
  have H := hide h
  have OK := hide ok
  have HL := hide hL
  have HV := hide hv
  clear h ok hL hv hcap
  go_enter Tryz.func28, Tryz.ntmps28
  go_wp2_with fail
  refine (N1.out).mono ?_
  clear N1
  rintro e w1 ⟨rfl, hF1⟩
  have F1 := hide hF1
  have N2 := hide (pRun_any w1 pb V m (H.out.frm hF1 (by simp)) OK.out (.slice a k cap) L (HL.out.frm hF1 (by simp)) HV.out.val)
  have hz1 := hF1.size
  clear hF1
  cases hl : labsOK L
  · have HLB := hide hl
    clear hl
    go_wp2
    go_ret2
    exact ⟨.slice none 0 0, [], F1.out, .inl ⟨HLB.out, rfl⟩⟩
  · have HLB := hide hl
    clear hl
    go_wp2_with fail
    refine (N2.out).mono ?_
    clear N2
    rintro e w2 ⟨v, css, rfl, hF2, hO, hI⟩
    obtain ⟨ao, co, he⟩ := hO.shape
    rw [lst_len] at he
    subst he
    have F2 := hide (F1.out.trans hF2)
    have O := hide hO
    have I := hide hI
    clear hF2 hO hI
    go_wp2
    go_ret2
    exact ⟨_, css, F2.out, .inr ⟨HLB.out, rfl, ⟨⟨O.out.1.1, O.out.1.2.imp id (fun ⟨g, c, cu, h1, h2, h3⟩ => ⟨g, c, cu, h1, by omega, h3⟩)⟩, O.out.2⟩, I.out⟩⟩
end Go.Proofs.YtpbkgeipigcefaaGreat

namespace Go.Proofs.YtpbkgeipigcefaaGreat
open Go.RowKit

structure HR (w : World) (g o : Nat) (x : HitM) (vb : Value) : Prop where
  lt : g < w.heap.size
  c0 : w.cell? ⟨g, o, none⟩ = some (.string (bs x.rc))
  c1 : w.cell? ⟨g, o + 1, none⟩ = some vb
  c2 : w.cell? ⟨g, o + 2, none⟩ = some (.int .i64 (x.wt : Nat))
  c3 : w.cell? ⟨g, o + 3, none⟩ = some (.int .i64 (x.ev : Nat))
  c4 : w.cell? ⟨g, o + 4, none⟩ = some (.int .i64 (x.rp : Nat))
  r : RW [] 1 w vb (sc x.bl)
theorem HR.drewN {w : World} {g o : Nat} {x : HitM} {vb : Value} (h : HR w g o x vb) (n : Nat) : HR (w.drewN n) g o x vb := ⟨h.lt, h.c0, h.c1, h.c2, h.c3, h.c4, h.r.frm (S := []) ((Frm.refl [] w).drewN n) (by simp)⟩
theorem HR.frm {w w' : World} {g o : Nat} {x : HitM} {vb : Value} (h : HR w g o x vb) (f : Frm [] w w') : HR w' g o x vb :=
  ⟨Nat.lt_of_lt_of_le h.lt f.size, f.at (p := ⟨g, o, none⟩) h.lt h.c0, f.at (p := ⟨g, o + 1, none⟩) h.lt h.c1, f.at (p := ⟨g, o + 2, none⟩) h.lt h.c2, f.at (p := ⟨g, o + 3, none⟩) h.lt h.c3, f.at (p := ⟨g, o + 4, none⟩) h.lt h.c4, h.r.frm f (by simp)⟩
def HRS (w : World) (v : Value) (hs : List HitM) : Prop :=
  ∃ a cap, v = .slice a hs.length cap ∧ hs.length ≤ cap ∧ ∀ j (h : j < hs.length), ∃ g o vb, a = some ⟨g, o, none⟩ ∧ HR w g (o + j * 5) hs[j] vb
theorem HRS.frm {w w' : World} {v : Value} {hs : List HitM} (h : HRS w v hs) (f : Frm [] w w') : HRS w' v hs := by
  obtain ⟨a, cap, e, hc, h⟩ := h
  refine ⟨a, cap, e, hc, fun j hj => ?_⟩
  obtain ⟨g, o, vb, e1, h1⟩ := h j hj
  exact ⟨g, o, vb, e1, h1.frm f⟩
theorem HRS.nil (w : World) : HRS w (.slice none 0 0) [] := ⟨none, 0, rfl, Nat.le_refl _, fun j h => absurd h (by simp)⟩
theorem hrs_of {base : Nat} {w : World} {v : Value} {css : List (Array Value)} {hs : List HitM} (hO : OW 57 5 base w v (lst css)) (hI : RowI hitT [] w css hs) : HRS w v hs := by
  have hl := hI.1
  have hR := hO.rw (A := []) (by simp)
  have hR2 := hR
  obtain ⟨a2, cap2, e2, hc2, _⟩ := hR2
  obtain ⟨a, cap, e, h⟩ := row_at hR hI
  rw [e2] at e
  simp only [Value.slice.injEq] at e
  obtain ⟨rfl, _, rfl⟩ := e
  refine ⟨a2, cap2, by rw [e2, lst_len, hl], by rw [lst_len, hl] at hc2; exact hc2, fun j hj => ?_⟩
  obtain ⟨g, o, cs, rfl, hg, _, ⟨gb, rfl, hb⟩, hcell⟩ := h j hj
  exact ⟨g, o, _, rfl, hg, hcell 0 _ rfl, hcell 1 _ rfl, hcell 2 _ rfl, hcell 3 _ rfl, hcell 4 _ rfl, hb⟩
end Go.Proofs.YtpbkgeipigcefaaGreat

namespace Go.Proofs.YtpbkgeipigcefaaGreat
open Go.RowKit

def hitsA (m : Mach) (L : List LBL) : List HitM := hitsM m (runM m (lblV L) m.code.length 0)
def ROQ (m : Mach) (L : List LBL) (w : World) (e : Ending) (w' : World) : Prop :=
  Frm [] w w' ∧ ((labsOK L = false ∧ e = .returned (.tuple #[.slice none 0 0, .int .i64 8])) ∨ (labsOK L = true ∧ ∃ v, e = .returned (.tuple #[v, .int .i64 0]) ∧ HRS w' v (hitsA m L)))
theorem route_any (w : World) (pb : Nat) (V : V6) (m : Mach) (h : PR [] w pb V m) (ok : MOK m) (a : Option Addr) (k cap : Nat) (L : List LBL) (hL : LR w (.slice a k cap) L) (hv : LV L) (hcap : L.length ≤ cap) :
    Calls Tryz.prog 28 #[.pointer (some ⟨pb, 0, none⟩), .slice a k cap] w (ROQ m L w) := by
  refine (aRoute_any w pb V m h ok a k cap L hL hv hcap).mono ?_
  rintro e w' ⟨v, css, hF, ⟨h1, rfl⟩ | ⟨h1, rfl, hO, hI⟩⟩
  · exact ⟨hF, .inl ⟨h1, rfl⟩⟩
  · exact ⟨hF, .inr ⟨h1, v, rfl, hrs_of hO hI⟩⟩
end Go.Proofs.YtpbkgeipigcefaaGreat

namespace Go.Proofs.YtpbkgeipigcefaaGreat
open Go.RowKit

def runL (T : Nat → Bool) (l : List InM) : Nat → Nat → List Nat
  | 0, _ => []
  | n + 1, i => match l[i]? with
    | some c => match c.op with
      | 0 => []
      | 1 => c.x :: runL T l n c.a
      | _ => runL T l n (if T c.x then c.a else c.b)
    | none => []
def rl (T : Nat → Bool) (l : List InM) (i : Nat) : List Nat := runL T l (i + 1) i
theorem runL_fuel (T : Nat → Bool) {l : List InM} (hl : GL l) : ∀ n i, i < n → runL T l n i = rl T l i := by
  intro n
  induction n using Nat.strongRecOn with
  | ind n ih =>
    intro i hi
    obtain ⟨m, rfl⟩ : ∃ m, n = m + 1 := ⟨n - 1, by omega⟩
    have key : ∀ k, i ≤ k → k ≤ m → runL T l (k + 1) i = (match l[i]? with
        | some c => match c.op with
          | 0 => []
          | 1 => c.x :: rl T l c.a
          | _ => rl T l (if T c.x then c.a else c.b)
        | none => []) := by
      intro k hk hkm
      rw [runL]
      by_cases h : i < l.length
      · rw [List.getElem?_eq_getElem h]
        have hg := hl i h
        generalize l[i] = c at *
        obtain ⟨op, x, a, b⟩ := c
        simp only at hg ⊢
        rcases hg with rfl | ⟨rfl, h1⟩ | ⟨rfl, h1, h2⟩
        · rfl
        · show x :: runL T l k a = x :: rl T l a
          rw [ih k (by omega) a (by omega)]
        · show runL T l k (if T x then a else b) = rl T l (if T x then a else b)
          exact ih k (by omega) _ (by split <;> omega)
      · rw [List.getElem?_eq_none (by omega)]
    rw [key m (by omega) (Nat.le_refl _)]
    unfold rl
    rw [key i (Nat.le_refl _) (by omega)]
    rfl
theorem rl_at (T : Nat → Bool) {l : List InM} (hl : GL l) {i : Nat} {c : InM} (hc : l[i]? = some c) : rl T l i = if c.op = 0 then [] else if c.op = 1 then c.x :: rl T l c.a else rl T l (if T c.x then c.a else c.b) := by
  obtain ⟨h, rfl⟩ := List.getElem?_eq_some_iff.1 hc
  have hg := hl i h
  rw [rl, runL, hc]
  generalize l[i] = c at *
  obtain ⟨op, x, a, b⟩ := c
  simp only at hg ⊢
  rcases hg with rfl | ⟨rfl, h1⟩ | ⟨rfl, h1, h2⟩
  · rfl
  · show x :: runL T l i a = x :: rl T l a
    rw [runL_fuel T hl i a h1]
  · show runL T l i (if T x then a else b) = rl T l (if T x then a else b)
    exact runL_fuel T hl i _ (by split <;> omega)
theorem rl_pre (T : Nat → Bool) {l l' : List InM} (hl' : GL l') (hp : l <+: l') : ∀ i, i < l.length → rl T l' i = rl T l i := by
  obtain ⟨s, rfl⟩ := hp
  have hl : GL l := fun i hi => by have := hl' i (by simp; omega); rwa [List.getElem_append_left hi] at this
  intro i
  induction i using Nat.strongRecOn with
  | ind i ih =>
    intro hi
    have e : (l ++ s)[i]? = l[i]? := List.getElem?_append_left hi
    have e2 : l[i]? = some l[i] := List.getElem?_eq_getElem hi
    rw [rl_at T hl' (e.trans e2), rl_at T hl e2]
    have hg := hl i hi
    split
    · rfl
    · rename_i h0
      split
      · rename_i h1
        rw [ih _ (by omega) (by omega)]
      · rename_i h1
        have : (if T l[i].x then l[i].a else l[i].b) < i := by split <;> omega
        exact ih _ this (by omega)
def allT (T : Nat → Bool) (q : List (Nat × Bool)) : Bool := q.all fun c => T c.1 == c.2
theorem layChk_pre (y n : Nat) (l : List InM) : ∀ q : List (Nat × Bool), l <+: (layChk q y n l).2
  | [] => List.prefix_refl _
  | c :: r => by rw [layChk]; exact (layChk_pre y n l r).trans (List.prefix_append _ _)
theorem layChk_run (T : Nat → Bool) {l : List InM} (h : GL l) {y n : Nat} (hy : y < l.length) (hn : n < l.length) : ∀ q : List (Nat × Bool), rl T (layChk q y n l).2 (layChk q y n l).1 = if allT T q then rl T l y else rl T l n
  | [] => rfl
  | c :: r => by
    obtain ⟨g1, g2, g3⟩ := layChk_good h hy hn (c :: r)
    obtain ⟨h1, h2, h3⟩ := layChk_good h hy hn r
    have ih := layChk_run T h hy hn r
    have hp := layChk_pre y n l r
    rw [layChk] at g1 ⊢
    have hc : ((layChk r y n l).2 ++ [if c.2 then (⟨2, c.1, (layChk r y n l).1, n⟩ : InM) else ⟨2, c.1, n, (layChk r y n l).1⟩])[(layChk r y n l).2.length]? = some (if c.2 then (⟨2, c.1, (layChk r y n l).1, n⟩ : InM) else ⟨2, c.1, n, (layChk r y n l).1⟩) := by simp
    rw [rl_at T g1 hc]
    have pre := rl_pre T g1 (List.prefix_append (layChk r y n l).2 _)
    have hl1 : rl T (layChk r y n l).2 n = rl T l n := rl_pre T h1 hp n hn
    have ha : allT T (c :: r) = (T c.1 == c.2 && allT T r) := rfl
    rw [ha]
    cases hc2 : c.2
    · rw [hc2] at pre
      simp only [Bool.false_eq_true, if_false, show (2 : Nat) ≠ 0 by omega, show (2 : Nat) ≠ 1 by omega] at pre ⊢
      cases hT : T c.1
      · rw [if_neg (by simp), pre _ h2, ih]; simp
      · rw [if_pos rfl, pre _ (by omega), hl1]; simp
    · rw [hc2] at pre
      simp only [if_true, if_false, show (2 : Nat) ≠ 0 by omega, show (2 : Nat) ≠ 1 by omega] at pre ⊢
      cases hT : T c.1
      · rw [if_neg (by simp), pre _ (by omega), hl1]; simp
      · rw [if_pos rfl, pre _ h2, ih]; simp
def walkK (T : Nat → Bool) (C : List CR) (q : List (List (Nat × Bool))) (S : Nat → List Nat) : List Nat → List Nat
  | [] => []
  | c :: r => if allT T (q.getD c []) then S c ++ (if (C[c]?.map (·.co)) = some true then walkK T C q S r else []) else walkK T C q S r
def sent (T : Nat → Bool) (C : List CR) (q : List (List (Nat × Bool))) : Nat → Nat → List Nat
  | 0, _ => []
  | f + 1, r => if (kids C r).any (fun c => allT T (q.getD c [])) then walkK T C q (sent T C q f) (kids C r) else [r]
def RSn (T : Nat → Bool) (S : Nat → List Nat) (rec : Nat → Nat → List InM → Nat × List InM) : Prop := ∀ c d l, GL l → d < l.length → l <+: (rec c d l).2 ∧ rl T (rec c d l).2 (rec c d l).1 = S c ++ rl T l d
theorem lay1_run {T : Nat → Bool} {S : Nat → List Nat} {rec : Nat → Nat → List InM → Nat × List InM} (hr : RG rec) (hs : RSn T S rec) (C : List CR) (q : List (List (Nat × Bool))) {d : Nat} {l : List InM} (h : GL l) (hd : d < l.length) : ∀ K : List Nat,
    l <+: (lay1 rec C q d l K).2.2 ∧ rl T (lay1 rec C q d l K).2.2 (lay1 rec C q d l K).1 = walkK T C q S K ++ rl T l d ∧
    ∀ (i c b : Nat), K[i]? = some c → (lay1 rec C q d l K).2.1[i]? = some b → allT T (q.getD c []) = true → (∀ (k c' : Nat), k < i → K[k]? = some c' → allT T (q.getD c' []) = false) → rl T (lay1 rec C q d l K).2.2 b = walkK T C q S K ++ rl T l d
  | [] => ⟨List.prefix_refl _, rfl, fun i c b h => by simp at h⟩
  | c :: r => by
    obtain ⟨p1, p2, p3⟩ := lay1_run hr hs C q h hd r
    obtain ⟨h1, h2, h3, h4, h5⟩ := lay1_good hr C q h hd r
    rw [lay1, walkK]
    generalize lay1 rec C q d l r = x at *
    have hdx : (if (C[c]?.map (·.co)) = some true then x.1 else d) < x.2.2.length := by split <;> omega
    obtain ⟨g1, g2, g3⟩ := hr c (if (C[c]?.map (·.co)) = some true then x.1 else d) x.2.2 h1 hdx
    obtain ⟨s1, s2⟩ := hs c (if (C[c]?.map (·.co)) = some true then x.1 else d) x.2.2 h1 hdx
    have e0 : rl T x.2.2 (if (C[c]?.map (·.co)) = some true then x.1 else d) = (if (C[c]?.map (·.co)) = some true then walkK T C q S r else []) ++ rl T l d := by
      split
      · exact p2
      · rw [rl_pre T h1 p1 d hd]; rfl
    rw [e0, ← List.append_assoc] at s2
    generalize rec c (if (C[c]?.map (·.co)) = some true then x.1 else d) x.2.2 = b at *
    have hxb : x.1 < b.2.length := by omega
    obtain ⟨k1, k2, k3⟩ := layChk_good g1 g2 hxb (q.getD c [])
    have kr := layChk_run T g1 g2 hxb (q.getD c [])
    have kp := layChk_pre b.1 x.1 b.2 (q.getD c [])
    have e1 : rl T b.2 x.1 = walkK T C q S r ++ rl T l d := by rw [rl_pre T g1 s1 x.1 h2]; exact p2
    refine ⟨(p1.trans s1).trans kp, ?_, ?_⟩
    · show rl T (layChk _ _ _ _).2 (layChk _ _ _ _).1 = _
      rw [kr]
      cases allT T (q.getD c [])
      · simp only [Bool.false_eq_true, if_false]; exact e1
      · simp only [if_true]; exact s2
    · intro i c' b' hi hb' ha hb2
      show rl T (layChk _ _ _ _).2 b' = _
      cases i with
      | zero =>
        simp only [List.getElem?_cons_zero, Option.some.injEq] at hi hb'
        subst hi hb'
        rw [rl_pre T k1 kp b.1 g2, ha]
        simp only [if_true]; exact s2
      | succ i =>
        simp only [List.getElem?_cons_succ] at hi hb'
        have hc0 := hb2 0 c (by omega) (by simp)
        have hb'l : b' < x.2.2.length := h4 b' (List.mem_of_getElem? hb')
        have := p3 i c' b' hi hb' ha (fun k c'' hk hc'' => hb2 (k + 1) c'' (by omega) (by simpa using hc''))
        rw [rl_pre T k1 kp b' (by omega), rl_pre T g1 s1 b' hb'l, this, hc0]
        simp
theorem lay2_pre (q : List (List (Nat × Bool))) (first : Nat) (l : List InM) : ∀ Z : List (Nat × Nat), l <+: (lay2 q first l Z).2
  | [] => List.prefix_refl _
  | z :: r => by rw [lay2]; exact (lay2_pre q first l r).trans (layChk_pre _ _ _ _)
theorem lay2_run (T : Nat → Bool) (q : List (List (Nat × Bool))) {first : Nat} {l : List InM} (h : GL l) (hf : first < l.length) (R : List Nat) : ∀ Z : List (Nat × Nat), (∀ z ∈ Z, z.2 < l.length) →
    (∀ (i : Nat) (z : Nat × Nat), Z[i]? = some z → allT T (q.getD z.1 []) = true → (∀ (k : Nat) (z' : Nat × Nat), k < i → Z[k]? = some z' → allT T (q.getD z'.1 []) = false) → rl T l z.2 = R) → rl T (lay2 q first l Z).2 (lay2 q first l Z).1 = if Z.any (fun z => allT T (q.getD z.1 [])) then R else rl T l first
  | [], _, _ => rfl
  | z :: r, hz, hR => by
    obtain ⟨h1, h2, h3⟩ := lay2_good q h hf r (fun y hy => hz y (by simp [hy]))
    have hp := lay2_pre q first l r
    have hz0 := hz z (by simp)
    rw [lay2, layChk_run T h1 (by omega : z.2 < (lay2 q first l r).2.length) h2 (q.getD z.1 []), List.any_cons]
    cases ha : allT T (q.getD z.1 [])
    · have ih := lay2_run T q h hf R r (fun y hy => hz y (by simp [hy])) (fun i z' hi hz' hk => hR (i + 1) z' (by simpa using hi) hz' (fun k z'' hk' hz'' => by
        cases k with
        | zero => simp at hz''; rw [← hz'']; exact ha
        | succ k => exact hk k z'' (by omega) (by simpa using hz'')))
      simp only [Bool.false_eq_true, if_false, Bool.false_or]
      exact ih
    · simp only [if_true, Bool.true_or]
      rw [rl_pre T h1 hp z.2 hz0]
      exact hR 0 z rfl ha (fun k z' hk => by omega)
theorem zip_any (f : Nat → Bool) : ∀ (K bg : List Nat), bg.length = K.length → (K.zip bg).any (fun z => f z.1) = K.any f
  | [], bg, _ => by simp
  | c :: r, [], h => by simp at h
  | c :: r, b :: s, h => by simp only [List.zip_cons_cons, List.any_cons, zip_any f r s (by simpa using h)]
theorem layR_run (T : Nat → Bool) (C : List CR) (q : List (List (Nat × Bool))) : ∀ f, RSn T (sent T C q f) (layR C q f)
  | 0 => fun c d l h hd => ⟨List.prefix_refl _, rfl⟩
  | f + 1 => fun r d l h hd => by
    have hr := layR_good C q f
    have hs := layR_run T C q f
    obtain ⟨h1, h2, h3, h4, h5⟩ := lay1_good hr C q h hd (kids C r)
    obtain ⟨p1, p2, p3⟩ := lay1_run hr hs C q h hd (kids C r)
    rw [layR, sent]
    generalize lay1 (layR C q f) C q d l (kids C r) = x at *
    have hg : GL (x.2.2 ++ [⟨1, r, d, 0⟩]) := h1.snoc (.inr (.inl ⟨rfl, by show d < _; omega⟩))
    have hpx : x.2.2 <+: x.2.2 ++ [(⟨1, r, d, 0⟩ : InM)] := List.prefix_append _ _
    have hzl : ∀ z ∈ (kids C r).zip x.2.1, z.2 < (x.2.2 ++ [(⟨1, r, d, 0⟩ : InM)]).length := by
      intro z hz
      have := h4 z.2 (List.of_mem_zip hz).2
      simp; omega
    have hrun := lay2_run T q hg (by simp : x.2.2.length < (x.2.2 ++ [(⟨1, r, d, 0⟩ : InM)]).length) (walkK T C q (sent T C q f) (kids C r) ++ rl T l d) ((kids C r).zip x.2.1) hzl (by
      intro i z hi ha hk
      have hz := List.getElem?_zip_eq_some.1 hi
      rw [rl_pre T hg hpx z.2 (h4 z.2 (List.mem_of_getElem? hz.2))]
      refine p3 i z.1 z.2 hz.1 hz.2 ha (fun k c' hk' hc' => ?_)
      have hkl : k < x.2.1.length := by
        rw [h5]; exact (List.getElem?_eq_some_iff.1 hc').1
      exact hk k (c', x.2.1[k]) hk' (List.getElem?_zip_eq_some.2 ⟨hc', List.getElem?_eq_getElem hkl⟩))
    refine ⟨(p1.trans hpx).trans (lay2_pre _ _ _ _), ?_⟩
    show rl T (lay2 q x.2.2.length (x.2.2 ++ [⟨1, r, d, 0⟩]) ((kids C r).zip x.2.1)).2 (lay2 q x.2.2.length (x.2.2 ++ [⟨1, r, d, 0⟩]) ((kids C r).zip x.2.1)).1 = _
    rw [hrun, zip_any (fun c => allT T (q.getD c [])) _ _ h5]
    cases (kids C r).any fun c => allT T (q.getD c [])
    · simp only [Bool.false_eq_true, if_false]
      rw [rl_at T hg (c := ⟨1, r, d, 0⟩) (by simp)]
      simp only [Nat.one_ne_zero, if_false, if_true]
      rw [rl_pre T hg (p1.trans hpx) d hd]
      rfl
    · simp only [if_true]
end Go.Proofs.YtpbkgeipigcefaaGreat

namespace Go.Proofs.YtpbkgeipigcefaaGreat
open Go.RowKit

def tT (m : Mach) (V : List UInt8 → List UInt8) (x : Nat) : Bool := match m.tests[x]? with
  | some t => tstM m (V (m.names.getD t.n [])) t
  | none => false
theorem turn_go {m : Mach} {l : List InM} (hl : GL l) {nr : Nat} (hx : GXl nr m.tests.length l) {N : List Int} {c : Nat} (hN : NumOK N 0 c) (hlen : N.length = l.length) (hT : TurnOK l N 0 m.code)
    (hsp : ∀ j x, l[j]? = some x → 0 ≤ N.getD j 0 → (x.op ≠ 0 → 0 ≤ N.getD x.a 0) ∧ (x.op = 2 → 0 ≤ N.getD x.b 0)) (V : List UInt8 → List UInt8) : ∀ j, j < l.length → 0 ≤ N.getD j (-1) → ∀ n, m.code.length ≤ n + (N.getD j (-1)).toNat → runM m V n (N.getD j (-1)).toNat = rl (tT m V) l j := by
  intro j
  induction j using Nat.strongRecOn with
  | ind j ih =>
    intro hj h0 n hn
    have hb := hT.b j (by omega) h0
    obtain ⟨k, rfl⟩ : ∃ k, n = k + 1 := ⟨n - 1, by omega⟩
    have hjl : l[j]? = some l[j] := List.getElem?_eq_getElem hj
    have ho := hT.a j _ (by omega) hjl h0
    obtain ⟨s1, s2⟩ := hsp j _ hjl (by rw [getD_any N j (by omega)]; omega)
    have hg := hl j hj
    have hxx := hx l[j] (List.getElem_mem _)
    rw [rl_at _ hl hjl, runM, ho]
    generalize l[j] = y at *
    obtain ⟨op, xn, a, b⟩ := y
    simp only [GXi] at hxx
    simp only at hg s1 s2 ⊢
    have tgt : ∀ t, t < j → 0 ≤ N.getD t 0 → runM m V k (N.getD t 0).toNat = rl (tT m V) l t := by
      intro t ht ht0
      rw [getD_any N t (by omega)] at ht0 ⊢
      have h1 := hN.d t j (by omega) ht ht0 h0
      exact ih t ht (by omega) ht0 k (by omega)
    rcases hxx with ⟨rfl, rfl, rfl, rfl⟩ | ⟨rfl, h1, rfl⟩ | ⟨rfl, h1⟩
    · rfl
    · have ha := tgt a (by omega) (s1 (by omega))
      simp only [turnI, Nat.one_ne_zero, if_false, if_true]
      rw [ha]
    · have ha := tgt a (by omega) (s1 (by omega))
      have hb := tgt b (by omega) (s2 rfl)
      simp only [turnI, show (2 : Nat) ≠ 0 by omega, if_false, if_true, show (2 : Nat) ≠ 1 by omega]
      have ht : m.tests[xn]? = some m.tests[xn] := List.getElem?_eq_getElem h1
      have hTT : tT m V xn = tstM m (V (m.names.getD m.tests[xn].n [])) m.tests[xn] := by unfold tT; rw [ht]
      rw [ht, hTT]
      simp only
      cases tstM m (V (m.names.getD m.tests[xn].n [])) m.tests[xn]
      · simpa using hb
      · simpa using ha
theorem turn_run {m : Mach} {l : List InM} (hl : GL l) {nr : Nat} (hx : GXl nr m.tests.length l) (first : Nat) (hf : first < l.length) (hc : m.code = turnM l first) (V : List UInt8 → List UInt8) : runM m V m.code.length 0 = rl (tT m V) l first := by
  obtain ⟨c, hN⟩ := numsOf_num l first
  have hlen := numsOf_len l first
  have hsp := numsOf_spec hl first
  have hhi := numsOf_hi hl first
  have hT : TurnOK l (numsOf l first) 0 (turnM l first) := by
    refine turnGo_ok hN hlen (first + 1) [] (by omega) ⟨fun j x hj _ h0 => ?_, fun k hk => by simp at hk, fun j hj h0 => ?_⟩
    · have := hhi j (by omega); omega
    · have := hhi j (by omega); omega
  have h0 : 0 ≤ (numsOf l first).getD first (-1) := by
    unfold numsOf
    exact numGo_first l first hf l.length _ _ 0 hf (Nat.le_refl _) (by simp) (by simp) (getD_set_eq _ _ _ _ (by simpa using hf))
  have hz : (numsOf l first).getD first (-1) = 0 := by
    have hb := hN.b first (by omega) h0
    obtain ⟨j, _, hj⟩ := hN.s 0 (by omega)
    rcases Nat.lt_trichotomy j first with h1 | h1 | h1
    · have := hN.d j first (by omega) h1 (by rw [hj]; omega) h0
      rw [hj] at this; omega
    · rw [h1] at hj; exact hj
    · have := hhi j h1
      rw [hj] at this; omega
  rw [← hc] at hT
  have := turn_go hl hx hN hlen hT hsp V first hf h0 m.code.length (by omega)
  rw [hz] at this
  exact this
end Go.Proofs.YtpbkgeipigcefaaGreat

