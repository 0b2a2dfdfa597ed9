import Derived.Test.YtjnaekffodgdcaaDoorW10
namespace Go.Proofs.YtjnaekffodgdcaaDoor
open Go.RowKit
set_option linter.unusedVariables false
set_option linter.unusedSimpArgs false
set_option linter.unnecessarySimpa false

/-- The route that is being read, at block rb. -/
structure RV where
  d : Int
  rc : List UInt8
  tb : Bool
  vby : Value
  wt : Int
  ev : Int
  rp : Int
  vif : Value
  co : Bool
def RV.cells (r : RV) : Array Value := #[.int .i64 r.d, .string (bs r.rc), .bool r.tb, r.vby, .int .i64 r.wt, .int .i64 r.ev, .int .i64 r.rp, r.vif, .bool r.co]
def RT (w : World) (rb : Nat) (r : RV) : Prop := w.heap[rb]? = some (.cells r.cells 62 (0, 0))
theorem RT.lt {w : World} {rb : Nat} {r : RV} (h : RT w rb r) : rb < w.heap.size := (Array.getElem?_eq_some_iff.1 h).1
theorem RT.cell {w : World} {rb : Nat} {r : RV} (h : RT w rb r) (o : Nat) : w.cell? ⟨rb, o, none⟩ = r.cells[o]? := by
  unfold RT at h; simp [World.cell?, h]
theorem RT.fz {w : World} {rb : Nat} {r : RV} (h : RT w rb r) (o : Nat) : w.frozen? ⟨rb, o, none⟩ = false := by
  unfold RT at h; simp [World.frozen?, h]
theorem RT.frm {S : List Nat} {w w' : World} {rb : Nat} {r : RV} (h : RT w rb r) (f : Frm S w w') (hS : rb ∉ S) : RT w' rb r :=
  (f.block rb h.lt hS).trans h
theorem RT.set {w : World} {rb : Nat} {r : RV} (h : RT w rb r) (o : Nat) (v : Value) (r' : RV) (e : r'.cells = r.cells.setIfInBounds o v) : RT (w.setCell ⟨rb, o, none⟩ v) rb r' := by
  unfold RT at *
  simp [World.setCell, Array.getElem?_modify, h, e]
theorem RT.drewN {w : World} {rb : Nat} {r : RV} (h : RT w rb r) (n : Nat) : RT (w.drewN n) rb r := h

theorem own_shape {w : World} {base : Nat} {e : TypeId} {size : Nat} {v : Value} {n : Nat} {xs : List Value} (h : w.ownsRow base e size v n xs) : ∃ a cap, v = .slice a n cap := by
  rcases h.2 with ⟨e, h0⟩ | ⟨g, cap, cur, e, _⟩
  · exact ⟨none, 0, by rw [e, h0]⟩
  · exact ⟨_, _, e⟩
theorem SL.shape {base : Nat} {w : World} {v : Value} {L : List (List UInt8)} (h : SL base w v L) : ∃ a cap, v = .slice a L.length cap := own_shape h

def sRecv (l : List UInt8) : List UInt8 × Bool × List UInt8 :=
  if sTake [45] l then ([45], true, sRest [45] l) else (l.takeWhile nmB, isNameL (l.takeWhile nmB), l.dropWhile nmB)

set_option maxRecDepth 100000 in
set_option maxHeartbeats 1000000 in
theorem takeReceiver_any (b rb : Nat) (t l : List UInt8) (r : RV) (w : World) (h : At w b t l) (hr : RT w rb r) (hne : b ≠ rb) :
    Calls Tryd.prog 43 #[.pointer (some ⟨b, 0, none⟩), .pointer (some ⟨rb, 0, none⟩)] w fun e w' => e = .returned (.bool (sRecv l).2.1) ∧ At w' b t (sRecv l).2.2 ∧ RT w' rb { r with rc := (sRecv l).1 } ∧ Frm [b, rb] w w' := by
  have hb := h.lt
  have hrb := hr.lt
  have H : Hid (At w b t l) := h
  have HR : Hid (RT w rb r) := hr
  clear h hr
  go_enter Tryd.func43, Tryd.ntmps43
  go_wp2_with fail
  refine (take_any b t l [45] _ H.out (by simp)).mono ?_
  rintro e w1 ⟨rfl, h1, hf1⟩
  have hr1 := HR.out.frm hf1 (by simp; omega)
  cases ht1 : sTake [45] l
  case true =>
    have Hx : Hid (sRecv l = ([45], true, sRest [45] l)) := by
      show sRecv l = _; unfold sRecv; rw [ht1]; rfl
    have c1 : w1.cell? ⟨rb, 1, none⟩ = some (.string (bs r.rc)) := hr1.cell 1
    have f1 := hr1.fz 1
    have H1 : Hid (At w1 b t (sRest [45] l) ∧ Frm [b, rb] w w1) := ⟨h1, hf1.mono (by simp; omega)⟩
    have HR1 : Hid (RT w1 rb r) := hr1
    clear h1 hf1 hr1
    go_wp2
    go_ret
    rw [Hx.out]
    exact ⟨rfl, H1.out.1.frm (S := [rb]) ((Frm.refl _ _).setCell (by simp) _) (by simp; omega), HR1.out.set 1 _ _ rfl, H1.out.2.setCell (by simp) _⟩
  case false =>
  have Hx : Hid (sRecv l = (l.takeWhile nmB, isNameL (l.takeWhile nmB), l.dropWhile nmB)) := by
    show sRecv l = _; unfold sRecv; rw [ht1]; rfl
  rw [sRest_no ht1] at h1
  have H1 : Hid (At w1 b t l) := h1
  clear h1
  go_wp2_with fail
  refine (takeName_any b t l _ H1.out).mono ?_
  rintro e w2 ⟨rfl, h2, hf2⟩
  have hr2 := hr1.frm hf2 (by simp; omega)
  have c1 : w2.cell? ⟨rb, 1, none⟩ = some (.string (bs r.rc)) := hr2.cell 1
  have f1 := hr2.fz 1
  have H2 : Hid (At w2 b t (l.dropWhile nmB) ∧ Frm [b, rb] w w2) := ⟨h2, (hf1.trans hf2).mono (by simp; omega)⟩
  have HR2 : Hid (RT w2 rb r) := hr2
  clear h2 hf2 hf1 hr2 hr1 ht1
  go_wp2
  go_ret
  rw [Hx.out]
  exact ⟨rfl, H2.out.1.frm (S := [rb]) ((Frm.refl _ _).setCell (by simp) _) (by simp; omega), HR2.out.set 1 _ _ rfl, H2.out.2.setCell (by simp) _⟩

structure ByR where
  tells : Bool
  names : List (List UInt8)
  ok : Bool
  rest : List UInt8
def sBy (l : List UInt8) : ByR :=
  if sTake [32, 98, 121, 32] l then
    let l1 := sRest [32, 98, 121, 32] l
    if sTake [45] l1 then ⟨true, [], true, sRest [45] l1⟩
    else ⟨true, rise (sLabs l1).1, (sLabs l1).2.1, (sLabs l1).2.2⟩
  else ⟨false, [], true, l⟩

set_option maxRecDepth 100000 in
set_option maxHeartbeats 1000000 in
theorem takeBy_any (b rb : Nat) (t l : List UInt8) (r : RV) (w : World) (h : At w b t l) (hr : RT w rb r) (hne : b ≠ rb) (htb : r.tb = false) (hby : r.vby = .slice none 0 0) :
    Calls Tryd.prog 44 #[.pointer (some ⟨b, 0, none⟩), .pointer (some ⟨rb, 0, none⟩)] w fun e w' => e = .returned (.bool (sBy l).ok) ∧ At w' b t (sBy l).rest ∧ (∃ v, RT w' rb { r with tb := (sBy l).tells, vby := v } ∧ SL w.heap.size w' v (sBy l).names) ∧ Frm [b, rb] w w' := by
  obtain ⟨d, rc, tb, vby, wt, ev, rp, vif, co⟩ := r
  simp only at htb hby
  subst htb hby
  have hb := h.lt
  have hrb := hr.lt
  have H : Hid (At w b t l) := h
  have HR : Hid (RT w rb ⟨d, rc, false, .slice none 0 0, wt, ev, rp, vif, co⟩) := hr
  clear h hr
  go_enter Tryd.func44, Tryd.ntmps44
  go_wp2_with fail
  refine (take_any b t l [32, 98, 121, 32] _ H.out (by simp)).mono ?_
  rintro e w1 ⟨rfl, h1, hf1⟩
  have hr1 := HR.out.frm hf1 (by simp; omega)
  cases ht1 : sTake [32, 98, 121, 32] l
  case false =>
    have Hx : Hid (sBy l = ⟨false, [], true, l⟩) := by
      show sBy l = _; unfold sBy; rw [ht1]; rfl
    rw [sRest_no ht1] at h1
    have H1 : Hid (At w1 b t l ∧ Frm [b, rb] w w1) := ⟨h1, hf1.mono (by simp; omega)⟩
    have HR1 : Hid (RT w1 rb ⟨d, rc, false, .slice none 0 0, wt, ev, rp, vif, co⟩) := hr1
    clear h1 hf1 hr1
    go_wp2
    go_ret
    rw [Hx.out]
    exact ⟨rfl, H1.out.1, ⟨_, HR1.out, SL.nil _ _⟩, H1.out.2⟩
  case true =>
  have c2 : w1.cell? ⟨rb, 2, none⟩ = some (.bool false) := hr1.cell 2
  have f2 := hr1.fz 2
  generalize hl1 : sRest [32, 98, 121, 32] l = l1 at *
  have H1 : Hid (At w1 b t l1) := h1
  have HF1 : Hid (Frm [b, rb] w w1) := hf1.mono (by simp; omega)
  have HR1 : Hid (RT w1 rb ⟨d, rc, false, .slice none 0 0, wt, ev, rp, vif, co⟩) := hr1
  have Hl1 : Hid (sRest [32, 98, 121, 32] l = l1 ∧ sTake [32, 98, 121, 32] l = true) := ⟨hl1, ht1⟩
  clear h1 hf1 hr1 hl1 ht1
  go_wp2_with fail
  have hr1 := HR1.out.set 2 (.bool true) ⟨d, rc, true, .slice none 0 0, wt, ev, rp, vif, co⟩ rfl
  have h1 := H1.out.frm (S := [rb]) ((Frm.refl _ _).setCell (p := ⟨rb, 2, none⟩) (by simp) (.bool true)) (by simp; omega)
  have hf1 := HF1.out.setCell (p := ⟨rb, 2, none⟩) (by simp) (.bool true)
  refine (take_any b t l1 [45] _ h1 (by simp)).mono ?_
  rintro e w2 ⟨rfl, h2, hf2⟩
  have hr2 := hr1.frm hf2 (by simp; omega)
  have hf12 := hf1.trans (hf2.mono (S' := [b, rb]) (by simp; omega))
  have HF2 : Hid (Frm [b, rb] w w2) := hf12
  have HR2 : Hid (RT w2 rb ⟨d, rc, true, .slice none 0 0, wt, ev, rp, vif, co⟩) := hr2
  clear h1 hr1 hf1 hf2 hr2 hf12 c2 f2 H1 HF1 HR1
  cases ht2 : sTake [45] l1
  case true =>
    have Hx : Hid (sBy l = ⟨true, [], true, sRest [45] l1⟩) := by
      show sBy l = _; unfold sBy; rw [Hl1.out.1, Hl1.out.2]; simp [ht2]
    have H2 : Hid (At w2 b t (sRest [45] l1)) := h2
    clear h2
    go_wp2
    go_ret
    rw [Hx.out]
    exact ⟨rfl, H2.out, ⟨_, HR2.out, SL.nil _ _⟩, HF2.out⟩
  case false =>
  have Hx : Hid (sBy l = ⟨true, rise (sLabs l1).1, (sLabs l1).2.1, (sLabs l1).2.2⟩) := by
    show sBy l = _; unfold sBy; rw [Hl1.out.1, Hl1.out.2]; simp [ht2]
  rw [sRest_no ht2] at h2
  have H2 : Hid (At w2 b t l1) := h2
  clear h2 ht2
  go_wp2_with fail
  refine (takeLabels_any b t l1 _ H2.out).mono ?_
  rintro e w3 ⟨v', rfl, hs3, hl3, h3, hf3⟩
  have hr3 := HR2.out.frm hf3 (by simp; omega)
  have HF3 : Hid (Frm [b, rb] w w3) := HF2.out.trans (hf3.mono (S' := [b, rb]) (by simp; omega))
  have HS3 : Hid (SL w2.heap.size w3 v' (sLabs l1).1) := hs3
  have H3 : Hid (At w3 b t (sLabs l1).2.2) := h3
  have HR3 : Hid (RT w3 rb ⟨d, rc, true, .slice none 0 0, wt, ev, rp, vif, co⟩) := hr3
  clear hs3 h3 hf3 hr3 H2 HR2
  go_wp2_with fail
  refine (risingOnce_any v' _ _ ((HS3.out.rs (by omega)).base (Nat.zero_le _)) (by omega)).mono ?_
  rintro e w4 ⟨v4, rfl, hs4, hf4⟩
  have hr4 := HR3.out.frm hf4 (by simp)
  have c3 : w4.cell? ⟨rb, 3, none⟩ = some (.slice none 0 0) := hr4.cell 3
  have f3 := hr4.fz 3
  have HF4 : Hid (Frm [b, rb] w w4) := HF3.out.trans hf4.nil
  have HS4 : Hid (SL w.heap.size w4 v4 (rise (sLabs l1).1)) := hs4.base HF3.out.size
  have H4 : Hid (At w4 b t (sLabs l1).2.2) := H3.out.frm hf4 (by simp)
  have HR4 : Hid (RT w4 rb ⟨d, rc, true, .slice none 0 0, wt, ev, rp, vif, co⟩) := hr4
  clear hs4 hf4 hr4
  obtain ⟨a4, cap4, rfl⟩ := HS4.out.shape
  go_wp2
  go_ret
  rw [Hx.out]
  refine ⟨rfl, H4.out.frm (S := [rb]) ((Frm.refl _ _).setCell (by simp) _) (by simp; omega), ⟨.slice a4 (rise (sLabs l1).1).length cap4, HR4.out.set 3 _ _ rfl, ?_⟩, HF4.out.setCell (by simp) _⟩
  exact HS4.out.frm (S := [rb]) ((Frm.refl _ _).setCell (by simp) _) (by simp; omega)

end Go.Proofs.YtjnaekffodgdcaaDoor
