import Derived.Test.YthlemieldfbbfabS2
namespace Go.Proofs.Ythlemieldfbbfab
open Go.RowKit
set_option linter.unusedVariables false
set_option linter.unusedSimpArgs false
set_option linter.unnecessarySimpa false

theorem eT_len (x : List UInt8) : (eT x).length = x.length + 1 := by unfold eT; rw [List.length_append, nb_len]; omega
theorem AD.sav {base : Nat} {w w' : World} {sb : Nat} {L x : List UInt8} (h : AD base w sb L x w') : ∃ v, SAV base w' sb v (L ++ x) := by
  obtain ⟨v, h1, _⟩ := h; exact ⟨v, h1⟩
theorem AD.kp {base : Nat} {w w' : World} {sb : Nat} {L x : List UInt8} (h : AD base w sb L x w') : KP base sb w w' := by
  obtain ⟨v, _, h1, _⟩ := h; exact h1
/-- A struct of one's own that is no row of bytes lies still. -/
theorem KP.loc {base sb : Nat} {w w' : World} (k : KP base sb w w') {lb : Nat} {cs : Array Value} {t : TypeId} (h : w.heap[lb]? = some (.cells cs t (0, 0))) (ht : t ≠ 5) (hs : lb ≠ sb) : w'.heap[lb]? = some (.cells cs t (0, 0)) := by
  rw [k.block lb (Array.getElem?_eq_some_iff.1 h).1 hs (.inr (fun cur fz e => by rw [h] at e; simp at e; exact ht e.2.1))]
  exact h

set_option maxRecDepth 100000 in
set_option maxHeartbeats 4000000 in
theorem addHit_any (W0 : World) (A : List Nat) (sb : Nat) (v : Value) (L : List UInt8) (x : HitM) (ab : Option Addr) (cb : Nat) (w : World) (hs : SAV W0.heap.size w sb v L) (hF : Frm [] W0 w) (ht : RW A 1 W0 (.slice ab x.bl.length cb) (sc x.bl)) (hr : x.rc.length ≤ 1048576) (hx : ∀ y ∈ x.bl, y.length ≤ 1048576) (hxs : x.bl.length < 16777216) (h1 : x.wt < 16777216) (h2 : x.ev < 16777216) (h3 : x.rp < 16777216) (hL : L.length + (eH x).length ≤ 600000000) :
    Calls Try.prog 48 #[.pointer (some ⟨sb, 0, none⟩), .agg (hcell x (.slice ab x.bl.length cb))] w fun e w' => e = .returned (.tuple #[]) ∧ AD W0.heap.size w sb L (eH x) w' := by
  obtain ⟨rc, bl, wt, ev, rp⟩ := x
  simp only [eH, List.length_append, nb_len, eT_len] at hL
  simp only at ht hr hx hxs h1 h2 h3 hL
  have hbs := hs.2.1
  have hsb := hs.lt
  have F0 := hide hF
  have hz0 := hF.size
  have T := hide ht
  have HX := hide hx
  have S0 : SAV W0.heap.size (w.alloc (Obj.cells (hcell ⟨rc, bl, wt, ev, rp⟩ (.slice ab bl.length cb)) 75)) sb v L := ⟨(((Frm.refl [] w).alloc _).block sb hsb (by simp)).trans hs.1, hbs, hs.2.2.alloc _⟩
  have K0 : Hid (KP W0.heap.size sb w (w.alloc (Obj.cells (hcell ⟨rc, bl, wt, ev, rp⟩ (.slice ab bl.length cb)) 75))) := KP.of_frm ((Frm.refl [sb] w).alloc _)
  have B0 : Hid ((w.alloc (Obj.cells (hcell ⟨rc, bl, wt, ev, rp⟩ (.slice ab bl.length cb)) 75)).heap[w.heap.size]? = some (.cells (hcell ⟨rc, bl, wt, ev, rp⟩ (.slice ab bl.length cb)) 75 (0, 0))) := heap1 _ _
  have N1 := hide (addText_any W0.heap.size sb v L rc _ S0 (by omega) (by simp; omega) hr)
  clear hs hF ht S0 hx
  go_enter Try.func48, Try.ntmps48
  simp only [hcell] at N1 ⊢
  go_wp2_with fail
  refine (N1.out).mono ?_
  rintro e w1 ⟨rfl, hA1⟩
  have A1 := hide hA1
  have B1 := hide (hA1.kp.loc B0.out (by decide) (by omega))
  obtain ⟨v1, hS1⟩ := hA1.sav
  have FW1 := hide ((K0.out.trans hA1.kp).frm F0.out hbs)
  have N2 := hide (addTexts_any W0 A sb v1 _ (L ++ eT rc) bl w1 hS1 FW1.out T.out HX.out hxs (by rw [List.length_append, eT_len]; omega))
  have d0 : w1.cell? ⟨w.heap.size, 0, none⟩ = some (.string (bs rc)) := by simp [World.cell?, B1.out, hcell]
  have d1 : w1.cell? ⟨w.heap.size, 1, none⟩ = some (.slice ab bl.length cb) := by simp [World.cell?, B1.out, hcell]
  clear hA1 hS1 N1 B0
  go_wp2_with fail
  refine (N2.out).mono ?_
  rintro e w2 ⟨rfl, hA2⟩
  have A2 := hide (A1.out.add (fun _ _ => hA2))
  have B2 := hide (hA2.kp.loc B1.out (by decide) (by omega))
  obtain ⟨v2, hS2⟩ := A2.out.sav
  have hz2 := (A2.out.kp).size
  simp at hz2
  have N3 := hide (addNumber_any 3 W0.heap.size sb v2 _ wt 3 w2 (by omega) (by omega) rfl hS2 (by simp only [List.length_append, eT_len]; omega) (by omega) h1)
  have f2 : w2.cell? ⟨w.heap.size, 2, none⟩ = some (.int .i64 (wt : Nat)) := by simp [World.cell?, B2.out, hcell]
  clear hA2 hS2 N2 A1 B1 d0 d1
  go_wp2_with fail
  refine (N3.out).mono ?_
  rintro e w3 ⟨rfl, hA3⟩
  have A3 := hide (A2.out.add (fun _ _ => hA3))
  have B3 := hide (hA3.kp.loc B2.out (by decide) (by omega))
  obtain ⟨v3, hS3⟩ := A3.out.sav
  have hz3 := (A3.out.kp).size
  simp at hz3
  have N4 := hide (addNumber_any 3 W0.heap.size sb v3 _ ev 3 w3 (by omega) (by omega) rfl hS3 (by simp only [List.length_append, eT_len, nb_len]; omega) (by omega) h2)
  have f3 : w3.cell? ⟨w.heap.size, 3, none⟩ = some (.int .i64 (ev : Nat)) := by simp [World.cell?, B3.out, hcell]
  clear hA3 hS3 N3 A2 B2 f2
  go_wp2_with fail
  refine (N4.out).mono ?_
  rintro e w4 ⟨rfl, hA4⟩
  have A4 := hide (A3.out.add (fun _ _ => hA4))
  have B4 := hide (hA4.kp.loc B3.out (by decide) (by omega))
  obtain ⟨v4, hS4⟩ := A4.out.sav
  have hz4 := (A4.out.kp).size
  simp at hz4
  have N5 := hide (addNumber_any 3 W0.heap.size sb v4 _ rp 3 w4 (by omega) (by omega) rfl hS4 (by simp only [List.length_append, eT_len, nb_len]; omega) (by omega) h3)
  have f4 : w4.cell? ⟨w.heap.size, 4, none⟩ = some (.int .i64 (rp : Nat)) := by simp [World.cell?, B4.out, hcell]
  clear hA4 hS4 N4 A3 B3 f3
  go_wp2_with fail
  refine (N5.out).mono ?_
  rintro e w5 ⟨rfl, hA5⟩
  have A5 := hide (A4.out.add (fun _ _ => hA5))
  clear hA5 N5
  go_wp2
  go_end0
  refine ⟨rfl, ?_⟩
  obtain ⟨v5, k1, k2, k3⟩ := A5.out
  have e : eH ⟨rc, bl, wt, ev, rp⟩ = eT rc ++ eTs bl ++ nb 3 wt ++ nb 3 ev ++ nb 3 rp := by simp [eH, List.append_assoc]
  rw [← e] at k1 k3
  exact ⟨v5, k1, K0.out.trans k2, k3⟩
end Go.Proofs.Ythlemieldfbbfab
