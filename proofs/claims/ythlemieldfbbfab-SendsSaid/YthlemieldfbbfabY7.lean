import Derived.Test.YthlemieldfbbfabY6
import Derived.Test.YthlemieldfbbfabL3
namespace Go.Proofs.Ythlemieldfbbfab
open Go.RowKit
set_option linter.unusedVariables false
set_option linter.unusedSimpArgs false
set_option linter.unnecessarySimpa false

/-- The labels' values are short enough to speak of. -/
def LV (L : List LBL) : Prop := ∀ x ∈ L, x.1.length ≤ 1048576 ∧ x.2.length ≤ 1048576
theorem LV.val {L : List LBL} (h : LV L) (n : List UInt8) : (lblV L n).length ≤ 1048576 := by
  unfold lblV
  cases hf : L.find? fun x => x.1 == n with
  | none => simp
  | some x => exact (h x (List.mem_of_find?_eq_some hf)).2
def RouteQ (m : Mach) (L : List LBL) (w : World) (e : Ending) (w' : World) : Prop :=
  ∃ v css, Frm [] w w' ∧ ((labsOK L = false ∧ e = .returned (.tuple #[.slice none 0 0, .int .i64 8])) ∨ (labsOK L = true ∧ e = .returned (.tuple #[v, .int .i64 0]) ∧ OW 75 5 w.heap.size w' v (lst css) ∧ RowI hitT [] w' css (hitsM m (runM m (lblV L) m.code.length 0))))

set_option maxRecDepth 100000 in
set_option maxHeartbeats 4000000 in
theorem aRoute_any (w : World) (pb : Nat) (V : V6) (m : Mach) (h : PR [] w pb V m) (ok : MOK m) (a : Option Addr) (k cap : Nat) (L : List LBL) (hL : LR w (.slice a k cap) L) (hv : LV L) (hcap : L.length ≤ cap) :
    Calls Try.prog 14 #[.pointer (some ⟨pb, 0, none⟩), .slice a k cap] w (RouteQ m L w) := by
  have N1 := hide (areLabels_any (.slice a k cap) L w hL hv (fun a' n' c' e => by cases e; exact hcap))
  have H := hide h
  have OK := hide ok
  have HL := hide hL
  have HV := hide hv
  clear h ok hL hv hcap
  go_enter Try.func14, Try.ntmps14
  go_wp2_with fail
  refine (N1.out).mono ?_
  clear N1
  rintro e w1 ⟨rfl, hF1⟩
  have F1 := hide hF1
  have N2 := hide (pRun_any w1 pb V m (H.out.frm hF1 (by simp)) OK.out (.slice a k cap) L (HL.out.frm hF1 (by simp)) HV.out.val)
  have hz1 := hF1.size
  clear hF1
  cases hl : labsOK L
  · have HLB := hide hl
    clear hl
    go_wp2
    go_ret2
    exact ⟨.slice none 0 0, [], F1.out, .inl ⟨HLB.out, rfl⟩⟩
  · have HLB := hide hl
    clear hl
    go_wp2_with fail
    refine (N2.out).mono ?_
    clear N2
    rintro e w2 ⟨v, css, rfl, hF2, hO, hI⟩
    obtain ⟨ao, co, he⟩ := hO.shape
    rw [lst_len] at he
    subst he
    have F2 := hide (F1.out.trans hF2)
    have O := hide hO
    have I := hide hI
    clear hF2 hO hI
    go_wp2
    go_ret2
    exact ⟨_, css, F2.out, .inr ⟨HLB.out, rfl, ⟨⟨O.out.1.1, O.out.1.2.imp id (fun ⟨g, c, cu, h1, h2, h3⟩ => ⟨g, c, cu, h1, by omega, h3⟩)⟩, O.out.2⟩, I.out⟩⟩
end Go.Proofs.Ythlemieldfbbfab
