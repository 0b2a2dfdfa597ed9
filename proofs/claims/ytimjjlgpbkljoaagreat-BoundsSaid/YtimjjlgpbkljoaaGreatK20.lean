import Derived.Test.YtimjjlgpbkljoaaGreatK19
import Derived.Test.YtimjjlgpbkljoaaGreatW19
namespace Go.Proofs.YtimjjlgpbkljoaaGreat
open Go.RowKit
set_option linter.unusedVariables false
set_option linter.unusedSimpArgs false
set_option linter.unnecessarySimpa false

theorem sc_flat (L : List (List UInt8)) : (sc L).flatten = sv L := by
  induction L with
  | nil => rfl
  | cons x r ih => simp only [sc, sv, List.map_cons, List.flatten_cons] at ih ⊢; rw [ih]; rfl
theorem SL.rw0 {base : Nat} {w : World} {v : Value} {L : List (List UInt8)} (h : SL base w v L) : RW [] 1 w v (sc L) := by
  have ow : OW 9 1 base w v (sc L) := by
    refine ⟨?_, fun x hx => ?_⟩
    · rw [sc_flat, sc_len]; exact h
    · obtain ⟨y, _, rfl⟩ := List.mem_map.1 hx; rfl
  exact ow.rw (by simp)
theorem ML.rw0 {base : Nat} {w : World} {v : Value} {M : List CM} (h : ML base w v M) : RW [] 3 w v (mtc M) := by
  have ow : OW 66 3 base w v (mtc M) := by
    refine ⟨?_, fun x hx => ?_⟩
    · have e : (mtc M).flatten = mv M := by unfold mtc mv; rw [List.flatMap_def]
      rw [e, show (mtc M).length = M.length by simp [mtc]]; exact h
    · obtain ⟨y, _, rfl⟩ := List.mem_map.1 hx; rfl
  exact ow.rw (by simp)
/-- What the reader made, as what is read. -/
theorem rts_of {base : Nat} {w : World} {v : Value} {R : List RV} {C : List CR} (h : RL base w v R) (hp : Reps base w R C) : RTS [] w v C := by
  refine ⟨R.map RV.cells, ?_, by simpa using hp.1, fun n cs c h1 h2 => ?_⟩
  · have ow : OW 54 9 base w v (lst (R.map RV.cells)) := by
      refine ⟨?_, fun x hx => ?_⟩
      · have e : (lst (R.map RV.cells)).flatten = rvl R := by unfold lst rvl rcells; rw [List.map_map, List.flatMap_def]; rfl
        rw [e, lst_len, List.length_map]; exact h
      · unfold lst at hx
        rw [List.map_map] at hx
        obtain ⟨y, _, rfl⟩ := List.mem_map.1 hx; rfl
    exact ow.rw (by simp)
  · rw [List.getElem?_map, Option.map_eq_some_iff] at h1
    obtain ⟨rv, h3, rfl⟩ := h1
    have hr := hp.2 n rv c h3 h2
    refine ⟨rv.vby, rv.vif, ?_, hr.by_.rw0, hr.ifs.rw0⟩
    unfold RV.cells rcl
    rw [hr.d, hr.rc, hr.tb, hr.wt, hr.ev, hr.rp, hr.co]
end Go.Proofs.YtimjjlgpbkljoaaGreat
