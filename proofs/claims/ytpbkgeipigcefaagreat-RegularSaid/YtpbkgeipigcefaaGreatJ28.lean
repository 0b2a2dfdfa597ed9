import Derived.Test.YtpbkgeipigcefaaGreatJ27
import Derived.Test.YtpbkgeipigcefaaGreatJ22
set_option linter.unusedVariables false
set_option linter.unusedSimpArgs false
set_option linter.unnecessarySimpa false
namespace Go.Proofs.YtpbkgeipigcefaaGreat
open Go.RowKit

def fstE (e : RX) : List Nat := fstK (setsOf e) 256
def clsE (e : RX) : List Nat := clsL (setsOf e) 256
def autE (e : RX) : Bool × List (List Nat) × List Nat := autR (nrm e) (fstE e)
def reC (t : List UInt8) : Nat :=
  match pWhole t with
  | none => 5
  | some e => if 40 < plcG e then 6 else if (autE e).1 then 0 else 7
def CompP (w : World) (t : List UInt8) (en : Ending) (w' : World) : Prop :=
  Frm [] w w' ∧ ∃ cs : Array Value, cs.size = 259 ∧ cs.all (·.oneCell') = true ∧ en = .returned (.tuple #[.agg cs, .int .i64 (reC t)]) ∧ (reC t ≠ 0 → cs = Tryz.zeroCells133) ∧
    (∀ e, pWhole t = some e → reC t = 0 → ∃ va vn, cs = (Value.int .i64 (fstE e).length :: (nv .u8 (clsE e) ++ [va, vn])).toArray ∧ QL w.heap.size w' va ((autE e).2.1.map fun u => nul (dW (nrm e) u)) ∧ IL w.heap.size w' vn (autE e).2.2)

theorem frm_of_fp {b : Nat} {w w' : World} (h : FP w.heap.size b w w') : Frm [b] w w' := ⟨h.os, h.tape, h.output, h.size, fun k hk hS => h.block k hk (by simpa using hS) (.inl hk)⟩
theorem clsL_len (S : List Nat) (n : Nat) : (clsL S n).length = n := by simp [clsL]

theorem pWhole_sets {t : List UInt8} {x : RX} (h : pWhole t = some x) : (setsOf x).length ≤ t.length := by
  unfold pWhole at h
  split at h
  · rename_i y hy
    simp at h; subst h
    have := (pAlt_sets hy).1
    simp [setsL] at this; exact this
  · simp at h
theorem AutP.ok {w w' : World} {e : RX} {en : Ending} (h : AutP w e (fstE e) (clsE e) en w') (hk : (autE e).1 = true) : Frm [] w w' ∧ ∃ va vn, en = .returned (.tuple #[.agg (.int .i64 (fstE e).length :: (nv .u8 (clsE e) ++ [va, vn])).toArray, .bool true]) ∧ QL w.heap.size w' va ((autE e).2.1.map fun u => nul (dW (nrm e) u)) ∧ IL w.heap.size w' vn (autE e).2.2 := by
  unfold autE at hk ⊢; exact ⟨h.1, h.2.2 hk⟩
theorem AutP.no {w w' : World} {e : RX} {en : Ending} (h : AutP w e (fstE e) (clsE e) en w') (hk : (autE e).1 = false) : Frm [] w w' ∧ en = .returned (.tuple #[.agg Tryz.zeroCells133, .bool false]) := by
  unfold autE at hk; exact ⟨h.1, h.2.1 hk⟩

set_option maxRecDepth 100000 in
set_option maxHeartbeats 4000000 in
theorem xCompile_any (t : List UInt8) (w : World) (ht : t.length ≤ 40) : Calls Tryz.prog 85 #[.string (bs t)] w (CompP w t) := by
  go_enter Tryz.func85, Tryz.ntmps85
  go_wp2_with fail
  have F1 : Frm [] w ((w.alloc (Obj.cells Tryz.zeroCells133 133)).alloc (Obj.cells #[.string (bs t), .int .i64 0, .slice none 0 0] 164)) := ((Frm.refl _ _).alloc _).alloc _
  have hz1 : ((w.alloc (Obj.cells Tryz.zeroCells133 133)).alloc (Obj.cells #[.string (bs t), .int .i64 0, .slice none 0 0] 164)).heap.size = w.heap.size + 2 := by simp
  have hR1 : ((w.alloc (Obj.cells Tryz.zeroCells133 133)).alloc (Obj.cells #[.string (bs t), .int .i64 0, .slice none 0 0] 164)).heap[w.heap.size]? = some (.cells Tryz.zeroCells133 133 (0, 0)) := by
    rw [((Frm.refl [] _).alloc _).block w.heap.size (by simp) (by simp)]
    exact heap1 _ _
  have hP1 : PA ((w.alloc (Obj.cells Tryz.zeroCells133 133)).alloc (Obj.cells #[.string (bs t), .int .i64 0, .slice none 0 0] 164)) (w.heap.size + 1) t t (.slice none 0 0) := by
    refine ⟨0, ⟨?_, by omega, by omega⟩, rfl⟩
    have := heap1 (w.alloc (Obj.cells Tryz.zeroCells133 133)) (Obj.cells #[.string (bs t), .int .i64 0, .slice none 0 0] 164)
    have hw1 : (w.alloc (Obj.cells Tryz.zeroCells133 133)).heap.size = w.heap.size + 1 := by simp
    rw [hw1] at this; exact this
  generalize (w.alloc (Obj.cells Tryz.zeroCells133 133)).alloc (Obj.cells #[.string (bs t), .int .i64 0, .slice none 0 0] 164) = w1 at F1 hz1 hR1 hP1 ⊢
  have HF1 := hide F1
  have HR1 := hide hR1
  have PR := hide (parse_any w1.heap.size (w.heap.size + 1) t w1 hP1 (by omega) (Nat.le_refl _) (by omega))
  clear F1 hR1 hP1
  refine (PR.out).mono ?_
  intro en w2 hwp
  cases hpw : pWhole t with
  | none =>
    rw [hpw] at hwp
    obtain ⟨rfl, hfp⟩ := hwp
    have hrc : Hid (reC t = 5) := by show _ = _; simp [reC, hpw]
    have F2 := frm_of_fp hfp
    have hrb : w2.heap[w.heap.size]? = some (.cells Tryz.zeroCells133 133 (0, 0)) := (F2.block w.heap.size (by omega) (by simp)).trans HR1.out
    have hst := store_row hrb rfl autoAll
    have HRB := hide (setRow_at (cs := Tryz.zeroCells133) hrb)
    have FF : Hid (Frm [] w (w2.setRow w.heap.size Tryz.zeroCells133)) := (HF1.out.above F2 (by intro x hx; simp at hx; omega)).above (Frm.setRow _ _ _) (by simp)
    have HPW := hide hpw
    obtain ⟨qp, hqp⟩ : ∃ q : Option Addr, q = none := ⟨_, rfl⟩
    clear hrb hfp F2 hpw PR
    go_wp2
    (try simp only [Exit.inBlock, Exit.then])
    refine bodyPost_ret (results_cell_tmpA rfl _ _ w.heap.size _ rfl (autoLoad HRB.out autoZero9)) rfl ?_
    rw [show CompP w t = CompP w t from rfl]
    refine ⟨FF.out, _, autoZero9, autoAll, by rw [hrc.out]; rfl, fun _ => rfl, fun e he => ?_⟩
    rw [HPW.out] at he; simp at he
  | some e =>
    rw [hpw] at hwp
    obtain ⟨eb, vs', rfl, hx, hpa, hbl, hfp⟩ := hwp
    obtain ⟨hok, htl⟩ := pWhole_good hpw
    have hdg := pWhole_dig hpw
    have hnd := pWhole_nds hpw
    have hse := pWhole_sets hpw
    have F2 := frm_of_fp hfp
    have hrb : w2.heap[w.heap.size]? = some (.cells Tryz.zeroCells133 133 (0, 0)) := (F2.block w.heap.size (by omega) (by simp)).trans HR1.out
    have FF2 : Hid (Frm [] w w2) := HF1.out.above F2 (by intro x hx; simp at hx; omega)
    have PL := hide (places_any e _ w2 eb hx hdg (by omega))
    have HX := hide hx
    have HBL := hide hbl
    obtain ⟨ip, hps, _⟩ := hpa
    have hc2 := hps.c2
    have HRB := hide hrb
    have HPW := hide hpw
    have z2 := F2.size
    obtain ⟨avs, cvs, rfl⟩ := own_shape hbl
    clear hx hbl hps hfp F2 hpw PR hrb
    go_wp2_with fail
    refine (PL.out).mono ?_
    rintro en w2' ⟨rfl, rfl⟩
    by_cases hpl : 40 < plcG e
    · have hrc : Hid (reC t = 6) := by show _ = _; simp [reC, HPW.out, hpl]
      have hst := store_row HRB.out rfl autoAll
      have HRB2 := hide (setRow_at (cs := Tryz.zeroCells133) HRB.out)
      have FF : Hid (Frm [] w (w2.setRow w.heap.size Tryz.zeroCells133)) := FF2.out.above (Frm.setRow _ _ _) (by simp)
      clear PL
      generalize plcG e = pn at *
      go_wp2
      (try simp only [Exit.inBlock, Exit.then])
      refine bodyPost_ret (results_cell_tmpA rfl _ _ w.heap.size _ rfl (autoLoad HRB2.out autoZero9)) rfl ?_
      refine ⟨FF.out, _, autoZero9, autoAll, by rw [hrc.out]; rfl, fun _ => rfl, fun e he h0 => ?_⟩
      rw [hrc.out] at h0; simp at h0
    · have AU := hide (automatonOf_any _ w1.heap.size w2 eb e (.slice avs (setsOf e).length cvs) (setsOf e) (fstE e) (clsE e) HX.out HBL.out (by omega) rfl rfl hok hdg (by omega) (by omega) (by omega))
      have hpl2 : plcG e ≤ 40 := by omega
      clear PL
      have HRC : Hid (reC t = if (autE e).1 then 0 else 7) := by show _ = _; simp [reC, HPW.out, hpl]
      generalize plcG e = pn at *
      go_wp2_with fail
      refine (AU.out).mono ?_
      intro en w3 hau
      cases hk : (autE e).1 with
      | false =>
        obtain ⟨hf3, rfl⟩ := hau.no hk
        have hrc : Hid (reC t = 7) := by show _ = _; rw [HRC.out, hk]; rfl
        have z3 := hf3.size
        have hsn := run_storeCells_new (P := Tryz.prog) w3 133 Tryz.zeroCells133 Tryz.zeroCells133 (by rw [autoZero9]; exact autoInfoX) rfl autoAll
        have hrb3 : (w3.alloc (Obj.cells Tryz.zeroCells133 133)).heap[w.heap.size]? = some (.cells Tryz.zeroCells133 133 (0, 0)) := by
          rw [((Frm.refl [] w3).alloc _).block w.heap.size (by omega) (by simp), hf3.block w.heap.size (by omega) (by simp)]
          exact HRB.out
        have hst := store_row hrb3 rfl autoAll
        have HRB2 := hide (setRow_at (cs := Tryz.zeroCells133) hrb3)
        have FF : Hid (Frm [] w ((w3.alloc (Obj.cells Tryz.zeroCells133 133)).setRow w.heap.size Tryz.zeroCells133)) := ((FF2.out.above hf3 (by simp)).alloc _).above (Frm.setRow _ _ _) (by simp)
        clear AU hau hk hrb3 hc2
        go_wp2
        (try simp only [Exit.inBlock, Exit.then])
        refine bodyPost_ret (results_cell_tmpA rfl _ _ w.heap.size _ rfl (autoLoad HRB2.out autoZero9)) rfl ?_
        refine ⟨FF.out, _, autoZero9, autoAll, by rw [hrc.out]; rfl, fun _ => rfl, fun e he h0 => ?_⟩
        rw [hrc.out] at h0; simp at h0
      | true =>
        obtain ⟨hf3, va, vn, rfl, hql, hnl⟩ := hau.ok hk
        obtain ⟨aa, ca, rfl⟩ := own_shape hql
        obtain ⟨an, cn, rfl⟩ := own_shape hnl
        have hrc : Hid (reC t = 0) := by show _ = _; rw [HRC.out, hk]; rfl
        have z3 := hf3.size
        have hsz : (Value.int .i64 (fstE e).length :: (nv .u8 (clsE e) ++ [.slice aa ((autE e).2.1.map fun u => nul (dW (nrm e) u)).length ca, .slice an (autE e).2.2.length cn])).toArray.size = 259 := by
          have : (clsE e).length = 256 := clsL_len _ _
          simp [nv, this]
        have hall : (Value.int .i64 (fstE e).length :: (nv .u8 (clsE e) ++ [.slice aa ((autE e).2.1.map fun u => nul (dW (nrm e) u)).length ca, .slice an (autE e).2.2.length cn])).toArray.all (·.oneCell') = true := by
          refine Array.all_eq_true_iff_forall_mem.2 fun v hv => ?_
          simp only [List.mem_toArray, List.mem_cons, List.mem_append, nv, List.mem_map, List.not_mem_nil, or_false] at hv
          rcases hv with rfl | ⟨a, _, rfl⟩ | rfl | rfl <;> rfl
        have QLf : Hid (∀ o cs, QL w.heap.size ((w3.alloc o).setRow w.heap.size cs) (.slice aa ((autE e).2.1.map fun u => nul (dW (nrm e) u)).length ca) ((autE e).2.1.map fun u => nul (dW (nrm e) u))) := fun o cs => own_mono (row_frm (own_frm hql ((Frm.refl [] w3).alloc o) (by simp)) (Frm.setRow _ _ cs) (fun k hk => by have := (hql.lt k hk).1; simp; omega)) (by omega)
        have NLf : Hid (∀ o cs, IL w.heap.size ((w3.alloc o).setRow w.heap.size cs) (.slice an (autE e).2.2.length cn) (autE e).2.2) := fun o cs => own_mono (row_frm (own_frm hnl ((Frm.refl [] w3).alloc o) (by simp)) (Frm.setRow _ _ cs) (fun k hk => by have := (hnl.lt k hk).1; simp; omega)) (by omega)
        have FF : Hid (∀ o cs, Frm [] w ((w3.alloc o).setRow w.heap.size cs)) := fun o cs => ((FF2.out.above hf3 (by simp)).alloc _).above (Frm.setRow _ _ _) (by simp)
        have HR3 : Hid (∀ o, (w3.alloc o).heap[w.heap.size]? = some (.cells Tryz.zeroCells133 133 (0, 0))) := fun o => by
          rw [((Frm.refl [] w3).alloc _).block w.heap.size (by omega) (by simp), hf3.block w.heap.size (by omega) (by simp)]
          exact HRB.out
        generalize hcs : (Value.int .i64 (fstE e).length :: (nv .u8 (clsE e) ++ [.slice aa ((autE e).2.1.map fun u => nul (dW (nrm e) u)).length ca, .slice an (autE e).2.2.length cn])).toArray = cs at hsz hall ⊢
        have HCS := hide hcs
        have HSZ := hide hsz
        have HALL := hide hall
        have hsn := run_storeCells_new (P := Tryz.prog) w3 133 Tryz.zeroCells133 cs (by rw [hsz]; exact autoInfoX) (by rw [hsz, autoZero9]) hall
        have HRB2 := hide (setRow_at (cs := cs) (HR3.out (Obj.cells cs 133)))
        have HST := hide (store_row (cs := cs) (HR3.out (Obj.cells cs 133)) (by rw [hsz, autoZero9]) hall)
        clear AU hau hk hc2 hcs hall hql hnl
        go_wp2_with fail
        refine wp_autoLoad (.tmp 6) rfl w3.heap.size rfl cs (autoLoad (heap1 w3 (Obj.cells cs 133)) HSZ.out) ?_
        have hst := HST.out
        go_wp2
        (try simp only [Exit.inBlock, Exit.then])
        refine bodyPost_ret (results_cell_tmpA rfl _ _ w.heap.size _ rfl (autoLoad HRB2.out HSZ.out)) rfl ?_
        refine ⟨FF.out _ _, cs, HSZ.out, HALL.out, by rw [hrc.out]; rfl, fun h => absurd hrc.out h, fun e2 he h0 => ?_⟩
        have : e2 = e := by rw [HPW.out] at he; simpa using he.symm
        subst this
        exact ⟨_, _, HCS.out.symm, QLf.out _ _, NLf.out _ _⟩
end Go.Proofs.YtpbkgeipigcefaaGreat

namespace Go.Proofs.YtpbkgeipigcefaaGreat
set_option linter.unusedVariables false
set_option linter.unusedSimpArgs false

mutual
/-- No set within tells c from d. -/
def Alk (c d : Nat) : NF → Prop
  | .zero => True
  | .one => True
  | .set s => s.testBit c = s.testBit d
  | .pair a b => Alk c d a ∧ Alk c d b
  | .sum l => AlkL c d l
  | .star a => Alk c d a
def AlkL (c d : Nat) : List NF → Prop
  | [] => True
  | x :: r => Alk c d x ∧ AlkL c d r
end
theorem alkL_mem {c d : Nat} : ∀ {l : List NF}, AlkL c d l ↔ ∀ x ∈ l, Alk c d x
  | [] => by simp [AlkL]
  | x :: r => by simp only [AlkL, List.mem_cons, forall_eq_or_imp, alkL_mem]
theorem alk_then {c d : Nat} (a : NF) : ∀ b, Alk c d a → Alk c d b → Alk c d (thenN a b) := by
  refine NF.ind (P := fun a => ∀ b, Alk c d a → Alk c d b → Alk c d (thenN a b)) ?_ a
  intro a ih b ha hb
  cases a with
  | zero => trivial
  | one => exact hb
  | pair x y =>
    cases b <;> first | trivial | exact ha | exact ih x (by simp [NF.size]; omega) _ ha.1 (ih y (by simp [NF.size]; omega) _ ha.2 hb)
  | set s => cases b <;> first | trivial | exact ha | exact ⟨ha, hb⟩
  | sum l => cases b <;> first | trivial | exact ha | exact ⟨ha, hb⟩
  | star x => cases b <;> first | trivial | exact ha | exact ⟨ha, hb⟩
theorem alk_parts {c d : Nat} {x p : NF} (h : Alk c d x) (hp : p ∈ parts x) : Alk c d p := by
  cases x with
  | zero => simp [parts] at hp
  | sum l => exact alkL_mem.1 h p hp
  | one => simp [parts] at hp; subst hp; exact h
  | set s => simp [parts] at hp; subst hp; exact h
  | pair a b => simp [parts] at hp; subst hp; exact h
  | star a => simp [parts] at hp; subst hp; exact h
theorem alk_mkS {c d : Nat} {l : List NF} (h : ∀ p ∈ l, Alk c d p) : Alk c d (mkS l) := by
  match l, h with
  | [], _ => trivial
  | [x], h => exact h x (by simp)
  | x :: y :: r, h => exact alkL_mem.2 h
theorem alk_or {c d : Nat} {ls : List NF} (h : ∀ x ∈ ls, Alk c d x) : Alk c d (orL ls) := by
  have hf : ∀ p ∈ ls.flatMap parts, Alk c d p := fun p hp => by
    obtain ⟨x, hx, hp⟩ := List.mem_flatMap.1 hp
    exact alk_parts (h x hx) hp
  refine alk_mkS fun p hp => ?_
  rcases core_iff.1 (srt_mem hp) with ⟨e, _⟩ | ⟨_, rfl⟩
  · exact hf p e
  · show (joinB _).testBit c = (joinB _).testBit d
    rw [joinB_bit, joinB_bit]
    generalize ls.flatMap parts = F at hf
    induction F with
    | nil => rfl
    | cons a r ih =>
      simp only [List.any_cons]
      rw [ih fun p hp => hf p (by simp [hp])]
      congr 1
      have := hf a (by simp)
      cases a <;> simp [bits]
      exact this
theorem alk_star {c d : Nat} {a : NF} (h : Alk c d a) : Alk c d (starN a) := by cases a <;> first | trivial | exact h
theorem alk_left {c d : Nat} (b : Nat) (x : NF) : Alk c d x → Alk c d (left b x) := by
  refine NF.ind (P := fun x => Alk c d x → Alk c d (left b x)) ?_ x
  intro x ih h
  cases x with
  | zero => trivial
  | one => trivial
  | set s => simp only [left]; split <;> trivial
  | pair a y =>
    have h1 := ih a (by simp [NF.size]; omega) h.1
    simp only [left]
    split
    · exact alk_or (by
        intro z hz; simp at hz; rcases hz with rfl | rfl
        · exact alk_then _ _ h1 h.2
        · exact ih y (by simp [NF.size]; omega) h.2)
    · exact alk_then _ _ h1 h.2
  | sum l =>
    simp only [left, leftL_map]
    refine alk_or ?_
    intro z hz
    obtain ⟨p, hp, rfl⟩ := List.mem_map.1 hz
    exact ih p (by have := size_mem hp; simp [NF.size]; omega) (alkL_mem.1 h p hp)
  | star a => exact alk_then _ _ (ih a (by simp [NF.size]) h) h
theorem left_alk {c d : Nat} (x : NF) : Alk c d x → left c x = left d x := by
  refine NF.ind (P := fun x => Alk c d x → left c x = left d x) ?_ x
  intro x ih h
  cases x with
  | zero => rfl
  | one => rfl
  | set s => simp only [left]; rw [show s.testBit c = s.testBit d from h]
  | pair a y =>
    simp only [left]
    rw [ih a (by simp [NF.size]; omega) h.1, ih y (by simp [NF.size]; omega) h.2]
  | sum l =>
    simp only [left, leftL_map]
    congr 1
    apply List.map_congr_left
    intro p hp
    exact ih p (by have := size_mem hp; simp [NF.size]; omega) (alkL_mem.1 h p hp)
  | star a => simp only [left]; rw [ih a (by simp [NF.size]) h]
theorem alk_dW {c d : Nat} {X : NF} (h : Alk c d X) (w : List Nat) : Alk c d (dW X w) := by
  unfold dW
  induction w generalizing X with
  | nil => exact h
  | cons b w ih => exact ih (alk_left b X h)
theorem alk_pre {c d : Nat} {a : NF} (ha : Alk c d a) : ∀ k t, Alk c d t → Alk c d (preN a k t)
  | 0, t, h => h
  | k + 1, t, h => alk_pre ha k _ (alk_then a t ha h)
theorem alk_opt {c d : Nat} {a : NF} (ha : Alk c d a) : ∀ k t, Alk c d t → Alk c d (optN a k t)
  | 0, t, h => h
  | k + 1, t, h => alk_opt ha k _ (alk_or (by
      intro z hz; simp at hz; rcases hz with rfl | rfl
      · exact alk_then a t ha h
      · trivial))
mutual
theorem alk_nrm {c d : Nat} : ∀ {e : RX}, (∀ s ∈ setsOf e, s.testBit c = s.testBit d) → Alk c d (nrm e)
  | .one s, h => by
    simp only [nrm]; split
    · trivial
    · exact h s (by simp [setsOf])
  | .seq l, h => alk_nrmS (l := l) fun s hs => h s (by simpa [setsOf] using hs)
  | .alt l, h => alk_or (alk_nrmA (l := l) fun s hs => h s (by simpa [setsOf] using hs))
  | .rep x lo hi, h => by
    have hx : Alk c d (nrm x) := alk_nrm fun s hs => h s (by simpa [setsOf] using hs)
    cases hi with
    | none => exact alk_pre hx lo _ (alk_star hx)
    | some n => exact alk_pre hx lo _ (alk_opt hx _ _ trivial)
theorem alk_nrmS {c d : Nat} : ∀ {l : List RX}, (∀ s ∈ setsL l, s.testBit c = s.testBit d) → Alk c d (nrmS l)
  | [], _ => trivial
  | x :: r, h => alk_then _ _ (alk_nrm fun s hs => h s (by simp [setsL, hs])) (alk_nrmS fun s hs => h s (by simp [setsL, hs]))
theorem alk_nrmA {c d : Nat} : ∀ {l : List RX}, (∀ s ∈ setsL l, s.testBit c = s.testBit d) → ∀ x ∈ nrmA l, Alk c d x
  | [], _, x, hx => by simp [nrmA] at hx
  | y :: r, h, x, hx => by
    simp only [nrmA, List.mem_cons] at hx
    rcases hx with rfl | hx
    · exact alk_nrm fun s hs => h s (by simp [setsL, hs])
    · exact alk_nrmA (l := r) (fun s hs => h s (by simp [setsL, hs])) x hx
end
end Go.Proofs.YtpbkgeipigcefaaGreat

namespace Go.Proofs.YtpbkgeipigcefaaGreat
set_option linter.unusedVariables false
set_option linter.unusedSimpArgs false

/-- So many texts of P, one behind the other. -/
def Rpt (P : List Nat → Prop) : Nat → List Nat → Prop
  | 0, w => w = []
  | k + 1, w => ∃ u v, w = u ++ v ∧ P u ∧ Rpt P k v
def Cat (P Q : List Nat → Prop) (w : List Nat) : Prop := ∃ u v, w = u ++ v ∧ P u ∧ Q v
def Str (P : List Nat → Prop) (w : List Nat) : Prop := ∃ k, Rpt P k w
mutual
def Lg : NF → List Nat → Prop
  | .zero, _ => False
  | .one, w => w = []
  | .set s, w => ∃ c, w = [c] ∧ s.testBit c = true
  | .pair a b, w => ∃ u v, w = u ++ v ∧ Lg a u ∧ Lg b v
  | .sum l, w => LgL l w
  | .star a, w => ∃ k, Rpt (Lg a) k w
def LgL : List NF → List Nat → Prop
  | [], _ => False
  | x :: r, w => Lg x w ∨ LgL r w
end
theorem lgL_mem {w : List Nat} : ∀ {l : List NF}, LgL l w ↔ ∃ x ∈ l, Lg x w
  | [] => by simp [LgL]
  | x :: r => by simp [LgL, lgL_mem (l := r)]
theorem cat_assoc {P Q R : List Nat → Prop} {w : List Nat} : Cat (Cat P Q) R w ↔ Cat P (Cat Q R) w := by
  constructor
  · rintro ⟨_, v, rfl, ⟨a, b, rfl, h1, h2⟩, h3⟩
    exact ⟨a, b ++ v, by simp, h1, b, v, rfl, h2, h3⟩
  · rintro ⟨a, _, rfl, h1, b, v, rfl, h2, h3⟩
    exact ⟨a ++ b, v, by simp, ⟨a, b, rfl, h1, h2⟩, h3⟩
theorem cat_congr {P Q P' Q' : List Nat → Prop} {w : List Nat} (h : ∀ u, P u ↔ P' u) (k : ∀ u, Q u ↔ Q' u) : Cat P Q w ↔ Cat P' Q' w := by
  unfold Cat; simp only [h, k]
theorem rpt_congr {P P' : List Nat → Prop} (h : ∀ u, P u ↔ P' u) : ∀ k w, Rpt P k w ↔ Rpt P' k w
  | 0, w => Iff.rfl
  | k + 1, w => by simp only [Rpt, h, rpt_congr h k]
theorem rpt_add {P : List Nat → Prop} : ∀ {j k : Nat} {u v : List Nat}, Rpt P j u → Rpt P k v → Rpt P (j + k) (u ++ v)
  | 0, k, u, v, h, g => by rw [show u = [] from h]; simpa using g
  | j + 1, k, u, v, h, g => by
    obtain ⟨a, b, rfl, h1, h2⟩ := h
    rw [show j + 1 + k = (j + k) + 1 by omega]
    exact ⟨a, b ++ v, by simp, h1, rpt_add h2 g⟩
theorem rpt_split {P : List Nat → Prop} : ∀ {j k : Nat} {w : List Nat}, Rpt P (j + k) w → ∃ u v, w = u ++ v ∧ Rpt P j u ∧ Rpt P k v
  | 0, k, w, h => ⟨[], w, rfl, rfl, by simpa using h⟩
  | j + 1, k, w, h => by
    rw [show j + 1 + k = (j + k) + 1 by omega] at h
    obtain ⟨a, b, rfl, h1, h2⟩ := h
    obtain ⟨u, v, rfl, h3, h4⟩ := rpt_split h2
    exact ⟨a ++ u, v, by simp, ⟨a, u, rfl, h1, h3⟩, h4⟩
theorem rpt_one {P : List Nat → Prop} {w : List Nat} : Rpt P 1 w ↔ P w := by
  constructor
  · rintro ⟨u, v, rfl, h, rfl⟩; simpa using h
  · intro h; exact ⟨w, [], by simp, h, rfl⟩

theorem then_lg (a : NF) : ∀ (b : NF) (w : List Nat), Lg (thenN a b) w ↔ Cat (Lg a) (Lg b) w := by
  refine NF.ind (P := fun a => ∀ (b : NF) (w : List Nat), Lg (thenN a b) w ↔ Cat (Lg a) (Lg b) w) ?_ a
  intro a ih b w
  have hz : ∀ a : NF, Lg (thenN a .zero) w ↔ Cat (Lg a) (Lg .zero) w := fun a => by
    rw [thenN_zero]; exact ⟨fun h => h.elim, fun ⟨_, _, _, _, h⟩ => h.elim⟩
  have ho : ∀ a : NF, Lg (thenN a .one) w ↔ Cat (Lg a) (Lg .one) w := fun a => by
    rw [thenN_one]
    constructor
    · intro h; exact ⟨w, [], by simp, h, rfl⟩
    · rintro ⟨u, v, rfl, h, hv⟩; rw [show v = [] from hv]; simpa using h
  by_cases hb : tailN b = true
  · have hd : ∀ a : NF, headN a = true → (Lg (thenN a b) w ↔ Cat (Lg a) (Lg b) w) := fun a ha => by
      rw [thenN_head ha hb]; exact Iff.rfl
    cases a with
    | zero => exact ⟨fun h => h.elim, fun ⟨_, _, _, h, _⟩ => h.elim⟩
    | one =>
      constructor
      · intro h; exact ⟨[], w, rfl, rfl, h⟩
      · rintro ⟨u, v, rfl, hu, h⟩; rw [show u = [] from hu]; exact h
    | set s => exact hd _ rfl
    | sum l => exact hd _ rfl
    | star x => exact hd _ rfl
    | pair x y =>
      rw [thenN_pairs hb, ih x (by simp [NF.size]; omega)]
      rw [cat_congr (fun _ => Iff.rfl) (fun u => ih y (by simp [NF.size]; omega) b u)]
      exact cat_assoc.symm
  · rcases not_tail hb with e | e <;> subst e
    · exact hz a
    · exact ho a
theorem parts_lg {x : NF} {w : List Nat} : Lg x w ↔ ∃ p ∈ parts x, Lg p w := by
  cases x with
  | zero => simp [parts, Lg]
  | sum l => simp only [parts]; exact lgL_mem
  | _ => simp [parts]
theorem mkS_lg {l : List NF} {w : List Nat} : Lg (mkS l) w ↔ ∃ p ∈ l, Lg p w := by
  match l with
  | [] => simp [mkS, Lg]
  | [x] => simp [mkS]
  | x :: y :: r => exact lgL_mem
theorem isS_bits {p : NF} (h : isS p = true) : p = .set (bits p) := by cases p <;> simp [isS] at h; rfl
theorem or_lg {ls : List NF} (hw : ∀ x ∈ ls, wf x) {w : List Nat} : Lg (orL ls) w ↔ ∃ x ∈ ls, Lg x w := by
  have hf := flat_wf hw
  have e : (∃ x ∈ ls, Lg x w) ↔ ∃ p ∈ ls.flatMap parts, Lg p w := by
    constructor
    · rintro ⟨x, hx, h⟩
      obtain ⟨p, hp, h⟩ := parts_lg.1 h
      exact ⟨p, List.mem_flatMap.2 ⟨x, hx, hp⟩, h⟩
    · rintro ⟨p, hp, h⟩
      obtain ⟨x, hx, hp⟩ := List.mem_flatMap.1 hp
      exact ⟨x, hx, parts_lg.2 ⟨p, hp, h⟩⟩
  rw [e, orL, mkS_lg]
  generalize ls.flatMap parts = F at hf
  have hm : ∀ p, p ∈ srt (coreL F) ↔ p ∈ coreL F := fun p => srt_mem_iff (tell_wf (core_wf hf))
  constructor
  · rintro ⟨p, hp, h⟩
    rcases core_iff.1 ((hm p).1 hp) with ⟨h1, _⟩ | ⟨_, rfl⟩
    · exact ⟨p, h1, h⟩
    · obtain ⟨c, rfl, hc⟩ := h
      rw [joinB_bit, List.any_eq_true] at hc
      obtain ⟨q, hq, hb⟩ := hc
      refine ⟨q, hq, ?_⟩
      cases q <;> simp [bits] at hb
      exact ⟨c, rfl, hb⟩
  · rintro ⟨p, hp, h⟩
    cases hs : isS p with
    | false => exact ⟨p, (hm p).2 (core_iff.2 (.inl ⟨hp, hs⟩)), h⟩
    | true =>
      have hpe := isS_bits hs
      rw [hpe] at h
      obtain ⟨c, rfl, hc⟩ := h
      have hj : (joinB F).testBit c = true := by rw [joinB_bit, List.any_eq_true]; exact ⟨p, hp, hc⟩
      refine ⟨.set (joinB F), (hm _).2 (core_iff.2 (.inr ⟨?_, rfl⟩)), c, rfl, hj⟩
      intro e; rw [e] at hj; simp at hj
theorem rpt_nil {P : List Nat → Prop} (h : ∀ u, P u → u = []) : ∀ k w, Rpt P k w → w = []
  | 0, w, e => e
  | k + 1, w, ⟨u, v, e, hu, hv⟩ => by rw [e, h u hu, rpt_nil h k v hv]; rfl
theorem str_str {P : List Nat → Prop} : ∀ k w, Rpt (Str P) k w → Str P w
  | 0, w, h => ⟨0, h⟩
  | k + 1, w, ⟨u, v, e, ⟨j, hu⟩, hv⟩ => by
    obtain ⟨i, hv⟩ := str_str k v hv
    exact ⟨j + i, e ▸ rpt_add hu hv⟩
theorem star_lg (a : NF) (w : List Nat) : Lg (starN a) w ↔ Str (Lg a) w := by
  have hd : Lg (.star a) w ↔ Str (Lg a) w := Iff.rfl
  cases a with
  | zero =>
    constructor
    · intro h; exact ⟨0, h⟩
    · rintro ⟨k, h⟩; exact rpt_nil (fun u hu => hu.elim) k w h
  | one =>
    constructor
    · intro h; exact ⟨0, h⟩
    · rintro ⟨k, h⟩; exact rpt_nil (fun u hu => hu) k w h
  | star x =>
    constructor
    · intro h; exact ⟨1, rpt_one.2 h⟩
    · rintro ⟨k, h⟩; exact str_str (P := Lg x) k w h
  | set s => exact hd
  | pair x y => exact hd
  | sum l => exact hd
theorem nul_lg (x : NF) : nul x = true ↔ Lg x [] := by
  refine NF.ind (P := fun x => nul x = true ↔ Lg x []) ?_ x
  intro x ih
  cases x with
  | zero => simp [nul, Lg]
  | one => simp [nul, Lg]
  | set s => simp [nul, Lg]
  | pair a b =>
    simp only [nul, Bool.and_eq_true, ih a (by simp [NF.size]; omega), ih b (by simp [NF.size]; omega), Lg]
    constructor
    · rintro ⟨h1, h2⟩; exact ⟨[], [], rfl, h1, h2⟩
    · rintro ⟨u, v, e, h1, h2⟩
      have := List.append_eq_nil_iff.1 e.symm
      rw [this.1] at h1; rw [this.2] at h2; exact ⟨h1, h2⟩
  | sum l =>
    simp only [nul, nulL_any, List.any_eq_true, Lg, lgL_mem]
    constructor
    · rintro ⟨p, hp, h⟩; exact ⟨p, hp, (ih p (by have := size_mem hp; simp [NF.size]; omega)).1 h⟩
    · rintro ⟨p, hp, h⟩; exact ⟨p, hp, (ih p (by have := size_mem hp; simp [NF.size]; omega)).2 h⟩
  | star a => simp only [nul, Lg, true_iff]; exact ⟨0, rfl⟩
theorem rpt_cons {P : List Nat → Prop} {c : Nat} {w : List Nat} : ∀ {k : Nat}, Rpt P k (c :: w) → ∃ u v, w = u ++ v ∧ P (c :: u) ∧ Str P v
  | 0, h => by simp [Rpt] at h
  | k + 1, ⟨u, v, e, hu, hv⟩ => by
    cases u with
    | nil => rw [List.nil_append] at e; subst e; exact rpt_cons hv
    | cons d u =>
      simp only [List.cons_append, List.cons.injEq] at e
      obtain ⟨rfl, rfl⟩ := e
      exact ⟨u, v, rfl, hu, k, hv⟩
theorem left_lg (c : Nat) (x : NF) : wf x → ∀ w, Lg (left c x) w ↔ Lg x (c :: w) := by
  refine NF.ind (P := fun x => wf x → ∀ w, Lg (left c x) w ↔ Lg x (c :: w)) ?_ x
  intro x ih hw w
  cases x with
  | zero => simp [left, Lg]
  | one => simp [left, Lg]
  | set s =>
    simp only [left]
    by_cases h : s.testBit c = true
    · rw [if_pos h]
      constructor
      · intro e; rw [show w = [] from e]; exact ⟨c, rfl, h⟩
      · rintro ⟨d, e, _⟩; simp at e; exact e.2
    · rw [if_neg h]
      constructor
      · intro e; exact e.elim
      · rintro ⟨d, e, hd⟩; simp at e; rw [← e.1] at hd; exact (h hd).elim
  | pair a b =>
    have ia := ih a (by simp [NF.size]; omega) hw.1
    have ib := ih b (by simp [NF.size]; omega) hw.2.1
    have ht : Lg (thenN (left c a) b) w ↔ ∃ u v, w = u ++ v ∧ Lg a (c :: u) ∧ Lg b v := by
      rw [then_lg]; unfold Cat; simp only [ia]
    have key : Lg (.pair a b) (c :: w) ↔ (∃ u v, w = u ++ v ∧ Lg a (c :: u) ∧ Lg b v) ∨ (Lg a [] ∧ Lg b (c :: w)) := by
      constructor
      · rintro ⟨u, v, e, h1, h2⟩
        cases u with
        | nil => rw [List.nil_append] at e; subst e; exact .inr ⟨h1, h2⟩
        | cons d u =>
          simp only [List.cons_append, List.cons.injEq] at e
          obtain ⟨rfl, rfl⟩ := e
          exact .inl ⟨u, v, rfl, h1, h2⟩
      · rintro (⟨u, v, rfl, h1, h2⟩ | ⟨h1, h2⟩)
        · exact ⟨c :: u, v, rfl, h1, h2⟩
        · exact ⟨[], c :: w, rfl, h1, h2⟩
    rw [key]
    simp only [left]
    by_cases hn : nul a = true
    · rw [if_pos hn, show orN (thenN (left c a) b) (left c b) = orL [thenN (left c a) b, left c b] from rfl, or_lg (by
        intro z hz; simp at hz; rcases hz with rfl | rfl
        · exact thenN_wf (left_wf c a hw.1) hw.2.1
        · exact left_wf c b hw.2.1)]
      simp only [List.mem_cons, List.not_mem_nil, or_false, exists_eq_or_imp, exists_eq_left]
      rw [ht, ib]
      have := (nul_lg a).1 hn
      simp [this]
    · rw [if_neg hn, ht]
      have : ¬ Lg a [] := fun h => hn ((nul_lg a).2 h)
      simp [this]
  | sum l =>
    simp only [left, leftL_map]
    have hl := wfL_mem.1 hw.1
    rw [or_lg (by
      intro z hz
      obtain ⟨p, hp, rfl⟩ := List.mem_map.1 hz
      exact left_wf c p (hl p hp))]
    show _ ↔ LgL l (c :: w)
    rw [lgL_mem]
    constructor
    · rintro ⟨z, hz, h⟩
      obtain ⟨p, hp, rfl⟩ := List.mem_map.1 hz
      exact ⟨p, hp, (ih p (by have := size_mem hp; simp [NF.size]; omega) (hl p hp) w).1 h⟩
    · rintro ⟨p, hp, h⟩
      exact ⟨left c p, List.mem_map.2 ⟨p, hp, rfl⟩, (ih p (by have := size_mem hp; simp [NF.size]; omega) (hl p hp) w).2 h⟩
  | star a =>
    have ia := ih a (by simp [NF.size]) hw.1
    simp only [left]
    rw [then_lg]
    constructor
    · rintro ⟨u, v, rfl, h1, k, h2⟩
      exact ⟨k + 1, c :: u, v, rfl, (ia u).1 h1, h2⟩
    · rintro ⟨k, h⟩
      obtain ⟨u, v, rfl, h1, h2⟩ := rpt_cons h
      exact ⟨u, v, rfl, (ia u).2 h1, h2⟩
theorem dW_lg {X : NF} (hw : wf X) (w : List Nat) : nul (dW X w) = true ↔ Lg X w := by
  rw [nul_lg]
  induction w generalizing X with
  | nil => exact Iff.rfl
  | cons c w ih =>
    rw [show dW X (c :: w) = dW (left c X) w from rfl, ih (left_wf c X hw)]
    exact left_lg c X hw w

mutual
def Rg : RX → List Nat → Prop
  | .one s, w => ∃ c, w = [c] ∧ s.testBit c = true
  | .seq l, w => RgS l w
  | .alt l, w => RgA l w
  | .rep x lo hi, w => ∃ k, lo ≤ k ∧ (∀ n, hi = some n → k ≤ n) ∧ Rpt (Rg x) k w
def RgS : List RX → List Nat → Prop
  | [], w => w = []
  | x :: r, w => ∃ u v, w = u ++ v ∧ Rg x u ∧ RgS r v
def RgA : List RX → List Nat → Prop
  | [], _ => False
  | x :: r, w => Rg x w ∨ RgA r w
end
theorem pre_lg {a : NF} : ∀ (k : Nat) (t : NF) (w : List Nat), Lg (preN a k t) w ↔ Cat (Rpt (Lg a) k) (Lg t) w
  | 0, t, w => by
    constructor
    · intro h; exact ⟨[], w, rfl, rfl, h⟩
    · rintro ⟨u, v, rfl, hu, h⟩; rw [show u = [] from hu]; exact h
  | k + 1, t, w => by
    rw [preN_succ, then_lg, cat_congr (fun _ => Iff.rfl) (fun u => pre_lg k t u), ← cat_assoc]
    exact Iff.rfl
theorem opt_lg {a : NF} (ha : WC a) : ∀ (k : Nat) (w : List Nat), Lg (optN a k .one) w ↔ ∃ j, j ≤ k ∧ Rpt (Lg a) j w
  | 0, w => by
    constructor
    · intro h; exact ⟨0, Nat.le_refl _, h⟩
    · rintro ⟨j, hj, h⟩; rw [show j = 0 by omega] at h; exact h
  | k + 1, w => by
    rw [optN_succ, show orN (thenN a (optN a k .one)) .one = orL [thenN a (optN a k .one), .one] from rfl, or_lg (by
      intro z hz; simp at hz; rcases hz with rfl | rfl
      · exact thenN_wf ha.1 (optN_WC ha k _ .one).1
      · trivial)]
    simp only [List.mem_cons, List.not_mem_nil, or_false, exists_eq_or_imp, exists_eq_left]
    rw [then_lg, cat_congr (fun _ => Iff.rfl) (fun u => opt_lg ha k u)]
    constructor
    · rintro (⟨u, v, rfl, h1, j, hj, h2⟩ | h)
      · exact ⟨j + 1, by omega, u, v, rfl, h1, h2⟩
      · exact ⟨0, by omega, h⟩
    · rintro ⟨j, hj, h⟩
      cases j with
      | zero => exact .inr h
      | succ j =>
        obtain ⟨u, v, rfl, h1, h2⟩ := h
        exact .inl ⟨u, v, rfl, h1, j, by omega, h2⟩
theorem rep_lg {a : NF} (ha : WC a) (lo : Nat) (hi : Option Nat) (hlh : ∀ n, hi = some n → lo ≤ n) (w : List Nat) : Lg (repN a lo hi) w ↔ ∃ k, lo ≤ k ∧ (∀ n, hi = some n → k ≤ n) ∧ Rpt (Lg a) k w := by
  cases hi with
  | none =>
    show Lg (preN a lo (starN a)) w ↔ _
    rw [pre_lg, cat_congr (fun _ => Iff.rfl) (fun u => star_lg a u)]
    constructor
    · rintro ⟨u, v, rfl, h1, j, h2⟩; exact ⟨lo + j, by omega, by simp, rpt_add h1 h2⟩
    · rintro ⟨k, hk, _, h⟩
      rw [show k = lo + (k - lo) by omega] at h
      obtain ⟨u, v, rfl, h1, h2⟩ := rpt_split h
      exact ⟨u, v, rfl, h1, _, h2⟩
  | some n =>
    have hln := hlh n rfl
    show Lg (preN a lo (optN a (n - lo) .one)) w ↔ _
    rw [pre_lg, cat_congr (fun _ => Iff.rfl) (fun u => opt_lg ha (n - lo) u)]
    constructor
    · rintro ⟨u, v, rfl, h1, j, hj, h2⟩; exact ⟨lo + j, by omega, by simp; omega, rpt_add h1 h2⟩
    · rintro ⟨k, hk, hn, h⟩
      have := hn n rfl
      rw [show k = lo + (k - lo) by omega] at h
      obtain ⟨u, v, rfl, h1, h2⟩ := rpt_split h
      exact ⟨u, v, rfl, h1, _, by omega, h2⟩
mutual
theorem nrm_lg : ∀ {e : RX}, okx e → ∀ w, Lg (nrm e) w ↔ Rg e w
  | .one s, _, w => by
    simp only [nrm]
    by_cases h : s = 0
    · rw [if_pos h]; simp [Lg, Rg, h]
    · rw [if_neg h]; exact Iff.rfl
  | .seq l, ho, w => nrmS_lg (show okxL l from ho) w
  | .alt l, ho, w => by
    show Lg (orL (nrmA l)) w ↔ RgA l w
    rw [or_lg fun x hx => (nrmA_WC ho.1 x hx).1, nrmA_lg ho.1 w]
  | .rep x lo hi, ho, w => by
    show Lg (repN (nrm x) lo hi) w ↔ ∃ k, lo ≤ k ∧ (∀ n, hi = some n → k ≤ n) ∧ Rpt (Rg x) k w
    rw [rep_lg (nrm_WC ho.1) lo hi ho.2]
    simp only [rpt_congr (nrm_lg ho.1)]
theorem nrmS_lg : ∀ {l : List RX}, okxL l → ∀ w, Lg (nrmS l) w ↔ RgS l w
  | [], _, w => Iff.rfl
  | x :: r, ho, w => by
    show Lg (thenN (nrm x) (nrmS r)) w ↔ Cat (Rg x) (RgS r) w
    rw [then_lg]
    exact cat_congr (nrm_lg ho.1) (nrmS_lg ho.2)
theorem nrmA_lg : ∀ {l : List RX}, okxL l → ∀ w, (∃ x ∈ nrmA l, Lg x w) ↔ RgA l w
  | [], _, w => by simp [nrmA, RgA]
  | x :: r, ho, w => by
    simp only [nrmA, List.mem_cons, exists_eq_or_imp, RgA]
    rw [nrm_lg ho.1 w, nrmA_lg ho.2 w]
end
end Go.Proofs.YtpbkgeipigcefaaGreat

