import Derived.Test.YtjnaekffodgdcaaDoorW11
import Derived.Deep.RegionLaw
namespace Go.Proofs.YtjnaekffodgdcaaDoor
open Go.RowKit
set_option linter.unusedVariables false
set_option linter.unusedSimpArgs false
set_option linter.unnecessarySimpa false

structure TmR where
  wt : Int
  ev : Int
  rp : Int
  ok : Bool
  rest : List UInt8
def kWait : List UInt8 := [32, 119, 97, 105, 116, 32]
def kEvery : List UInt8 := [32, 101, 118, 101, 114, 121, 32]
def kRepeat : List UInt8 := [32, 114, 101, 112, 101, 97, 116, 32]
def sTimes (l : List UInt8) : TmR :=
  let a := sTime kWait l
  let b := sTime kEvery a.2.2
  let c := sTime kRepeat b.2.2
  ⟨a.1, b.1, c.1, a.2.1 && b.2.1 && c.2.1, c.2.2⟩

set_option maxRecDepth 100000 in
set_option maxHeartbeats 1000000 in
theorem takeTimes_any (b rb : Nat) (t l : List UInt8) (r : RV) (w : World) (h : At w b t l) (hr : RT w rb r) (hne : b ≠ rb) :
    Calls Tryd.prog 45 #[.pointer (some ⟨b, 0, none⟩), .pointer (some ⟨rb, 0, none⟩)] w fun e w' => e = .returned (.bool (sTimes l).ok) ∧ At w' b t (sTimes l).rest ∧ RT w' rb { r with wt := (sTimes l).wt, ev := (sTimes l).ev, rp := (sTimes l).rp } ∧ Frm [b, rb] w w' := by
  have hb := h.lt
  have hrb := hr.lt
  have H : Hid (At w b t l) := h
  have HR : Hid (RT w rb r) := hr
  clear h hr
  go_enter Tryd.func45, Tryd.ntmps45
  go_wp2_with fail
  refine (takeTime_any b t l kWait _ H.out (by simp [kWait])).mono ?_
  rintro e w1 ⟨rfl, h1, hf1⟩
  have H1 : Hid (At w1 b t (sTime kWait l).2.2 ∧ Frm [b] w w1) := ⟨h1, hf1⟩
  clear h1 hf1
  go_wp2_with fail
  refine (takeTime_any b t _ kEvery _ H1.out.1 (by simp [kEvery])).mono ?_
  rintro e w2 ⟨rfl, h2, hf2⟩
  have H2 : Hid (At w2 b t (sTime kEvery (sTime kWait l).2.2).2.2 ∧ Frm [b] w w2) := ⟨h2, H1.out.2.trans hf2⟩
  clear h2 hf2
  go_wp2_with fail
  refine (takeTime_any b t _ kRepeat _ H2.out.1 (by simp [kRepeat])).mono ?_
  rintro e w3 ⟨rfl, h3, hf3⟩
  have hf := H2.out.2.trans hf3
  have hr3 := HR.out.frm hf (by simp; omega)
  have HF : Hid (Frm [b, rb] w w3) := hf.mono (by simp; omega)
  have Hx : Hid (sTimes l = ⟨(sTime kWait l).1, (sTime kEvery (sTime kWait l).2.2).1, (sTime kRepeat (sTime kEvery (sTime kWait l).2.2).2.2).1, (sTime kWait l).2.1 && (sTime kEvery (sTime kWait l).2.2).2.1 && (sTime kRepeat (sTime kEvery (sTime kWait l).2.2).2.2).2.1, (sTime kRepeat (sTime kEvery (sTime kWait l).2.2).2.2).2.2⟩) := rfl
  have H3 : Hid (At w3 b t (sTime kRepeat (sTime kEvery (sTime kWait l).2.2).2.2).2.2) := h3
  clear h3 hf3 hf H1 H2
  generalize sTime kRepeat (sTime kEvery (sTime kWait l).2.2).2.2 = z at *
  generalize sTime kEvery (sTime kWait l).2.2 = y at *
  generalize sTime kWait l = x at *
  obtain ⟨x1, x2, x3⟩ := x
  obtain ⟨y1, y2, y3⟩ := y
  obtain ⟨z1, z2, z3⟩ := z
  obtain ⟨d, rc, tb, vby, wt, ev, rp, vif, co⟩ := r
  have c4 : w3.cell? ⟨rb, 4, none⟩ = some (.int .i64 wt) := hr3.cell 4
  have c5 : w3.cell? ⟨rb, 5, none⟩ = some (.int .i64 ev) := hr3.cell 5
  have c6 : w3.cell? ⟨rb, 6, none⟩ = some (.int .i64 rp) := hr3.cell 6
  have f4 := hr3.fz 4
  have f5 := hr3.fz 5
  have f6 := hr3.fz 6
  have HR3 : Hid (RT w3 rb ⟨d, rc, tb, vby, wt, ev, rp, vif, co⟩) := hr3
  clear hr3 HR
  cases x2 <;> cases y2
  all_goals
    go_wp2
    go_ret
    rw [Hx.out]
    refine ⟨by simp, ?_, ?_, ?_⟩
    · exact H3.out.frm (S := [rb]) ((((Frm.refl _ _).setCell (by simp) _).setCell (by simp) _).setCell (by simp) _) (by simp; omega)
    · exact ((HR3.out.set 4 _ ⟨d, rc, tb, vby, x1, ev, rp, vif, co⟩ rfl).set 5 _ ⟨d, rc, tb, vby, x1, y1, rp, vif, co⟩ rfl).set 6 _ _ rfl
    · exact ((HF.out.setCell (by simp) _).setCell (by simp) _).setCell (by simp) _

def mcells (m : CM) : List Value := [.string (bs m.1), .int .i64 m.2.1, .string (bs m.2.2)]
def mv (M : List CM) : List Value := M.flatMap mcells
/-- A list of matchers that the call has made by append. -/
def ML (base : Nat) (w : World) (v : Value) (M : List CM) : Prop := w.ownsRow base 78 3 v M.length (mv M)
theorem ML.frm {S : List Nat} {base : Nat} {w w' : World} {v : Value} {L : List CM} (h : ML base w v L) (f : Frm S w w') (hS : ∀ k, k ∈ S → k < base) : ML base w' v L := own_frm h f hS
theorem ML.nil (base : Nat) (w : World) : ML base w (.slice none 0 0) [] := World.ownsRow_nil w base _ 3
theorem infoMat : (Tryd.prog.info? 78).map (fun i => (i.zero, i.size, i.bytes)) = some (some (.agg #[.string ByteArray.empty, .int .i64 0, .string ByteArray.empty]), 3, 40) := by kernel_rfl

theorem heap_new2 (w : World) (a b : Obj) : ((w.alloc a).alloc b).drew.heap[w.heap.size + 1]? = some b := by
  have := heap_alloc_new (w.alloc a) b
  rw [← this]; simp; rfl
theorem Frm.of_grow {w w' : World} {row : Option Nat} (h : w.grownBy w' row) : Frm row.toList w w' :=
  ⟨h.os, h.tape, h.output, h.size, fun k hk hS => h.block k hk (fun e => hS (by rw [← e]; simp))⟩
def kIf : List UInt8 := [32, 105, 102, 32]
def matL : Nat → List CM → List UInt8 → List CM × Bool × List UInt8
  | 0, acc, l => (acc, false, l)
  | k + 1, acc, l =>
    if sTake kIf l then
      let x := sMat (sRest kIf l)
      if !x.2.1 || decide (4 ≤ acc.length) then (acc, false, x.2.2) else matL k (acc ++ [x.1]) x.2.2
    else (acc, true, l)
def sMats (l : List UInt8) : List CM × Bool × List UInt8 := matL 6 [] l

set_option maxRecDepth 100000 in
set_option maxHeartbeats 2000000 in
theorem takeMatchers_any (b rb : Nat) (t l : List UInt8) (r : RV) (w : World) (h : At w b t l) (hr : RT w rb r) (hne : b ≠ rb) (hif : r.vif = .slice none 0 0) :
    Calls Tryd.prog 46 #[.pointer (some ⟨b, 0, none⟩), .pointer (some ⟨rb, 0, none⟩)] w fun e w' => e = .returned (.bool (sMats l).2.1) ∧ At w' b t (sMats l).2.2 ∧ (∃ v, RT w' rb { r with vif := v } ∧ ML w.heap.size w' v (sMats l).1) ∧ (sMats l).1.length ≤ 4 ∧ Frm [b, rb] w w' := by
  obtain ⟨d, rc, tb, vby, wt, ev, rp, vif, co⟩ := r
  simp only at hif
  subst hif
  have hb := h.lt
  have hrb := hr.lt
  have H : Hid (At w b t l) := h
  have HR : Hid (RT w rb ⟨d, rc, tb, vby, wt, ev, rp, .slice none 0 0, co⟩) := hr
  clear h hr
  obtain ⟨i0, hi, hza, hzb, hzc⟩ := info_parts infoMat
  go_enter Tryd.func46, Tryd.ntmps46
  go_wp2_with fail
  go_loopg [] 6 (fun k wr => ∃ (acc : List CM) (l' : List UInt8) (v : Value), acc.length + k = 6 ∧ acc.length ≤ 4 ∧ RT wr rb ⟨d, rc, tb, vby, wt, ev, rp, v, co⟩ ∧ ML w.heap.size wr v acc ∧ matL k acc l' = sMats l ∧ At wr b t l' ∧ Frm [b, rb] w wr)
  case atStart => exact ⟨[], l, _, by simp, by simp, HR.out, ML.nil _ _, rfl, H.out, Frm.refl _ _⟩
  case round =>
    obtain ⟨acc, l', v, hk, hac, hrt, hml, hlb, hat, hfr⟩ := hrel
    have hz := hfr.size
    have Hr : Hid (RT wr rb ⟨d, rc, tb, vby, wt, ev, rp, v, co⟩) := hrt
    have Hm : Hid (ML w.heap.size wr v acc) := hml
    have Hl : Hid (matL gk acc l' = sMats l) := hlb
    have Ha : Hid (At wr b t l') := hat
    have Hf : Hid (Frm [b, rb] w wr) := hfr
    clear hrt hml hlb hat hfr
    obtain ⟨m, rfl⟩ : ∃ m, gk = m + 1 := ⟨gk - 1, by omega⟩
    go_wp2_with fail
    refine (take_any b t l' kIf _ Ha.out (by simp [kIf])).mono ?_
    rintro e w1 ⟨rfl, h1, hf1⟩
    have hr1 := Hr.out.frm hf1 (by simp; omega)
    have hm1 := Hm.out.frm hf1 (by simp; omega)
    have Hf1 : Hid (Frm [b, rb] w w1) := Hf.out.trans (hf1.mono (by simp; omega))
    cases ht : sTake kIf l'
    case false =>
      have Hx : Hid (sMats l = (acc, true, l')) := by
        show _ = _; rw [← Hl.out]; unfold matL; simp [ht]
      rw [sRest_no ht] at h1
      have H1 : Hid (At w1 b t l' ∧ RT w1 rb ⟨d, rc, tb, vby, wt, ev, rp, v, co⟩ ∧ ML w.heap.size w1 v acc) := ⟨h1, hr1, hm1⟩
      clear h1 hr1 hm1 hf1
      go_wp2
      go_ret
      rw [Hx.out]
      exact ⟨rfl, H1.out.1, ⟨_, H1.out.2.1, H1.out.2.2⟩, hac, Hf1.out⟩
    case true =>
    have Hst : Hid (sMats l = if !(sMat (sRest kIf l')).2.1 || decide (4 ≤ acc.length) then (acc, false, (sMat (sRest kIf l')).2.2) else matL m (acc ++ [(sMat (sRest kIf l')).1]) (sMat (sRest kIf l')).2.2) := by
      show _ = _; rw [← Hl.out]; conv => lhs; unfold matL
      rw [if_pos ht]
    have H1 : Hid (At w1 b t (sRest kIf l')) := h1
    have Hr1 : Hid (RT w1 rb ⟨d, rc, tb, vby, wt, ev, rp, v, co⟩) := hr1
    have Hm1 : Hid (ML w.heap.size w1 v acc) := hm1
    clear h1 hr1 hm1 hf1 Hl ht
    go_wp2_with fail
    refine (takeMatcher_any b t _ _ H1.out).mono ?_
    rintro e w2 ⟨rfl, h2, hf2⟩
    generalize sMat (sRest kIf l') = x at *
    obtain ⟨x1, x2, x3⟩ := x
    simp only at h2 Hst
    have hr2 := Hr1.out.frm hf2 (by simp; omega)
    have hm2 := Hm1.out.frm hf2 (by simp; omega)
    have Hf2 : Hid (Frm [b, rb] w w2) := Hf1.out.trans (hf2.mono (by simp; omega))
    obtain ⟨a, cap, rfl⟩ := own_shape hm2
    have c7 : w2.cell? ⟨rb, 7, none⟩ = some (.slice a acc.length cap) := hr2.cell 7
    have f7 := hr2.fz 7
    have H2 : Hid (At w2 b t x3) := h2
    have Hr2 : Hid (RT w2 rb ⟨d, rc, tb, vby, wt, ev, rp, .slice a acc.length cap, co⟩) := hr2
    have Hm2 : Hid (ML w.heap.size w2 (.slice a acc.length cap) acc) := hm2
    have hz2 := Hf2.out.size
    have hrb2 := Hr2.out.lt
    clear h2 hf2 hr2 hm2 H1 Hr1 Hm1 Hf1
    cases x2
    case false =>
      have Hx : Hid (sMats l = (acc, false, x3)) := by
        show _ = _; rw [Hst.out]; rfl
      unfold matV
      go_wp2
      go_ret
      rw [Hx.out]
      refine ⟨rfl, H2.out.frm (S := []) ?_ (by simp), ⟨_, Hr2.out.frm (S := []) ?_ (by simp), Hm2.out.frm (S := []) ?_ (by simp)⟩, hac, Hf2.out.alloc _⟩
      all_goals exact (Frm.refl _ _).alloc _
    case true =>
    by_cases h4 : 4 ≤ acc.length
    · have Hx : Hid (sMats l = (acc, false, x3)) := by
        show _ = _; rw [Hst.out]; simp [h4]
      unfold matV
      go_wp2
      go_ret
      rw [Hx.out]
      refine ⟨rfl, H2.out.frm (S := []) ?_ (by simp), ⟨_, Hr2.out.frm (S := []) ?_ (by simp), Hm2.out.frm (S := []) ?_ (by simp)⟩, hac, Hf2.out.alloc _⟩
      all_goals exact (Frm.refl _ _).alloc _
    · have Hx : Hid (matL m (acc ++ [x1]) x3 = sMats l) := by
        show _ = _; rw [Hst.out]; simp [h4]
      have ag : Value.ownBlock (.slice a acc.length cap) ≠ some rb := fun e => by have := Hm2.out.lt _ e; omega
      have ab : Value.ownBlock (.slice a acc.length cap) ≠ some b := fun e => by have := Hm2.out.lt _ e; omega
      have am : Value.ownBlock (.slice a acc.length cap) ≠ some w2.heap.size := fun e => by have := Hm2.out.lt _ e; omega
      have g1 : ∀ o : Obj, (w2.alloc o).drew.frozen? ⟨rb, 7, none⟩ = false := fun o => ((((Frm.refl [] w2).alloc o).drew).frozen hrb2 (by simp)).trans f7
      have g2 : ∀ o o' : Obj, ((w2.alloc o).alloc o').drew.frozen? ⟨rb, 7, none⟩ = false := fun o o' => (((((Frm.refl [] w2).alloc o).alloc o').drew).frozen hrb2 (by simp)).trans f7
      unfold matV
      obtain ⟨y1, y2, y3⟩ := x1
      go_wp2_with fail
      go_region_law ((refine step_append_lies _ (by rfl) _ _ _ (by rfl) w.heap.size 78 i0 _ 3 40 Tryd.underlying60 hi hza hzb hzc rfl (by omega) (.slice a acc.length cap) acc.length (mv acc) (by rfl) (by exact (Hm2.out.alloc _).alloc _) ⟨w2.heap.size + 1, 0, none⟩ 1 1 (mcells (y1, y2, y3)) (by rfl) (by rfl) (World.news_of_block (cs := (mcells (y1, y2, y3)).toArray) (t := 78) (fr := (0, 0)) (by exact heap_new2 _ _ _)) (by simp [Value.oneCell', mcells]) (by omega) (by unfold maxLen; omega) (by omega) (by simp; omega) (w2.heap.size + 2) (by simp) ?_; intro gg cap2 w4 hown4 hgrow hat hlt; have c4 := (hgrow.cell_far ⟨rb, 7, none⟩ (by simp; omega) (Ne.symm ag)); have f4 := (hgrow.frozen_far ⟨rb, 7, none⟩ (by simp; omega) (Ne.symm ag)); have f5 := f4.trans (g2 _ _)))
      all_goals
        have HO : Hid (World.grownBy _ w4 (Value.ownBlock (.slice a acc.length cap))) := hgrow
        have HO4 : Hid (w4.ownsRow w.heap.size 78 3 (.slice (some ⟨gg, 0, none⟩) (acc.length + 1) cap2) (acc.length + 1) (mv acc ++ mcells (y1, y2, y3))) := hown4
        clear hgrow hown4
        go_wp2
        go_roundg m
        case measure => omega
        case rel =>
          have F4 := Frm.of_grow HO.out
          have A4 : At w4 b t x3 := (H2.out.frm (S := []) ((((Frm.refl _ _).alloc _).alloc _).drew) (by simp)).frm F4 (by simpa [Option.mem_toList] using fun e => ab e)
          have R4 : RT w4 rb ⟨d, rc, tb, vby, wt, ev, rp, .slice a acc.length cap, co⟩ := (Hr2.out.frm (S := []) ((((Frm.refl _ _).alloc _).alloc _).drew) (by simp)).frm F4 (by simpa [Option.mem_toList] using fun e => ag e)
          refine ⟨acc ++ [(y1, y2, y3)], x3, .slice (some ⟨gg, 0, none⟩) (acc.length + 1) cap2, by simp; omega, by simp; omega, R4.set 7 _ _ rfl, ?_, Hx.out, ?_, ?_⟩
          · have := ownsRow_setCell_below HO4.out (a := ⟨rb, 7, none⟩) hrb (.slice (some ⟨gg, 0, none⟩) (acc.length + 1) cap2)
            simpa [ML, mv] using this
          · exact A4.frm (S := [rb]) ((Frm.refl _ _).setCell (by simp) _) (by simp; omega)
          · exact ((((Hf2.out.alloc _).alloc _).drew).grown HO.out (fun k hk => Or.inr (Hm2.out.lt _ hk).1)).setCell (by simp) _

end Go.Proofs.YtjnaekffodgdcaaDoor
