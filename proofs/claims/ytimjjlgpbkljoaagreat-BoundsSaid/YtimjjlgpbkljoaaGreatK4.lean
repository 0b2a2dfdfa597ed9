import Derived.Test.YtimjjlgpbkljoaaGreatK3
namespace Go.Proofs.YtimjjlgpbkljoaaGreat
open Go.RowKit
set_option linter.unusedVariables false
set_option linter.unusedSimpArgs false
set_option linter.unnecessarySimpa false

/-- A compiler that lays instructions. -/
structure LY (w0 : World) (kb : Nat) (w : World) (V : V6) (U : V4) (l : List InM) : Prop where
  row : KR w kb V U
  fr : Frm [kb] w0 w
  lo : kb < w0.heap.size
  o : OW 79 4 w0.heap.size w U.l (icl l)
theorem LY.frm {w0 : World} {kb : Nat} {w w' : World} {V : V6} {U : V4} {l : List InM} (h : LY w0 kb w V U l) (f : Frm [] w w') : LY w0 kb w' V U l :=
  ⟨h.row.frm f (by simp), h.fr.over f (by simp), h.lo, h.o.frm f (by simp)⟩
/-- What laying turns: the compiler, and the row of what is laid. -/
structure LF (kb : Nat) (w : World) (a : Value) (w' : World) (b : Value) : Prop where
  f : Frm (kb :: a.ownBlock.toList) w w'
  o : ∀ g, b.ownBlock = some g → a.ownBlock = some g ∨ w.heap.size ≤ g
theorem LF.refl (kb : Nat) (w : World) (a : Value) : LF kb w a w a := ⟨Frm.refl _ _, fun g h => .inl h⟩
theorem LF.trans {kb : Nat} {w w1 w2 : World} {a b c : Value} (h : LF kb w a w1 b) (k : LF kb w1 b w2 c) : LF kb w a w2 c := by
  refine ⟨h.f.over k.f ?_, fun g hg => ?_⟩
  · intro x hx
    rcases List.mem_cons.1 hx with rfl | hx
    · exact .inr (by simp)
    · rcases h.o x (by simpa using hx) with h1 | h1
      · exact .inr (by simp [h1])
      · exact .inl h1
  · rcases k.o g hg with h1 | h1
    · exact h.o g h1
    · exact .inr (Nat.le_trans h.f.size h1)
theorem LF.pre {kb : Nat} {w w1 w2 : World} {a b : Value} (h : Frm [] w w1) (k : LF kb w1 a w2 b) : LF kb w a w2 b := by
  have h1 : LF kb w a w1 a := ⟨(Frm.refl _ _).over h (by simp), fun g hg => .inl hg⟩
  exact h1.trans k
theorem LF.post {kb : Nat} {w w1 w2 : World} {a b : Value} (h : LF kb w a w1 b) (k : Frm [] w1 w2) : LF kb w a w2 b := h.trans ⟨(Frm.refl _ _).over k (by simp), fun g hg => .inl hg⟩
theorem OW.off {e : TypeId} {k base : Nat} {S : List Nat} {w w' : World} {v : Value} {vs : List (List Value)} (h : OW e k base w v vs) (f : Frm S w w') (hS : ∀ g, v.ownBlock = some g → g ∉ S) : OW e k base w' v vs := by
  refine ⟨⟨h.1.1, ?_⟩, h.2⟩
  rcases h.1.2 with hn | ⟨g, cap, cur, rfl, hbg, hgg, rest⟩
  · exact .inl hn
  · refine .inr ⟨g, cap, cur, rfl, hbg, ?_, rest⟩
    rw [f.block g (Array.getElem?_eq_some_iff.1 hgg).1 (hS g rfl)]
    exact hgg
abbrev V4.lay (U : V4) (v : Value) : V4 := ⟨U.rt, U.x, U.q, v⟩

set_option maxRecDepth 100000 in
set_option maxHeartbeats 4000000 in
theorem lay_any (w0 : World) (kb : Nat) (w : World) (V : V6) (U : V4) (l : List InM) (h : LY w0 kb w V U l) (x : InM) (hl : l.length ≤ 1000000000) :
    Calls Tryz.prog 25 #[.pointer (some ⟨kb, 0, none⟩), .agg (icell x)] w fun e w' => e = .returned (.int .i64 (l.length : Nat)) ∧ ∃ v, LY w0 kb w' V (U.lay v) (l ++ [x]) ∧ LF kb w U.l w' v := by
  obtain ⟨rt, xx, q, vl⟩ := U
  obtain ⟨ao, co, he⟩ := h.o.shape
  rw [icl_len] at he
  subst he
  have O := hide h.o
  have HR := hide h.row
  have HF := hide h.fr
  have hlo := h.lo
  have hkw := h.row.lt
  have hzz := h.fr.size
  have HNB : Hid (∀ r, Value.ownBlock (.slice ao l.length co) = some r → r ≠ kb) := fun r hr => by have := (O.out.lt hr).1; omega
  have c9 := h.row.c 9
  have z9 := h.row.fz 9
  simp at c9
  have HTC : Hid ((icl l).length = l.length) := icl_len l
  obtain ⟨op, xn, a, b⟩ := x
  clear h
  simp only [icell]
  go_enter Tryz.func25, Tryz.ntmps25
  go_wp2_with fail
  go_region_law ((refine step_appG _ (by rfl) _ _ 38 79 _ 4 32 infoIns Tryz.underlying38 (by rfl) (by omega) (by rfl) w0.heap.size (.slice ao l.length co) (icl l) (w.heap.size + 1) (icell ⟨op, xn, a, b⟩) (0, 0) (by rfl) (O.out.frm (S := []) ((((Frm.refl [] _).alloc _).alloc _).drew) (by simp)) (by rfl) (by rfl) (by exact heap_b _ _ _) (icell_one _) (by rw [HTC.out]; omega) (by rw [HTC.out]; omega) (by simp; omega) (w.heap.size + 2) (by simp) ?_; intro gg cap2 w4 hown4 hgrow hat hlt4; rw [HTC.out] at hown4 ⊢; have R4 := hide ((HR.out.frm (S := []) ((((Frm.refl [] _).alloc _).alloc _).drew) (by simp)).grown hgrow HNB.out); have k9 := R4.out.c 9; have y9 := R4.out.fz 9; simp at k9))
  all_goals
    have R5 := hide (R4.out.set (U' := ⟨rt, xx, q, .slice (some ⟨gg, 0, none⟩) (l.length + 1) cap2⟩) (V' := V) 9 (.slice (some ⟨gg, 0, none⟩) (l.length + 1) cap2) rfl)
    have m9 := R5.out.c 9
    simp at m9
    rw [icl_snoc] at hown4
    have O5 : Hid (OW 79 4 w0.heap.size (w4.setCell ⟨kb, 9, none⟩ (.slice (some ⟨gg, 0, none⟩) (l.length + 1) cap2)) (.slice (some ⟨gg, 0, none⟩) (l.length + 1) cap2) (icl (l ++ [⟨op, xn, a, b⟩]))) := hown4.frm (S := [kb]) ((Frm.refl [kb] _).setCell (p := ⟨kb, 9, none⟩) (.inl (by simp)) _) (by simp; omega)
    have F5 : Hid (Frm [kb] w0 (w4.setCell ⟨kb, 9, none⟩ (.slice (some ⟨gg, 0, none⟩) (l.length + 1) cap2))) := ((((HF.out.alloc _).alloc _).drew).grown hgrow (fun r hr => .inr (O.out.lt hr).1)).setCell (p := ⟨kb, 9, none⟩) (.inl (by simp)) _
    have LF5 : Hid (LF kb w (.slice ao l.length co) (w4.setCell ⟨kb, 9, none⟩ (.slice (some ⟨gg, 0, none⟩) (l.length + 1) cap2)) (.slice (some ⟨gg, 0, none⟩) (l.length + 1) cap2)) := by
      refine ⟨(((((Frm.refl _ w).alloc _).alloc _).drew).grown hgrow (fun r hr => .inl (by simp [hr]))).setCell (p := ⟨kb, 9, none⟩) (.inl (by simp)) _, fun g hg => ?_⟩
      cases hg
      rcases hat with h1 | h1
      · exact .inl h1
      · exact .inr (by show w.heap.size ≤ gg; omega)
    clear hgrow hown4 hat k9 y9 c9 z9
    go_wp2
    go_ret
    exact ⟨congrArg Ending.returned (by go_num), _, ⟨R5.out, F5.out, hlo, O5.out⟩, LF5.out⟩
end Go.Proofs.YtimjjlgpbkljoaaGreat
