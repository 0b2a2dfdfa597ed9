import Derived.Test.YtjnaekffodgdcaaDoorR12
namespace Go.Proofs.YtjnaekffodgdcaaDoor
open Go.RowKit
set_option linter.unusedVariables false
set_option linter.unusedSimpArgs false
set_option linter.unnecessarySimpa false

/-- The first line as the reference reads it. -/
def recR (l : List UInt8) : Option (List (List UInt8)) :=
  if (((cutL false 32 l).getD 0 [] == kRecv) && decide (1 < (cutL false 32 l).length) && decide ((cutL false 32 l).length ≤ 9)) && ((cutL false 32 l).drop 1).all isNameL then some ((cutL false 32 l).drop 1) else none
/-- The lines, one behind the other; the last piece is empty. -/
def rdGo : List (List UInt8) → Nat → List (List UInt8) → List RR → Except Nat (List (List UInt8) × List RR)
  | [], i, _, _ => .error (i + 1)
  | [x], i, L, R => if !(x.isEmpty) || i == 0 then .error (i + 1) else .ok (L, R)
  | x :: y :: W, i, L, R =>
    if i == 0 then (match recR x with | none => .error 1 | some L' => rdGo (y :: W) 1 L' R)
    else (match rtR x with | none => .error (i + 1) | some r => rdGo (y :: W) (i + 1) L (R ++ [r]))
def rRead (t : List UInt8) : Except (Nat × Nat) (List (List UInt8) × List RR) :=
  if 1200 < t.length then .error (1, 0) else
  match rdGo (cutL false 10 t) 0 [] [] with
  | .error n => .error (2, n)
  | .ok (L, R) => if (grF L R).1 = 0 then .ok (L, R) else .error (grF L R)

def RdPost (e : Ending) (w' : World) : Except (Nat × Nat) (List (List UInt8) × List RR) → Prop
  | .error (n, l) => e = .returned (.tuple #[.pointer none, .int .i64 n, .int .i64 l])
  | .ok (L, R) => ∃ (cb base : Nat) (vr vt vl : Value) (X : List (Nat × RRV × RR)), e = .returned (.tuple #[PT cb, .int .i64 0, .int .i64 0]) ∧ CBR w' cb vr vt vl ∧ RS 0 w' vr L ∧ LP base w' vl (X.map (·.1)) ∧ (∀ x ∈ X, RQ base w' x.1 x.2.1 x.2.2) ∧ R = X.map (·.2.2)

theorem cell_lt {w : World} {a : Addr} {v : Value} (h : w.cell? a = some v) : a.block < w.heap.size := by
  by_cases hlt : a.block < w.heap.size
  · exact hlt
  · simp [World.cell?, hlt] at h
theorem RS.frmB {S : List Nat} {base : Nat} {w w' : World} {v : Value} {L : List (List UInt8)} (h : RS base w v L) (f : Frm S w w') (hS : ∀ k ∈ S, v.ownBlock ≠ some k) : RS base w' v L := by
  obtain ⟨a, cap, rfl, h1, h2, h3⟩ := h
  refine ⟨a, cap, rfl, h1, h2, fun j hj => ?_⟩
  obtain ⟨g, off, rfl, hb, hc⟩ := h3 j hj
  refine ⟨g, off, rfl, hb, ?_⟩
  rw [f.cell (p := ⟨g, off + j, none⟩) (cell_lt hc) (fun hm => hS g hm rfl)]
  exact hc

/-- Blocks that hold no text, no matcher. -/
def ApartR (w : World) (base : Nat) (S : List Nat) : Prop := ∀ k, k ∈ S → k < base ∨ ∃ cur e' fz, w.heap[k]? = some (.cells cur e' fz) ∧ e' ≠ 9 ∧ e' ≠ 55
theorem RQ.frmT {S : List Nat} {base : Nat} {w w' : World} {b : Nat} {v : RRV} {r : RR} (h : RQ base w b v r) (f : Frm S w w') (hb : b ∉ S) (hS : ApartR w base S) : RQ base w' b v r :=
  ⟨h.at_.frm f hb, h.rc, own_frmT h.by_ f (fun k hk => (hS k hk).imp id (fun ⟨a, b, c, d, e⟩ => ⟨a, b, c, d, e.1⟩)), h.t0, h.t1, h.t2, own_frmT h.ifs f (fun k hk => (hS k hk).imp id (fun ⟨a, b, c, d, e⟩ => ⟨a, b, c, d, e.2⟩)), h.on, h.d⟩
theorem RQ.base {base base' : Nat} {w : World} {b : Nat} {v : RRV} {r : RR} (h : RQ base w b v r) (hb : base' ≤ base) : RQ base' w b v r :=
  ⟨h.at_, h.rc, own_base h.by_ hb, h.t0, h.t1, h.t2, own_base h.ifs hb, h.on, h.d⟩

/-- What has been read. -/
structure QI (w : World) (cb : Nat) (vr vl : Value) (L : List (List UInt8)) (X : List (Nat × RRV × RR)) : Prop where
  rs : RS (cb + 1) w vr L
  lp : LP (cb + 1) w vl (X.map (·.1))
  rq : ∀ x ∈ X, RQ (cb + 1) w x.1 x.2.1 x.2.2
  vk : ∀ x ∈ X, x.2.1.vk = .slice none 0 0
  gt : ∀ x ∈ X, cb < x.1
  row : ∀ (i : Nat) x, X[i]? = some x → x.2.1.row = (i : Int) + 2
  nd : (X.map (·.1)).Nodup
  vrx : ∀ x ∈ X, vr.ownBlock ≠ some x.1
  vrb : vr.ownBlock ≠ some cb
  vrl : ∀ g, vr.ownBlock = some g → vl.ownBlock ≠ some g
  lt : ∀ x ∈ X, x.1 < w.heap.size
  vrt : ∀ g, vr.ownBlock = some g → g < w.heap.size

theorem QI.frm0 {w w' : World} {cb : Nat} {vr vl : Value} {L : List (List UInt8)} {X : List (Nat × RRV × RR)} (h : QI w cb vr vl L X) (f : Frm [] w w') : QI w' cb vr vl L X :=
  ⟨h.rs.frm f (by simp), h.lp.frm f (by simp), fun x hx => (h.rq x hx).frm f (by simp) (by simp), h.vk, h.gt, h.row, h.nd, h.vrx, h.vrb, h.vrl, fun x hx => Nat.lt_of_lt_of_le (h.lt x hx) f.size, fun g hg => Nat.lt_of_lt_of_le (h.vrt g hg) f.size⟩
theorem QI.setC {w : World} {cb : Nat} {vr vl : Value} {L : List (List UInt8)} {X : List (Nat × RRV × RR)} (h : QI w cb vr vl L X) (o : Nat) (v : Value) : QI (w.setCell ⟨cb, o, none⟩ v) cb vr vl L X := by
  have f : Frm [cb] w (w.setCell ⟨cb, o, none⟩ v) := (Frm.refl _ _).setCell (by simp) _
  refine ⟨h.rs.frm f (by simp), h.lp.frm f (by simp), fun x hx => (h.rq x hx).frm f ?_ (by simp), h.vk, h.gt, h.row, h.nd, h.vrx, h.vrb, h.vrl, fun x hx => Nat.lt_of_lt_of_le (h.lt x hx) f.size, fun g hg => Nat.lt_of_lt_of_le (h.vrt g hg) f.size⟩
  have := h.gt x hx
  simp; omega
theorem QI.nil (w : World) (cb : Nat) : QI w cb (.slice none 0 0) (.slice none 0 0) [] [] :=
  ⟨⟨none, 0, rfl, by simp, by simp, by simp⟩, World.ownsRow_nil _ _ _ _, by simp, by simp, by simp, by simp, by simp, by simp, by simp [Value.ownBlock], by simp [Value.ownBlock], by simp, by simp [Value.ownBlock]⟩

/-- One route more: x lies new above w0 in w1; the row of the lines grows from w1 to w4. -/
theorem QI.snoc {w w4 : World} {cb : Nat} {vr vl : Value} {L : List (List UInt8)} {X : List (Nat × RRV × RR)} (h : QI w cb vr vl L X) {x : Nat × RRV × RR} (hx : RQ (cb + 1) w x.1 x.2.1 x.2.2) (hk : x.2.1.vk = .slice none 0 0) (hrow : x.2.1.row = (X.length : Int) + 2)
    (hnew : ∀ y ∈ X, y.1 < x.1) (hcb : cb < x.1) (hvr : vr.ownBlock ≠ some x.1) (hvl : vl.ownBlock ≠ some x.1) {g n cap : Nat} (hg : w.grownBy w4 vl.ownBlock) (ho : LP (cb + 1) w4 (.slice (some ⟨g, 0, none⟩) n cap) (X.map (·.1) ++ [x.1])) (hat : vl.ownBlock = some g ∨ g = w.heap.size) : QI w4 cb vr (.slice (some ⟨g, 0, none⟩) n cap) L (X ++ [x]) := by
  have F4 := Frm.of_grow hg
  have hty : ∀ k, vl.ownBlock = some k → ∃ cur fz, w.heap[k]? = some (.cells cur 40 fz) := fun k hk => own_block h.lp k hk
  have ap : ApartR w (cb + 1) vl.ownBlock.toList := fun k hk => by
    rw [Option.mem_toList] at hk
    obtain ⟨cur, fz, e⟩ := hty k hk
    exact .inr ⟨cur, _, fz, e, by decide, by decide⟩
  have hnb : ∀ y : Nat × RRV × RR, RQ (cb + 1) w y.1 y.2.1 y.2.2 → y.1 ∉ vl.ownBlock.toList := fun y hy hm => by
    rw [Option.mem_toList] at hm
    obtain ⟨cur, fz, e⟩ := hty _ hm
    have := hy.at_; unfold RB at this
    rw [e] at this; simp at this
  have all : ∀ y ∈ X ++ [x], RQ (cb + 1) w y.1 y.2.1 y.2.2 := fun y hy => by
    rw [List.mem_append, List.mem_singleton] at hy
    rcases hy with hy | rfl
    · exact h.rq y hy
    · exact hx
  refine ⟨h.rs.frmB F4 (fun k hk => ?_), by rw [List.map_append]; exact ho, fun y hy => (all y hy).frmT F4 (hnb y (all y hy)) ap, fun y hy => ?_, fun y hy => ?_, fun i y hi => ?_, ?_, fun y hy => ?_, h.vrb, fun k hk => ?_, fun y hy => ?_, fun k hk => Nat.lt_of_lt_of_le (h.vrt k hk) F4.size⟩
  · rw [Option.mem_toList] at hk
    exact fun e => h.vrl k e hk
  · rw [List.mem_append, List.mem_singleton] at hy
    rcases hy with hy | rfl
    · exact h.vk y hy
    · exact hk
  · rw [List.mem_append, List.mem_singleton] at hy
    rcases hy with hy | rfl
    · exact h.gt y hy
    · exact hcb
  · by_cases hl : i < X.length
    · rw [List.getElem?_append_left hl] at hi; exact h.row i y hi
    · rw [List.getElem?_append_right (by omega)] at hi
      have e0 : i - X.length = 0 := by
        cases e : i - X.length with
        | zero => rfl
        | succ k => rw [e] at hi; simp at hi
      rw [e0] at hi
      simp at hi; subst hi
      have : i = X.length := by omega
      subst this; exact hrow
  · rw [List.map_append]
    refine List.nodup_append.2 ⟨h.nd, by simp, ?_⟩
    intro a ha b hb e
    simp at hb
    rw [List.mem_map] at ha
    obtain ⟨y, hy, rfl⟩ := ha
    have := hnew y hy
    omega
  · rw [List.mem_append, List.mem_singleton] at hy
    rcases hy with hy | rfl
    · exact h.vrx y hy
    · exact hvr
  · intro e
    simp only [Value.ownBlock, Option.some.injEq] at e
    subst e
    rcases hat with hat | hat
    · exact h.vrl _ hk hat
    · have := h.vrt _ hk; omega
  · have := (all y hy).at_.lt
    exact Nat.lt_of_lt_of_le this F4.size

/-- What grown writes into leaves the rest. -/
theorem QI.kept {w w' : World} {cb : Nat} {vr vl : Value} {L : List (List UInt8)} {X : List (Nat × RRV × RR)} (h : QI w cb vr vl L X) (f : Frm (cb :: X.map (·.1)) w w') : RS 0 w' vr L ∧ LP (cb + 1) w' vl (X.map (·.1)) := by
  refine ⟨(h.rs.frmB f ?_).base (Nat.zero_le _), own_frmT h.lp f ?_⟩
  · intro k hk
    rw [List.mem_cons, List.mem_map] at hk
    rcases hk with rfl | ⟨x, hx, rfl⟩
    · exact h.vrb
    · exact h.vrx x hx
  · intro k hk
    rw [List.mem_cons, List.mem_map] at hk
    rcases hk with rfl | ⟨x, hx, rfl⟩
    · exact .inl (Nat.lt_succ_self _)
    · exact .inr ⟨_, _, _, (h.rq x hx).at_, by decide⟩
theorem QI.rqs {w w' : World} {cb : Nat} {vr vl : Value} {L : List (List UInt8)} {X : List (Nat × RRV × RR)} (h : QI w cb vr vl L X) (f : Frm (cb :: X.map (·.1)) w w') {K : Nat → Value} (hk : ∀ x ∈ X, RB w' x.1 { x.2.1 with vk := K x.1 }) : ∀ x ∈ X, RQ (cb + 1) w' x.1 { x.2.1 with vk := K x.1 } x.2.2 := by
  have ap : ApartR w (cb + 1) (cb :: X.map (·.1)) := fun k hk => by
    rw [List.mem_cons, List.mem_map] at hk
    rcases hk with rfl | ⟨x, hx, rfl⟩
    · exact .inl (Nat.lt_succ_self _)
    · exact .inr ⟨_, _, _, (h.rq x hx).at_, by decide, by decide⟩
  intro x hx
  have q := h.rq x hx
  exact ⟨hk x hx, q.rc, own_frmT q.by_ f (fun k hk => (ap k hk).imp id (fun ⟨a, b, c, d, e⟩ => ⟨a, b, c, d, e.1⟩)), q.t0, q.t1, q.t2, own_frmT q.ifs f (fun k hk => (ap k hk).imp id (fun ⟨a, b, c, d, e⟩ => ⟨a, b, c, d, e.2⟩)), q.on, q.d⟩

end Go.Proofs.YtjnaekffodgdcaaDoor
