import Derived.Test.YtimjjlgpbkljoaaGreatK4
namespace Go.Proofs.YtimjjlgpbkljoaaGreat
open Go.RowKit
set_option linter.unusedVariables false
set_option linter.unusedSimpArgs false
set_option linter.unnecessarySimpa false

/-- The conditions of routes that are read. -/
def QR (A : List Nat) (w : World) (v : Value) (q : List (List (Nat × Bool))) : Prop := ∃ cq, RW A 1 w v (lst cq) ∧ RowI conI A w cq q
theorem QR.frm {A S : List Nat} {w w' : World} {v : Value} {q : List (List (Nat × Bool))} (h : QR A w v q) (f : Frm S w w') (hS : ∀ g ∈ S, g ∈ A) : QR A w' v q := by
  obtain ⟨css, h1, h2⟩ := h
  exact ⟨css, h1.frm f hS, h2.frm f hS⟩
theorem RW.con {A : List Nat} {w : World} {v : Value} {L : List (Nat × Bool)} (h : RW A 2 w v (cc L)) : ∃ a cap, v = .slice a L.length cap ∧ ∀ (j : Nat) (hj : j < L.length), ∃ g off, a = some ⟨g, off, none⟩ ∧ g ∉ A ∧ g < w.heap.size ∧ w.cell? ⟨g, off + j * 2, none⟩ = some (.int .i64 (L[j].1 : Nat)) ∧ w.cell? ⟨g, off + j * 2 + 1, none⟩ = some (.bool L[j].2) := by
  obtain ⟨a, cap, e, h1, h2⟩ := h
  rw [cc_len] at e
  refine ⟨a, cap, e, fun j hj => ?_⟩
  obtain ⟨g, off, e2, h3, h4, h5⟩ := h2 j (by rw [cc_len]; exact hj)
  exact ⟨g, off, e2, h3, h4, h5 0 _ (by simp [cc]), h5 1 _ (by simp [cc])⟩

set_option maxRecDepth 100000 in
set_option maxHeartbeats 4000000 in
theorem layChecks_any (w0 : World) (kb : Nat) (w : World) (V : V6) (U : V4) (l : List InM) (h : LY w0 kb w V U l) (q : List (List (Nat × Bool))) (hq : QR [kb] w0 U.q q) (hqb : ∀ x ∈ q, x.length ≤ 1000) (r y n : Nat) (hr : r < q.length) (hql : q.length ≤ 1000) (hl : l.length ≤ 900000000) :
    Calls Tryz.prog 34 #[.pointer (some ⟨kb, 0, none⟩), .int .i64 r, .int .i64 y, .int .i64 n] w fun e w' => e = .returned (.int .i64 ((layChk q[r] y n l).1 : Nat)) ∧ ∃ v, LY w0 kb w' V (U.lay v) (layChk q[r] y n l).2 ∧ LF kb w U.l w' v := by
  obtain ⟨rt, xx, vq, vl⟩ := U
  obtain ⟨cq, h1, h2⟩ := hq
  obtain ⟨aq, capq, e, rq⟩ := row_at h1 h2
  simp only at e
  subst e
  obtain ⟨gq, oq, cs, rfl, hgq, hgk, ⟨vb, rfl, hvb⟩, k1⟩ := rq r hr
  obtain ⟨ab, capb, rfl, rb⟩ := hvb.con
  have p0 := (h.fr.cell (p := ⟨gq, oq + r * 1 + 0, none⟩) hgq hgk).trans (k1 0 _ rfl)
  rw [Nat.mul_one, Nat.add_zero] at p0
  have c8 := h.row.c 8
  simp at c8
  have hQ := hqb q[r] (List.getElem_mem hr)
  have L0 := hide h
  have RB := hide rb
  have hd0 : decide ((r : Int) < (q.length : Int)) = true := decide_eq_true (by omega)
  clear h1 h2 rq k1 hvb rb h hqb
  generalize q[r] = Q at *
  go_enter Tryz.func34, Tryz.ntmps34
  go_wp2_with fail
  go_loopg [2, 10] Q.length (fun k v2 v10 wr => ∃ (j y1 : Nat) (x : Int) (l1 : List InM) (v : Value), j ≤ Q.length ∧ k = j ∧ v10 = .int .i64 x ∧ x = (j : Int) - 1 ∧ v2 = .int .i64 y1 ∧ Hid (l1.length = l.length + (Q.length - j)) ∧ Hid (layChk (Q.drop j) y n l = (y1, l1)) ∧ Hid (LY w0 kb wr V ⟨rt, xx, .slice (some ⟨gq, oq, none⟩) q.length capq, v⟩ l1) ∧ Hid (LF kb w vl wr v))
  case atStart => exact ⟨Q.length, y, _, l, vl, Nat.le_refl _, rfl, rfl, by omega, rfl, by show _ = _; omega, by show _ = _; simp [layChk], L0.out, LF.refl _ _ _⟩
  case round =>
    obtain ⟨j, y1, x, l1, v, hj, rfl, rfl, hx, rfl, HLL, HV, L1, LF1⟩ := hrel
    rcases gk with _ | m
    · obtain rfl : x = -1 := by omega
      clear hx
      go_wp2
      go_ret
      have := HV.out
      rw [List.drop_zero] at this
      rw [this]
      exact ⟨rfl, v, L1.out, LF1.out⟩
    · obtain rfl : x = (m : Int) := by omega
      clear hx
      obtain ⟨gc, oc, rfl, hgc, hgc2, q0, q1⟩ := RB.out m (by omega)
      have s0 := (L1.out.fr.cell (p := ⟨gc, oc + m * 2, none⟩) hgc2 hgc).trans q0
      have s1 := (L1.out.fr.cell (p := ⟨gc, oc + m * 2 + 1, none⟩) hgc2 hgc).trans q1
      have hgc3 := Nat.lt_of_lt_of_le hgc2 L1.out.fr.size
      have hlk : layChk (Q.drop m) y n l = (l1.length, l1 ++ [if Q[m].2 then ⟨2, Q[m].1, y1, n⟩ else ⟨2, Q[m].1, n, y1⟩]) := by
        rw [List.drop_eq_getElem_cons (by omega), layChk, HV.out]
      have hd1 : decide ((m : Int) < (Q.length : Int)) = true := decide_eq_true (by omega)
      generalize Q[m] = c at *
      obtain ⟨ct, ch⟩ := c
      simp only at s0 s1 hlk
      clear q0 q1 HV
      cases ch with
      | true =>
        have HV2 : Hid (layChk (Q.drop m) y n l = (l1.length, l1 ++ [⟨2, ct, y1, n⟩])) := hlk
        have N1 := hide (lay_any w0 kb (wr.alloc (Obj.cells #[.int .i64 2, .int .i64 ct, .int .i64 y1, .int .i64 n] 79)) V _ l1 (L1.out.frm ((Frm.refl [] _).alloc _)) ⟨2, ct, y1, n⟩ (by rw [HLL.out]; omega))
        simp only [icell] at N1
        clear hlk
        go_wp2_with fail
        refine (N1.out).mono ?_
        rintro e w2 ⟨rfl, v2, hL2, hLF2⟩
        have L2 := hide hL2
        have LF2 : Hid (LF kb w vl w2 v2) := LF1.out.trans (hLF2.pre ((Frm.refl [] _).alloc _))
        clear N1 hL2 hLF2 LF1
        go_wp2
        go_roundg m
        case measure => omega
        case rel => exact ⟨m, l1.length, _, _, v2, by omega, rfl, rfl, by omega, rfl, by show _ = _; simp [HLL.out]; omega, HV2, L2, LF2⟩
      | false =>
        have HV2 : Hid (layChk (Q.drop m) y n l = (l1.length, l1 ++ [⟨2, ct, n, y1⟩])) := hlk
        have N1 := hide (lay_any w0 kb (wr.alloc (Obj.cells #[.int .i64 2, .int .i64 ct, .int .i64 n, .int .i64 y1] 79)) V _ l1 (L1.out.frm ((Frm.refl [] _).alloc _)) ⟨2, ct, n, y1⟩ (by rw [HLL.out]; omega))
        simp only [icell] at N1
        clear hlk
        go_wp2_with fail
        refine (N1.out).mono ?_
        rintro e w2 ⟨rfl, v2, hL2, hLF2⟩
        have L2 := hide hL2
        have LF2 : Hid (LF kb w vl w2 v2) := LF1.out.trans (hLF2.pre ((Frm.refl [] _).alloc _))
        clear N1 hL2 hLF2 LF1
        go_wp2
        go_roundg m
        case measure => omega
        case rel => exact ⟨m, l1.length, _, _, v2, by omega, rfl, rfl, by omega, rfl, by show _ = _; simp [HLL.out]; omega, HV2, L2, LF2⟩
end Go.Proofs.YtimjjlgpbkljoaaGreat
