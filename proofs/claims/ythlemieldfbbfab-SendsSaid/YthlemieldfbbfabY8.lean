import Derived.Test.YthlemieldfbbfabY3
namespace Go.Proofs.Ythlemieldfbbfab
open Go.RowKit
set_option linter.unusedVariables false
set_option linter.unusedSimpArgs false
set_option linter.unnecessarySimpa false

set_option maxRecDepth 100000 in
set_option maxHeartbeats 2000000 in
theorem sameTexts_any (w : World) (v1 v2 : Value) (A B : List Nat) (L : List (List UInt8)) (h1 : RW A 1 w v1 (sc L)) (h2 : RW B 1 w v2 (sc L)) (hlen : L.length ≤ 1000) :
    Calls Try.prog 55 #[v1, v2] w fun e w' => e = .returned (.bool true) ∧ ∃ q, w' = w.drewN q := by
  obtain ⟨a1, c1, rfl, r1⟩ := h1.str
  obtain ⟨a2, c2, rfl, r2⟩ := h2.str
  have R1 := hide r1
  have R2 := hide r2
  have hl := bs_toList
  clear h1 h2 r1 r2
  go_enter Try.func55, Try.ntmps55
  go_wp2_with fail
  go_loopg [5] L.length (fun k v5 wr => ∃ j q : Nat, j + k = L.length ∧ v5 = .int .i64 j ∧ wr = w.drewN q)
  case atStart => exact ⟨0, 0, by omega, rfl, rfl⟩
  case round =>
    obtain ⟨j, q, hjk, rfl, hw⟩ := hrel
    subst hw
    by_cases hlt : j < L.length
    · obtain ⟨g1, o1, rfl, hg1, k1⟩ := R1.out j hlt
      obtain ⟨g2, o2, rfl, hg2, k2⟩ := R2.out j hlt
      have hd1 : decide ((j : Int) < (L.length : Int)) = true := decide_eq_true (by omega)
      generalize L[j] = s at *
      go_wp2_with fail
      go_quiet (fail)
      go_wp2
      go_roundg (gk - 1)
      case measure => omega
      case rel => exact ⟨j + 1, _, by omega, by go_num, rfl⟩
    · have hd1 : decide ((j : Int) < (L.length : Int)) = false := decide_eq_false (by omega)
      go_wp2
      go_ret
      exact ⟨rfl, q, rfl⟩

/-- A hit that is read, wherever it lies. -/
structure HR (w : World) (g o : Nat) (x : HitM) (vb : Value) : Prop where
  lt : g < w.heap.size
  c0 : w.cell? ⟨g, o, none⟩ = some (.string (bs x.rc))
  c1 : w.cell? ⟨g, o + 1, none⟩ = some vb
  c2 : w.cell? ⟨g, o + 2, none⟩ = some (.int .i64 (x.wt : Nat))
  c3 : w.cell? ⟨g, o + 3, none⟩ = some (.int .i64 (x.ev : Nat))
  c4 : w.cell? ⟨g, o + 4, none⟩ = some (.int .i64 (x.rp : Nat))
  r : RW [] 1 w vb (sc x.bl)
theorem HR.drewN {w : World} {g o : Nat} {x : HitM} {vb : Value} (h : HR w g o x vb) (n : Nat) : HR (w.drewN n) g o x vb := ⟨h.lt, h.c0, h.c1, h.c2, h.c3, h.c4, h.r.frm (S := []) ((Frm.refl [] w).drewN n) (by simp)⟩

set_option maxRecDepth 100000 in
set_option maxHeartbeats 4000000 in
theorem sameHit_any (w : World) (g1 o1 g2 o2 : Nat) (x : HitM) (v1 v2 : Value) (h1 : HR w g1 o1 x v1) (h2 : HR w g2 o2 x v2) (hlen : x.bl.length ≤ 1000) :
    Calls Try.prog 34 #[.pointer (some ⟨g1, o1, none⟩), .pointer (some ⟨g2, o2, none⟩)] w fun e w' => e = .returned (.bool true) ∧ ∃ q, w' = w.drewN q := by
  have N1 : Hid (∀ n, Calls Try.prog 55 #[v1, v2] (w.drewN n) fun e w' => e = .returned (.bool true) ∧ ∃ q, w' = (w.drewN n).drewN q) := fun n => sameTexts_any (w.drewN n) v1 v2 [] [] x.bl (h1.drewN n).r (h2.drewN n).r hlen
  obtain ⟨a1, c1, rfl, _⟩ := h1.r.str
  obtain ⟨a2, c2, rfl, _⟩ := h2.r.str
  have p0 := h1.c0
  have p1 := h1.c1
  have p2 := h1.c2
  have p3 := h1.c3
  have p4 := h1.c4
  have q0 := h2.c0
  have q1 := h2.c1
  have q2 := h2.c2
  have q3 := h2.c3
  have q4 := h2.c4
  have hl := bs_toList
  clear h1 h2
  go_enter Try.func34, Try.ntmps34
  go_wp2_with fail
  go_quiet ((go_at_call 55; exact Calls.quiet_of (N1.out _)))
  go_wp2_with fail
  go_quiet (fail)
  go_wp2
  go_ret
  exact ⟨rfl, _, drewN_two _ _ _⟩

set_option maxRecDepth 100000 in
set_option maxHeartbeats 4000000 in
theorem sameHits_any (w : World) (v1 v2 : Value) (A B : List Nat) (cs1 cs2 : List (Array Value)) (xs : List HitM) (h1 : RW A 5 w v1 (lst cs1)) (h2 : RW B 5 w v2 (lst cs2)) (i1 : RowI hitI A w cs1 xs) (i2 : RowI hitI B w cs2 xs) (hlen : xs.length ≤ 1048576) (hx : ∀ x ∈ xs, x.bl.length ≤ 1000) :
    Calls Try.prog 19 #[v1, v2] w fun e w' => e = .returned (.bool true) ∧ ∃ q, w' = w.drewN q := by
  obtain ⟨a1, c1, rfl, r1⟩ := row_at h1 i1
  obtain ⟨a2, c2, rfl, r2⟩ := row_at h2 i2
  have R1 := hide r1
  have R2 := hide r2
  have HX := hide hx
  clear h1 h2 i1 i2 r1 r2 hx
  go_enter Try.func19, Try.ntmps19
  go_wp2_with fail
  go_loopg [5] xs.length (fun k v5 wr => ∃ j q : Nat, j + k = xs.length ∧ v5 = .int .i64 j ∧ wr = w.drewN q)
  case atStart => exact ⟨0, 0, by omega, rfl, rfl⟩
  case round =>
    obtain ⟨j, q, hjk, rfl, hw⟩ := hrel
    have HW := hide hw
    clear hw
    by_cases hlt : j < xs.length
    · obtain ⟨g1, o1, s1, rfl, hg1, _, ⟨b1, rfl, rb1⟩, k1⟩ := R1.out j hlt
      obtain ⟨g2, o2, s2, rfl, hg2, _, ⟨b2, rfl, rb2⟩, k2⟩ := R2.out j hlt
      have hd1 : decide ((j : Int) < (xs.length : Int)) = true := decide_eq_true (by omega)
      have hxl := HX.out _ (List.getElem_mem hlt)
      have H1 : HR w g1 (o1 + j * 5) xs[j] b1 := ⟨hg1, k1 0 _ rfl, k1 1 _ rfl, k1 2 _ rfl, k1 3 _ rfl, k1 4 _ rfl, rb1.avoid (by simp)⟩
      have H2 : HR w g2 (o2 + j * 5) xs[j] b2 := ⟨hg2, k2 0 _ rfl, k2 1 _ rfl, k2 2 _ rfl, k2 3 _ rfl, k2 4 _ rfl, rb2.avoid (by simp)⟩
      have K1 : HR wr g1 (o1 + j * 5) xs[j] b1 := by rw [HW.out]; exact H1.drewN q
      have K2 : HR wr g2 (o2 + j * 5) xs[j] b2 := by rw [HW.out]; exact H2.drewN q
      have N1 : Hid (∀ n, Calls Try.prog 34 #[.pointer (some ⟨g1, o1 + j * 5, none⟩), .pointer (some ⟨g2, o2 + j * 5, none⟩)] (wr.drewN n) fun e w' => e = .returned (.bool true) ∧ ∃ q', w' = (wr.drewN n).drewN q') := fun n => sameHit_any (wr.drewN n) g1 (o1 + j * 5) g2 (o2 + j * 5) xs[j] b1 b2 (K1.drewN n) (K2.drewN n) hxl
      clear H1 H2 K1 K2 k1 k2 rb1 rb2
      go_wp2_with fail
      go_quiet ((go_at_call 34; exact Calls.quiet_of (N1.out _)))
      go_wp2
      go_roundg (gk - 1)
      case measure => omega
      case rel => exact ⟨j + 1, _, by omega, by go_num, by rw [HW.out]; exact drewN_two _ _ _⟩
    · have hd1 : decide ((j : Int) < (xs.length : Int)) = false := decide_eq_false (by omega)
      go_wp2
      go_ret
      exact ⟨rfl, q, HW.out⟩
end Go.Proofs.Ythlemieldfbbfab
