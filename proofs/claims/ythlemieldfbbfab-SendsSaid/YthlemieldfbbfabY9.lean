import Derived.Test.YthlemieldfbbfabL2
import Derived.Test.YthlemieldfbbfabCK
namespace Go.Proofs.Ythlemieldfbbfab
open Go.RowKit
set_option linter.unusedVariables false
set_option linter.unusedSimpArgs false
set_option linter.unnecessarySimpa false

/-- How many letters and labels, counted while they are few. -/
def szL : Nat → List LBL → Nat
  | n, [] => n
  | n, x :: r => if n ≤ 16384 then szL (n + x.1.length + x.2.length) r else n
theorem szL_le : ∀ (L : List LBL) (n : Nat), n ≤ szL n L
  | [], n => Nat.le_refl _
  | x :: r, n => by
    unfold szL
    split
    · have := szL_le r (n + x.1.length + x.2.length)
      omega
    · exact Nat.le_refl _
theorem szL_all : ∀ (L : List LBL) (n : Nat), szL n L ≤ 16384 → ∀ x ∈ L, x.1.length ≤ 16384 ∧ x.2.length ≤ 16384
  | [], n, _ => by simp
  | y :: r, n, h => by
    have hn := Nat.le_trans (szL_le (y :: r) n) h
    unfold szL at h
    rw [if_pos hn] at h
    have h2 := szL_le r (n + y.1.length + y.2.length)
    intro x hx
    rcases List.mem_cons.1 hx with rfl | hx
    · omega
    · exact szL_all r _ h x hx
/-- Labels that are read, however many. -/
def LQ (w : World) (a : Option Addr) (L : List LBL) : Prop :=
  ∀ (j : Nat) (h : j < L.length), ∃ g off, a = some ⟨g, off, none⟩ ∧ g < w.heap.size ∧ w.cell? ⟨g, off + j * 2, none⟩ = some (.string (bs L[j].1)) ∧ w.cell? ⟨g, off + j * 2 + 1, none⟩ = some (.string (bs L[j].2))
theorem LQ.lr {w : World} {a : Option Addr} {L : List LBL} (h : LQ w a L) (cap : Nat) (hl : L.length ≤ 1048576) : LR w (.slice a L.length cap) L := ⟨a, cap, rfl, hl, h⟩
theorem LQ.frm {w w' : World} {a : Option Addr} {L : List LBL} (h : LQ w a L) (f : Frm [] w w') : LQ w' a L := by
  intro j hj
  obtain ⟨g, off, rfl, h2, h3, h4⟩ := h j hj
  exact ⟨g, off, rfl, Nat.lt_of_lt_of_le h2 f.size, (f.cell (p := ⟨g, off + j * 2, none⟩) h2 (by simp)).trans h3, (f.cell (p := ⟨g, off + j * 2 + 1, none⟩) h2 (by simp)).trans h4⟩

set_option maxRecDepth 100000 in
set_option maxHeartbeats 2000000 in
theorem size_any (w : World) (a : Option Addr) (cap : Nat) (L : List LBL) (h : LQ w a L) (hN : L.length ≤ 4398046511104) (hs : ∀ x ∈ L, x.1.length ≤ 140737488355328 ∧ x.2.length ≤ 140737488355328) :
    Calls Try.prog 12 #[.slice a L.length cap] w fun e w' => e = .returned (.int .i64 (szL L.length L : Nat)) ∧ ∃ q, w' = w.drewN q := by
  have H := hide h
  have HS := hide hs
  have hl := bs_toList
  have hz := bs_size
  clear h hs
  go_enter Try.func12, Try.ntmps12
  go_wp2_with fail
  go_loopg [3, 4] L.length (fun k v3 v4 wr => ∃ j n q : Nat, j + k = L.length ∧ v4 = .int .i64 j ∧ v3 = .int .i64 n ∧ n ≤ 562949953421312 ∧ wr = w.drewN q ∧ Hid (szL n (L.drop j) = szL L.length L))
  case atStart => exact ⟨0, L.length, 0, by omega, rfl, rfl, by omega, rfl, by show _ = _; simp⟩
  case round =>
    obtain ⟨j, n, q, hjk, rfl, rfl, hn, hw, HF⟩ := hrel
    subst hw
    by_cases hlt : j < L.length
    · have hd1 : decide ((j : Int) < (L.length : Int)) = true := decide_eq_true (by omega)
      by_cases hn2 : n ≤ 16384
      · have hd2 : decide ((n : Int) ≤ 16384) = true := decide_eq_true (by omega)
        have hd2' : decide (n ≤ 16384) = true := decide_eq_true hn2
        obtain ⟨g, off, rfl, hg, hc1, hc2⟩ := H.out j hlt
        have hx := HS.out L[j] (List.getElem_mem hlt)
        have HF2 : Hid (szL (n + L[j].1.length + L[j].2.length) (L.drop (j + 1)) = szL L.length L) := by
          show _ = _
          rw [← HF.out, List.drop_eq_getElem_cons hlt, szL, if_pos hn2]
        clear HF
        generalize L[j] = x at *
        obtain ⟨nm, vl⟩ := x
        simp only at hc1 hc2 hx HF2
        have hz1 := bs_size nm
        have hz2 := bs_size vl
        go_wp2_with fail
        go_quiet (fail)
        go_wp2
        go_roundg (gk - 1)
        case measure => omega
        case rel => exact ⟨j + 1, n + nm.length + vl.length, _, by omega, by go_num, by go_num, by omega, rfl, HF2⟩
      · have hd2 : decide ((n : Int) ≤ 16384) = false := decide_eq_false (by omega)
        have hd2' : decide (n ≤ 16384) = false := decide_eq_false hn2
        have HV : Hid (szL L.length L = n) := by
          show _ = _
          rw [← HF.out, List.drop_eq_getElem_cons hlt, szL, if_neg hn2]
        clear HF
        go_wp2
        go_ret
        rw [HV.out]
        exact ⟨rfl, q, rfl⟩
    · have hd1 : decide ((j : Int) < (L.length : Int)) = false := decide_eq_false (by omega)
      have HV : Hid (szL L.length L = n) := by
        show _ = _
        rw [← HF.out, List.drop_eq_nil_of_le (by omega), szL]
      clear HF
      go_wp2
      go_ret
      rw [HV.out]
      exact ⟨rfl, q, rfl⟩

theorem szL_max : ∀ (L : List LBL) (n : Nat), n ≤ 562949953421312 → (∀ x ∈ L, x.1.length ≤ 140737488355328 ∧ x.2.length ≤ 140737488355328) → szL n L ≤ 562949953421312
  | [], n, h, _ => h
  | x :: r, n, h, hs => by
    unfold szL
    have := hs x (by simp)
    split
    · exact szL_max r _ (by omega) (fun y hy => hs y (by simp [hy]))
    · exact h

set_option maxRecDepth 100000 in
set_option maxHeartbeats 2000000 in
theorem much_any (w : World) (t : List UInt8) (ht : t.length ≤ 140737488355328) (a : Option Addr) (cap : Nat) (L : List LBL) (h : LQ w a L) (hN : L.length ≤ 4398046511104) (hs : ∀ x ∈ L, x.1.length ≤ 140737488355328 ∧ x.2.length ≤ 140737488355328) :
    Calls Try.prog 7 #[.string (bs t), .slice a L.length cap] w fun e w' => e = .returned (.bool (decide (16384 < t.length + szL L.length L))) ∧ ∃ q, w' = w.drewN q := by
  have N1 := hide (size_any w a cap L h hN hs)
  have hm := szL_max L L.length (by omega) hs
  have hz := bs_size t
  clear h hs
  generalize szL L.length L = S at *
  cases hd : decide (16384 < t.length + S)
  · have hle : ¬ 16384 < t.length + S := of_decide_eq_false hd
    have hd2 : decide ((16384 : Int) < (t.length : Int) + (S : Int)) = false := decide_eq_false (by omega)
    go_enter Try.func7, Try.ntmps7
    go_wp2_with fail
    refine (N1.out).mono ?_
    clear N1
    rintro e w1 ⟨rfl, q, rfl⟩
    go_wp2
    go_ret
    exact ⟨rfl, q, rfl⟩
  · have hle : 16384 < t.length + S := of_decide_eq_true hd
    have hd2 : decide ((16384 : Int) < (t.length : Int) + (S : Int)) = true := decide_eq_true (by omega)
    go_enter Try.func7, Try.ntmps7
    go_wp2_with fail
    refine (N1.out).mono ?_
    clear N1
    rintro e w1 ⟨rfl, q, rfl⟩
    go_wp2
    go_ret
    exact ⟨rfl, q, rfl⟩
end Go.Proofs.Ythlemieldfbbfab
