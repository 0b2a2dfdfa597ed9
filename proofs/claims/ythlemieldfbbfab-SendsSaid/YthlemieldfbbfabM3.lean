import Derived.Test.YthlemieldfbbfabM2
namespace Go.Proofs.Ythlemieldfbbfab
open Go.RowKit
set_option linter.unusedVariables false
set_option linter.unusedSimpArgs false
set_option linter.unnecessarySimpa false

/-- The six rows of a program. -/
structure V6 where
  n : Value
  c : Value
  a : Value
  t : Value
  r : Value
  i : Value
/-- The loader in memory: its bytes, its place, the rows of its program. -/
def LD (w : World) (b : Nat) (t : List UInt8) (i : Nat) (V : V6) : Prop :=
  w.heap[b]? = some (.cells #[.string (bs t), .int .i64 i, V.n, V.c, V.a, V.t, V.r, V.i] 89 (0, 0)) ∧ i ≤ t.length ∧ t.length ≤ 1048576
theorem LD.c0 {w : World} {b : Nat} {t : List UInt8} {i : Nat} {V : V6} (h : LD w b t i V) : w.cell? ⟨b, 0, none⟩ = some (.string (bs t)) := by simp [World.cell?, h.1]
theorem LD.c1 {w : World} {b : Nat} {t : List UInt8} {i : Nat} {V : V6} (h : LD w b t i V) : w.cell? ⟨b, 1, none⟩ = some (.int .i64 i) := by simp [World.cell?, h.1]
theorem LD.cn {w : World} {b : Nat} {t : List UInt8} {i : Nat} {V : V6} (h : LD w b t i V) : w.cell? ⟨b, 2, none⟩ = some V.n := by simp [World.cell?, h.1]
theorem LD.cc {w : World} {b : Nat} {t : List UInt8} {i : Nat} {V : V6} (h : LD w b t i V) : w.cell? ⟨b, 3, none⟩ = some V.c := by simp [World.cell?, h.1]
theorem LD.ca {w : World} {b : Nat} {t : List UInt8} {i : Nat} {V : V6} (h : LD w b t i V) : w.cell? ⟨b, 4, none⟩ = some V.a := by simp [World.cell?, h.1]
theorem LD.ct {w : World} {b : Nat} {t : List UInt8} {i : Nat} {V : V6} (h : LD w b t i V) : w.cell? ⟨b, 5, none⟩ = some V.t := by simp [World.cell?, h.1]
theorem LD.cr {w : World} {b : Nat} {t : List UInt8} {i : Nat} {V : V6} (h : LD w b t i V) : w.cell? ⟨b, 6, none⟩ = some V.r := by simp [World.cell?, h.1]
theorem LD.ci {w : World} {b : Nat} {t : List UInt8} {i : Nat} {V : V6} (h : LD w b t i V) : w.cell? ⟨b, 7, none⟩ = some V.i := by simp [World.cell?, h.1]
theorem LD.fz {w : World} {b : Nat} {t : List UInt8} {i : Nat} {V : V6} (h : LD w b t i V) (o : Nat) : w.frozen? ⟨b, o, none⟩ = false := by simp [World.frozen?, h.1]
theorem LD.lt {w : World} {b : Nat} {t : List UInt8} {i : Nat} {V : V6} (h : LD w b t i V) : b < w.heap.size := (Array.getElem?_eq_some_iff.1 h.1).1
theorem LD.frm {S : List Nat} {w w' : World} {b : Nat} {t : List UInt8} {i : Nat} {V : V6} (h : LD w b t i V) (f : Frm S w w') (hS : b ∉ S) : LD w' b t i V := ⟨(f.block b h.lt hS).trans h.1, h.2⟩
theorem LD.grown {w w' : World} {b : Nat} {t : List UInt8} {i : Nat} {V : V6} {row : Option Nat} (h : LD w b t i V) (hg : w.grownBy w' row) (hr : ∀ r, row = some r → r ≠ b) : LD w' b t i V := ⟨(hg.block b h.lt (fun e => hr b e.symm rfl)).trans h.1, h.2⟩
theorem LD.drewN {w : World} {b : Nat} {t : List UInt8} {i : Nat} {V : V6} (n : Nat) (h : LD w b t i V) : LD (w.drewN n) b t i V := h
theorem LD.at_ {w : World} {b : Nat} {t : List UInt8} {i : Nat} {V : V6} (h : LD w b t i V) (j : Nat) (hj : j ≤ t.length) : LD (w.setCell ⟨b, 1, none⟩ (.int .i64 j)) b t j V := by
  refine ⟨?_, hj, h.2.2⟩
  simp [World.setCell, Array.getElem?_modify, h.1]
theorem LD.setN {w : World} {b : Nat} {t : List UInt8} {i : Nat} {V : V6} (h : LD w b t i V) (v : Value) : LD (w.setCell ⟨b, 2, none⟩ v) b t i { V with n := v } := by
  refine ⟨?_, h.2⟩
  simp [World.setCell, Array.getElem?_modify, h.1]
theorem LD.setC {w : World} {b : Nat} {t : List UInt8} {i : Nat} {V : V6} (h : LD w b t i V) (v : Value) : LD (w.setCell ⟨b, 3, none⟩ v) b t i { V with c := v } := by
  refine ⟨?_, h.2⟩
  simp [World.setCell, Array.getElem?_modify, h.1]
theorem LD.setA {w : World} {b : Nat} {t : List UInt8} {i : Nat} {V : V6} (h : LD w b t i V) (v : Value) : LD (w.setCell ⟨b, 4, none⟩ v) b t i { V with a := v } := by
  refine ⟨?_, h.2⟩
  simp [World.setCell, Array.getElem?_modify, h.1]
theorem LD.setT {w : World} {b : Nat} {t : List UInt8} {i : Nat} {V : V6} (h : LD w b t i V) (v : Value) : LD (w.setCell ⟨b, 5, none⟩ v) b t i { V with t := v } := by
  refine ⟨?_, h.2⟩
  simp [World.setCell, Array.getElem?_modify, h.1]
theorem LD.setR {w : World} {b : Nat} {t : List UInt8} {i : Nat} {V : V6} (h : LD w b t i V) (v : Value) : LD (w.setCell ⟨b, 6, none⟩ v) b t i { V with r := v } := by
  refine ⟨?_, h.2⟩
  simp [World.setCell, Array.getElem?_modify, h.1]
theorem LD.setI {w : World} {b : Nat} {t : List UInt8} {i : Nat} {V : V6} (h : LD w b t i V) (v : Value) : LD (w.setCell ⟨b, 7, none⟩ v) b t i { V with i := v } := by
  refine ⟨?_, h.2⟩
  simp [World.setCell, Array.getElem?_modify, h.1]

/-- What was asked for was taken, and this is left; or it is not there. -/
def PO {α : Type} (ok : Bool) (p : PT α) (s : List UInt8) (x : α) (s' : List UInt8) : Prop := (ok = true ∧ p s = some (x, s')) ∨ (ok = false ∧ p s = none)

set_option maxRecDepth 100000 in
set_option maxHeartbeats 2000000 in
theorem takeNumber_any (b : Nat) (t : List UInt8) (i : Nat) (V : V6) (n lo hi : Nat) (sz le mo : Int) (w : World) (h : LD w b t i V) (hn : n ≤ 3) (hlo : lo ≤ 1000000) (hhi : hi ≤ 1000000) (hsz : sz = (n : Int)) (hle : le = (lo : Int)) (hmo : mo = (hi : Int) - 1) :
    Calls Try.prog 59 #[.pointer (some ⟨b, 0, none⟩), .int .i64 sz, .int .i64 le, .int .i64 mo] w fun e w' => ∃ (i' v : Nat) (ok : Bool), e = .returned (.tuple #[.int .i64 v, .bool ok]) ∧ LD w' b t i' V ∧ Frm [b] w w' ∧ PO ok (pN n lo hi) (t.drop i) v (t.drop i') ∧ v < 16777216 := by
  subst hsz hle hmo
  have H1 := hide h
  have c0 := h.c0
  have c1 := h.c1
  have z := h.fz 1
  have hi1 := h.2.1
  have ht := h.2.2
  have hsz := bs_size t
  clear h
  by_cases hlen : t.length - i < n
  · have hd1 : decide ((t.length : Int) - (i : Int) < (n : Int)) = true := decide_eq_true (by omega)
    have HP : Hid (pN n lo hi (t.drop i) = none) := by
      show _ = _; unfold pN; rw [if_neg]; rw [List.length_drop]; omega
    go_enter Try.func59, Try.ntmps59
    go_wp2_with fail
    go_quiet (fail)
    go_wp2
    go_ret2
    exact ⟨i, 0, false, rfl, H1.out.drewN _, (Frm.refl _ _).drewN _, .inr ⟨rfl, HP.out⟩, by omega⟩
  · have hd1 : decide ((t.length : Int) - (i : Int) < (n : Int)) = false := decide_eq_false (by omega)
    go_enter Try.func59, Try.ntmps59
    go_wp2_with fail
    go_quiet (fail)
    go_wp2_with fail
    clear c1 z
    go_loopg [10, 11] n (fun k v10 v11 wr => ∃ j q : Nat, j + k = n ∧ q = i + j ∧ v11 = .int .i64 j ∧ v10 = .int .i64 (nmV ((t.drop i).take j)) ∧ LD wr b t q V ∧ Frm [b] w wr)
    case atStart => exact ⟨0, i, by omega, rfl, rfl, rfl, H1.out.drewN _, (Frm.refl _ _).drewN _⟩
    case round =>
      obtain ⟨j, q, hjk, hq, rfl, rfl, hld, hfr⟩ := hrel
      have L := hide hld
      have F := hide hfr
      have q0 := hld.c0
      have q1 := hld.c1
      have z := hld.fz 1
      clear hld hfr
      by_cases hlt : j < n
      · have hij : q < t.length := by omega
        have hbg : (bs t)[q]'(by rw [hsz]; omega) = t[q] := rfl
        have HT : Hid (nmV ((t.drop i).take (j + 1)) = nmV ((t.drop i).take j) * 256 + t[q].toNat) := by
          show _ = _
          have : (t.drop i).take (j + 1) = (t.drop i).take j ++ [t[q]] := by
            rw [List.take_add_one, List.getElem?_drop, ← hq, List.getElem?_eq_getElem hij]; rfl
          rw [this, nmV_snoc]
        have hb := nmV_lt j ((t.drop i).take j) (by rw [List.length_take, List.length_drop]; omega)
        have hb2 : 256 ^ j ≤ 256 ^ 2 := Nat.pow_le_pow_right (by omega) (by omega)
        have hx8 := (t[q]).toNat_lt
        generalize t[q] = x at *
        generalize nmV ((t.drop i).take j) = m at *
        generalize 256 ^ j = p at *
        have hm : m < 65536 := by omega
        have HQ := hide hq
        have hq2 : q + 1 ≤ t.length := by omega
        clear hq hb hb2
        go_wp2_with fail
        go_quiet (fail)
        go_wp2_with fail
        go_roundg (gk - 1)
        case measure => omega
        case rel =>
          refine ⟨j + 1, q + 1, by omega, by have := HQ.out; omega, by go_num, ?_, (L.out.drewN _).at_ (q + 1) (by omega), (F.out.drewN _).setCell (p := ⟨b, 1, none⟩) (.inl (by simp)) _⟩
          rw [HT.out]; go_num
      · have hjn : j = n := by omega
        subst hjn
        have hb := nmV_lt j ((t.drop i).take j) (by rw [List.length_take, List.length_drop]; omega)
        have hb2 : 256 ^ j ≤ 256 ^ 3 := Nat.pow_le_pow_right (by omega) (by omega)
        have HP : Hid (PO (decide (lo ≤ nmV ((t.drop i).take j)) && decide (nmV ((t.drop i).take j) < hi)) (pN j lo hi) (t.drop i) (nmV ((t.drop i).take j)) (t.drop q)) := by
          show PO _ _ _ _ _
          unfold PO pN
          by_cases h1 : lo ≤ nmV ((t.drop i).take j)
          · by_cases h2 : nmV ((t.drop i).take j) < hi
            · left; rw [if_pos ⟨by rw [List.length_drop]; omega, h1, h2⟩]; rw [hq]; simp [h1, h2, List.drop_drop]
            · right; rw [if_neg (by omega)]; simp [h2]
          · right; rw [if_neg (by omega)]; simp [h1]
        generalize nmV ((t.drop i).take j) = m at *
        generalize 256 ^ j = p at *
        have hm : m < 16777216 := by omega
        have HQ := hide hq
        clear hq hb hb2
        by_cases h1 : lo ≤ m
        · have hd2 : decide ((lo : Int) ≤ (m : Int)) = true := decide_eq_true (by omega)
          have e1 : decide ((m : Int) ≤ (hi : Int) - 1) = decide (m < hi) := by rw [Bool.eq_iff_iff, decide_eq_true_iff, decide_eq_true_iff]; omega
          go_wp2
          go_ret2
          refine ⟨q, m, _, rfl, L.out, F.out, ?_, by omega⟩
          have := HP.out
          rw [decide_eq_true h1, Bool.true_and] at this
          first | exact this | (rw [e1]; exact this)
        · have hd2 : decide ((lo : Int) ≤ (m : Int)) = false := decide_eq_false (by omega)
          go_wp2
          go_ret2
          refine ⟨q, m, _, rfl, L.out, F.out, ?_, by omega⟩
          have := HP.out
          rw [decide_eq_false h1] at this
          exact this
end Go.Proofs.Ythlemieldfbbfab
