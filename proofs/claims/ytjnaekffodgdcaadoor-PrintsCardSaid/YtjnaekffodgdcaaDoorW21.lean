import Derived.Test.YtjnaekffodgdcaaDoorW20
import Derived.Test.YtjnaekffodgdcaaDoorShelf
namespace Go.Proofs.YtjnaekffodgdcaaDoor
open Go.RowKit
set_option linter.unusedVariables false
set_option linter.unusedSimpArgs false
set_option linter.unnecessarySimpa false

/-- The library's table of the powers of ten reads as it is laid. -/
def Tab (w : World) : Prop := Lib.TabIs Tryd.prog w "internal/strconv.uint64pow10" .u64 Lib.pow10Tab
theorem gPow : Tryd.prog.globalNamed "internal/strconv.uint64pow10" = some 0 := by kernel_rfl
theorem Tab.frm {S : List Nat} {w w' : World} (h : Tab w) (f : Frm S w w') (hS : 0 ∉ S) : Tab w' := by
  have hlt : 0 < w.heap.size := World.block_lt_of_cell? w _ (h.cell gPow 0 (by decide))
  unfold Tab Lib.TabIs at *
  rw [← h]
  simp only [World.var?, gPow, Option.bind_some, f.block 0 hlt hS]
theorem Frm.of_grow' {w : World} (k : Nat) (os : Array Obj) : Frm [] w (Sort.grow (w.drewN k) os) :=
  ⟨rfl, rfl, rfl, by rw [Sort.size_grow]; show w.heap.size ≤ w.heap.size + os.size; omega, fun i hi _ => Sort.heap_grow_old (w.drewN k) os hi⟩

def timeT (wd : List UInt8) (n : Int) : List UInt8 := if n = -1 then [] else wd ++ Lib.itoa n
theorem dec_len : ∀ (k n : Nat), n < 10 ^ (k + 1) → (Lib.decDigits n).length ≤ k + 1
  | 0, n, h => by rw [Lib.decDigits, dif_pos (by simpa using h)]; simp
  | k + 1, n, h => by
    rw [Lib.decDigits]
    split
    · simp
    · have := dec_len k (n / 10) (by rw [Nat.pow_succ] at h; omega)
      simp; omega
theorem itoa_len (n : Int) (h0 : 0 ≤ n) (h1 : n ≤ 99999) : (Lib.itoa n).length ≤ 5 := by
  unfold Lib.itoa; rw [if_neg (by omega)]; exact dec_len 4 _ (by omega)

set_option maxRecDepth 100000 in
set_option maxHeartbeats 1000000 in
theorem printTime_any (wd : List UInt8) (n : Int) (w : World) (ht : Tab w) (h0 : -1 ≤ n) (h1 : n ≤ 99999) (hw : wd.length ≤ 10) :
    Calls Tryd.prog 31 #[.string (bs wd), .int .i64 n] w fun e w' => e = .returned (.string (bs (timeT wd n))) ∧ Frm [] w w' := by
  have HT : Hid (Tab w) := ht
  clear ht
  cases hn : (n == -1)
  · have hne : n ≠ -1 := by simpa using hn
    have Hx : Hid (timeT wd n = wd ++ Lib.itoa n) := by show _ = _; unfold timeT; rw [if_neg hne]
    have hl := itoa_len n (by omega) h1
    have hsz := bs_size
    have hap := bs_append
    go_enter Tryd.func31, Tryd.ntmps31
    go_wp2_with fail
    refine (Tryd.strconv_Itoa n (by omega) (by omega) _ HT.out).mono ?_
    rintro e w' ⟨rfl, k, os, rfl⟩
    have hbs : (⟨(Lib.itoa n).toArray⟩ : ByteArray) = bs (Lib.itoa n) := rfl
    rw [hbs]
    generalize Lib.itoa n = it at *
    clear hbs
    go_wp2
    go_ret
    rw [Hx.out]
    exact ⟨rfl, Frm.of_grow' k os⟩
  · have hne : n = -1 := by simpa using hn
    have Hx : Hid (timeT wd n = []) := by show _ = _; unfold timeT; rw [if_pos hne]
    go_enter Tryd.func31, Tryd.ntmps31
    go_wp2
    go_ret
    rw [Hx.out]
    exact ⟨rfl, Frm.refl _ _⟩

def matT (m : CM) : List UInt8 := m.1 ++ kindT m.2.1 ++ quoteV m.2.2
theorem kindT_len (k : Nat) : (kindT k).length ≤ 2 := by
  unfold kindT
  split
  · simp
  split
  · simp
  split <;> simp
theorem quoteV_len (v : List UInt8) : (quoteV v).length ≤ 4 * v.length + 2 := by
  unfold quoteV; have := quoteL_len v; simp at this ⊢; omega

set_option maxRecDepth 100000 in
set_option maxHeartbeats 1000000 in
theorem printMatcher_any (m : CM) (w : World) (hg : GoodM m) :
    Calls Tryd.prog 32 #[.agg #[.string (bs m.1), .int .i64 m.2.1, .string (bs m.2.2)]] w fun e w' => e = .returned (.string (bs (matT m))) ∧ Frm [] w w' := by
  obtain ⟨n, k, v⟩ := m
  have h1 := isNameL_len hg.name
  have h2 := hg.kind
  have h3 := hg.val
  have h4 := kindT_len k
  have h5 := quoteV_len v
  simp only at h1 h2 h3
  clear hg
  have hsz := bs_size
  have hap := bs_append
  have Hx : Hid (matT (n, k, v) = n ++ kindT k ++ quoteV v) := rfl
  go_enter Tryd.func32, Tryd.ntmps32
  go_wp2_with fail
  refine (printKind_any k _ h2).mono ?_
  rintro e w' ⟨rfl, rfl⟩
  generalize kindT k = kt at *
  generalize hq : quoteV v = qt at *
  have Hq : Hid (quoteV v = qt) := hq
  clear hq
  have n1 : ¬ (9223372036854775807 < n.length + kt.length) := by omega
  have n2 : ¬ (9223372036854775807 < n.length + kt.length + qt.length) := by omega
  go_wp2_with fail
  go_region_with (go_at_call 38; refine (printValue_any v _ h3).mono ?_; rintro e w' ⟨rfl, hf⟩; rw [Hq.out]; have q0 := hf.cell (p := ⟨w.heap.size, 0, none⟩) (by simp) (by simp); have Hf := hide hf; clear hf)
  all_goals
    go_wp2
    go_ret
    rw [Hx.out]
    exact ⟨ret_str (by simp), ((((Frm.refl _ _).alloc _).drew).trans Hf.out)⟩

end Go.Proofs.YtjnaekffodgdcaaDoor
