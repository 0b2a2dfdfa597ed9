import Derived.Test.YtimjjlgpbkljoaaGreatB1
namespace Go.Proofs.YtimjjlgpbkljoaaGreat
open Go.RowKit
set_option linter.unusedVariables false
set_option linter.unusedSimpArgs false
set_option linter.unnecessarySimpa false

/-- No matcher of a text has an expression. -/
def noRe (t : List UInt8) : Bool :=
  match cRead t with
  | .ok (_, C) => C.all fun c => c.ifs.all fun m => !(m.2.1 == 2 || m.2.1 == 3)
  | .error _ => true
theorem noRe_rcs {t : List UInt8} (h : noRe t = true) : ∀ L C, cRead t = .ok (L, C) → ∀ c ∈ C, ∀ m ∈ c.ifs, (m.2.1 = 2 ∨ m.2.1 = 3) → RCP (fun _ => 0) (fun _ => ⟨0, [], [], []⟩) m.2.2 := by
  intro L C hr c hc m hm hk
  unfold noRe at h
  rw [hr] at h
  simp only [List.all_eq_true] at h
  have := h c hc m hm
  rcases hk with e | e <;> rw [e] at this <;> simp at this

/-- Compile at a text with no expression. -/
def OkAt (t : List UInt8) (n : Nat) : Prop := noRe t = true ∧ (cRes (fun _ => 0) t).1 = n ∧ t.length ≤ 1048576
set_option maxRecDepth 100000 in
theorem compile_at {t : List UInt8} {n : Nat} (h : OkAt t n) (w : World) :
    Calls Tryz.prog 7 #[.string (bs t)] w fun e w' => Frm [] w w' ∧ ∃ x l, e = .returned (.tuple #[.pointer x, .int .i64 n, .int .i64 l]) ∧ (x = none ↔ n ≠ 0) := by
  obtain ⟨h1, h2, h3⟩ := h
  refine (aCompile_fault _ _ t w h3 (noRe_rcs h1)).mono ?_
  rintro e w' ⟨hf, x, rfl, hx⟩
  rw [h2] at hx ⊢
  exact ⟨hf, x, _, rfl, hx⟩

def tHd : List UInt8 := [114, 101, 99, 101, 105, 118, 101, 114, 115, 32, 97, 10, 114, 111, 117, 116, 101, 32, 97, 10]
def tRt : List UInt8 := [32, 114, 111, 117, 116, 101, 32, 97, 10]
def tR8 : List UInt8 := [32, 114, 111, 117, 116, 101, 32, 97]
def tIf : List UInt8 := [32, 105, 102, 32, 120, 33, 61, 34, 34]
def tNl : List UInt8 := [10]
def tIf2 : List UInt8 := [32, 105, 102, 32, 120, 33, 61, 34, 34, 10]
def tV3 : List UInt8 := [32, 114, 111, 117, 116, 101, 32, 97, 32, 105, 102, 32, 120, 61, 34]
def tV : List UInt8 := [118]
def tQ : List UInt8 := [34, 10]
def tVQ : List UInt8 := [118, 34, 10]
def tBy4 : List UInt8 := [32, 114, 111, 117, 116, 101, 32, 97, 32, 98, 121, 32, 97, 44, 98, 44, 97, 44, 98, 10]
def tBy5 : List UInt8 := [32, 114, 111, 117, 116, 101, 32, 97, 32, 98, 121, 32, 97, 44, 98, 44, 97, 44, 98, 44, 97, 10]
def tN : List UInt8 := [110]
def tI5 : List UInt8 := [32, 114, 111, 117, 116, 101, 32, 97, 32, 105, 102, 32]
def tE : List UInt8 := [61, 34, 34, 10]
def tNE : List UInt8 := [110, 61, 34, 34, 10]
def tX : List UInt8 := [120]
def tBl : List UInt8 := [32]
def tR7 : List UInt8 := [114, 111, 117, 116, 101, 32, 97, 10]

theorem at0 : OkAt (tHd ++ repT tRt 15) 0 := ⟨by decide +kernel, by decide +kernel, by decide +kernel⟩
theorem over0 : OkAt (tHd ++ (repT tRt 15 ++ tRt)) 3 := ⟨by decide +kernel, by decide +kernel, by decide +kernel⟩
theorem at2 : OkAt (tHd ++ (tR8 ++ (repT tIf 4 ++ tNl))) 0 := ⟨by decide +kernel, by decide +kernel, by decide +kernel⟩
theorem over2 : OkAt (tHd ++ (tR8 ++ (repT tIf 4 ++ tIf2))) 2 := ⟨by decide +kernel, by decide +kernel, by decide +kernel⟩
theorem at3 : OkAt (tHd ++ (tV3 ++ (repT tV 40 ++ tQ))) 0 := ⟨by decide +kernel, by decide +kernel, by decide +kernel⟩
theorem over3 : OkAt (tHd ++ (tV3 ++ (repT tV 40 ++ tVQ))) 2 := ⟨by decide +kernel, by decide +kernel, by decide +kernel⟩
theorem at4 : OkAt (tHd ++ tBy4) 0 := ⟨by decide +kernel, by decide +kernel, by decide +kernel⟩
theorem over4 : OkAt (tHd ++ tBy5) 2 := ⟨by decide +kernel, by decide +kernel, by decide +kernel⟩
theorem at5 : OkAt (tHd ++ (tI5 ++ (repT tN 8 ++ tE))) 0 := ⟨by decide +kernel, by decide +kernel, by decide +kernel⟩
theorem over5 : OkAt (tHd ++ (tI5 ++ (repT tN 8 ++ tNE))) 2 := ⟨by decide +kernel, by decide +kernel, by decide +kernel⟩
theorem at6 : OkAt (repT tX 1200) 2 := ⟨by decide +kernel, by decide +kernel, by decide +kernel⟩
theorem over6 : OkAt (repT tX 1200 ++ tX) 1 := ⟨by decide +kernel, by decide +kernel, by decide +kernel⟩

set_option maxRecDepth 100000 in
set_option maxHeartbeats 400000 in
theorem bounds0_any (c : Int) (w : World) (h0 : -9223372036854775808 ≤ c) (h1 : c ≤ 9223372036854775807) (hp : pickZ c 7 = 0) :
    Calls Tryz.prog 4 #[.int .i64 c] w fun e w' => e = .returned (.bool true) ∧ Frm [] w w' := by
  have hsz := bs_size
  have hap := bs_append
  have k0 : ({ data := #[] } : ByteArray) = bs [] := rfl
  have ktHd : ({ data := #[114, 101, 99, 101, 105, 118, 101, 114, 115, 32, 97, 10, 114, 111, 117, 116, 101, 32, 97, 10] } : ByteArray) = bs tHd := rfl
  have ltHd : tHd.length = 20 := rfl
  have ktRt : ({ data := #[32, 114, 111, 117, 116, 101, 32, 97, 10] } : ByteArray) = bs tRt := rfl
  have ltRt : tRt.length = 9 := rfl
  have lx : (repT tRt 15).length = 135 := by rw [repT_len]; rfl
  have A := hide at0
  have O := hide over0
  go_enter Tryz.func4, Tryz.ntmps4
  go_wp2_with fail
  refine (pick_any c w h0 h1).mono ?_
  rintro e w' ⟨rfl, rfl⟩
  rw [hp]
  go_wp2_with fail
  refine (repeated_any tRt 15 _ (by decide) (by decide)).mono ?_
  rintro e w' ⟨rfl, rfl⟩
  generalize repT tRt 15 = x at *
  generalize tHd = gtHd at *
  generalize tRt = gtRt at *
  go_wp2_with fail
  refine (compile_at A.out _).mono ?_
  rintro e w1 ⟨hf1, x1, l1, rfl, hx1⟩
  have Hf1 := hide hf1
  clear hf1
  go_wp2_with fail
  refine (compile_at O.out _).mono ?_
  rintro e w2 ⟨hf2, x2, l2, rfl, hx2⟩
  have Hf2 := hide (Hf1.out.trans hf2)
  clear hf2
  go_wp2
  go_ret
  exact ⟨rfl, Hf2.out⟩

set_option maxRecDepth 100000 in
set_option maxHeartbeats 400000 in
theorem bounds2_any (c : Int) (w : World) (h0 : -9223372036854775808 ≤ c) (h1 : c ≤ 9223372036854775807) (hp : pickZ c 7 = 2) :
    Calls Tryz.prog 4 #[.int .i64 c] w fun e w' => e = .returned (.bool true) ∧ Frm [] w w' := by
  have hsz := bs_size
  have hap := bs_append
  have k0 : ({ data := #[] } : ByteArray) = bs [] := rfl
  have ktHd : ({ data := #[114, 101, 99, 101, 105, 118, 101, 114, 115, 32, 97, 10, 114, 111, 117, 116, 101, 32, 97, 10] } : ByteArray) = bs tHd := rfl
  have ltHd : tHd.length = 20 := rfl
  have ktR8 : ({ data := #[32, 114, 111, 117, 116, 101, 32, 97] } : ByteArray) = bs tR8 := rfl
  have ltR8 : tR8.length = 8 := rfl
  have ktIf : ({ data := #[32, 105, 102, 32, 120, 33, 61, 34, 34] } : ByteArray) = bs tIf := rfl
  have ltIf : tIf.length = 9 := rfl
  have ktNl : ({ data := #[10] } : ByteArray) = bs tNl := rfl
  have ltNl : tNl.length = 1 := rfl
  have ktIf2 : ({ data := #[32, 105, 102, 32, 120, 33, 61, 34, 34, 10] } : ByteArray) = bs tIf2 := rfl
  have ltIf2 : tIf2.length = 10 := rfl
  have lx : (repT tIf 4).length = 36 := by rw [repT_len]; rfl
  have A := hide at2
  have O := hide over2
  go_enter Tryz.func4, Tryz.ntmps4
  go_wp2_with fail
  refine (pick_any c w h0 h1).mono ?_
  rintro e w' ⟨rfl, rfl⟩
  rw [hp]
  go_wp2_with fail
  refine (repeated_any tIf 4 _ (by decide) (by decide)).mono ?_
  rintro e w' ⟨rfl, rfl⟩
  generalize repT tIf 4 = x at *
  generalize tHd = gtHd at *
  generalize tR8 = gtR8 at *
  generalize tIf = gtIf at *
  generalize tNl = gtNl at *
  generalize tIf2 = gtIf2 at *
  go_wp2_with fail
  refine (compile_at A.out _).mono ?_
  rintro e w1 ⟨hf1, x1, l1, rfl, hx1⟩
  have Hf1 := hide hf1
  clear hf1
  go_wp2_with fail
  refine (compile_at O.out _).mono ?_
  rintro e w2 ⟨hf2, x2, l2, rfl, hx2⟩
  have Hf2 := hide (Hf1.out.trans hf2)
  clear hf2
  go_wp2
  go_ret
  exact ⟨rfl, Hf2.out⟩

set_option maxRecDepth 100000 in
set_option maxHeartbeats 400000 in
theorem bounds3_any (c : Int) (w : World) (h0 : -9223372036854775808 ≤ c) (h1 : c ≤ 9223372036854775807) (hp : pickZ c 7 = 3) :
    Calls Tryz.prog 4 #[.int .i64 c] w fun e w' => e = .returned (.bool true) ∧ Frm [] w w' := by
  have hsz := bs_size
  have hap := bs_append
  have k0 : ({ data := #[] } : ByteArray) = bs [] := rfl
  have ktHd : ({ data := #[114, 101, 99, 101, 105, 118, 101, 114, 115, 32, 97, 10, 114, 111, 117, 116, 101, 32, 97, 10] } : ByteArray) = bs tHd := rfl
  have ltHd : tHd.length = 20 := rfl
  have ktV3 : ({ data := #[32, 114, 111, 117, 116, 101, 32, 97, 32, 105, 102, 32, 120, 61, 34] } : ByteArray) = bs tV3 := rfl
  have ltV3 : tV3.length = 15 := rfl
  have ktV : ({ data := #[118] } : ByteArray) = bs tV := rfl
  have ltV : tV.length = 1 := rfl
  have ktQ : ({ data := #[34, 10] } : ByteArray) = bs tQ := rfl
  have ltQ : tQ.length = 2 := rfl
  have ktVQ : ({ data := #[118, 34, 10] } : ByteArray) = bs tVQ := rfl
  have ltVQ : tVQ.length = 3 := rfl
  have lx : (repT tV 40).length = 40 := by rw [repT_len]; rfl
  have A := hide at3
  have O := hide over3
  go_enter Tryz.func4, Tryz.ntmps4
  go_wp2_with fail
  refine (pick_any c w h0 h1).mono ?_
  rintro e w' ⟨rfl, rfl⟩
  rw [hp]
  go_wp2_with fail
  refine (repeated_any tV 40 _ (by decide) (by decide)).mono ?_
  rintro e w' ⟨rfl, rfl⟩
  generalize repT tV 40 = x at *
  generalize tHd = gtHd at *
  generalize tV3 = gtV3 at *
  generalize tV = gtV at *
  generalize tQ = gtQ at *
  generalize tVQ = gtVQ at *
  go_wp2_with fail
  refine (compile_at A.out _).mono ?_
  rintro e w1 ⟨hf1, x1, l1, rfl, hx1⟩
  have Hf1 := hide hf1
  clear hf1
  go_wp2_with fail
  refine (compile_at O.out _).mono ?_
  rintro e w2 ⟨hf2, x2, l2, rfl, hx2⟩
  have Hf2 := hide (Hf1.out.trans hf2)
  clear hf2
  go_wp2
  go_ret
  exact ⟨rfl, Hf2.out⟩

set_option maxRecDepth 100000 in
set_option maxHeartbeats 400000 in
theorem bounds5_any (c : Int) (w : World) (h0 : -9223372036854775808 ≤ c) (h1 : c ≤ 9223372036854775807) (hp : pickZ c 7 = 5) :
    Calls Tryz.prog 4 #[.int .i64 c] w fun e w' => e = .returned (.bool true) ∧ Frm [] w w' := by
  have hsz := bs_size
  have hap := bs_append
  have k0 : ({ data := #[] } : ByteArray) = bs [] := rfl
  have ktHd : ({ data := #[114, 101, 99, 101, 105, 118, 101, 114, 115, 32, 97, 10, 114, 111, 117, 116, 101, 32, 97, 10] } : ByteArray) = bs tHd := rfl
  have ltHd : tHd.length = 20 := rfl
  have ktI5 : ({ data := #[32, 114, 111, 117, 116, 101, 32, 97, 32, 105, 102, 32] } : ByteArray) = bs tI5 := rfl
  have ltI5 : tI5.length = 12 := rfl
  have ktN : ({ data := #[110] } : ByteArray) = bs tN := rfl
  have ltN : tN.length = 1 := rfl
  have ktE : ({ data := #[61, 34, 34, 10] } : ByteArray) = bs tE := rfl
  have ltE : tE.length = 4 := rfl
  have ktNE : ({ data := #[110, 61, 34, 34, 10] } : ByteArray) = bs tNE := rfl
  have ltNE : tNE.length = 5 := rfl
  have lx : (repT tN 8).length = 8 := by rw [repT_len]; rfl
  have A := hide at5
  have O := hide over5
  go_enter Tryz.func4, Tryz.ntmps4
  go_wp2_with fail
  refine (pick_any c w h0 h1).mono ?_
  rintro e w' ⟨rfl, rfl⟩
  rw [hp]
  go_wp2_with fail
  refine (repeated_any tN 8 _ (by decide) (by decide)).mono ?_
  rintro e w' ⟨rfl, rfl⟩
  generalize repT tN 8 = x at *
  generalize tHd = gtHd at *
  generalize tI5 = gtI5 at *
  generalize tN = gtN at *
  generalize tE = gtE at *
  generalize tNE = gtNE at *
  go_wp2_with fail
  refine (compile_at A.out _).mono ?_
  rintro e w1 ⟨hf1, x1, l1, rfl, hx1⟩
  have Hf1 := hide hf1
  clear hf1
  go_wp2_with fail
  refine (compile_at O.out _).mono ?_
  rintro e w2 ⟨hf2, x2, l2, rfl, hx2⟩
  have Hf2 := hide (Hf1.out.trans hf2)
  clear hf2
  go_wp2
  go_ret
  exact ⟨rfl, Hf2.out⟩

set_option maxRecDepth 100000 in
set_option maxHeartbeats 400000 in
theorem bounds6_any (c : Int) (w : World) (h0 : -9223372036854775808 ≤ c) (h1 : c ≤ 9223372036854775807) (hp : pickZ c 7 = 6) :
    Calls Tryz.prog 4 #[.int .i64 c] w fun e w' => e = .returned (.bool true) ∧ Frm [] w w' := by
  have hsz := bs_size
  have hap := bs_append
  have k0 : ({ data := #[] } : ByteArray) = bs [] := rfl
  have ktX : ({ data := #[120] } : ByteArray) = bs tX := rfl
  have ltX : tX.length = 1 := rfl
  have lx : (repT tX 1200).length = 1200 := by rw [repT_len]; rfl
  have A := hide at6
  have O := hide over6
  go_enter Tryz.func4, Tryz.ntmps4
  go_wp2_with fail
  refine (pick_any c w h0 h1).mono ?_
  rintro e w' ⟨rfl, rfl⟩
  rw [hp]
  go_wp2_with fail
  refine (repeated_any tX 1200 _ (by decide) (by decide)).mono ?_
  rintro e w' ⟨rfl, rfl⟩
  generalize repT tX 1200 = x at *
  generalize tX = gtX at *
  go_wp2_with fail
  refine (compile_at O.out _).mono ?_
  rintro e w1 ⟨hf1, x1, l1, rfl, hx1⟩
  have Hf1 := hide hf1
  clear hf1
  go_wp2_with fail
  refine (compile_at A.out _).mono ?_
  rintro e w2 ⟨hf2, x2, l2, rfl, hx2⟩
  have Hf2 := hide (Hf1.out.trans hf2)
  clear hf2
  have e1 := hx1.2 (by decide)
  have e2 := hx2.2 (by decide)
  clear hx1 hx2
  go_wp2
  go_ret
  exact ⟨rfl, Hf2.out⟩

set_option maxRecDepth 100000 in
set_option maxHeartbeats 400000 in
theorem bounds4_any (c : Int) (w : World) (h0 : -9223372036854775808 ≤ c) (h1 : c ≤ 9223372036854775807) (hp : pickZ c 7 = 4) :
    Calls Tryz.prog 4 #[.int .i64 c] w fun e w' => e = .returned (.bool true) ∧ Frm [] w w' := by
  have hsz := bs_size
  have hap := bs_append
  have k0 : ({ data := #[] } : ByteArray) = bs [] := rfl
  have ka : ({ data := #[114, 101, 99, 101, 105, 118, 101, 114, 115, 32, 97, 10, 114, 111, 117, 116, 101, 32, 97, 10] } : ByteArray) = bs tHd := rfl
  have kb : ({ data := #[32, 114, 111, 117, 116, 101, 32, 97, 32, 98, 121, 32, 97, 44, 98, 44, 97, 44, 98, 10] } : ByteArray) = bs tBy4 := rfl
  have kc : ({ data := #[32, 114, 111, 117, 116, 101, 32, 97, 32, 98, 121, 32, 97, 44, 98, 44, 97, 44, 98, 44, 97, 10] } : ByteArray) = bs tBy5 := rfl
  have la : tHd.length = 20 := rfl
  have lb : tBy4.length = 20 := rfl
  have lc : tBy5.length = 22 := rfl
  have A := hide at4
  have O := hide over4
  generalize tHd = ga at *
  generalize tBy4 = gb at *
  generalize tBy5 = gc at *
  go_enter Tryz.func4, Tryz.ntmps4
  go_wp2_with fail
  refine (pick_any c w h0 h1).mono ?_
  rintro e w' ⟨rfl, rfl⟩
  rw [hp]
  go_wp2_with fail
  refine (compile_at A.out _).mono ?_
  rintro e w1 ⟨hf1, x1, l1, rfl, hx1⟩
  have Hf1 := hide hf1
  clear hf1
  go_wp2_with fail
  refine (compile_at O.out _).mono ?_
  rintro e w2 ⟨hf2, x2, l2, rfl, hx2⟩
  have Hf2 := hide (Hf1.out.trans hf2)
  clear hf2
  go_wp2
  go_ret
  exact ⟨rfl, Hf2.out⟩

/-- Routes that are deeper each. -/
def aT : Nat → List UInt8
  | 0 => tHd
  | n + 1 => aT n ++ (repT tBl (n + 1) ++ tR7)
theorem aT_len : ∀ n, n ≤ 5 → (aT n).length ≤ 20 + n * 13
  | 0, _ => by decide
  | n + 1, h => by
    have := aT_len n (by omega)
    have h2 : tR7.length = 8 := rfl
    have h3 : tBl.length = 1 := rfl
    simp only [aT, List.length_append, repT_len, h2, h3]; omega
theorem at1 : OkAt (aT 5) 0 := ⟨by decide +kernel, by decide +kernel, by decide +kernel⟩
theorem over1 : OkAt (aT 5 ++ (repT tBl 6 ++ tR7)) 3 := ⟨by decide +kernel, by decide +kernel, by decide +kernel⟩

set_option maxRecDepth 100000 in
set_option maxHeartbeats 1000000 in
theorem bounds1_any (c : Int) (w : World) (h0 : -9223372036854775808 ≤ c) (h1 : c ≤ 9223372036854775807) (hp : pickZ c 7 = 1) :
    Calls Tryz.prog 4 #[.int .i64 c] w fun e w' => e = .returned (.bool true) ∧ Frm [] w w' := by
  have hsz := bs_size
  have hap := bs_append
  have k0 : ({ data := #[] } : ByteArray) = bs [] := rfl
  have ka : ({ data := #[114, 101, 99, 101, 105, 118, 101, 114, 115, 32, 97, 10, 114, 111, 117, 116, 101, 32, 97, 10] } : ByteArray) = bs tHd := rfl
  have kb : ({ data := #[114, 111, 117, 116, 101, 32, 97, 10] } : ByteArray) = bs tR7 := rfl
  have la : tHd.length = 20 := rfl
  have lb : tR7.length = 8 := rfl
  have A := hide at1
  have O := hide over1
  have Ha : Hid (∀ n, aT (n + 1) = aT n ++ (repT tBl (n + 1) ++ tR7)) := fun _ => rfl
  have Ha0 : Hid (tHd = aT 0) := rfl
  have Hl := hide aT_len
  have Hr := hide repT_len
  generalize tHd = ga at *
  generalize tR7 = gb at *
  go_enter Tryz.func4, Tryz.ntmps4
  go_wp2_with fail
  refine (pick_any c w h0 h1).mono ?_
  rintro e w' ⟨rfl, rfl⟩
  rw [hp]
  go_wp2_with fail
  go_loopg [4, 7] 5 (fun k va vd wr => ∃ n : Nat, n + k = 5 ∧ vd = .int .i64 (n + 1 : Nat) ∧ va = .string (bs (aT n)) ∧ wr = w)
  case atStart => exact ⟨0, by omega, rfl, by rw [Ha0.out], rfl⟩
  case round =>
    obtain ⟨n, hn, rfl, rfl, hw⟩ := hrel
    subst hw
    by_cases hlt : n < 5
    · have hl := Hl.out n (by omega)
      have hr := Hr.out tBl (n + 1)
      have ht : tBl.length = 1 := rfl
      rw [ht] at hr
      have He := hide (Ha.out n)
      go_wp2_with fail
      refine (repeated_any tBl (n + 1) _ (by decide) (by omega)).mono ?_
      rintro e w' ⟨rfl, rfl⟩
      generalize repT tBl (n + 1) = x at *
      generalize aT n = y at *
      go_wp2
      go_roundg (gk - 1)
      case measure => omega
      case rel => exact ⟨n + 1, by omega, by go_num, by rw [He.out], rfl⟩
    · have h5 : n = 5 := by omega
      subst h5
      have hl := Hl.out 5 (by omega)
      have hr := Hr.out tBl 6
      have ht : tBl.length = 1 := rfl
      rw [ht] at hr
      go_wp2_with fail
      refine (repeated_any tBl 6 _ (by decide) (by omega)).mono ?_
      rintro e w' ⟨rfl, rfl⟩
      generalize repT tBl 6 = x at *
      generalize aT 5 = y at *
      go_wp2_with fail
      refine (compile_at A.out _).mono ?_
      rintro e w1 ⟨hf1, x1, l1, rfl, hx1⟩
      have Hf1 := hide hf1
      clear hf1
      go_wp2_with fail
      refine (compile_at O.out _).mono ?_
      rintro e w2 ⟨hf2, x2, l2, rfl, hx2⟩
      have Hf2 := hide (Hf1.out.trans hf2)
      clear hf2
      go_wp2
      go_ret
      exact ⟨rfl, Hf2.out⟩

theorem pickZ_lt (c : Int) : pickZ c 7 < 7 := by unfold pickZ; omega

theorem bounds_any (c : Int) (w : World) (h0 : -9223372036854775808 ≤ c) (h1 : c ≤ 9223372036854775807) :
    Calls Tryz.prog 4 #[.int .i64 c] w fun e w' => e = .returned (.bool true) ∧ Frm [] w w' := by
  have h := pickZ_lt c
  rcases (by omega : pickZ c 7 = 0 ∨ pickZ c 7 = 1 ∨ pickZ c 7 = 2 ∨ pickZ c 7 = 3 ∨ pickZ c 7 = 4 ∨ pickZ c 7 = 5 ∨ pickZ c 7 = 6) with e | e | e | e | e | e | e
  · exact bounds0_any c w h0 h1 e
  · exact bounds1_any c w h0 h1 e
  · exact bounds2_any c w h0 h1 e
  · exact bounds3_any c w h0 h1 e
  · exact bounds4_any c w h0 h1 e
  · exact bounds5_any c w h0 h1 e
  · exact bounds6_any c w h0 h1 e

set_option maxRecDepth 100000 in
theorem boundsLaw_any (c : Int) (w : World) (h0 : -9223372036854775808 ≤ c) (h1 : c ≤ 9223372036854775807) :
    Calls Tryz.prog 3 #[.int .i64 c] w fun e w' => e = .returned (.bool true) ∧ Frm [] w w' := by
  go_enter Tryz.func3, Tryz.ntmps3
  go_wp2_with fail
  refine (bounds_any c w h0 h1).mono ?_
  rintro e w1 ⟨rfl, hf⟩
  have Hf := hide hf
  clear hf
  go_wp2
  go_ret
  exact ⟨rfl, Hf.out⟩

end Go.Proofs.YtimjjlgpbkljoaaGreat
