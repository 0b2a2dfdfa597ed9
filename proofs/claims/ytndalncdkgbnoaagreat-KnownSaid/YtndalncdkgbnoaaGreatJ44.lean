import Derived.Test.YtndalncdkgbnoaaGreatJ41
import Derived.Test.YtndalncdkgbnoaaGreatJ40
import Derived.Test.YtndalncdkgbnoaaGreatJ43
import Derived.Test.YtndalncdkgbnoaaGreatRows
import Derived.ProofKit
import Derived.OpenShut
import Derived.DataShut
set_option linter.unusedVariables false
set_option linter.unusedSimpArgs false
set_option linter.unnecessarySimpa false
namespace Go.Proofs.YtndalncdkgbnoaaGreat
open Go.RowKit

def decK : Nat → Nat → List UInt8
  | 0, _ => []
  | f + 1, n => if n < 10 then [UInt8.ofNat (48 + n % 10)] else decK f (n / 10) ++ [UInt8.ofNat (48 + n % 10)]
theorem decK_len : ∀ f n, (decK f n).length ≤ f
  | 0, _ => Nat.le_refl _
  | f + 1, n => by
    rw [decK]
    split
    · simp
    · have := decK_len f (n / 10); simp; omega
theorem kconv_one (w : World) (c : UInt8) : (convert 84 9 (.slice (some ⟨w.heap.size, 0, none⟩) 1 1)).run Tryz.prog (w.alloc (.cells #[.int .u8 c.toNat] 5)) = .ok (.string (bs [c])) (w.alloc (.cells #[.int .u8 c.toNat] 5)) := by
  have := run_convert_bytes_back (P := Tryz.prog) (w.alloc (.cells #[.int .u8 c.toNat] 5)) 84 9 5 ⟨w.heap.size, 0, none⟩ 1 [c] Tryz.underlying84 Tryz.underlying5 Tryz.underlying9 (fun j hj => by
    have : j = 0 := by simp at hj; exact hj
    subst this
    rw [add0]; unfold World.cell?; simp only [heap1]; rfl)
  exact this

set_option maxRecDepth 100000 in
set_option maxHeartbeats 1000000 in
theorem kdecimal_any : ∀ (f n : Nat) (w : World), n < 10 ^ (f + 1) → f ≤ 5 →
    Calls Tryz.prog 15 #[.int .i64 n] w fun e w' => e = .returned (.string (bs (decK (f + 1) n))) ∧ Frm [] w w' := by
  intro f
  induction f with
  | zero =>
    intro n w hn _
    have h10 : n < 10 := by simpa using hn
    have hb : Hid ((UInt8.ofNat (48 + n % 10)).toNat = 48 + n % 10) := by
      show _ = _; simp; omega
    have hcv := kconv_one w (UInt8.ofNat (48 + n % 10))
    rw [hb.out] at hcv
    have hcast : ((48 + n % 10 : Nat) : Int) = 48 + (n : Int) % 10 := by omega
    rw [hcast] at hcv
    have Hx : Hid (decK (0 + 1) n = [UInt8.ofNat (48 + n % 10)]) := by
      show _ = _; rw [decK, if_pos h10]
    generalize UInt8.ofNat (48 + n % 10) = d at *
    go_enter Tryz.func15, Tryz.ntmps15
    go_wp2
    go_ret
    rw [Hx.out]
    exact ⟨rfl, (Frm.refl _ _).alloc _⟩
  | succ f ih =>
    intro n w hn hf5
    have IH := hide ih
    clear ih
    have hn6 : n < 10 ^ 7 := Nat.lt_of_lt_of_le hn (Nat.pow_le_pow_right (by omega) (by omega))
    have hb : Hid ((UInt8.ofNat (48 + n % 10)).toNat = 48 + n % 10) := by
      show _ = _; simp; omega
    have hcv := kconv_one w (UInt8.ofNat (48 + n % 10))
    rw [hb.out] at hcv
    have hcast : ((48 + n % 10 : Nat) : Int) = 48 + (n : Int) % 10 := by omega
    rw [hcast] at hcv
    have hsz := bs_size
    have hap := bs_append
    have hn1 : n / 10 < 10 ^ (f + 1) := by rw [Nat.pow_succ] at hn; omega
    by_cases h10 : n < 10
    · have Hx : Hid (decK (f + 1 + 1) n = [UInt8.ofNat (48 + n % 10)]) := by
        show _ = _; rw [decK, if_pos h10]
      clear hn hn1
      generalize UInt8.ofNat (48 + n % 10) = d at *
      go_enter Tryz.func15, Tryz.ntmps15
      go_wp2
      go_ret
      rw [Hx.out]
      exact ⟨rfl, (Frm.refl _ _).alloc _⟩
    · have Hx : Hid (decK (f + 1 + 1) n = decK (f + 1) (n / 10) ++ [UInt8.ofNat (48 + n % 10)]) := by
        show _ = _; rw [decK, if_neg h10]
      have hdl := decK_len (f + 1) (n / 10)
      have N1 : Hid (∀ W, Calls Tryz.prog 15 #[.int .i64 ((n : Int) / 10)] W fun e w' => e = .returned (.string (bs (decK (f + 1) (n / 10)))) ∧ Frm [] W w') := fun W => by
        have := IH.out (n / 10) W hn1 (by omega)
        rw [show ((n / 10 : Nat) : Int) = (n : Int) / 10 by omega] at this
        exact this
      clear hn hn1 IH
      generalize UInt8.ofNat (48 + n % 10) = d at *
      generalize decK (f + 1) (n / 10) = ds at *
      go_enter Tryz.func15, Tryz.ntmps15
      go_wp2_with fail
      refine (N1.out _).mono ?_
      clear N1
      rintro e w2 ⟨rfl, hf⟩
      have Hf := hide (((Frm.refl [] w).alloc _).trans hf)
      clear hf
      go_wp2
      go_ret
      rw [Hx.out]
      exact ⟨rfl, Hf.out⟩
def tldH (h : HitM) : List UInt8 := h.rc ++ ((h.bl.flatMap fun b => 32 :: b) ++ (32 :: (decK 6 h.wt ++ (32 :: (decK 6 h.ev ++ (32 :: (decK 6 h.rp ++ [59])))))))
def tldL (l : List HitM) : List UInt8 := l.flatMap tldH
theorem bl_len : ∀ (B : List (List UInt8)), (∀ n ∈ B, n.length ≤ 8) → (B.flatMap fun b => 32 :: b).length ≤ 9 * B.length
  | [], _ => by simp
  | b :: B, h => by
    have h1 := bl_len B (fun n hn => h n (by simp [hn]))
    have h2 := h b (by simp)
    rw [List.flatMap_cons, List.length_append, List.length_cons, List.length_cons]; omega
theorem tldH_len {h : HitM} (ok : HitOK h) : (tldH h).length ≤ 200 := by
  have h1 := bl_len h.bl (fun n hn => by have := (ok.b2 n hn).1; omega)
  have h2 := ok.rc.1
  have h3 := ok.b1
  have a := decK_len 6 h.wt
  have b := decK_len 6 h.ev
  have c := decK_len 6 h.rp
  unfold tldH
  simp only [List.length_append, List.length_cons, List.length_nil]
  omega
theorem tldL_len : ∀ (l : List HitM), (∀ h ∈ l, HitOK h) → (tldL l).length ≤ 200 * l.length
  | [], _ => by simp [tldL]
  | h :: l, ok => by
    have h1 := tldL_len l (fun x hx => ok x (by simp [hx]))
    have h2 := tldH_len (ok h (by simp))
    unfold tldL at h1 ⊢
    rw [List.flatMap_cons, List.length_append, List.length_cons]; omega

set_option maxRecDepth 100000 in
set_option maxHeartbeats 8000000 in
theorem told_any (w : World) (v : Value) (hs : List HitM) (h : HRS w v hs) (hlen : hs.length ≤ 100) (hok : ∀ x ∈ hs, HitOK x) :
    Calls Tryz.prog 10 #[v] w fun e w' => e = .returned (.string (bs (tldL hs))) ∧ Frm [] w w' := by
  obtain ⟨a, cap, rfl, hc, hr⟩ := h
  have H : Hid (HRS w (.slice a hs.length cap) hs) := ⟨a, cap, rfl, hc, hr⟩
  have OK := hide hok
  have HLL : Hid (∀ j, j ≤ hs.length → (tldL (hs.take j)).length ≤ 20000) := by
    intro j hj
    have := tldL_len (hs.take j) (fun x hx => OK.out x (List.mem_of_mem_take hx))
    simp at this
    omega
  have HST : Hid (∀ j (hj : j < hs.length), tldL (hs.take (j + 1)) = tldL (hs.take j) ++ tldH hs[j]) := by
    intro j hj
    unfold tldL
    rw [List.take_succ_eq_append_getElem hj, List.flatMap_append]; simp
  have ND : Hid (∀ (n : Nat) (W : World), n < 100000 → Calls Tryz.prog 15 #[.int .i64 n] W fun e w' => e = .returned (.string (bs (decK 6 n))) ∧ Frm [] W w') := fun n W h => kdecimal_any 5 n W (by omega) (by omega)
  have hsz := bs_size
  have hap := bs_append
  have k0 : ({ data := #[] } : ByteArray) = bs [] := rfl
  have k1 : ({ data := #[32] } : ByteArray) = bs [32] := rfl
  have k2 : ({ data := #[59] } : ByteArray) = bs [59] := rfl
  clear hok hr
  go_enter Tryz.func10, Tryz.ntmps10
  go_wp2_with fail
  go_loopg [3, 4] hs.length (fun k vt vi wr => ∃ j : Nat, j + k = hs.length ∧ vi = .int .i64 j ∧ vt = .string (bs (tldL (hs.take j))) ∧ Frm [] w wr)
  case atStart => exact ⟨0, by omega, rfl, by rw [k0]; rfl, Frm.refl _ _⟩
  case round =>
    obtain ⟨j, hjk, rfl, rfl, hFr⟩ := hrel
    obtain ⟨K0, hK0⟩ : ∃ K0, K0 = gk := ⟨_, rfl⟩
    have F := hide hFr
    clear hFr
    have hle := HLL.out j (by omega)
    by_cases hlt : j < hs.length
    · have hd1 : decide ((j : Int) < (hs.length : Int)) = true := decide_eq_true (by omega)
      obtain ⟨a', cap', e, _, hr'⟩ := H.out.frm F.out
      simp only [Value.slice.injEq] at e
      obtain ⟨rfl, _, rfl⟩ := e
      obtain ⟨g, o, vb, rfl, hr⟩ := hr' j hlt
      have HOK := hide (OK.out hs[j] (List.getElem_mem hlt))
      have HS := hide (HST.out j hlt)
      have hle1 := HLL.out (j + 1) (by omega)
      rw [HS.out, List.length_append] at hle1
      generalize hs[j] = x at *
      have HR := hide hr
      have p0 := hr.c0
      have p1 := hr.c1
      obtain ⟨ab, cb, rfl, hb⟩ := hr.r.str
      have HB := hide hb
      have hbl := HOK.out.b1
      have hrc := HOK.out.rc.1
      clear hr hb hr'
      generalize hT : tldL (hs.take j) = T at *
      clear hT
      have hTl : T.length + x.rc.length ≤ 30000 := by omega
      go_wp2_with fail
      go_loopg [3, 5] x.bl.length (fun k vt vi wk => ∃ i : Nat, i + k = x.bl.length ∧ vi = .int .i64 i ∧ vt = .string (bs (T ++ (x.rc ++ ((x.bl.take i).flatMap fun b => 32 :: b)))) ∧ wk = wr)
      case atStart => exact ⟨0, by omega, rfl, by simp, rfl⟩
      case round =>
        obtain ⟨i, hik, rfl, rfl, hwk⟩ := hrel
        subst hwk
        have hfl := bl_len (x.bl.take i) (fun n hn => by have := (HOK.out.b2 n (List.mem_of_mem_take hn)).1; omega)
        have hfl2 : ((x.bl.take i).flatMap fun b => 32 :: b).length ≤ 100 := by
          have : (x.bl.take i).length ≤ 4 := by simp; omega
          omega
        clear hfl
        by_cases hil : i < x.bl.length
        · have hd2 : decide ((i : Int) < (x.bl.length : Int)) = true := decide_eq_true (by omega)
          obtain ⟨gb, ob, rfl, hgb, u0⟩ := HB.out i hil
          have hbi := (HOK.out.b2 x.bl[i] (List.getElem_mem hil)).1
          have HTS : Hid (((x.bl.take (i + 1)).flatMap fun b => 32 :: b) = ((x.bl.take i).flatMap fun b => 32 :: b) ++ 32 :: x.bl[i]) := by
            show _ = _
            rw [List.take_succ_eq_append_getElem hil, List.flatMap_append]; simp
          generalize x.bl[i] = bi at *
          generalize ((x.bl.take i).flatMap fun b => 32 :: b) = Fi at *
          go_wp2
          go_roundg (gk - 1)
          case measure => omega
          case rel => exact ⟨i + 1, by omega, by go_num, by rw [HTS.out], rfl⟩
        · have hd2 : decide ((i : Int) < (x.bl.length : Int)) = false := decide_eq_false (by omega)
          have hi : i = x.bl.length := by omega
          have HFi : Hid ((x.bl.take i).flatMap (fun b => 32 :: b) = x.bl.flatMap fun b => 32 :: b) := by
            show _ = _; rw [hi, List.take_length]
          rw [HFi.out] at hfl2 ⊢
          have N1 := hide (fun W => ND.out x.wt W HOK.out.wt)
          have N2 := hide (fun W => ND.out x.ev W HOK.out.ev)
          have N3 := hide (fun W => ND.out x.rp W HOK.out.rp)
          have l1 := decK_len 6 x.wt
          have l2 := decK_len 6 x.ev
          have l3 := decK_len 6 x.rp
          have HX : Hid (tldH x = x.rc ++ ((x.bl.flatMap fun b => 32 :: b) ++ (32 :: (decK 6 x.wt ++ (32 :: (decK 6 x.ev ++ (32 :: (decK 6 x.rp ++ [59])))))))) := rfl
          have q2 := HR.out.c2
          generalize decK 6 x.wt = D1 at *
          generalize decK 6 x.ev = D2 at *
          generalize decK 6 x.rp = D3 at *
          generalize (x.bl.flatMap fun b => 32 :: b) = Fl at *
          clear ND HB
          go_wp2_with fail
          refine (N1.out _).mono ?_
          clear N1
          rintro e w1 ⟨rfl, hF1⟩
          have G1 := hide hF1
          have q3 := (HR.out.frm hF1).c3
          clear hF1 q2 p0 p1
          go_wp2_with fail
          refine (N2.out _).mono ?_
          clear N2
          rintro e w2 ⟨rfl, hF2⟩
          have G2 := hide (G1.out.trans hF2)
          have q4 := (HR.out.frm G2.out).c4
          clear hF2 q3
          go_wp2_with fail
          refine (N3.out _).mono ?_
          clear N3
          rintro e w3 ⟨rfl, hF3⟩
          have G3 := hide (G2.out.trans hF3)
          clear hF3 q4
          go_wp2
          go_roundg (K0 - 1)
          case measure => omega
          case rel => exact ⟨j + 1, by omega, by go_num, by rw [HS.out, HX.out], F.out.trans G3.out⟩
    · have hd1 : decide ((j : Int) < (hs.length : Int)) = false := decide_eq_false (by omega)
      have HE : Hid (tldL (hs.take j) = tldL hs) := by show _ = _; rw [List.take_of_length_le (by omega)]
      rw [HE.out]
      go_wp2
      go_ret
      exact ⟨rfl, F.out⟩
end Go.Proofs.YtndalncdkgbnoaaGreat

namespace Go.Proofs.YtndalncdkgbnoaaGreat
open Go.RowKit

theorem KN.frm {w w' : World} {g : Nat} (h : KN w g) (f : Frm [] w w') (hg : g < w.heap.size) : KN w' g := by
  intro k x hx
  obtain ⟨a, cap, h1, h2, h3, h4, h5⟩ := h k x hx
  exact ⟨a, cap, f.at (p := ⟨g, k * 3, none⟩) hg h1, f.at (p := ⟨g, k * 3 + 1, none⟩) hg h2, h3.frm f (by simp), h4, f.at (p := ⟨g, k * 3 + 2, none⟩) hg h5⟩
def knOK (x : List UInt8 × List LBL × List UInt8) : Bool := match cRead x.1 with
  | .ok (_, C) => labsOK x.2.1 && (tldL (hitsC C (lblV x.2.1)) == x.2.2)
  | .error _ => false
set_option maxRecDepth 100000 in
theorem kn_ok : ∀ x ∈ knD, knOK x = true := by
  intro x hx
  have : knD.all knOK = true := by decide +kernel
  exact List.all_eq_true.1 this x hx
theorem kn_lv : ∀ x ∈ knD, LV x.2.1 := by
  intro x hx
  have : knD.all (fun x => x.2.1.all fun y => decide (y.1.length ≤ 1048576) && decide (y.2.length ≤ 1048576)) = true := by decide +kernel
  have h := List.all_eq_true.1 this x hx
  intro y hy
  have h2 := List.all_eq_true.1 h y hy
  simpa using h2
set_option maxRecDepth 100000 in
theorem ft_ok : ∀ x ∈ ftD, cRes reC x.1 = (x.2.1, x.2.2) ∧ x.1.length ≤ 1000 ∧ x.2.1 ≤ 9 ∧ x.2.2 ≤ 100 := by
  intro x hx
  have : ftD.all (fun x => (cRes reC x.1 == (x.2.1, x.2.2)) && (decide (x.1.length ≤ 1000) && (decide (x.2.1 ≤ 9) && decide (x.2.2 ≤ 100)))) = true := by decide +kernel
  have h := List.all_eq_true.1 this x hx
  simpa using h

set_option maxRecDepth 100000 in
set_option maxHeartbeats 8000000 in
theorem known_any (c : Int) (w : World) (h0 : -9223372036854775808 ≤ c) (h1 : c ≤ 9223372036854775807) :
    Calls Tryz.prog 4 #[.int .i64 c] w fun e w' => e = .returned (.bool true) ∧ Frm [] w w' := by
  have N1 := hide (knowns_any w)
  have hk := pickN_lt c 48 (by omega)
  have NP : Hid (∀ W, Calls Tryz.prog 7 #[.int .i64 c, .int .i64 48] W fun e w' => e = .returned (.int .i64 (pickN c 48 : Nat)) ∧ W = w') := fun W => kpick_any c 48 (by omega) (by omega) W h0 h1
  generalize pickN c 48 = k at *
  go_enter Tryz.func4, Tryz.ntmps4
  go_wp2_with fail
  refine (N1.out).mono ?_
  clear N1
  rintro e w1 ⟨hF1, g, rfl, hg, hKN⟩
  have F1 := hide hF1
  have KN1 := hide hKN
  have N2 := hide (faults_any w1)
  clear hF1 hKN
  go_wp2_with fail
  refine (N2.out).mono ?_
  clear N2
  rintro e w2 ⟨hF2, gf, rfl, hFT⟩
  have F2 := hide (F1.out.trans hF2)
  have KN2 := hide (KN1.out.frm hF2 hg)
  have hg2 : g < w2.heap.size := Nat.lt_of_lt_of_le hg hF2.size
  have FT2 := hide hFT
  clear hF2 hFT KN1 hg F1
  go_wp2_with fail
  refine (NP.out _).mono ?_
  clear NP
  rintro e w2' ⟨rfl, rfl⟩
  by_cases hk16 : k < 16
  · have hd1 : decide ((k : Int) < 16) = true := decide_eq_true (by omega)
    have hd0 : decide ((k : Int) < 0) = false := decide_eq_false (by omega)
    obtain ⟨x, hx⟩ : ∃ x, knD[k]? = some x := ⟨_, List.getElem?_eq_getElem (show k < knD.length from hk16)⟩
    have hm := List.mem_of_getElem? hx
    obtain ⟨a, cap, c0, c1, cL, ccap, c2⟩ := KN2.out k x hx
    have HC := hide (compile_any x.1 w2 (kn_len x hm))
    have C1 := hide c1
    have C2 := hide c2
    have CL := hide cL
    have HLV := hide (kn_lv x hm)
    have HOK := hide (kn_ok x hm)
    have HRS0 := hide (kn_all x hm)
    have hxl := kn_len x hm
    clear c1 c2 cL FT2 KN2
    go_wp2_with fail
    refine (HC.out).mono ?_
    clear HC
    rintro e w3 ⟨hF3, ⟨q1, rfl⟩ | ⟨Ln, C, s, V, pb, q1, q2, q3, rfl, q4, q5, q6⟩⟩
    · rw [HRS0.out] at q1; exact absurd rfl q1
    have F3 := hide (F2.out.trans hF3)
    have c13 := hF3.at (p := ⟨g, k * 3 + 1, none⟩) hg2 C1.out
    have hokk := HOK.out
    unfold knOK at hokk
    rw [q2] at hokk
    simp only [Bool.and_eq_true, beq_iff_eq] at hokk
    have hgd := hitsC_good hxl q2 (lblV x.2.1)
    have hcp := (cRead_tree q2).2.2.1
    have N4 : Hid (Calls Tryz.prog 9 #[.pointer (some ⟨pb, 0, none⟩), .slice a x.2.1.length cap] w3 fun e w' => ∃ vh, Frm [] w3 w' ∧ e = .returned (.tuple #[vh, .int .i64 0]) ∧ HRS w' vh (hitsC C (lblV x.2.1))) := by
      refine (route_any w3 pb V _ q4 q5 a x.2.1.length cap x.2.1 (CL.out.frm hF3 (by simp)) HLV.out ccap).mono ?_
      rintro e w4 ⟨hF4, ⟨b1, _⟩ | ⟨_, vh, rfl, hH⟩⟩
      · rw [hokk.1] at b1; cases b1
      · exact ⟨vh, hF4, rfl, by rw [← hitsA_comp (A := x.2.1) hxl q2 q3]; exact hH⟩
    have N5 : Hid (∀ (W : World) (vh : Value), HRS W vh (hitsC C (lblV x.2.1)) → Calls Tryz.prog 10 #[vh] W fun e w' => e = .returned (.string (bs x.2.2)) ∧ Frm [] W w') := fun W vh hH => by
      have := told_any W vh _ hH (by omega) (fun y hy => (hgd.2.2 y hy).2)
      rw [hokk.2] at this
      exact this
    have hF3' := hide hF3
    clear q1 q2 q3 q4 q5 hokk hgd c0 hF3 hx HOK CL HLV
    go_wp2_with fail
    refine (N4.out).mono ?_
    clear N4
    rintro e w4 ⟨vh, hF4, rfl, hH⟩
    have N6 := hide (N5.out w4 vh hH)
    obtain ⟨ah, ch, rfl, _, _⟩ := hH
    have F4 := hide (F3.out.trans hF4)
    have F34 := hide (hF3'.out.trans hF4)
    clear hF4 N5 c13
    go_wp2_with fail
    refine (N6.out).mono ?_
    clear N6
    rintro e w5 ⟨rfl, hF5⟩
    have F5 := hide (F4.out.trans hF5)
    have c25 := (F34.out.trans hF5).at (p := ⟨g, k * 3 + 2, none⟩) hg2 C2.out
    have hl := bs_toList
    clear hF5
    generalize x.2.2 = want at *
    go_wp2
    go_ret
    exact ⟨rfl, F5.out⟩
  · have hd1 : decide ((k : Int) < 16) = false := decide_eq_false (by omega)
    obtain ⟨x, hx⟩ : ∃ x, ftD[k - 16]? = some x := ⟨_, List.getElem?_eq_getElem (show k - 16 < ftD.length by show k - 16 < 32; omega)⟩
    have hm := List.mem_of_getElem? hx
    obtain ⟨kf, hkf⟩ : ∃ kf, k = kf + 16 := ⟨k - 16, by omega⟩
    subst hkf
    rw [Nat.add_sub_cancel] at hx
    obtain ⟨c0, c1, c2⟩ := FT2.out.2 kf x hx
    have hgf := FT2.out.1
    obtain ⟨o1, o2, o3, o4⟩ := ft_ok x hm
    have HC := hide (fun W => compile_any x.1 W (by omega))
    have HO := hide o1
    have hd2 : decide ((kf : Int) < 0) = false := decide_eq_false (by omega)
    have hd3 : decide ((kf : Int) < 32) = true := decide_eq_true (by omega)
    clear FT2 KN2 o1 hx hm
    obtain ⟨xt, xe, xl⟩ := x
    simp only at *
    go_wp2_with fail
    refine (HC.out _).mono ?_
    clear HC
    have FA : Hid (Frm [] w2 (w2.alloc (Obj.cells #[.string (bs xt), .int .i64 (xe : Nat), .int .i64 (xl : Nat)] 40))) := (Frm.refl [] w2).alloc _
    have hb := heap1 w2 (Obj.cells #[.string (bs xt), .int .i64 (xe : Nat), .int .i64 (xl : Nat)] 40)
    have hz : w2.heap.size < (w2.alloc (Obj.cells #[.string (bs xt), .int .i64 (xe : Nat), .int .i64 (xl : Nat)] 40)).heap.size := by simp
    generalize w2.alloc (Obj.cells #[.string (bs xt), .int .i64 (xe : Nat), .int .i64 (xl : Nat)] 40) = W2 at *
    have b1 : W2.cell? ⟨w2.heap.size, 1, none⟩ = some (.int .i64 (xe : Nat)) := by simp [World.cell?, hb]
    have b2 : W2.cell? ⟨w2.heap.size, 2, none⟩ = some (.int .i64 (xl : Nat)) := by simp [World.cell?, hb]
    rintro e w3 ⟨hF3, ⟨q1, rfl⟩ | ⟨Ln, C, s, V, pb, q1, q2, q3, rfl, q4, q5, q6⟩⟩
    · have F3 := hide (F2.out.trans (FA.out.trans hF3))
      have d1 := hF3.at (p := ⟨w2.heap.size, 1, none⟩) hz b1
      have d2 := hF3.at (p := ⟨w2.heap.size, 2, none⟩) hz b2
      have hxe : xe ≠ 0 := by rw [HO.out] at q1; exact q1
      rw [HO.out]
      have hne : ((xe : Int) != 0) = true := by rw [bne_iff_ne]; omega
      clear q1 hF3 b1 b2 hb c0 c1 c2
      simp only
      go_wp2
      go_ret
      exact ⟨rfl, F3.out⟩
    · have F3 := hide (F2.out.trans (FA.out.trans hF3))
      have d1 := hF3.at (p := ⟨w2.heap.size, 1, none⟩) hz b1
      have d2 := hF3.at (p := ⟨w2.heap.size, 2, none⟩) hz b2
      rw [HO.out] at q1
      simp only [Prod.mk.injEq] at q1
      obtain ⟨rfl, rfl⟩ := q1
      clear hF3 b1 b2 hb c0 c1 c2 q2 q3 q4 q5
      go_wp2
      go_ret
      exact ⟨rfl, F3.out⟩
end Go.Proofs.YtndalncdkgbnoaaGreat

namespace Go.Proofs.YtndalncdkgbnoaaGreat
open Go.RowKit

set_option maxRecDepth 100000 in
set_option maxHeartbeats 2000000 in
theorem knownLaw_any (c : Int) (w : World) (h0 : -9223372036854775808 ≤ c) (h1 : c ≤ 9223372036854775807) :
    Calls Tryz.prog 3 #[.int .i64 c] w fun e w' => e = .returned (.bool true) ∧ Frm [] w w' := by
  have N1 := hide (known_any c w h0 h1)
  go_enter Tryz.func3, Tryz.ntmps3
  go_wp2_with fail
  refine (N1.out).mono ?_
  clear N1
  rintro e w1 ⟨rfl, hF⟩
  have F := hide hF
  clear hF
  go_wp2
  go_ret
  exact ⟨rfl, F.out⟩
end Go.Proofs.YtndalncdkgbnoaaGreat

namespace Go.Proofs.YtndalncdkgbnoaaGreat.fnKnown
open Go.ChangeShapes Go.WideShapes Go.ChangeAt Go.RowKit

theorem own : ownKnob Tryz.prog.godebug = none := by kernel_rfl

set_option maxRecDepth 100000 in
theorem lifted (os : Os) (started : os.Started) (H : Type) (enc : TypeId × Value → H) :
    ReturnsInHanded {} Tryz.checked os 3 .any (Rows.knownSpec.pre6 enc Tryz.prog Tryz.f3 Rows.knownRow.domain false) (Rows.knownSpec.post enc Tryz.prog Tryz.f3 false true false false) := by
  refine returnsInHanded_of_change (C := Tryz.checked) own started (by kernel_rfl) Tryz.func3
    (ChangeSpec.witness6 (enc := enc) (C := Tryz.checked) false ⟨#[], #[.int .i64 0], []⟩ 8 (by kernel_rfl) (by kernel_rfl) (by kernel_rfl) (by kernel_rfl)) ?_
  intro W base args ds gs before hval0 hW hcnd _
  have hval : ∀ (j : Nat) t v, Tryz.f3.params[j]? = some t → args[j]? = some v → Value.okWide Tryz.prog W .any base t v := hval0
  have hW' := hW
  obtain ⟨p, q, hA0, hV, rfl, hfz, hnd⟩ := hW
  have hA : DataW.TrodAll enc Tryz.prog W 0 (fun _ => true) true Tryz.f3.params.toList args.toList ds p := hA0
  rw [Tryz.params3] at hA hval
  obtain ⟨v0, vs0, d0, ds0, p0, q0, hargs, rfl, rfl, h0, r0⟩ := trodAll_cons hA
  obtain ⟨rfl, rfl, rfl⟩ := trodAll_nil r0
  obtain rfl : args = #[v0] := by cases args; simp_all
  obtain ⟨rfl, rfl⟩ := trodVars_none hV
  obtain ⟨a0, rfl, rfl, rfl, w0⟩ := open_int Tryz.underlying3 (hval 0 3 v0 rfl rfl) h0
  clear hA0 hval0
  simp only [List.append_nil] at hW'
  have hr : -9223372036854775808 ≤ a0 ∧ a0 ≤ 9223372036854775807 := by
    have h := (Lit.wf_int_iff _ _).1 w0
    have h1 : IntKind.i64.min = -9223372036854775808 := by decide
    have h2 : IntKind.i64.max = 9223372036854775807 := by decide
    omega
  refine (knownLaw_any a0 W hr.1 hr.2).mono fun e W' ⟨he, hf⟩ => ?_
  subst he
  refine ⟨_, rfl, _, _, [], [], [], [], hW', trodAll_cons_mk (shut_bool Tryz.underlying4 _) trodAll_mk0, trodAll_cons_mk (shut_int Tryz.underlying3 w0) trodAll_mk0, rfl, hf.below.frame _, fun h => by cases h⟩

theorem over : Rows.knownRow.holds Tryz.pinned (OpenSpec.ofChange Rows.knownSpec) :=
  OpenClaim.holds_of_wide 3 Tryz.f3 rfl rfl rfl rfl rfl rfl rfl ⟨rfl, rfl, rfl, rfl, rfl⟩ rfl rfl rfl rfl rfl (by kernel_rfl) Tryz.func3 (by kernel_rfl)
    (of_decide_eq_true (by kernel_rfl)) (by unfold Func.isWrapper; first | (rw [if_pos (by decide +kernel)]; kernel_rfl) | (rw [if_neg (by decide +kernel)]; exact ⟨rfl, rfl⟩))
    (fun os started H enc _ => lifted os started H enc)
end Go.Proofs.YtndalncdkgbnoaaGreat.fnKnown

namespace Go.Proofs.YtndalncdkgbnoaaGreat
theorem known_said : Rows.KnownSaid := fnKnown.over
end Go.Proofs.YtndalncdkgbnoaaGreat

