import Derived.Test.YtfdmjcagpnhjkaaGreatJ44
import Derived.Test.YtfdmjcagpnhjkaaGreatRows
import Derived.ProofKit
import Derived.OpenShut
import Derived.DataShut
import Derived.SizedLaws
import Derived.Carry
set_option linter.unusedVariables false
set_option linter.unusedSimpArgs false
set_option linter.unnecessarySimpa false
namespace Go.Proofs.YtfdmjcagpnhjkaaGreat
open Go.RowKit

theorem chosenK_any {k : Nat} {v : List UInt8} {w : World} {pb : Nat} (h : FKP k v w pb) (x : List UInt8) (hx : x.length ≤ 40) :
    Calls Tryz.prog 11 #[.pointer (some ⟨pb, 0, none⟩), .string (bs x)] w fun e w' => e = .returned (.bool (choK k v x)) ∧ Frm [] w w' := by
  obtain ⟨V, m, h1, h2, h3⟩ := h
  refine (chosen_any w pb V m h1 h2 x (by omega)).mono ?_
  rintro e w' ⟨hF, rfl⟩
  exact ⟨by rw [h3 x hx], hF⟩
def takB (r v : List UInt8) : Bool := goodK 2 r && decide (v.length ≤ 40)
set_option maxRecDepth 100000 in
set_option maxHeartbeats 4000000 in
theorem takes_any' (r v : List UInt8) (w : World) (hr : r.length ≤ 20000) (hv : v.length ≤ 20000) :
    Calls Tryz.prog 8 #[.string (bs r), .string (bs v)] w fun e w' => e = .returned (.tuple #[.bool (takB r v && choK 2 r v), .bool (takB r v)]) ∧ Frm [] w w' := by
  have hsz := bs_size
  have hap := bs_append
  have k5 : ({ data := #[108, 61, 126] } : ByteArray) = bs [108, 61, 126] := rfl
  have N1 := hide (kquoted_any r w (by omega))
  have hql : (quoteV r).length ≤ 90000 := by
    have := quoteL_len r
    unfold quoteV
    rw [List.length_append, List.length_append]
    simp only [List.length_cons, List.length_nil]
    omega
  have N2 : Hid (∀ W, Calls Tryz.prog 10 #[.string (bs ([108, 61, 126] ++ quoteV r))] W (FKK 2 r W)) := fun W => forkK_any (k := 2) (by omega) r hr W
  go_enter Tryz.func8, Tryz.ntmps8
  go_wp2_with fail
  refine (N1.out).mono ?_
  clear N1
  rintro e w1 ⟨rfl, hF1⟩
  have F1 := hide hF1
  have N3 := hide (N2.out w1)
  clear hF1 N2
  generalize quoteV r = qr at *
  go_wp2_with fail
  refine (N3.out).mono ?_
  clear N3
  rintro e w2 ⟨hF2, ⟨hg, n, hn, rfl⟩ | ⟨hg, pb, rfl, hP⟩⟩
  · have F2 := hide (F1.out.trans hF2)
    have HV : Hid (takB r v = false) := by show _ = _; unfold takB; rw [hg]; rfl
    have hne : ((n : Int) != 0) = true := by rw [bne_iff_ne]; omega
    clear hF2 hg
    go_wp2
    go_ret2
    exact ⟨by rw [HV.out]; rfl, F2.out⟩
  · have F2 := hide (F1.out.trans hF2)
    by_cases hv4 : 40 < v.length
    · have HV : Hid (takB r v = false) := by show _ = _; unfold takB; rw [decide_eq_false (by omega)]; simp
      have hd : decide ((40 : Int) < (v.length : Int)) = true := decide_eq_true (by omega)
      have hd' : decide (40 < v.length) = true := decide_eq_true hv4
      clear hF2 hg hP
      go_wp2
      go_ret2
      exact ⟨by rw [HV.out]; rfl, F2.out⟩
    · have HV : Hid (takB r v = true) := by show _ = _; unfold takB; rw [hg, decide_eq_true (by omega)]; rfl
      have hd : decide ((40 : Int) < (v.length : Int)) = false := decide_eq_false (by omega)
      have hd' : decide (40 < v.length) = false := decide_eq_false hv4
      have N4 := hide (chosenK_any hP v (by omega))
      clear hF2 hg hP
      go_wp2_with fail
      refine (N4.out).mono ?_
      clear N4
      rintro e w3 ⟨rfl, hF3⟩
      have F3 := hide (F2.out.trans hF3)
      clear hF3
      generalize hc : choK 2 r v = b at *
      have HC := hide hc
      clear hc
      go_wp2
      go_ret2
      exact ⟨by rw [HV.out, HC.out]; rfl, F3.out⟩

theorem goodK_23 (r : List UInt8) : goodK 3 r = goodK 2 r := by unfold goodK; rfl
theorem goodK_01 {v : List UInt8} (h : v.length ≤ 40) (k : Nat) (hk : k < 2) : goodK k v = true := by unfold goodK; rw [decide_eq_true h, decide_eq_true hk]; rfl
theorem choK_23 (r v : List UInt8) : choK 3 r v = !(choK 2 r v) := by unfold choK mHolds; simp
theorem choK_0 (v x : List UInt8) : choK 0 v x = (x == v) := by unfold choK mHolds; simp
theorem choK_1 (v x : List UInt8) : choK 1 v x = !(x == v) := by unfold choK mHolds; simp
theorem choK_esc {v : List UInt8} (h : v.length ≤ 20) : takB (escK v) v = true ∧ choK 2 (escK v) v = true := by
  have hl : (escK v).length = 2 * v.length := by
    unfold escK
    clear h
    induction v with
    | nil => rfl
    | cons c r ih => rw [List.flatMap_cons, List.length_append, ih]; simp; omega
  refine ⟨?_, ?_⟩
  · unfold takB goodK
    rw [esc_re (v := v) (by omega)]
    simp [hl]
    omega
  · unfold choK mHolds
    simpa using esc_takes (v := v) (by omega)

def FKG (k : Nat) (v : List UInt8) (w : World) (e : Ending) (w' : World) : Prop :=
  Frm [] w w' ∧ ∃ (pp : Option Addr) (en : Nat), e = .returned (.tuple #[.pointer pp, .int .i64 en]) ∧ ((en : Int) == 0) = goodK k v ∧ (goodK k v = true → en = 0 ∧ ∃ pb, pp = some ⟨pb, 0, none⟩ ∧ FKP k v w' pb)
theorem forkG_any {k : Nat} (hk : k ≤ 3) (v : List UInt8) (hv : v.length ≤ 20000) (w : World) : Calls Tryz.prog 10 #[.string (bs (108 :: (opK k ++ quoteV v)))] w (FKG k v w) := by
  refine (forkK_any hk v hv w).mono ?_
  rintro e w' ⟨hF, ⟨hg, n, hn, rfl⟩ | ⟨hg, pb, rfl, hP⟩⟩
  · refine ⟨hF, none, n, rfl, ?_, fun h => by rw [hg] at h; cases h⟩
    rw [hg, beq_eq_false_iff_ne]; omega
  · refine ⟨hF, _, 0, rfl, by rw [hg]; rfl, fun _ => ⟨rfl, pb, rfl, hP⟩⟩

set_option maxRecDepth 100000 in
set_option maxHeartbeats 8000000 in
theorem twin_any (r v : List UInt8) (w : World) (hr : r.length ≤ 16384) (hv : v.length ≤ 16384) :
    Calls Tryz.prog 6 #[.string (bs r), .string (bs v)] w fun e w' => e = .returned (.bool true) ∧ Frm [] w w' := by
  have hsz := bs_size
  have hap := bs_append
  have k1 : ({ data := #[108, 61, 126] } : ByteArray) = bs [108, 61, 126] := rfl
  have k2 : ({ data := #[108, 33, 126] } : ByteArray) = bs [108, 33, 126] := rfl
  have k3 : ({ data := #[108, 61] } : ByteArray) = bs [108, 61] := rfl
  have k4 : ({ data := #[108, 33, 61] } : ByteArray) = bs [108, 33, 61] := rfl
  have k5 : ({ data := #[120] } : ByteArray) = bs [120] := rfl
  have hqr : ∀ r : List UInt8, r.length ≤ 16384 → (quoteV r).length ≤ 4 * r.length + 2 := by
    intro r _
    have := quoteL_len r
    unfold quoteV
    rw [List.length_append, List.length_append]
    simp only [List.length_cons, List.length_nil]
    omega
  have hq1 := hqr r hr
  have hq2 := hqr v hv
  have Q1 := hide (kquoted_any r w (by omega))
  have Q2 : Hid (∀ W, Calls Tryz.prog 9 #[.string (bs v)] W fun e w' => e = .returned (.string (bs (quoteV v))) ∧ Frm [] W w') := fun W => kquoted_any v W (by omega)
  have A1 : Hid (∀ W, Calls Tryz.prog 10 #[.string (bs ([108, 61, 126] ++ quoteV r))] W (FKG 2 r W)) := fun W => forkG_any (k := 2) (by omega) r (by omega) W
  have A2 : Hid (∀ W, Calls Tryz.prog 10 #[.string (bs ([108, 33, 126] ++ quoteV r))] W (FKG 3 r W)) := fun W => forkG_any (k := 3) (by omega) r (by omega) W
  have A3 : Hid (∀ W, Calls Tryz.prog 10 #[.string (bs ([108, 61] ++ quoteV v))] W (FKK 0 v W)) := fun W => forkK_any (k := 0) (by omega) v (by omega) W
  have A4 : Hid (∀ W, Calls Tryz.prog 10 #[.string (bs ([108, 33, 61] ++ quoteV v))] W (FKK 1 v W)) := fun W => forkK_any (k := 1) (by omega) v (by omega) W
  clear hqr
  generalize quoteV r = qr at *
  generalize quoteV v = qv at *
  go_enter Tryz.func6, Tryz.ntmps6
  go_wp2_with fail
  refine (Q1.out).mono ?_
  clear Q1
  rintro e w1 ⟨rfl, hF1⟩
  have F1 := hide hF1
  have N1 := hide (A1.out w1)
  clear hF1 A1
  go_wp2_with fail
  refine (N1.out).mono ?_
  clear N1
  rintro e w2 ⟨hF2, pa, ea, rfl, ha, hA⟩
  have F2 := hide (F1.out.trans hF2)
  have HA := hide hA
  have N2 := hide (A2.out w2)
  clear hF2 hA A2
  go_wp2_with fail
  refine (N2.out).mono ?_
  clear N2
  rintro e w3 ⟨hF3, pb, eb, rfl, hb, hB⟩
  have F3 := hide (F2.out.trans hF3)
  rw [goodK_23] at hb hB
  have HB := hide hB
  have HPA : Hid (goodK 2 r = true → ea = 0 ∧ ∃ p, pa = some ⟨p, 0, none⟩ ∧ FKP 2 r w3 p) := fun h => by
    obtain ⟨h0, p, e1, e2⟩ := HA.out h
    exact ⟨h0, p, e1, e2.frm hF3⟩
  clear hF3 hB HA
  generalize hgd : goodK 2 r = gd at *
  clear hgd
  by_cases hv4 : 40 < v.length
  · have hd : decide ((40 : Int) < (v.length : Int)) = true := decide_eq_true (by omega)
    have hd' : decide (40 < v.length) = true := decide_eq_true hv4
    go_wp2
    go_ret
    exact ⟨rfl, F3.out⟩
  have hd : decide ((40 : Int) < (v.length : Int)) = false := decide_eq_false (by omega)
  have hd' : decide (40 < v.length) = false := decide_eq_false hv4
  go_upto_if 45 with fail
  go_cut [] (fun wc => True ∧ Frm [] w wc)
  case first =>
    cases gd
    · go_wp2
      go_meet
      exact ⟨trivial, F3.out⟩
    · obtain ⟨rfl, p2, rfl, hP2⟩ := HPA.out rfl
      obtain ⟨rfl, p3, rfl, hP3⟩ := HB.out rfl
      have N4 := hide (chosenK_any hP2 v (by omega))
      have P3 := hide hP3
      clear hP2 hP3 HB HPA
      go_wp2_with fail
      refine (N4.out).mono ?_
      clear N4
      rintro e w4 ⟨rfl, hF4⟩
      have F4 := hide (F3.out.trans hF4)
      have N5 := hide (chosenK_any (P3.out.frm hF4) v (by omega))
      rw [choK_23] at N5
      clear hF4
      generalize choK 2 r v = cb at *
      go_wp2_with fail
      refine (N5.out).mono ?_
      clear N5
      rintro e w5 ⟨rfl, hF5⟩
      have F5 := hide (F4.out.trans hF5)
      clear hF5
      cases cb
      all_goals
        go_wp2
        go_meet
        exact ⟨trivial, F5.out⟩
  case rest =>
    obtain ⟨_, hFc⟩ := hcut
    have F5 := hide hFc
    have N6 := hide (Q2.out wc)
    clear hFc Q2 HB HPA
    go_wp2_with fail
    refine (N6.out).mono ?_
    clear N6
    rintro e w6 ⟨rfl, hF6⟩
    have F6 := hide (F5.out.trans hF6)
    have N7 : Hid (Calls Tryz.prog 10 #[.string (bs ([108, 61] ++ qv))] w6 fun e w' => Frm [] w6 w' ∧ ∃ p, e = .returned (.tuple #[.pointer (some ⟨p, 0, none⟩), .int .i64 0]) ∧ FKP 0 v w' p) := by
      refine (A3.out w6).mono ?_
      rintro e w' ⟨h1, ⟨h2, _⟩ | ⟨_, p, rfl, h3⟩⟩
      · rw [goodK_01 (by omega) 0 (by omega)] at h2; cases h2
      · exact ⟨h1, p, rfl, h3⟩
    have N8 : Hid (∀ W, Calls Tryz.prog 10 #[.string (bs ([108, 33, 61] ++ qv))] W fun e w' => Frm [] W w' ∧ ∃ p, e = .returned (.tuple #[.pointer (some ⟨p, 0, none⟩), .int .i64 0]) ∧ FKP 1 v w' p) := fun W => by
      refine (A4.out W).mono ?_
      rintro e w' ⟨h1, ⟨h2, _⟩ | ⟨_, p, rfl, h3⟩⟩
      · rw [goodK_01 (by omega) 1 (by omega)] at h2; cases h2
      · exact ⟨h1, p, rfl, h3⟩
    clear hF6 A3 A4
    go_wp2_with fail
    refine (N7.out).mono ?_
    clear N7
    rintro e w7 ⟨hF7, p7, rfl, hP7⟩
    have F7 := hide (F6.out.trans hF7)
    have P7 := hide hP7
    have N9 := hide (N8.out w7)
    clear hF7 hP7 N8
    go_wp2_with fail
    refine (N9.out).mono ?_
    clear N9
    rintro e w8 ⟨hF8, p8, rfl, hP8⟩
    have F8 := hide (F7.out.trans hF8)
    have P78 := hide (P7.out.frm hF8)
    have P8 := hide hP8
    have N10 := hide (chosenK_any P78.out v (by omega))
    rw [choK_0, beq_self_eq_true] at N10
    have hd12 : decide ((1200 : Int) < (qv.length : Int)) = false := decide_eq_false (by omega)
    have hd12' : decide (1200 < qv.length) = false := decide_eq_false (by omega)
    clear hF8 hP8 P7
    go_wp2_with fail
    refine (N10.out).mono ?_
    clear N10
    rintro e w9 ⟨rfl, hF9⟩
    have F9 := hide (F8.out.trans hF9)
    have P9 := hide (P78.out.frm hF9)
    have N11 := hide (chosenK_any (P8.out.frm hF9) v (by omega))
    rw [choK_1, beq_self_eq_true] at N11
    clear hF9 P78 P8
    go_wp2_with fail
    refine (N11.out).mono ?_
    clear N11
    rintro e w10 ⟨rfl, hF10⟩
    have F10 := hide (F9.out.trans hF10)
    have P10 := hide (P9.out.frm hF10)
    clear hF10 P9
    simp only [Bool.not_true]
    go_upto_if 90 with fail
    go_cut [18] (fun v18 wc => True ∧ v18 = .bool false ∧ Frm [] w wc)
    case first =>
      by_cases h40 : v.length + 1 ≤ 40
      · have hd4 : decide ((v.length : Int) + 1 ≤ 40) = true := decide_eq_true (by omega)
        have hd4' : decide (v.length + 1 ≤ 40) = true := decide_eq_true h40
        have N12 := hide (chosenK_any P10.out (v ++ [120]) (by simp; omega))
        rw [choK_0] at N12
        have hne : (v ++ [120] == v) = false := by
          rw [beq_eq_false_iff_ne]
          intro h
          have := congrArg List.length h
          simp at this
        rw [hne] at N12
        go_wp2_with fail
        refine (N12.out).mono ?_
        clear N12
        rintro e w11 ⟨rfl, hF11⟩
        have F11 := hide (F10.out.trans hF11)
        clear hF11
        go_wp2
        go_meet
        exact ⟨trivial, rfl, F11.out⟩
      · have hd4 : decide ((v.length : Int) + 1 ≤ 40) = false := decide_eq_false (by omega)
        have hd4' : decide (v.length + 1 ≤ 40) = false := decide_eq_false h40
        go_wp2
        go_meet
        exact ⟨trivial, rfl, F10.out⟩
    case rest =>
      obtain ⟨_, rfl, hFd⟩ := hcut
      have F11 := hide hFd
      clear hFd P10
      by_cases h20 : 40 < 2 * v.length
      · have hd4 : decide ((40 : Int) < 2 * (v.length : Int)) = true := decide_eq_true (by omega)
        have hd4' : decide (40 < 2 * v.length) = true := decide_eq_true h20
        go_wp2
        go_ret
        exact ⟨rfl, F11.out⟩
      · have hd4 : decide ((40 : Int) < 2 * (v.length : Int)) = false := decide_eq_false (by omega)
        have hd4' : decide (40 < 2 * v.length) = false := decide_eq_false h20
        obtain ⟨wd, hwd⟩ : ∃ wd, wd = wc := ⟨_, rfl⟩
        have N13 := hide (escaped_any v wc (by omega))
        have hel : (escK v).length ≤ 20000 := by
          have : ∀ u : List UInt8, (escK u).length = 2 * u.length := by
            intro u
            induction u with
            | nil => rfl
            | cons c r ih => show ([92, c] ++ escK r).length = _; rw [List.length_append, ih]; simp; omega
          rw [this]; omega
        have N14 := hide (takes_any' (escK v) v wc hel (by omega))
        obtain ⟨t1, t2⟩ := choK_esc (v := v) (by omega)
        rw [t1, t2] at N14
        clear t1 t2 hwd
        generalize escK v = ev at *
        go_wp2_with fail
        refine (N13.out).mono ?_
        clear N13
        rintro e w12 ⟨rfl, rfl⟩
        go_wp2_with fail
        refine (N14.out).mono ?_
        clear N14
        rintro e w13 ⟨rfl, hF13⟩
        have F13 := hide (F11.out.trans hF13)
        clear hF13
        go_wp2
        go_ret
        exact ⟨rfl, F13.out⟩
end Go.Proofs.YtfdmjcagpnhjkaaGreat

namespace Go.Proofs.YtfdmjcagpnhjkaaGreat
open Go.RowKit

set_option maxRecDepth 100000 in
set_option maxHeartbeats 2000000 in
theorem twinLaw_any (r v : List UInt8) (w : World) (hr : r.length ≤ 140737488355328) (hv : v.length ≤ 140737488355328) :
    Calls Tryz.prog 4 #[.string (bs r), .string (bs v)] w fun e w' => e = .returned (.bool true) ∧ Frm [] w w' := by
  have hsz := bs_size
  by_cases hb : 16384 < r.length + v.length
  · have hd : decide ((16384 : Int) < (r.length : Int) + (v.length : Int)) = true := decide_eq_true (by omega)
    have hd' : decide (16384 < r.length + v.length) = true := decide_eq_true hb
    go_enter Tryz.func4, Tryz.ntmps4
    go_wp2
    go_ret
    exact ⟨rfl, Frm.refl _ _⟩
  · have hd : decide ((16384 : Int) < (r.length : Int) + (v.length : Int)) = false := decide_eq_false (by omega)
    have hd' : decide (16384 < r.length + v.length) = false := decide_eq_false hb
    have N1 := hide (twin_any r v w (by omega) (by omega))
    go_enter Tryz.func4, Tryz.ntmps4
    go_wp2_with fail
    refine (N1.out).mono ?_
    clear N1
    rintro e w1 ⟨rfl, hF⟩
    have F := hide hF
    clear hF
    go_wp2
    go_ret
    exact ⟨rfl, F.out⟩
end Go.Proofs.YtfdmjcagpnhjkaaGreat

namespace Go.Proofs.YtfdmjcagpnhjkaaGreat.fnTwin
open Go.ChangeShapes Go.WideShapes Go.ChangeAt Go.RowKit
open Go.ChangeMaps (open_string shut_string)

theorem own : ownKnob Tryz.prog.godebug = none := by kernel_rfl

set_option maxRecDepth 100000 in
theorem lifted (os : Os) (started : os.Started) (H : Type) (enc : TypeId × Value → H) :
    ReturnsInHanded {} Tryz.checked os 4 .any (Rows.twinSpec.pre6 enc Tryz.prog Tryz.f4 Rows.twinRow.domain false) (Rows.twinSpec.post enc Tryz.prog Tryz.f4 false true false false) := by
  refine returnsInHanded_of_change_sized (C := Tryz.checked) own started (by kernel_rfl) Tryz.func4
    (ChangeSpec.witness6 (enc := enc) (C := Tryz.checked) false ⟨#[], #[.string ByteArray.empty, .string ByteArray.empty], []⟩ 8 (by kernel_rfl) (by kernel_rfl) (by kernel_rfl) (by kernel_rfl)) ?_
  intro W base args ds gs before hval0 hW hcnd hsz0 _
  have hval : ∀ (j : Nat) t v, Tryz.f4.params[j]? = some t → args[j]? = some v → Value.okWide Tryz.prog W .any base t v := hval0
  have hW' := hW
  obtain ⟨p, q, hA0, hV, rfl, hfz, hnd⟩ := hW
  have hA : DataW.TrodAll enc Tryz.prog W 0 (fun _ => true) true Tryz.f4.params.toList args.toList ds p := hA0
  have hsz : (DataW.weightsEach Tryz.prog (Tryz.f4.params.toList ++ Rows.twinSpec.plain.varTypes Tryz.prog) (ds ++ gs)).all (· ≤ reachBytes) = true := hsz0
  rw [Tryz.params4] at hA hval hsz
  obtain ⟨v0, v1, d0, d1, p0, p1, rfl, rfl, rfl, h0, h1⟩ := trodAll_two hA
  obtain ⟨rfl, rfl⟩ := trodVars_none hV
  obtain ⟨s, rfl, rfl, rfl, hs⟩ := open_string Tryz.underlying9 (hval 0 9 v0 rfl rfl) h0
  obtain ⟨u, rfl, rfl, rfl, hu⟩ := open_string Tryz.underlying9 (hval 1 9 v1 rfl rfl) h1
  clear hA0 hval0 hsz0
  simp only [List.append_nil] at hW'
  have hsl : s.data.toList.length ≤ 140737488355328 := Nat.le_trans (sized_string (j := 0) hsz rfl rfl) (Nat.le_of_lt reachBytes_lt)
  have hul : u.data.toList.length ≤ 140737488355328 := Nat.le_trans (sized_string (j := 1) hsz rfl rfl) (Nat.le_of_lt reachBytes_lt)
  have hb : Value.string s = .string (bs s.data.toList) := by rw [bs_of]
  have hc : Value.string u = .string (bs u.data.toList) := by rw [bs_of]
  rw [hb, hc]
  refine (twinLaw_any s.data.toList u.data.toList W hsl hul).mono fun e W' ⟨he, hf⟩ => ?_
  rw [← hb, ← hc]
  subst he
  refine ⟨_, rfl, [.lit (.string s.data.toList), .lit (.string u.data.toList)], [], _, [], [] ++ [], [], by simpa using hW', trodAll_cons_mk (shut_bool Tryz.underlying4 _) trodAll_mk0, trodAll_mk2 (shut_string Tryz.underlying9 hs) (shut_string Tryz.underlying9 hu), rfl, hf.below.frame _, fun h => by cases h⟩

theorem over : Rows.twinRow.holds Tryz.pinned (OpenSpec.ofChange Rows.twinSpec) :=
  OpenClaim.holds_of_wide 4 Tryz.f4 rfl rfl rfl rfl rfl rfl rfl ⟨rfl, rfl, rfl, rfl, rfl⟩ rfl rfl rfl rfl rfl (by kernel_rfl) Tryz.func4 (by kernel_rfl)
    (of_decide_eq_true (by kernel_rfl)) (by unfold Func.isWrapper; first | (rw [if_pos (by decide +kernel)]; kernel_rfl) | (rw [if_neg (by decide +kernel)]; exact ⟨rfl, rfl⟩))
    (fun os started H enc _ => lifted os started H enc)
end Go.Proofs.YtfdmjcagpnhjkaaGreat.fnTwin

namespace Go.Proofs.YtfdmjcagpnhjkaaGreat
theorem twin_said : Rows.TwinSaid := fnTwin.over
end Go.Proofs.YtfdmjcagpnhjkaaGreat

