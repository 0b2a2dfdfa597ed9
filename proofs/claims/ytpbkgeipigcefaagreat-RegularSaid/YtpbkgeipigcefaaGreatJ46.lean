import Derived.Test.YtpbkgeipigcefaaGreatJ44
import Derived.Test.YtpbkgeipigcefaaGreatJ45
import Derived.Test.YtpbkgeipigcefaaGreatRows
import Derived.ProofKit
import Derived.OpenShut
import Derived.DataShut
import Derived.SizedLaws
import Derived.Carry
set_option linter.unusedVariables false
set_option linter.unusedSimpArgs false
set_option linter.unnecessarySimpa false
namespace Go.Proofs.YtpbkgeipigcefaaGreat
open Go.RowKit

theorem takB_good {r v : List UInt8} (h : takB r v = true) : goodK 2 r = true ∧ v.length ≤ 40 := by
  unfold takB at h
  simpa using h
theorem goodK_len {k : Nat} {r : List UInt8} (h : goodK k r = true) : r.length ≤ 40 := by
  unfold goodK at h
  simp at h
  exact h.1
theorem way_ans {r v : List UInt8} (hr : goodK 2 r = true) {k : Nat} (hk : k < 6) (h : takB (wayT k r) v = true) : choK 2 (wayT k r) v = choK 2 r v := ways_cho hr hk (takB_good h).1 v
theorem mrk_ans {r v : List UInt8} (hr : goodK 2 r = true) (hx : choK 2 r v = true) {k : Nat} (hk : k < 3) : (takB (mrkT k r) (v ++ v) && choK 2 (mrkT k r) (v ++ v)) = takB (mrkT k r) (v ++ v) := by
  cases h : takB (mrkT k r) (v ++ v)
  · rfl
  · rw [mrk_cho hr hk (takB_good h).1 v hx]; rfl
theorem wayT_len (k : Nat) (r : List UInt8) : (wayT k r).length ≤ 3 * r.length + 20 := by
  unfold wayT
  split <;> simp <;> omega
theorem mrkT_len (k : Nat) (r : List UInt8) : (mrkT k r).length ≤ 3 * r.length + 20 := by
  unfold mrkT
  split <;> simp <;> omega
def wayC (r : List UInt8) : Array Value := #[.string (bs (wayT 0 r)), .string (bs (wayT 1 r)), .string (bs (wayT 2 r)), .string (bs (wayT 3 r)), .string (bs (wayT 4 r)), .string (bs (wayT 5 r)), .string (bs (wayT 6 r))]

set_option maxRecDepth 100000 in
set_option maxHeartbeats 8000000 in
theorem regex_any (r v : List UInt8) (w : World) (hr : r.length ≤ 16384) (hv : v.length ≤ 16384) :
    Calls Tryz.prog 11 #[.string (bs r), .string (bs v)] w fun e w' => e = .returned (.bool true) ∧ Frm [] w w' := by
  have hsz := bs_size
  have hap := bs_append
  have k124 : ({ data := #[124] } : ByteArray) = bs [124] := rfl
  have k40 : ({ data := #[40] } : ByteArray) = bs [40] := rfl
  have k41 : ({ data := #[41] } : ByteArray) = bs [41] := rfl
  have kA : ({ data := #[41, 123, 49, 125] } : ByteArray) = bs [41, 123, 49, 125] := rfl
  have kB : ({ data := #[41, 40, 41] } : ByteArray) = bs [41, 40, 41] := rfl
  have kC : ({ data := #[41, 123, 49, 44, 49, 125] } : ByteArray) = bs [41, 123, 49, 44, 49, 125] := rfl
  have kD : ({ data := #[40, 40] } : ByteArray) = bs [40, 40] := rfl
  have kE : ({ data := #[41, 124, 91, 94, 0, 45, 255, 93, 41] } : ByteArray) = bs [41, 124, 91, 94, 0, 45, 255, 93, 41] := rfl
  have kF : ({ data := #[41, 63, 40] } : ByteArray) = bs [41, 63, 40] := rfl
  have kG : ({ data := #[41, 123, 48, 125] } : ByteArray) = bs [41, 123, 48, 125] := rfl
  have kH : ({ data := #[41, 40] } : ByteArray) = bs [41, 40] := rfl
  have kI : ({ data := #[41, 42] } : ByteArray) = bs [41, 42] := rfl
  have kJ : ({ data := #[41, 123, 50, 44, 125] } : ByteArray) = bs [41, 123, 50, 44, 125] := rfl
  have kK : ({ data := #[41, 43] } : ByteArray) = bs [41, 43] := rfl
  have k0 : ({ data := #[] } : ByteArray) = bs [] := rfl
  have TK : Hid (∀ (r v : List UInt8) (W : World), r.length ≤ 20000 → v.length ≤ 20000 → Calls Tryz.prog 21 #[.string (bs r), .string (bs v)] W fun e w' => e = .returned (.tuple #[.bool (takB r v && choK 2 r v), .bool (takB r v)]) ∧ Frm [] W w') := fun r v W h1 h2 => takes_any' r v W h1 h2
  go_enter Tryz.func11, Tryz.ntmps11
  go_upto_if 27 with fail
  go_cut [] (fun wc => True ∧ Frm [] w wc)
  case first =>
    by_cases h20 : 2 * v.length ≤ 40
    · have hd : decide (2 * (v.length : Int) ≤ 40) = true := decide_eq_true (by omega)
      have hd' : decide (2 * v.length ≤ 40) = true := decide_eq_true h20
      have N1 := hide (escaped_any v w (by omega))
      have hel : (escK v).length ≤ 20000 := by
        have : ∀ u : List UInt8, (escK u).length = 2 * u.length := by
          intro u
          induction u with
          | nil => rfl
          | cons c r ih => show ([92, c] ++ escK r).length = _; rw [List.length_append, ih]; simp; omega
        rw [this]; omega
      have N2 := hide (TK.out (escK v) v w hel (by omega))
      obtain ⟨t1, t2⟩ := choK_esc (v := v) (by omega)
      rw [t1, t2] at N2
      clear t1 t2 TK
      generalize escK v = ev at *
      go_wp2_with fail
      refine (N1.out).mono ?_
      clear N1
      rintro e w1 ⟨rfl, rfl⟩
      go_wp2_with fail
      refine (N2.out).mono ?_
      clear N2
      rintro e w2 ⟨rfl, hF2⟩
      have F2 := hide hF2
      clear hF2
      go_wp2
      go_meet
      exact ⟨trivial, F2.out⟩
    · have hd : decide (2 * (v.length : Int) ≤ 40) = false := decide_eq_false (by omega)
      have hd' : decide (2 * v.length ≤ 40) = false := decide_eq_false h20
      clear TK
      go_wp2
      go_meet
      exact ⟨trivial, Frm.refl _ _⟩
  case rest =>
    obtain ⟨_, hFc⟩ := hcut
    obtain ⟨w1, hw1⟩ : ∃ w1, w1 = wc := ⟨_, rfl⟩
    subst hw1
    have F1 := hide hFc
    have N3 := hide (TK.out r v w1 (by omega) (by omega))
    clear hFc
    cases htb : takB r v
    · rw [htb] at N3
      clear TK
      go_wp2_with fail
      refine (N3.out).mono ?_
      clear N3
      rintro e w2 ⟨rfl, hF2⟩
      have F2 := hide (F1.out.trans hF2)
      clear hF2
      go_wp2
      go_ret
      exact ⟨rfl, F2.out⟩
    · obtain ⟨hgd, hv40⟩ := takB_good htb
      have hr40 := goodK_len hgd
      rw [htb, Bool.true_and] at N3
      have HW : Hid (∀ k, k < 6 → takB (wayT k r) v = true → choK 2 (wayT k r) v = choK 2 r v) := fun k hk h => way_ans hgd hk h
      have HW6 : Hid (takB (wayT 6 r) v = true → choK 2 r v = true → choK 2 (wayT 6 r) v = true) := fun h hx => way6_cho hgd (takB_good h).1 v hx
      have HM : Hid (choK 2 r v = true → ∀ k, k < 3 → (takB (mrkT k r) (v ++ v) && choK 2 (mrkT k r) (v ++ v)) = takB (mrkT k r) (v ++ v)) := fun hx k hk => mrk_ans hgd hx hk
      have HP : Hid (takB (mrkT 3 r) [] = true → choK 2 (mrkT 3 r) [] = choK 2 r []) := fun h => plus_cho hgd (takB_good h).1
      have HN : Hid (takB r [] = true) := by show _ = _; unfold takB; rw [hgd]; rfl
      clear hgd htb
      generalize hx : choK 2 r v = x at *
      go_wp2_with fail
      refine (N3.out).mono ?_
      clear N3
      rintro e w2 ⟨rfl, hF2⟩
      have F2 := hide (F1.out.trans hF2)
      clear hF2 F1
      go_wp2_with fail
      have FA : Hid (Frm [] w2 (w2.alloc (Obj.cells (wayC r) 9))) := (Frm.refl [] w2).alloc _
      have hb := heap1 w2 (Obj.cells (wayC r) 9)
      have hz : w2.heap.size < (w2.alloc (Obj.cells (wayC r) 9)).heap.size := by simp
      obtain ⟨W, hW⟩ : ∃ W, W = w2.alloc (Obj.cells (wayC r) 9) := ⟨_, rfl⟩
      rw [← hW] at FA hb hz
      have CW : Hid (∀ j, j < 7 → W.cell? ⟨w2.heap.size, j, none⟩ = some (.string (bs (wayT j r)))) := by
        intro j hj
        rcases (show j = 0 ∨ j = 1 ∨ j = 2 ∨ j = 3 ∨ j = 4 ∨ j = 5 ∨ j = 6 by omega) with rfl | rfl | rfl | rfl | rfl | rfl | rfl <;> simp [World.cell?, hb, wayC]
      have FW := hide (F2.out.trans FA.out)
      clear hb FA
      go_loopg [11] 7 (fun k vi wr => ∃ j : Nat, j + k = 7 ∧ vi = .int .i64 j ∧ Frm [] W wr)
      case atStart => exact ⟨0, by omega, rfl, by rw [hW]; exact Frm.refl _ _⟩
      case round =>
        obtain ⟨j, hjk, rfl, hFr⟩ := hrel
        have FR := hide hFr
        clear hFr
        by_cases hlt : j < 7
        · have hd1 : decide ((j : Int) < 7) = true := decide_eq_true (by omega)
          have c0 := FR.out.at (p := ⟨w2.heap.size, j, none⟩) hz (CW.out j hlt)
          have N4 := hide (TK.out (wayT j r) v wr (by have := wayT_len j r; omega) (by omega))
          have H1 := hide (HW.out j)
          have H6 : Hid (j = 6 → takB (wayT j r) v = true → x = true → choK 2 (wayT j r) v = true) := fun e => by rw [e]; exact HW6.out
          clear HW HW6 HM HP HN TK CW
          generalize wayT j r = wt at *
          cases hf : takB wt v
          · rw [hf] at N4
            clear H1 H6
            go_wp2_with fail
            refine (N4.out).mono ?_
            clear N4
            rintro e w4 ⟨rfl, hF4⟩
            have F4 := hide (FR.out.trans hF4)
            clear hF4
            go_wp2
            go_roundg (gk - 1)
            case measure => omega
            case rel => exact ⟨j + 1, by omega, by go_num, F4.out⟩
          · rw [hf, Bool.true_and] at N4
            by_cases hj6 : j < 6
            · have hd6 : decide ((j : Int) < 6) = true := decide_eq_true (by omega)
              have he6 : ((j : Int) == 6) = false := by rw [beq_eq_false_iff_ne]; omega
              rw [H1.out hj6 hf] at N4
              clear H1 H6
              go_wp2_with fail
              refine (N4.out).mono ?_
              clear N4
              rintro e w4 ⟨rfl, hF4⟩
              have F4 := hide (FR.out.trans hF4)
              clear hF4
              go_wp2
              go_roundg (gk - 1)
              case measure => omega
              case rel => exact ⟨j + 1, by omega, by go_num, F4.out⟩
            · have hj : j = 6 := by omega
              have hd6 : decide ((j : Int) < 6) = false := decide_eq_false (by omega)
              have he6 : ((j : Int) == 6) = true := by rw [beq_iff_eq]; omega
              have HJ := hide hj
              clear hj hj6
              cases hxx : x
              · clear H1 H6
                generalize choK 2 wt v = cy at *
                subst hxx
                go_wp2_with fail
                refine (N4.out).mono ?_
                clear N4
                rintro e w4 ⟨rfl, hF4⟩
                have F4 := hide (FR.out.trans hF4)
                clear hF4
                go_wp2
                go_roundg (gk - 1)
                case measure => omega
                case rel => exact ⟨j + 1, by omega, by go_num, F4.out⟩
              · rw [H6.out HJ.out hf hxx] at N4
                clear H1 H6
                subst hxx
                go_wp2_with fail
                refine (N4.out).mono ?_
                clear N4
                rintro e w4 ⟨rfl, hF4⟩
                have F4 := hide (FR.out.trans hF4)
                clear hF4
                go_wp2
                go_roundg (gk - 1)
                case measure => omega
                case rel => exact ⟨j + 1, by omega, by go_num, F4.out⟩
        · have hd1 : decide ((j : Int) < 7) = false := decide_eq_false (by omega)
          have F5 := hide (FW.out.trans FR.out)
          clear HW HW6 CW hW FW FR
          cases hxx : x
          · subst hxx
            go_wp2
            go_ret
            exact ⟨rfl, F5.out⟩
          · rw [hxx] at hx
            subst hxx
            have m0 := HM.out rfl 0 (by omega)
            have m1 := HM.out rfl 1 (by omega)
            have m2 := HM.out rfl 2 (by omega)
            have l0 := mrkT_len 0 r
            have l1 := mrkT_len 1 r
            have l2 := mrkT_len 2 r
            have l3 := mrkT_len 3 r
            have lv : (v ++ v).length ≤ 20000 := by simp; omega
            have N5 : Hid (∀ W, Calls Tryz.prog 21 #[.string (bs (40 :: (r ++ 41 :: 40 :: (r ++ [41])))), .string (bs (v ++ v))] W fun e w' => e = .returned (.tuple #[.bool (takB (mrkT 0 r) (v ++ v)), .bool (takB (mrkT 0 r) (v ++ v))]) ∧ Frm [] W w') := fun W => by
              have := TK.out (mrkT 0 r) (v ++ v) W (by omega) lv
              rw [m0] at this; exact this
            have N6 : Hid (∀ W, Calls Tryz.prog 21 #[.string (bs (40 :: (r ++ [41, 42]))), .string (bs (v ++ v))] W fun e w' => e = .returned (.tuple #[.bool (takB (mrkT 1 r) (v ++ v)), .bool (takB (mrkT 1 r) (v ++ v))]) ∧ Frm [] W w') := fun W => by
              have := TK.out (mrkT 1 r) (v ++ v) W (by omega) lv
              rw [m1] at this; exact this
            have N7 : Hid (∀ W, Calls Tryz.prog 21 #[.string (bs (40 :: (r ++ [41, 123, 50, 44, 125]))), .string (bs (v ++ v))] W fun e w' => e = .returned (.tuple #[.bool (takB (mrkT 2 r) (v ++ v)), .bool (takB (mrkT 2 r) (v ++ v))]) ∧ Frm [] W w') := fun W => by
              have := TK.out (mrkT 2 r) (v ++ v) W (by omega) lv
              rw [m2] at this; exact this
            have N8 : Hid (∀ W, Calls Tryz.prog 21 #[.string (bs (40 :: (r ++ [41, 43]))), .string (bs [])] W fun e w' => e = .returned (.tuple #[.bool (takB (mrkT 3 r) [] && choK 2 (mrkT 3 r) []), .bool (takB (mrkT 3 r) [])]) ∧ Frm [] W w') := fun W => TK.out (mrkT 3 r) [] W (by omega) (by simp)
            have N9 : Hid (∀ W, Calls Tryz.prog 21 #[.string (bs r), .string (bs [])] W fun e w' => e = .returned (.tuple #[.bool (choK 2 r []), .bool true]) ∧ Frm [] W w') := fun W => by
              have := TK.out r [] W (by omega) (by simp)
              rw [HN.out, Bool.true_and] at this; exact this
            clear m0 m1 m2 l0 l1 l2 l3 lv TK HM HN
            generalize takB (mrkT 0 r) (v ++ v) = f0 at *
            generalize takB (mrkT 1 r) (v ++ v) = f1 at *
            generalize takB (mrkT 2 r) (v ++ v) = f2 at *
            generalize takB (mrkT 3 r) [] = f3 at *
            generalize choK 2 (mrkT 3 r) [] = y3 at *
            generalize choK 2 r [] = y4 at *
            go_wp2_with fail
            refine (N5.out _).mono ?_
            clear N5
            rintro e w5 ⟨rfl, hF⟩
            have F6 := hide (F5.out.trans hF)
            clear hF F5
            go_wp2_with fail
            refine (N6.out _).mono ?_
            clear N6
            rintro e w6 ⟨rfl, hF⟩
            have F7 := hide (F6.out.trans hF)
            clear hF F6
            go_wp2_with fail
            refine (N7.out _).mono ?_
            clear N7
            rintro e w7 ⟨rfl, hF⟩
            have F8 := hide (F7.out.trans hF)
            clear hF F7
            go_wp2_with fail
            refine (N8.out _).mono ?_
            clear N8
            rintro e w8 ⟨rfl, hF⟩
            have F9 := hide (F8.out.trans hF)
            clear hF F8
            go_wp2_with fail
            refine (N9.out _).mono ?_
            clear N9
            rintro e w9 ⟨rfl, hF⟩
            have F10 := hide (F9.out.trans hF)
            have HP3 := hide HP.out
            clear hF F9 HP
            cases f3
            · clear HP3
              cases f0 <;> cases f1 <;> cases f2
              all_goals
                go_wp2
                go_ret
                exact ⟨rfl, F10.out⟩
            · have hy := HP3.out rfl
              subst hy
              clear HP3
              cases f0 <;> cases f1 <;> cases f2
              all_goals
                go_wp2
                go_ret
                exact ⟨rfl, F10.out⟩
end Go.Proofs.YtpbkgeipigcefaaGreat

namespace Go.Proofs.YtpbkgeipigcefaaGreat
open Go.RowKit

set_option maxRecDepth 100000 in
set_option maxHeartbeats 2000000 in
theorem regularLaw_any (r v : List UInt8) (w : World) (hr : r.length ≤ 140737488355328) (hv : v.length ≤ 140737488355328) :
    Calls Tryz.prog 3 #[.string (bs r), .string (bs v)] w fun e w' => e = .returned (.bool true) ∧ Frm [] w w' := by
  have hsz := bs_size
  by_cases hb : 16384 < r.length + v.length
  · have hd : decide ((16384 : Int) < (r.length : Int) + (v.length : Int)) = true := decide_eq_true (by omega)
    have hd' : decide (16384 < r.length + v.length) = true := decide_eq_true hb
    go_enter Tryz.func3, Tryz.ntmps3
    go_wp2
    go_ret
    exact ⟨rfl, Frm.refl _ _⟩
  · have hd : decide ((16384 : Int) < (r.length : Int) + (v.length : Int)) = false := decide_eq_false (by omega)
    have hd' : decide (16384 < r.length + v.length) = false := decide_eq_false hb
    have N1 := hide (regex_any r v w (by omega) (by omega))
    go_enter Tryz.func3, Tryz.ntmps3
    go_wp2_with fail
    refine (N1.out).mono ?_
    clear N1
    rintro e w1 ⟨rfl, hF⟩
    have F := hide hF
    clear hF
    go_wp2
    go_ret
    exact ⟨rfl, F.out⟩
end Go.Proofs.YtpbkgeipigcefaaGreat

namespace Go.Proofs.YtpbkgeipigcefaaGreat.fnRegular
open Go.ChangeShapes Go.WideShapes Go.ChangeAt Go.RowKit
open Go.ChangeMaps (open_string shut_string)

theorem own : ownKnob Tryz.prog.godebug = none := by kernel_rfl

set_option maxRecDepth 100000 in
theorem lifted (os : Os) (started : os.Started) (H : Type) (enc : TypeId × Value → H) :
    ReturnsInHanded {} Tryz.checked os 3 .any (Rows.regularSpec.pre6 enc Tryz.prog Tryz.f3 Rows.regularRow.domain false) (Rows.regularSpec.post enc Tryz.prog Tryz.f3 false true false false) := by
  refine returnsInHanded_of_change_sized (C := Tryz.checked) own started (by kernel_rfl) Tryz.func3
    (ChangeSpec.witness6 (enc := enc) (C := Tryz.checked) false ⟨#[], #[.string ByteArray.empty, .string ByteArray.empty], []⟩ 8 (by kernel_rfl) (by kernel_rfl) (by kernel_rfl) (by kernel_rfl)) ?_
  intro W base args ds gs before hval0 hW hcnd hsz0 _
  have hval : ∀ (j : Nat) t v, Tryz.f3.params[j]? = some t → args[j]? = some v → Value.okWide Tryz.prog W .any base t v := hval0
  have hW' := hW
  obtain ⟨p, q, hA0, hV, rfl, hfz, hnd⟩ := hW
  have hA : DataW.TrodAll enc Tryz.prog W 0 (fun _ => true) true Tryz.f3.params.toList args.toList ds p := hA0
  have hsz : (DataW.weightsEach Tryz.prog (Tryz.f3.params.toList ++ Rows.regularSpec.plain.varTypes Tryz.prog) (ds ++ gs)).all (· ≤ reachBytes) = true := hsz0
  rw [Tryz.params3] at hA hval hsz
  obtain ⟨v0, v1, d0, d1, p0, p1, rfl, rfl, rfl, h0, h1⟩ := trodAll_two hA
  obtain ⟨rfl, rfl⟩ := trodVars_none hV
  obtain ⟨s, rfl, rfl, rfl, hs⟩ := open_string Tryz.underlying9 (hval 0 9 v0 rfl rfl) h0
  obtain ⟨u, rfl, rfl, rfl, hu⟩ := open_string Tryz.underlying9 (hval 1 9 v1 rfl rfl) h1
  clear hA0 hval0 hsz0
  simp only [List.append_nil] at hW'
  have hsl : s.data.toList.length ≤ 140737488355328 := Nat.le_trans (sized_string (j := 0) hsz rfl rfl) (Nat.le_of_lt reachBytes_lt)
  have hul : u.data.toList.length ≤ 140737488355328 := Nat.le_trans (sized_string (j := 1) hsz rfl rfl) (Nat.le_of_lt reachBytes_lt)
  have hb : Value.string s = .string (bs s.data.toList) := by rw [bs_of]
  have hc : Value.string u = .string (bs u.data.toList) := by rw [bs_of]
  rw [hb, hc]
  refine (regularLaw_any s.data.toList u.data.toList W hsl hul).mono fun e W' ⟨he, hf⟩ => ?_
  rw [← hb, ← hc]
  subst he
  refine ⟨_, rfl, [.lit (.string s.data.toList), .lit (.string u.data.toList)], [], _, [], [] ++ [], [], by simpa using hW', trodAll_cons_mk (shut_bool Tryz.underlying4 _) trodAll_mk0, trodAll_mk2 (shut_string Tryz.underlying9 hs) (shut_string Tryz.underlying9 hu), rfl, hf.below.frame _, fun h => by cases h⟩

theorem over : Rows.regularRow.holds Tryz.pinned (OpenSpec.ofChange Rows.regularSpec) :=
  OpenClaim.holds_of_wide 3 Tryz.f3 rfl rfl rfl rfl rfl rfl rfl ⟨rfl, rfl, rfl, rfl, rfl⟩ rfl rfl rfl rfl rfl (by kernel_rfl) Tryz.func3 (by kernel_rfl)
    (of_decide_eq_true (by kernel_rfl)) (by unfold Func.isWrapper; first | (rw [if_pos (by decide +kernel)]; kernel_rfl) | (rw [if_neg (by decide +kernel)]; exact ⟨rfl, rfl⟩))
    (fun os started H enc _ => lifted os started H enc)
end Go.Proofs.YtpbkgeipigcefaaGreat.fnRegular

namespace Go.Proofs.YtpbkgeipigcefaaGreat
theorem regular_said : Rows.RegularSaid := fnRegular.over
end Go.Proofs.YtpbkgeipigcefaaGreat

