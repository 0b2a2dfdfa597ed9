import Derived.Test.YtpbkgeipigcefaaGreatJ45
import Derived.Test.YtpbkgeipigcefaaGreatRows
import Derived.Test.YtpbkgeipigcefaaGreatJ40
import Derived.ProofKit
import Derived.OpenShut
import Derived.DataShut
import Derived.SizedLaws
import Derived.Carry
import Derived.Deep.SlicePairs
set_option linter.unusedVariables false
set_option linter.unusedSimpArgs false
set_option linter.unnecessarySimpa false
namespace Go.Proofs.YtpbkgeipigcefaaGreat
open Go.RowKit

set_option maxRecDepth 100000 in
set_option maxHeartbeats 8000000 in
theorem kahead_any {w0 w : World} {db : Nat} {t : List UInt8} {a : Option Addr} {cap : Nat} {L : List LBL} {Ln : List (List UInt8)} {C : List CR} {s : CS} {V : V6} {pb : Nat} (h : DK w0 w db t a cap L Ln C s V pb) :
    Calls Tryz.prog 16 #[.pointer (some ⟨db, 0, none⟩), .bool true] w fun e w' => e = .returned (.bool true) ∧ Frm [] w w' := by
  have D := hide h
  have r0 : w.cell? ⟨db, 0, none⟩ = some (.string (bs t)) := by simp [World.cell?, h.row]
  have r1 : w.cell? ⟨db, 1, none⟩ = some (.pointer (some ⟨pb, 0, none⟩)) := by simp [World.cell?, h.row]
  have r2 : w.cell? ⟨db, 2, none⟩ = some (.slice a L.length cap) := by simp [World.cell?, h.row]
  have hdb : db < w.heap.size := (Array.getElem?_eq_some_iff.1 h.row).1
  have htl := h.tl
  have R0 := hide r0
  have R1 := hide r1
  have R2 := hide r2
  have LVL : Hid (LV L) := fun x hx => by have := h.ls x hx; exact ⟨by omega, by omega⟩
  have LRW : Hid (∀ W, Frm [] w W → LR W (.slice a L.length cap) L) := fun W f => (h.lr.frm f).lr cap (by have := h.ll; omega)
  have hcap := h.cap
  have NG : Hid (∀ W, Frm [] w W → Calls Tryz.prog 31 #[.pointer (some ⟨pb, 0, none⟩), .slice a L.length cap] W fun e w' => e = .returned (.bool (labsOK L)) ∧ Frm [] W w') := fun W f => kgood_any W pb V _ (h.pg.frm f (by simp)) h.ok a L.length cap L (LRW.out W f) LVL.out hcap
  have FN : Hid (Frm [] w w.drew) := (Frm.refl [] w).drew
  cases hlb : labsOK L
  · rw [hlb] at NG
    clear h D
    go_enter Tryz.func16, Tryz.ntmps16
    go_wp2_with fail
    go_region_with (go_at_call 31; refine (NG.out _ FN.out).mono ?_; rintro e w1 ⟨rfl, hF1⟩)
    all_goals
      have F1 := hide (FN.out.trans hF1)
      clear hF1
      go_wp2
      go_ret
      exact ⟨rfl, F1.out⟩
  · rw [hlb] at NG
    obtain ⟨n, M, l0, ls, c, r, hn, e2, -, -, e5, e6, -⟩ := first_line (by omega) (cRead_tree h.rd).1
    have hCl : (lnsK t).length = C.length + 1 := by rw [e2, List.length_cons, mapM_len rtL ls C e6]
    obtain ⟨-, c2, c3, c4⟩ := cRead_tree h.rd
    have NF : Hid (∀ W, Frm [] w W → Calls Tryz.prog 32 #[.pointer (some ⟨db, 0, none⟩)] W fun e w' => e = .returned (.string (bs n)) ∧ Frm [] W w') := fun W f => kfirst_any (D.out.frm f) hn
    have hnl := isNameL_len e5
    have NW : Hid (∀ W, Frm [] w W → Calls Tryz.prog 33 #[.pointer (some ⟨db, 0, none⟩), .int .i64 2, .string (bs (ahL n true ++ [10]))] W (AHQ t n true C L W)) := fun W f => kwithA_any (D.out.frm f) hn e5 hCl true
    have HAL := hide (ahead_hits (put_one h.rd rfl : Put C 1 (ahN n true)) rfl c2 (lblV L) rfl).2
    have NL : Hid (∀ W : World, Calls Tryz.prog 29 #[.string (bs t)] W fun e w' => ∃ v, e = .returned v ∧ Frm [] W w' ∧ RW [] 1 w' v (sc (lnsK t))) := fun W => lines_any t W (by omega)
    have NR : Hid (∀ W, Frm [] w W → Calls Tryz.prog 28 #[.pointer (some ⟨pb, 0, none⟩), .slice a L.length cap] W fun e w' => ∃ vh, Frm [] W w' ∧ e = .returned (.tuple #[vh, .int .i64 0]) ∧ HRS w' vh (hitsC C (lblV L))) := by
      intro W hW
      refine (route_any W pb V _ (h.pg.frm hW (by simp)) h.ok a L.length cap L (LRW.out W hW) LVL.out hcap).mono ?_
      rintro e w1 ⟨hF1, ⟨h1, _⟩ | ⟨_, vh, rfl, hH⟩⟩
      · rw [hlb] at h1; cases h1
      · exact ⟨vh, hF1, rfl, by rw [← hitsA_comp (A := L) (by omega) h.rd h.pr]; exact hH⟩
    have HG := hide (hitsC_good (by omega) h.rd (lblV L))
    clear h hn e2 e6 D
    have hsz := bs_size
    have hap := bs_append
    have k1 : ({ data := #[32, 114, 111, 117, 116, 101, 32] } : ByteArray) = bs ahA := rfl
    have k2 : ({ data := #[32, 98, 121, 32, 113, 55, 32, 119, 97, 105, 116, 32, 49, 50, 51, 52, 53, 32, 101, 118, 101, 114, 121, 32, 55, 32, 114, 101, 112, 101, 97, 116, 32, 57] } : ByteArray) = bs ahB := rfl
    have k3 : ({ data := #[32, 99, 111, 110, 116, 105, 110, 117, 101] } : ByteArray) = bs ahC := rfl
    have k4 : ({ data := #[10] } : ByteArray) = bs [10] := rfl
    have k5 : ({ data := #[113, 55] } : ByteArray) = bs [113, 55] := rfl
    have l1 : ahA.length = 7 := rfl
    have l2 : ahB.length = 34 := rfl
    have l3 : ahC.length = 9 := rfl
    go_enter Tryz.func16, Tryz.ntmps16
    go_upto_region 1 with fail
    go_cut [5] (fun v5 wc => True ∧ v5 = .bool true ∧ Frm [] w wc)
    case first =>
      go_region_with (go_at_call 31; refine (NG.out _ FN.out).mono ?_; rintro e w1 ⟨rfl, hF1⟩)
      all_goals
        have F1 := hide (FN.out.trans hF1)
        clear hF1
        go_wp2
        go_meet
        exact ⟨trivial, rfl, F1.out⟩
    case rest =>
      obtain ⟨_, rfl, hF1⟩ := hcut
      obtain ⟨w1, hw1⟩ : ∃ w1, w1 = wc := ⟨_, rfl⟩
      subst hw1
      have F1 := hide hF1
      have N1 := hide (NF.out w1 F1.out)
      clear hF1
      go_wp2_with fail
      refine (N1.out).mono ?_
      clear N1
      rintro e w2 ⟨rfl, hF2⟩
      have F2 := hide (F1.out.trans hF2)
      have N2 := hide (NW.out w2 F2.out)
      clear hF2
      have HT : Hid (ahL n true ++ [10] = ahA ++ (n ++ (ahB ++ (ahC ++ [10])))) := by show _ = _; simp [ahL]
      rw [HT.out] at N2
      go_wp2_with fail
      refine (N2.out).mono ?_
      clear N2
      rintro e w3 ⟨hF3, ⟨rfl, hbig⟩ | ⟨V2, pb2, m2, rfl, hP2, hK2, hH2⟩⟩
      · have F3 := hide (F2.out.trans hF3)
        have N3 := hide (NL.out w3)
        have q0 := F3.out.at (p := ⟨db, 0, none⟩) hdb R0.out
        clear hF3 r0 r1 r2
        go_wp2_with fail
        refine (N3.out).mono ?_
        clear N3
        rintro e w4 ⟨vl, rfl, hF4, hR4⟩
        obtain ⟨al, cl, rfl, _⟩ := hR4.str
        have F4 := hide (F3.out.trans hF4)
        have q04 := F4.out.at (p := ⟨db, 0, none⟩) hdb R0.out
        clear hF4 hR4 q0
        by_cases hb : 1200 < t.length + 60
        · have hd1 : decide ((1200 : Int) < (t.length : Int) + 60) = true := decide_eq_true (by omega)
          have hd1' : decide (1200 < t.length + 60) = true := decide_eq_true hb
          go_wp2
          go_ret
          exact ⟨rfl, F4.out⟩
        · have hb2 : 16 < (lnsK t).length := hbig.resolve_left hb
          have hd1 : decide ((1200 : Int) < (t.length : Int) + 60) = false := decide_eq_false (by omega)
          have hd1' : decide (1200 < t.length + 60) = false := decide_eq_false hb
          have hd2 : decide ((16 : Int) < (C.length : Int) + 1) = true := decide_eq_true (by omega)
          have hd2' : decide (16 < C.length + 1) = true := decide_eq_true (by omega)
          clear hbig
          go_wp2
          go_ret
          exact ⟨rfl, F4.out⟩
      · have F3 := hide (F2.out.trans hF3)
        have N3 := hide (NL.out w3)
        have q0 := F3.out.at (p := ⟨db, 0, none⟩) hdb R0.out
        have P2 := hide hP2
        have K2 := hide hK2
        have H2 := hide hH2
        clear hF3 r0 r1 r2 hP2 hK2 hH2
        go_wp2_with fail
        refine (N3.out).mono ?_
        clear N3
        rintro e w4 ⟨vl, rfl, hF4, hR4⟩
        obtain ⟨al, cl, rfl, _⟩ := hR4.str
        have F4 := hide (F3.out.trans hF4)
        have P4 := hide (P2.out.frm hF4 (by simp))
        have q04 := F4.out.at (p := ⟨db, 0, none⟩) hdb R0.out
        have q14 := F4.out.at (p := ⟨db, 1, none⟩) hdb R1.out
        have q24 := F4.out.at (p := ⟨db, 2, none⟩) hdb R2.out
        have FN4 : Hid (Frm [] w4 w4.drew) := (Frm.refl [] w4).drew
        clear hF4 hR4 q0 P2
        go_upto_region 12 with fail
        go_cut [10, 11] (fun v10 v11 wc => True ∧ v11 = .int .i64 0 ∧ Frm [] w4 wc ∧ HRS wc v10 (hitsC C (lblV L)))
        case first =>
          go_region_with (go_at_call 28; refine (NR.out _ (F4.out.trans FN4.out)).mono ?_; rintro e w5 ⟨vh, hF5, rfl, hH5⟩)
          all_goals
            have F45 := hide (FN4.out.trans hF5)
            have H5 := hide hH5
            obtain ⟨a5, c5, rfl, hc5, -⟩ := hH5
            clear hF5
            go_wp2
            go_meet
            exact ⟨trivial, rfl, F45.out, H5.out⟩
        case rest =>
          obtain ⟨_, rfl, hF45, hH5⟩ := hcut
          obtain ⟨w5, hw5⟩ : ∃ w5, w5 = wc := ⟨_, rfl⟩
          subst hw5
          have F45 := hide hF45
          have hF5 := hF45
          have F5 := hide (F4.out.trans F45.out)
          have P5 := hide (P4.out.frm F45.out (by simp))
          have H5 := hide hH5
          obtain ⟨a5, c5, rfl, hc5, -⟩ := hH5
          have q25 := F5.out.at (p := ⟨db, 2, none⟩) hdb R2.out
          have N6 : Hid (Calls Tryz.prog 28 #[.pointer (some ⟨pb2, 0, none⟩), .slice a L.length cap] w5 fun e w' => ∃ vh, Frm [] w5 w' ∧ e = .returned (.tuple #[vh, .int .i64 0]) ∧ HRS w' vh (hitsA m2 L)) := by
            refine (route_any w5 pb2 V2 m2 P5.out K2.out a L.length cap L (LRW.out w5 F5.out) LVL.out hcap).mono ?_
            rintro e w6 ⟨hF6, ⟨h1, _⟩ | ⟨_, vh, rfl, hH⟩⟩
            · rw [hlb] at h1; cases h1
            · exact ⟨vh, hF6, rfl, hH⟩
          rw [H2.out] at N6
          have hg := HG.out
          simp only [if_true] at N6
          cases hany : (kids C 0).any (hold autC (lblV L) C)
          · have HANY := hide hany
            rw [hany] at N6
            simp only [Bool.false_eq_true, if_false, if_true] at N6
            clear hF5 q04 q14 q24
            go_wp2_with fail
            refine (N6.out).mono ?_
            clear N6
            rintro e w6 ⟨vh6, hF6, rfl, hH6⟩
            have F6 := hide (F5.out.trans hF6)
            have H6 := hide hH6
            have H56 := hide (H5.out.frm hF6)
            obtain ⟨a6, c6, rfl, hc6, -⟩ := id hH6
            obtain ⟨g6, o6, rfl, -, hT6⟩ := hH6.tail
            have HD6 := hide hH6.head
            have HT6 := hide hT6
            clear hH6 hT6
            clear hF6 H5 q25 P4 P5
            have W7 := hide (want_hrs w6 n)
            have FW : Hid (Frm [] w6 ((w6.alloc (Obj.cells #[.string (bs [113, 55])] 9)).alloc (Obj.cells #[.string (bs n), .slice (some ⟨w6.heap.size, 0, none⟩) 1 1, .int .i64 12345, .int .i64 7, .int .i64 9] 57))) := ((Frm.refl [] w6).alloc _).alloc _
            have N7 := hide (ksameHits_eq _ _ _ _ (HD6.out.frm FW.out) W7.out (by simp) (by intro x hx; simp at hx; subst hx; simp))
            have hgl := hg.2.1
            clear hg hany
            have HL1 : Hid ((hitsC C (lblV L)).length = 1) := HAL.out HANY.out
            have hc61 : 1 ≤ c6 := by simpa using hc6
            have hc60 : (c6 = 0) = False := by simp; omega
            generalize hitsC C (lblV L) = hs at *
            have hs1 := HL1.out
            have hd61 : decide ((1 : Int) ≤ (c6 : Int)) = true := decide_eq_true (by omega)
            have HC5 := hide hc5
            clear HG HAL LVL LRW NG NF NW NL NR hc5 hgl HL1
            go_wp2_with fail
            refine (N7.out).mono ?_
            clear N7
            rintro e w8 ⟨rfl, q8, rfl⟩
            have F8 : Hid (Frm [] w (((w6.alloc (Obj.cells #[.string (bs [113, 55])] 9)).alloc (Obj.cells #[.string (bs n), .slice (some ⟨w6.heap.size, 0, none⟩) 1 1, .int .i64 12345, .int .i64 7, .int .i64 9] 57)).drewN q8)) := F6.out.trans (FW.out.drewN q8)
            clear F1 F2 F3 F4 F45 F5 F6 FW FN FN4 H6 H56 HD6 HT6 W7 H2 K2 R0 R1 R2
            generalize ((w6.alloc (Obj.cells #[.string (bs [113, 55])] 9)).alloc (Obj.cells #[.string (bs n), .slice (some ⟨w6.heap.size, 0, none⟩) 1 1, .int .i64 12345, .int .i64 7, .int .i64 9] 57)).drewN q8 = W8 at *
            by_cases hcc : c6 = 1
            · subst hcc
              have N8 : Hid (Calls Tryz.prog 34 #[.slice (some ⟨g6, o6, none⟩) 0 0, .slice a5 1 c5] W8 fun e w' => e = .returned (.bool false) ∧ W8 = w') := ksameHits_ne W8 _ a5 0 1 0 c5 (by omega)
              go_wp2_with fail
              refine (N8.out).mono ?_
              clear N8
              rintro e w9 ⟨rfl, rfl⟩
              go_wp2
              go_ret
              exact ⟨rfl, F8.out⟩
            · have N8 : Hid (Calls Tryz.prog 34 #[.slice (some ⟨g6, o6 + 5, none⟩) 0 (c6 - 1), .slice a5 1 c5] W8 fun e w' => e = .returned (.bool false) ∧ W8 = w') := ksameHits_ne W8 _ a5 0 1 _ c5 (by omega)
              go_wp2_with fail
              refine (N8.out).mono ?_
              clear N8
              rintro e w9 ⟨rfl, rfl⟩
              go_wp2
              go_ret
              exact ⟨rfl, F8.out⟩
          · have HANY := hide hany
            rw [hany] at N6
            simp only [Bool.false_eq_true, if_false, if_true] at N6
            clear hF5 q04 q14 q24
            go_wp2_with fail
            refine (N6.out).mono ?_
            clear N6
            rintro e w6 ⟨vh6, hF6, rfl, hH6⟩
            have F6 := hide (F5.out.trans hF6)
            have H6 := hide hH6
            have H56 := hide (H5.out.frm hF6)
            obtain ⟨a6, c6, rfl, hc6, -⟩ := id hH6
            obtain ⟨g6, o6, rfl, -, hT6⟩ := hH6.tail
            have HD6 := hide hH6.head
            have HT6 := hide hT6
            clear hH6 hT6
            clear hF6 H5 q25 P4 P5
            have W7 := hide (want_hrs w6 n)
            have FW : Hid (Frm [] w6 ((w6.alloc (Obj.cells #[.string (bs [113, 55])] 9)).alloc (Obj.cells #[.string (bs n), .slice (some ⟨w6.heap.size, 0, none⟩) 1 1, .int .i64 12345, .int .i64 7, .int .i64 9] 57))) := ((Frm.refl [] w6).alloc _).alloc _
            have N7 := hide (ksameHits_eq _ _ _ _ (HD6.out.frm FW.out) W7.out (by simp) (by intro x hx; simp at hx; subst hx; simp))
            have hgl := hg.2.1
            have hne : 1 ≤ (hitsC C (lblV L)).length := List.length_pos_iff.2 hg.1
            have HB5 : Hid (∀ x ∈ hitsC C (lblV L), x.bl.length ≤ 1000) := fun x hx => by have := (hg.2.2 x hx).2.b1; omega
            clear hg hany HAL
            have hc62 : (hitsC C (lblV L)).length + 1 ≤ c6 := by simpa using hc6
            generalize hitsC C (lblV L) = hs at *
            have hd61 : decide ((1 : Int) ≤ (c6 : Int)) = true := decide_eq_true (by omega)
            have hcc : ¬ c6 = 1 := by omega
            have hcc0 : ¬ c6 = 0 := by omega
            have HC5 := hide hc5
            clear HG LVL LRW NG NF NW NL NR hc5
            go_wp2_with fail
            refine (N7.out).mono ?_
            clear N7
            rintro e w8 ⟨rfl, q8, rfl⟩
            have F8 : Hid (Frm [] w (((w6.alloc (Obj.cells #[.string (bs [113, 55])] 9)).alloc (Obj.cells #[.string (bs n), .slice (some ⟨w6.heap.size, 0, none⟩) 1 1, .int .i64 12345, .int .i64 7, .int .i64 9] 57)).drewN q8)) := F6.out.trans (FW.out.drewN q8)
            have T8 := hide (HT6.out.frm (FW.out.drewN q8))
            have A8 := hide (H56.out.frm (FW.out.drewN q8))
            clear F1 F2 F3 F4 F45 F5 F6 FW FN FN4 H6 H56 HD6 HT6 W7 H2 K2 R0 R1 R2
            generalize ((w6.alloc (Obj.cells #[.string (bs [113, 55])] 9)).alloc (Obj.cells #[.string (bs n), .slice (some ⟨w6.heap.size, 0, none⟩) 1 1, .int .i64 12345, .int .i64 7, .int .i64 9] 57)).drewN q8 = W8 at *
            have N8 : Hid (Calls Tryz.prog 34 #[.slice (some ⟨g6, o6 + 5, none⟩) hs.length (c6 - 1), .slice a5 hs.length c5] W8 fun e w' => e = .returned (.bool true) ∧ ∃ r, w' = W8.drewN r) := ksameHits_eq W8 _ _ hs T8.out A8.out (by omega) HB5.out
            clear T8 A8 HB5
            go_wp2_with fail
            refine (N8.out).mono ?_
            clear N8
            rintro e w9 ⟨rfl, q9, rfl⟩
            go_wp2
            go_ret
            exact ⟨rfl, F8.out.drewN q9⟩
end Go.Proofs.YtpbkgeipigcefaaGreat

namespace Go.Proofs.YtpbkgeipigcefaaGreat
open Go.RowKit

set_option maxRecDepth 100000 in
set_option maxHeartbeats 4000000 in
theorem aloneLaw_any (w : World) (a : Option Addr) (cap : Nat) (L : List LBL) (h : LQ w a L) (hN : L.length ≤ 4398046511104) (hs : ∀ x ∈ L, x.1.length ≤ 140737488355328 ∧ x.2.length ≤ 140737488355328) (hcap : L.length ≤ cap) (r : List UInt8) (hr : r.length ≤ 140737488355328) :
    Calls Tryz.prog 7 #[.string (bs r), .slice a L.length cap] w fun e w' => e = .returned (.bool true) ∧ Frm [] w w' := by
  have N1 := hide (kat_any w a cap L h hN hs hcap r hr)
  have N2 : Hid (∀ W : World, Calls Tryz.prog 14 #[.int .i64 (r.length : Nat)] W fun e w' => e = .returned (.bool true) ∧ Frm [] W w') := fun W => stands_any _ W (by omega) (by omega)
  have hsz := bs_size
  clear h hs
  go_enter Tryz.func7, Tryz.ntmps7
  go_wp2_with fail
  refine (N1.out).mono ?_
  clear N1
  rintro e w1 ⟨hF, rfl | ⟨db, Ln, C, s, V, pb, rfl, hD⟩⟩
  · have F := hide hF
    clear hF
    go_wp2_with fail
    refine (N2.out _).mono ?_
    clear N2
    rintro e w2 ⟨rfl, hF2⟩
    have F2 := hide (F.out.trans hF2)
    clear hF2
    go_wp2
    go_ret
    exact ⟨rfl, F2.out⟩
  · have F := hide hF
    have N3 := hide (kalone_any hD)
    clear hF N2 hD
    go_wp2_with fail
    refine (N3.out).mono ?_
    clear N3
    rintro e w2 ⟨rfl, hF2⟩
    have F2 := hide (F.out.trans hF2)
    clear hF2
    go_wp2
    go_ret
    exact ⟨rfl, F2.out⟩
set_option maxRecDepth 100000 in
set_option maxHeartbeats 4000000 in
theorem aheadLaw_any (w : World) (a : Option Addr) (cap : Nat) (L : List LBL) (h : LQ w a L) (hN : L.length ≤ 4398046511104) (hs : ∀ x ∈ L, x.1.length ≤ 140737488355328 ∧ x.2.length ≤ 140737488355328) (hcap : L.length ≤ cap) (r : List UInt8) (hr : r.length ≤ 140737488355328) :
    Calls Tryz.prog 6 #[.string (bs r), .slice a L.length cap] w fun e w' => e = .returned (.bool true) ∧ Frm [] w w' := by
  have N1 := hide (kat_any w a cap L h hN hs hcap r hr)
  have N2 : Hid (∀ W : World, Calls Tryz.prog 14 #[.int .i64 (r.length : Nat)] W fun e w' => e = .returned (.bool true) ∧ Frm [] W w') := fun W => stands_any _ W (by omega) (by omega)
  have hsz := bs_size
  clear h hs
  go_enter Tryz.func6, Tryz.ntmps6
  go_wp2_with fail
  refine (N1.out).mono ?_
  clear N1
  rintro e w1 ⟨hF, rfl | ⟨db, Ln, C, s, V, pb, rfl, hD⟩⟩
  · have F := hide hF
    clear hF
    go_wp2_with fail
    refine (N2.out _).mono ?_
    clear N2
    rintro e w2 ⟨rfl, hF2⟩
    have F2 := hide (F.out.trans hF2)
    clear hF2
    go_wp2
    go_ret
    exact ⟨rfl, F2.out⟩
  · have F := hide hF
    have N3 := hide (kahead_any hD)
    clear hF N2 hD
    go_wp2_with fail
    refine (N3.out).mono ?_
    clear N3
    rintro e w2 ⟨rfl, hF2⟩
    have F2 := hide (F.out.trans hF2)
    clear hF2
    go_wp2
    go_ret
    exact ⟨rfl, F2.out⟩
end Go.Proofs.YtpbkgeipigcefaaGreat

namespace Go.Proofs.YtpbkgeipigcefaaGreat
open Go.ChangeShapes Go.WideShapes Go.ChangeAt Go.RowKit
open Go.ChangeMaps (open_string shut_string)

def strL : Value → List UInt8
  | .string s => s.data.toList
  | _ => []
theorem weightsAll_mem {H : Type} {P : Program} {e : TypeId} {d : DataW H} {n : Nat} : ∀ {l : List (DataW H)}, d ∈ l → n ∈ d.weights P e → n ∈ DataW.weightsAll P e l
  | [], hd, _ => by simp at hd
  | x :: r, hd, hn => by
    simp only [DataW.weightsAll, List.mem_append]
    rcases List.mem_cons.1 hd with rfl | hd
    · exact .inl hn
    · exact .inr (weightsAll_mem hd hn)
theorem cellsLab : Tryz.prog.cellsOf 32 = 2 := by kernel_rfl
theorem cellsStr : Tryz.prog.cellsOf 9 = 1 := by kernel_rfl
theorem bytesLab : Tryz.prog.bytesOf 32 = 32 := by kernel_rfl

set_option maxRecDepth 100000 in
theorem labels_open {H : Type} {enc : TypeId × Value → H} {W : World} {a : Option Addr} {len cap : Nat} {d : DataW H} {ps : List MemPlace} (h : DataW.Trod enc Tryz.prog W 0 (fun _ => true) true 23 (.slice a len cap) d ps)
    (hw : ∀ n ∈ d.weights Tryz.prog 23, n ≤ reachBytes) :
    ∃ L : List LBL, L.length = len ∧ LQ W a L ∧ L.length ≤ 4398046511104 ∧ ∀ x ∈ L, x.1.length ≤ 140737488355328 ∧ x.2.length ≤ 140737488355328 := by
  obtain ⟨fuel, h⟩ := h
  have hcs : (Value.slice a len cap).cells.toList = [.slice a len cap] := rfl
  rw [hcs] at h
  rcases Deep.open_slice_pairs Tryz.underlying23 Tryz.underlying32 cellsLab rfl rfl cellsStr cellsStr h with ⟨hc, _⟩ | ⟨ad, len', cap', m, n, V0, V1, D0, D1, P0, P1, hc, _, hl, hm, hmm, hx, hall⟩
  · simp only [List.cons.injEq, and_true, Value.slice.injEq] at hc
    obtain ⟨rfl, rfl, rfl⟩ := hc
    exact ⟨[], rfl, fun j hj => absurd hj (by simp), by simp, by simp⟩
  · simp only [List.cons.injEq, and_true, Value.slice.injEq] at hc
    obtain ⟨rfl, rfl, rfl⟩ := hc
    simp only [if_true] at hmm
    subst hmm
    simp only [Prod.mk.injEq] at hx
    obtain ⟨rfl, rfl⟩ := hx
    have hrb : reachBytes ≤ 140737488355328 := Nat.le_of_lt reachBytes_lt
    have hS : ∀ i, i < m → ∃ s0 s1 : ByteArray, V0 i = .string s0 ∧ V1 i = .string s1 ∧ D0 i = .lit (.string s0.data.toList) ∧ D1 i = .lit (.string s1.data.toList) := by
      intro i hi
      obtain ⟨_, _, h1, h2⟩ := hall i hi
      obtain ⟨s0, e0, f0, _⟩ := DataW.trod_string Tryz.underlying9 h1
      obtain ⟨s1, e1, f1, _⟩ := DataW.trod_string Tryz.underlying9 h2
      simp only [List.cons.injEq, and_true] at e0 e1
      simp only [Prod.mk.injEq] at f0 f1
      exact ⟨s0, s1, e0, e1, f0.1, f1.1⟩
    have hlen : len * 32 ≤ reachBytes := by
      have := hw ((len + (m - len)) * 32) (by simp [DataW.weights, Tryz.underlying23, bytesLab])
      omega
    refine ⟨(List.range len).map fun i => (strL (V0 i), strL (V1 i)), by simp, ?_, by simp; omega, ?_⟩
    · intro j hj
      simp only [List.length_map, List.length_range] at hj
      obtain ⟨b, off, spot⟩ := ad
      obtain ⟨c0, c1, _, _⟩ := hall j (by omega)
      obtain ⟨s0, s1, e0, e1, _, _⟩ := hS j (by omega)
      have hspot : spot = none := by
        have := World.cell?_spot (hall 0 (by omega)).1
        simpa [Addr.add] using this
      subst hspot
      rw [add_plain] at c0 c1
      refine ⟨b, off, rfl, World.block_lt_of_cell? W _ c0, ?_, ?_⟩
      · rw [c0, e0]; simp [strL, e0, bs_of]
      · rw [← Nat.add_assoc] at c1
        rw [c1, e1]; simp [strL, e1, bs_of]
    · intro x hx
      obtain ⟨i, hi, rfl⟩ := List.mem_map.1 hx
      rw [List.mem_range] at hi
      obtain ⟨s0, s1, e0, e1, f0, f1⟩ := hS i (by omega)
      have hwt : ∀ k, k = s0.data.toList.length ∨ k = s1.data.toList.length → k ≤ reachBytes := by
        intro k hk
        apply hw
        have hmem : k ∈ DataW.weightsAll Tryz.prog 32 ((List.range len).map fun i => DataW.agg [D0 i, D1 i]) := by
          refine weightsAll_mem (d := .agg [D0 i, D1 i]) (List.mem_map.2 ⟨i, List.mem_range.2 hi, rfl⟩) ?_
          rw [f0, f1]
          simp only [DataW.weights, Tryz.underlying32]
          rcases hk with rfl | rfl <;> simp [DataW.weightsEach, DataW.weights]
        simp only [DataW.weights, Tryz.underlying23, List.mem_cons, List.mem_append]
        exact .inr (.inl hmem)
      have h1 := hwt _ (.inl rfl)
      have h2 := hwt _ (.inr rfl)
      simp only [e0, e1, strL]
      omega
end Go.Proofs.YtpbkgeipigcefaaGreat

namespace Go.Proofs.YtpbkgeipigcefaaGreat
open Go.ChangeShapes Go.WideShapes Go.ChangeAt Go.RowKit

theorem labels_cap {H : Type} {enc : TypeId × Value → H} {W : World} {a : Option Addr} {len cap : Nat} {d : DataW H} {ps : List MemPlace} (h : DataW.Trod enc Tryz.prog W 0 (fun _ => true) true 23 (.slice a len cap) d ps) : len ≤ cap := by
  obtain ⟨fuel, h⟩ := h
  have hcs : (Value.slice a len cap).cells.toList = [.slice a len cap] := rfl
  rw [hcs] at h
  rcases Deep.open_slice_pairs Tryz.underlying23 Tryz.underlying32 cellsLab rfl rfl cellsStr cellsStr h with ⟨hc, _⟩ | ⟨ad, len', cap', m, n, V0, V1, D0, D1, P0, P1, hc, _, hl, hm, hmm, hx, hall⟩
  · simp only [List.cons.injEq, and_true, Value.slice.injEq] at hc
    omega
  · simp only [List.cons.injEq, and_true, Value.slice.injEq] at hc
    obtain ⟨rfl, rfl, rfl⟩ := hc
    exact hl
end Go.Proofs.YtpbkgeipigcefaaGreat

namespace Go.Proofs.YtpbkgeipigcefaaGreat.fnAlone
open Go.ChangeShapes Go.WideShapes Go.ChangeAt Go.RowKit
open Go.ChangeMaps (open_string shut_string)

theorem own : ownKnob Tryz.prog.godebug = none := by kernel_rfl
theorem laidOut : laidOutB Tryz.prog = true := by kernel_rfl

set_option maxRecDepth 100000 in
theorem lifted (os : Os) (started : os.Started) (H : Type) (enc : TypeId × Value → H) :
    ReturnsInHanded {} Tryz.checked os 7 .any (Rows.aloneSpec.pre6 enc Tryz.prog Tryz.f7 Rows.aloneRow.domain false) (Rows.aloneSpec.post enc Tryz.prog Tryz.f7 false true false false) := by
  refine returnsInHanded_of_change_sized (C := Tryz.checked) own started (by kernel_rfl) Tryz.func7
    (ChangeSpec.witness6 (enc := enc) (C := Tryz.checked) false ⟨#[], #[.string ByteArray.empty, .slice none 0 0], []⟩ 8 (by kernel_rfl) (by kernel_rfl) (by kernel_rfl) (by kernel_rfl)) ?_
  intro W base args ds gs before hval0 hW hcnd hsz0 _
  have hval : ∀ (j : Nat) t v, Tryz.f7.params[j]? = some t → args[j]? = some v → Value.okWide Tryz.prog W .any base t v := hval0
  have hW' := hW
  obtain ⟨p, q, hA0, hV, rfl, hfz, hnd⟩ := hW
  have hA : DataW.TrodAll enc Tryz.prog W 0 (fun _ => true) true Tryz.f7.params.toList args.toList ds p := hA0
  have hsz : (DataW.weightsEach Tryz.prog (Tryz.f7.params.toList ++ Rows.aloneSpec.plain.varTypes Tryz.prog) (ds ++ gs)).all (· ≤ reachBytes) = true := hsz0
  rw [Tryz.params7] at hA hval hsz
  obtain ⟨v0, v1, d0, d1, p0, p1, rfl, rfl, rfl, h0, h1⟩ := trodAll_two hA
  obtain ⟨rfl, rfl⟩ := trodVars_none hV
  obtain ⟨s, rfl, rfl, rfl, hs⟩ := open_string Tryz.underlying9 (hval 0 9 v0 rfl rfl) h0
  obtain ⟨a1, len1, cap1, rfl⟩ := okWide_slice Tryz.underlying23 (hval 1 23 v1 rfl rfl)
  clear hA0 hval0 hsz0
  simp only [List.append_nil] at hW'
  have hlt : ∀ x ∈ ([] : List MemPlace) ++ p1, x.block < W.heap.size := fun x hx => by simpa using hW'.lt x hx
  have hsl : s.data.toList.length ≤ 140737488355328 := Nat.le_trans (sized_string (j := 0) hsz rfl rfl) (Nat.le_of_lt reachBytes_lt)
  obtain ⟨L, rfl, hQ, hN, hLs⟩ := labels_open h1 (fun n hn => by
    have := List.all_eq_true.1 hsz _ (DataW.weights_mem_each (j := 1) (t := 23) (d := d1) rfl rfl n hn)
    simpa using this)
  have hb : Value.string s = .string (bs s.data.toList) := by rw [bs_of]
  rw [hb]
  refine (aloneLaw_any W a1 cap1 L hQ hN hLs (labels_cap h1) s.data.toList hsl).mono fun e W' ⟨he, hf⟩ => ?_
  rw [← hb]
  subst he
  refine ⟨_, rfl, [.lit (.string s.data.toList), d1], [], _, [], [] ++ p1, [], hW', trodAll_cons_mk (shut_bool Tryz.underlying4 _) trodAll_mk0, trodAll_mk2 (shut_string Tryz.underlying9 hs) (Below.trod laidOut (by kernel_rfl) (of_decide_eq_true (by kernel_rfl)) h1 hf.below (fun x hx => hlt x (by simpa using hx))), rfl, hf.below.frame _, fun h => by cases h⟩

theorem over : Rows.aloneRow.holds Tryz.pinned (OpenSpec.ofChange Rows.aloneSpec) :=
  OpenClaim.holds_of_wide 7 Tryz.f7 rfl rfl rfl rfl rfl rfl rfl ⟨rfl, rfl, rfl, rfl, rfl⟩ rfl rfl rfl rfl rfl (by kernel_rfl) Tryz.func7 (by kernel_rfl)
    (of_decide_eq_true (by kernel_rfl)) (by unfold Func.isWrapper; first | (rw [if_pos (by decide +kernel)]; kernel_rfl) | (rw [if_neg (by decide +kernel)]; exact ⟨rfl, rfl⟩))
    (fun os started H enc _ => lifted os started H enc)
end Go.Proofs.YtpbkgeipigcefaaGreat.fnAlone

namespace Go.Proofs.YtpbkgeipigcefaaGreat
theorem alone_said : Rows.AloneSaid := fnAlone.over
end Go.Proofs.YtpbkgeipigcefaaGreat

namespace Go.Proofs.YtpbkgeipigcefaaGreat.fnAhead
open Go.ChangeShapes Go.WideShapes Go.ChangeAt Go.RowKit
open Go.ChangeMaps (open_string shut_string)

theorem own : ownKnob Tryz.prog.godebug = none := by kernel_rfl
theorem laidOut : laidOutB Tryz.prog = true := by kernel_rfl

set_option maxRecDepth 100000 in
theorem lifted (os : Os) (started : os.Started) (H : Type) (enc : TypeId × Value → H) :
    ReturnsInHanded {} Tryz.checked os 6 .any (Rows.aheadSpec.pre6 enc Tryz.prog Tryz.f6 Rows.aheadRow.domain false) (Rows.aheadSpec.post enc Tryz.prog Tryz.f6 false true false false) := by
  refine returnsInHanded_of_change_sized (C := Tryz.checked) own started (by kernel_rfl) Tryz.func6
    (ChangeSpec.witness6 (enc := enc) (C := Tryz.checked) false ⟨#[], #[.string ByteArray.empty, .slice none 0 0], []⟩ 8 (by kernel_rfl) (by kernel_rfl) (by kernel_rfl) (by kernel_rfl)) ?_
  intro W base args ds gs before hval0 hW hcnd hsz0 _
  have hval : ∀ (j : Nat) t v, Tryz.f6.params[j]? = some t → args[j]? = some v → Value.okWide Tryz.prog W .any base t v := hval0
  have hW' := hW
  obtain ⟨p, q, hA0, hV, rfl, hfz, hnd⟩ := hW
  have hA : DataW.TrodAll enc Tryz.prog W 0 (fun _ => true) true Tryz.f6.params.toList args.toList ds p := hA0
  have hsz : (DataW.weightsEach Tryz.prog (Tryz.f6.params.toList ++ Rows.aheadSpec.plain.varTypes Tryz.prog) (ds ++ gs)).all (· ≤ reachBytes) = true := hsz0
  rw [Tryz.params6] at hA hval hsz
  obtain ⟨v0, v1, d0, d1, p0, p1, rfl, rfl, rfl, h0, h1⟩ := trodAll_two hA
  obtain ⟨rfl, rfl⟩ := trodVars_none hV
  obtain ⟨s, rfl, rfl, rfl, hs⟩ := open_string Tryz.underlying9 (hval 0 9 v0 rfl rfl) h0
  obtain ⟨a1, len1, cap1, rfl⟩ := okWide_slice Tryz.underlying23 (hval 1 23 v1 rfl rfl)
  clear hA0 hval0 hsz0
  simp only [List.append_nil] at hW'
  have hlt : ∀ x ∈ ([] : List MemPlace) ++ p1, x.block < W.heap.size := fun x hx => by simpa using hW'.lt x hx
  have hsl : s.data.toList.length ≤ 140737488355328 := Nat.le_trans (sized_string (j := 0) hsz rfl rfl) (Nat.le_of_lt reachBytes_lt)
  obtain ⟨L, rfl, hQ, hN, hLs⟩ := labels_open h1 (fun n hn => by
    have := List.all_eq_true.1 hsz _ (DataW.weights_mem_each (j := 1) (t := 23) (d := d1) rfl rfl n hn)
    simpa using this)
  have hb : Value.string s = .string (bs s.data.toList) := by rw [bs_of]
  rw [hb]
  refine (aheadLaw_any W a1 cap1 L hQ hN hLs (labels_cap h1) s.data.toList hsl).mono fun e W' ⟨he, hf⟩ => ?_
  rw [← hb]
  subst he
  refine ⟨_, rfl, [.lit (.string s.data.toList), d1], [], _, [], [] ++ p1, [], hW', trodAll_cons_mk (shut_bool Tryz.underlying4 _) trodAll_mk0, trodAll_mk2 (shut_string Tryz.underlying9 hs) (Below.trod laidOut (by kernel_rfl) (of_decide_eq_true (by kernel_rfl)) h1 hf.below (fun x hx => hlt x (by simpa using hx))), rfl, hf.below.frame _, fun h => by cases h⟩

theorem over : Rows.aheadRow.holds Tryz.pinned (OpenSpec.ofChange Rows.aheadSpec) :=
  OpenClaim.holds_of_wide 6 Tryz.f6 rfl rfl rfl rfl rfl rfl rfl ⟨rfl, rfl, rfl, rfl, rfl⟩ rfl rfl rfl rfl rfl (by kernel_rfl) Tryz.func6 (by kernel_rfl)
    (of_decide_eq_true (by kernel_rfl)) (by unfold Func.isWrapper; first | (rw [if_pos (by decide +kernel)]; kernel_rfl) | (rw [if_neg (by decide +kernel)]; exact ⟨rfl, rfl⟩))
    (fun os started H enc _ => lifted os started H enc)
end Go.Proofs.YtpbkgeipigcefaaGreat.fnAhead

namespace Go.Proofs.YtpbkgeipigcefaaGreat
theorem ahead_said : Rows.AheadSaid := fnAhead.over
end Go.Proofs.YtpbkgeipigcefaaGreat

