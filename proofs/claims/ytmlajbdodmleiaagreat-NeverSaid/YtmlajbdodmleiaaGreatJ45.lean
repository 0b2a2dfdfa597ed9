import Derived.Test.YtmlajbdodmleiaaGreatJ44
import Derived.Test.YtmlajbdodmleiaaGreatRows
import Derived.Test.YtmlajbdodmleiaaGreatJ43
import Derived.ProofKit
import Derived.OpenShut
import Derived.DataShut
import Derived.SizedLaws
import Derived.Carry
import Derived.Deep.SlicePairs
set_option linter.unusedVariables false
set_option linter.unusedSimpArgs false
set_option linter.unnecessarySimpa false
namespace Go.Proofs.YtmlajbdodmleiaaGreat
open Go.RowKit

theorem mapM_get {α β : Type} (f : α → Option β) : ∀ (l : List α) (m : List β), l.mapM f = some m → ∀ (i : Nat) (b : β), m[i]? = some b → ∃ a, l[i]? = some a ∧ f a = some b
  | [], m, h, i, b, hb => by simp at h; subst h; simp at hb
  | a :: l, m, h, i, b, hb => by
    rw [mapM_cons'] at h
    split at h
    · cases h
    · rename_i x hx
      split at h
      · cases h
      · rename_i bs hbs
        cases h
        cases i with
        | zero => simp at hb; subst hb; exact ⟨a, rfl, hx⟩
        | succ i =>
          obtain ⟨y, hy, hf⟩ := mapM_get f l bs hbs i b (by simpa using hb)
          exact ⟨y, by simpa using hy, hf⟩
theorem sDepth_text : ∀ (x : List UInt8), x = List.replicate (sDepth x).1 32 ++ (sDepth x).2
  | [] => rfl
  | c :: r => by
    rw [sDepth]
    split
    · rename_i h
      have hc : c = 32 := by simpa using h
      subst hc
      have := sDepth_text r
      simp only [List.replicate_succ, List.cons_append]
      rw [← this]
    · simp
theorem route_line {l : List UInt8} {c : CR} (h : rtL l = some c) (hl : ∃ x, l = x ++ [10]) : (∀ j, j < c.d → l[j]? = some 32) ∧ l[c.d]? = some 114 := by
  obtain ⟨x, rfl⟩ := hl
  unfold rtL at h
  rw [List.dropLast_concat] at h
  obtain ⟨h1, _, _, _, _, _, rfl⟩ := sRoute_some _ _ h
  have ht := sDepth_text x
  unfold sTake at h1
  obtain ⟨r, hr⟩ := List.isPrefixOf_iff_prefix.1 h1
  simp only
  generalize (sDepth x).1 = d at *
  rw [← hr] at ht
  refine ⟨fun j hj => ?_, ?_⟩
  · rw [ht, List.append_assoc, List.getElem?_append_left (by simpa using hj)]
    simp [hj]
  · rw [ht, List.append_assoc, List.getElem?_append_right (by simp)]
    simp [kRoute]
theorem put_at {t : List UInt8} {Ln : List (List UInt8)} {C : List CR} (h : cRead t = .ok (Ln, C)) {i : Nat} {N : CR} (hi : 1 ≤ i) (hil : i ≤ C.length) (hN : ∀ c, C[i]? = some c → N.d = c.d) : Put C i N := ⟨cRead_steps h, hi, hil, hN⟩
theorem nvL_len (d : Nat) : (nvL d).length = d + 41 := by simp [nvL, nvB]
theorem nvL_no (d : Nat) : (10 : UInt8) ∉ nvL d := by
  intro hm
  unfold nvL at hm
  rcases List.mem_append.1 hm with hm | hm
  · have := List.eq_of_mem_replicate hm
    revert this; decide
  · revert hm; decide
def NVQ (t : List UInt8) (C : List CR) (L : List LBL) (w : World) (e : Ending) (w' : World) : Prop :=
  Frm [] w w' ∧ ((e = .returned (.pointer none) ∧ (1200 < t.length + 60 ∨ 16 < (lnsK t).length)) ∨
    ∃ V2 pb2 m2, e = .returned (.pointer (some ⟨pb2, 0, none⟩)) ∧ PR [] w' pb2 V2 m2 ∧ MOK m2 ∧ hitsA m2 L = hitsC C (lblV L))
theorem kwithN_any {w0 w : World} {db : Nat} {t : List UInt8} {a : Option Addr} {cap : Nat} {L : List LBL} {Ln : List (List UInt8)} {C : List CR} {s : CS} {V : V6} {pb : Nat} (h : DK w0 w db t a cap L Ln C s V pb) (hCl : (lnsK t).length = C.length + 1) {i d : Nat} (hi : 1 ≤ i) (hil : i ≤ C.length) (hd : ∀ c, C[i]? = some c → d = c.d) (he : i = C.length → d = 1) (hd5 : d ≤ 5) :
    Calls Tryz.prog 20 #[.pointer (some ⟨db, 0, none⟩), .int .i64 ((i + 1 : Nat) : Int), .string (bs (nvL d ++ [10]))] w (NVQ t C L w) := by
  have htl := h.tl
  have c2 := (cRead_tree h.rd).2.1
  have hal := nvL_len d
  have hfl : (lnsK t).flatten = t := ((cRead1_lines t Ln C).1 (cRead_tree h.rd).1).1
  have hput : Put C i (nvN d) := put_at h.rd hi hil hd
  have hwl := wth_len (lnsK t) (i + 1) (nvL d ++ [10])
  rw [hfl, List.length_append, List.length_singleton] at hwl
  have hrd : (wthL (lnsK t) (i + 1) (nvL d ++ [10])).flatten.length ≤ 1200 → (lnsK t).length ≤ 16 → cRead (wthL (lnsK t) (i + 1) (nvL d ++ [10])).flatten = .ok (Ln, insC C i (nvN d)) := fun h1 h2 =>
    cRead_put (by omega) h.rd (nvL_no d) (never_line d) hput he hd5 (.inl rfl) (by omega) h1
  refine (kwith_any h (i + 1) (by omega) (nvL d ++ [10]) (by simp; omega)).mono ?_
  rintro e w' ⟨hF, ⟨rfl, hb⟩ | ⟨Ln2, C2, s2, V2, pb2, rfl, b1, b2, q1, q2, q3, q4⟩⟩
  · refine ⟨hF, .inl ⟨rfl, ?_⟩⟩
    rcases hb with hb | hb | hb
    · exact .inl (by omega)
    · exact .inr hb
    · by_cases h1 : 1200 < (wthL (lnsK t) (i + 1) (nvL d ++ [10])).flatten.length
      · exact .inl (by omega)
      · by_cases h2 : 16 < (lnsK t).length
        · exact .inr h2
        · exfalso
          apply hb
          rw [cRes_put h.rd h.res (hrd (by omega) (by omega)) rfl]
  · have hq := hrd b1 b2
    rw [q1] at hq
    cases hq
    refine ⟨hF, .inr ⟨V2, pb2, _, rfl, q3, q4, ?_⟩⟩
    rw [hitsA_comp (A := L) (by omega) q1 q2, never_hits hput c2 (lblV L) (never_holds d _)]
end Go.Proofs.YtmlajbdodmleiaaGreat

namespace Go.Proofs.YtmlajbdodmleiaaGreat
open Go.RowKit

theorem nvL_succ (j : Nat) : nvL (j + 1) ++ [10] = 32 :: (nvL j ++ [10]) := by simp [nvL, List.replicate_succ]

set_option maxRecDepth 100000 in
set_option maxHeartbeats 8000000 in
theorem knever_any {w0 w : World} {db : Nat} {t : List UInt8} {a : Option Addr} {cap : Nat} {L : List LBL} {Ln : List (List UInt8)} {C : List CR} {s : CS} {V : V6} {pb : Nat} (h : DK w0 w db t a cap L Ln C s V pb) (z : Int) (hz0 : -9223372036854775808 ≤ z) (hz1 : z ≤ 9223372036854775807) :
    Calls Tryz.prog 9 #[.pointer (some ⟨db, 0, none⟩), .int .i64 z] w fun e w' => e = .returned (.bool true) ∧ Frm [] w w' := by
  have D := hide h
  have r0 : w.cell? ⟨db, 0, none⟩ = some (.string (bs t)) := by simp [World.cell?, h.row]
  have r1 : w.cell? ⟨db, 1, none⟩ = some (.pointer (some ⟨pb, 0, none⟩)) := by simp [World.cell?, h.row]
  have r2 : w.cell? ⟨db, 2, none⟩ = some (.slice a L.length cap) := by simp [World.cell?, h.row]
  have hdb : db < w.heap.size := (Array.getElem?_eq_some_iff.1 h.row).1
  have htl := h.tl
  have R0 := hide r0
  have R1 := hide r1
  have R2 := hide r2
  obtain ⟨hfl, l0, ls, e1, -, e3⟩ := (cRead1_lines t Ln C).1 (cRead_tree h.rd).1
  obtain ⟨-, c2, c3, c4⟩ := cRead_tree h.rd
  have hCl : (lnsK t).length = C.length + 1 := by rw [e1, List.length_cons, mapM_len rtL ls C e3]
  have hst := cRead_steps h.rd
  -- the line's place and depth
  obtain ⟨kk, hkk⟩ : ∃ kk, kk = pickN z C.length := ⟨_, rfl⟩
  have hkl : kk < C.length := by rw [hkk]; exact pickN_lt z C.length c2
  have NP : Hid (∀ W, Calls Tryz.prog 18 #[.int .i64 z, .int .i64 (C.length : Nat)] W fun e w' => e = .returned (.int .i64 (kk : Nat)) ∧ W = w') := fun W => by rw [hkk]; exact kpick_any z C.length c2 (by omega) W hz0 hz1
  have LVL : Hid (LV L) := fun x hx => by have := h.ls x hx; exact ⟨by omega, by omega⟩
  have LRW : Hid (∀ W, Frm [] w W → LR W (.slice a L.length cap) L) := fun W f => (h.lr.frm f).lr cap (by have := h.ll; omega)
  have hcap := h.cap
  have NL : Hid (Calls Tryz.prog 19 #[.string (bs t)] w fun e w' => ∃ v, e = .returned v ∧ Frm [] w w' ∧ RW [] 1 w' v (sc (lnsK t))) := lines_any t w (by omega)
  have HG := hide (hitsC_good (by omega) h.rd (lblV L))
  have HA := hide (hitsA_comp (A := L) (by omega) h.rd h.pr)
  have NS : Hid (∀ (W : World) (V2 : V6) (p2 : Nat) (m2 : Mach), Frm [] w W → PR [] W p2 V2 m2 → MOK m2 → hitsA m2 L = hitsC C (lblV L) → Calls Tryz.prog 21 #[.pointer (some ⟨pb, 0, none⟩), .pointer (some ⟨p2, 0, none⟩), .slice a L.length cap] W fun e w' => e = .returned (.bool true) ∧ Frm [] W w') := fun W V2 p2 m2 f hP hK hH =>
    ksame_eq W pb p2 V V2 _ m2 (D.out.pg.frm f (by simp)) hP D.out.ok hK a L.length cap L (LRW.out W f) LVL.out hcap (by rw [HA.out, hH]) (by rw [HA.out]; have := HG.out.2.1; omega) (fun x hx => by rw [HA.out] at hx; have := (HG.out.2.2 x hx).2.b1; omega)
  have hsz := bs_size
  have hap := bs_append
  have k1 : ({ data := #[114, 111, 117, 116, 101, 32, 45, 32, 105, 102, 32, 110, 111, 112, 101, 33, 61, 34, 120, 34, 32, 105, 102, 32, 110, 111, 112, 101, 61, 34, 120, 34, 32, 99, 111, 110, 116, 105, 110, 117, 101, 10] } : ByteArray) = bs (nvL 0 ++ [10]) := rfl
  have k2 : ({ data := #[32] } : ByteArray) = bs [32] := rfl
  -- from the depth on: the line is written, put in, and the two programs are held together
  have HD : Hid ((kk + 1 < C.length ∧ ∃ (l : List UInt8) (d : Nat), (lnsK t)[kk + 2]? = some l ∧ (∀ j, j < d → l[j]? = some 32) ∧ l[d]? = some 114 ∧ 1 ≤ d ∧ d ≤ 5 ∧ l.length ≤ 20000 ∧ ∀ c, C[kk + 1]? = some c → d = c.d) ∨ kk + 1 = C.length) := by
    by_cases hk1 : kk + 1 < C.length
    · left
      obtain ⟨l, hl, hr⟩ := mapM_get rtL ls C e3 (kk + 1) C[kk + 1] (List.getElem?_eq_getElem hk1)
      have hm : l ∈ lnsK t := by rw [e1]; exact List.mem_cons_of_mem _ (List.mem_of_getElem? hl)
      obtain ⟨g1, g2⟩ := route_line hr (lns_end t [] l hm)
      have hll : l.length ≤ 20000 := by
        have h1 : l.length ≤ (lnsK t).flatten.length := by
          obtain ⟨A, B, hAB⟩ := List.append_of_mem hm
          rw [hAB]; simp; omega
        rw [hfl] at h1
        omega
      have hd1 := (hst.2 kk C[kk] C[kk + 1] (List.getElem?_eq_getElem (by omega)) (List.getElem?_eq_getElem hk1)).1
      refine ⟨hk1, l, C[kk + 1].d, by rw [e1]; simpa using hl, g1, g2, hd1, c4 _ (List.getElem_mem _), hll, fun c hc => ?_⟩
      rw [List.getElem?_eq_getElem hk1] at hc
      rw [Option.some.inj hc]
    · right; omega
  clear h e1 e3 hfl hst hkk
  go_enter Tryz.func9, Tryz.ntmps9
  go_wp2_with fail
  refine (NL.out).mono ?_
  clear NL
  rintro e w1 ⟨v, rfl, hF1, hR1⟩
  obtain ⟨al, cl, rfl, hr⟩ := hR1.str
  have F1 := hide hF1
  have HR := hide hr
  clear hF1 hR1 hr r0 r1 r2
  go_wp2_with fail
  refine (NP.out _).mono ?_
  clear NP
  rintro e w1' ⟨rfl, rfl⟩
  go_upto_if 25 with fail
  go_cut [7] (fun v7 wc => True ∧ wc = w1 ∧ ∃ d : Nat, v7 = .int .i64 d ∧ 1 ≤ d ∧ d ≤ 5 ∧ (∀ c, C[kk + 1]? = some c → d = c.d) ∧ (kk + 1 = C.length → d = 1))
  case first =>
    rcases HD.out with ⟨hk1, l, d, hl, q1, q2, hd1, hd5, hll, hdc⟩ | hk1
    · have HDC := hide hdc
      have Q1 := hide q1
      have Q2 := hide q2
      have hlt2 : kk + 2 < (lnsK t).length := by omega
      obtain ⟨g, o, rfl, hg, c0⟩ := HR.out (kk + 2) hlt2
      have hle : (lnsK t)[kk + 2] = l := by rw [List.getElem?_eq_getElem hlt2] at hl; exact Option.some.inj hl
      rw [hle] at c0
      have c0' : w1.cell? ⟨g, o + (2 + kk), none⟩ = some (.string (bs l)) := by rw [show o + (2 + kk) = o + (kk + 2) by omega]; exact c0
      have hb3 : decide ((2 : Int) + (kk : Int) < 0) = false := decide_eq_false (by omega)
      have hb4 : (2 + (kk : Int)).toNat = 2 + kk := by omega
      have hb1 : decide ((2 : Int) + (kk : Int) < (C.length : Int) + 1) = true := decide_eq_true (by omega)
      have hb2 : decide ((kk : Int) + 2 < (C.length : Int) + 1) = true := decide_eq_true (by omega)
      have hdl : d < l.length := (List.getElem?_eq_some_iff.1 q2).1
      clear hdc q1 q2 hl hle HD HR
      go_wp2_with fail
      go_loopg [7] d (fun k vd wr => ∃ j : Nat, j + k = d ∧ vd = .int .i64 j ∧ wr = w1)
      case atStart => exact ⟨0, by omega, rfl, rfl⟩
      case round =>
        obtain ⟨j, hjk, rfl, hw⟩ := hrel
        subst hw
        have hjl : j < l.length := by omega
        have hbj : (bs l)[j]'(by rw [hsz]; omega) = l[j] := rfl
        by_cases hlt : j < d
        · have hv : l[j] = 32 := by
            have := Q1.out j hlt
            rw [List.getElem?_eq_getElem hjl] at this
            exact Option.some.inj this
          rw [hv] at hbj
          generalize l[j] = cj at *
          go_wp2
          go_roundg (gk - 1)
          case measure => omega
          case rel => exact ⟨j + 1, by omega, by go_num, rfl⟩
        · have hjd : j = d := by omega
          subst hjd
          have hv : l[j] = 114 := by
            have := Q2.out
            rw [List.getElem?_eq_getElem hjl] at this
            exact Option.some.inj this
          rw [hv] at hbj
          generalize l[j] = cj at *
          go_wp2
          go_meet
          exact ⟨trivial, rfl, j, rfl, hd1, hd5, HDC.out, fun h => by omega⟩
    · have hb1 : decide ((2 : Int) + (kk : Int) < (C.length : Int) + 1) = false := decide_eq_false (by omega)
      have HN : Hid (C[kk + 1]? = none) := List.getElem?_eq_none (by omega)
      clear HD HR
      go_wp2
      go_meet
      exact ⟨trivial, rfl, 1, rfl, Nat.le_refl _, by omega, (fun c hc => by rw [HN.out] at hc; cases hc), fun _ => rfl⟩
  case rest =>
    obtain ⟨_, hwc, d, rfl, hd1, hd5, hdc, hde⟩ := hcut
    subst hwc
    obtain ⟨w1, hw1⟩ : ∃ w1, w1 = wc := ⟨_, rfl⟩
    subst hw1
    have hq1 : ((d : Int) == 0) = false := by rw [beq_eq_false_iff_ne]; omega
    have NW : Hid (∀ W, Frm [] w W → Calls Tryz.prog 20 #[.pointer (some ⟨db, 0, none⟩), .int .i64 (2 + (kk : Int)), .string (bs (nvL d ++ [10]))] W (NVQ t C L W)) := fun W f => by
      have := kwithN_any (D.out.frm f) hCl (i := kk + 1) (d := d) (by omega) (by omega) hdc hde hd5
      rw [show ((kk + 1 + 1 : Nat) : Int) = 2 + (kk : Int) by omega] at this
      exact this
    clear hdc hde HD HR
    go_wp2_with fail
    go_loopg [8, 9] d (fun k vt vi wr => ∃ j : Nat, j + k = d ∧ vi = .int .i64 j ∧ vt = .string (bs (nvL j ++ [10])) ∧ wr = w1)
    case atStart => exact ⟨0, by omega, rfl, by rw [k1], rfl⟩
    case round =>
      obtain ⟨j, hjk, rfl, rfl, hw⟩ := hrel
      subst hw
      have hnl : (nvL j).length = j + 41 := nvL_len j
      by_cases hlt : j < d
      · have hdj : decide ((j : Int) < (d : Int)) = true := decide_eq_true (by omega)
        have HS := hide (nvL_succ j)
        clear NW
        generalize hT : nvL j = T at *
        clear hT
        go_wp2
        go_roundg (gk - 1)
        case measure => omega
        case rel => exact ⟨j + 1, by omega, by go_num, by rw [HS.out], rfl⟩
      · have hjd : j = d := by omega
        subst hjd
        have hdj : decide ((j : Int) < (j : Int)) = false := decide_eq_false (by omega)
        have N2 := hide (NW.out _ F1.out)
        clear NW k1
        generalize hT : nvL j = T at *
        clear hT
        go_wp2_with fail
        refine (N2.out).mono ?_
        clear N2
        rintro e w3 ⟨hF3, ⟨rfl, hbig⟩ | ⟨V2, pb2, m2, rfl, hP2, hK2, hH2⟩⟩
        · have F3 := hide (F1.out.trans hF3)
          have q0 := F3.out.at (p := ⟨db, 0, none⟩) hdb R0.out
          clear hF3
          by_cases hb : 1200 < t.length + 60
          · have hd2 : decide ((1200 : Int) < (t.length : Int) + 60) = true := decide_eq_true (by omega)
            have hd2' : decide (1200 < t.length + 60) = true := decide_eq_true hb
            go_wp2
            go_ret
            exact ⟨rfl, F3.out⟩
          · have hb2 : 16 < (lnsK t).length := hbig.resolve_left hb
            have hd2 : decide ((1200 : Int) < (t.length : Int) + 60) = false := decide_eq_false (by omega)
            have hd2' : decide (1200 < t.length + 60) = false := decide_eq_false hb
            have hd3 : decide ((16 : Int) < (C.length : Int) + 1) = true := decide_eq_true (by omega)
            have hd3' : decide (16 < C.length + 1) = true := decide_eq_true (by omega)
            clear hbig
            go_wp2
            go_ret
            exact ⟨rfl, F3.out⟩
        · have F3 := hide (F1.out.trans hF3)
          have q1 := F3.out.at (p := ⟨db, 1, none⟩) hdb R1.out
          have q2 := F3.out.at (p := ⟨db, 2, none⟩) hdb R2.out
          have FN3 : Hid (Frm [] w3 w3.drew) := (Frm.refl [] w3).drew
          have N3 := hide (NS.out w3.drew V2 pb2 m2 (F3.out.trans FN3.out) (hP2.frm FN3.out (by simp)) hK2 hH2)
          clear hF3 hP2 hK2 hH2 NS
          go_wp2_with fail
          go_region_with (go_at_call 21; refine (N3.out).mono ?_; rintro e w4 ⟨rfl, hF4⟩)
          all_goals
            have F4 := hide (F3.out.trans (FN3.out.trans hF4))
            clear hF4
            go_wp2
            go_ret
            exact ⟨rfl, F4.out⟩
end Go.Proofs.YtmlajbdodmleiaaGreat

namespace Go.Proofs.YtmlajbdodmleiaaGreat
open Go.RowKit

set_option maxRecDepth 100000 in
set_option maxHeartbeats 4000000 in
theorem neverLaw_any (w : World) (a : Option Addr) (cap : Nat) (L : List LBL) (h : LQ w a L) (hN : L.length ≤ 4398046511104) (hs : ∀ x ∈ L, x.1.length ≤ 140737488355328 ∧ x.2.length ≤ 140737488355328) (hcap : L.length ≤ cap) (r : List UInt8) (hr : r.length ≤ 140737488355328) (z : Int) (hz0 : -9223372036854775808 ≤ z) (hz1 : z ≤ 9223372036854775807) :
    Calls Tryz.prog 4 #[.string (bs r), .slice a L.length cap, .int .i64 z] w fun e w' => e = .returned (.bool true) ∧ Frm [] w w' := by
  have N1 := hide (kat_any w a cap L h hN hs hcap r hr)
  have N2 : Hid (∀ W : World, Calls Tryz.prog 8 #[.int .i64 (r.length : Nat)] W fun e w' => e = .returned (.bool true) ∧ Frm [] W w') := fun W => stands_any _ W (by omega) (by omega)
  have hsz := bs_size
  clear h hs
  go_enter Tryz.func4, Tryz.ntmps4
  go_wp2_with fail
  refine (N1.out).mono ?_
  clear N1
  rintro e w1 ⟨hF, rfl | ⟨db, Ln, C, s, V, pb, rfl, hD⟩⟩
  · have F := hide hF
    clear hF
    go_wp2_with fail
    refine (N2.out _).mono ?_
    clear N2
    rintro e w2 ⟨rfl, hF2⟩
    have F2 := hide (F.out.trans hF2)
    clear hF2
    go_wp2
    go_ret
    exact ⟨rfl, F2.out⟩
  · have F := hide hF
    have N3 := hide (knever_any hD z hz0 hz1)
    clear hF N2 hD
    go_wp2_with fail
    refine (N3.out).mono ?_
    clear N3
    rintro e w2 ⟨rfl, hF2⟩
    have F2 := hide (F.out.trans hF2)
    clear hF2
    go_wp2
    go_ret
    exact ⟨rfl, F2.out⟩
end Go.Proofs.YtmlajbdodmleiaaGreat

namespace Go.Proofs.YtmlajbdodmleiaaGreat
open Go.ChangeShapes Go.WideShapes Go.ChangeAt Go.RowKit
open Go.ChangeMaps (open_string shut_string)

def strL : Value → List UInt8
  | .string s => s.data.toList
  | _ => []
theorem weightsAll_mem {H : Type} {P : Program} {e : TypeId} {d : DataW H} {n : Nat} : ∀ {l : List (DataW H)}, d ∈ l → n ∈ d.weights P e → n ∈ DataW.weightsAll P e l
  | [], hd, _ => by simp at hd
  | x :: r, hd, hn => by
    simp only [DataW.weightsAll, List.mem_append]
    rcases List.mem_cons.1 hd with rfl | hd
    · exact .inl hn
    · exact .inr (weightsAll_mem hd hn)
theorem cellsLab : Tryz.prog.cellsOf 37 = 2 := by kernel_rfl
theorem cellsStr : Tryz.prog.cellsOf 9 = 1 := by kernel_rfl
theorem bytesLab : Tryz.prog.bytesOf 37 = 32 := by kernel_rfl

set_option maxRecDepth 100000 in
theorem labels_open {H : Type} {enc : TypeId × Value → H} {W : World} {a : Option Addr} {len cap : Nat} {d : DataW H} {ps : List MemPlace} (h : DataW.Trod enc Tryz.prog W 0 (fun _ => true) true 23 (.slice a len cap) d ps)
    (hw : ∀ n ∈ d.weights Tryz.prog 23, n ≤ reachBytes) :
    ∃ L : List LBL, L.length = len ∧ LQ W a L ∧ L.length ≤ 4398046511104 ∧ ∀ x ∈ L, x.1.length ≤ 140737488355328 ∧ x.2.length ≤ 140737488355328 := by
  obtain ⟨fuel, h⟩ := h
  have hcs : (Value.slice a len cap).cells.toList = [.slice a len cap] := rfl
  rw [hcs] at h
  rcases Deep.open_slice_pairs Tryz.underlying23 Tryz.underlying37 cellsLab rfl rfl cellsStr cellsStr h with ⟨hc, _⟩ | ⟨ad, len', cap', m, n, V0, V1, D0, D1, P0, P1, hc, _, hl, hm, hmm, hx, hall⟩
  · simp only [List.cons.injEq, and_true, Value.slice.injEq] at hc
    obtain ⟨rfl, rfl, rfl⟩ := hc
    exact ⟨[], rfl, fun j hj => absurd hj (by simp), by simp, by simp⟩
  · simp only [List.cons.injEq, and_true, Value.slice.injEq] at hc
    obtain ⟨rfl, rfl, rfl⟩ := hc
    simp only [if_true] at hmm
    subst hmm
    simp only [Prod.mk.injEq] at hx
    obtain ⟨rfl, rfl⟩ := hx
    have hrb : reachBytes ≤ 140737488355328 := Nat.le_of_lt reachBytes_lt
    have hS : ∀ i, i < m → ∃ s0 s1 : ByteArray, V0 i = .string s0 ∧ V1 i = .string s1 ∧ D0 i = .lit (.string s0.data.toList) ∧ D1 i = .lit (.string s1.data.toList) := by
      intro i hi
      obtain ⟨_, _, h1, h2⟩ := hall i hi
      obtain ⟨s0, e0, f0, _⟩ := DataW.trod_string Tryz.underlying9 h1
      obtain ⟨s1, e1, f1, _⟩ := DataW.trod_string Tryz.underlying9 h2
      simp only [List.cons.injEq, and_true] at e0 e1
      simp only [Prod.mk.injEq] at f0 f1
      exact ⟨s0, s1, e0, e1, f0.1, f1.1⟩
    have hlen : len * 32 ≤ reachBytes := by
      have := hw ((len + (m - len)) * 32) (by simp [DataW.weights, Tryz.underlying23, bytesLab])
      omega
    refine ⟨(List.range len).map fun i => (strL (V0 i), strL (V1 i)), by simp, ?_, by simp; omega, ?_⟩
    · intro j hj
      simp only [List.length_map, List.length_range] at hj
      obtain ⟨b, off, spot⟩ := ad
      obtain ⟨c0, c1, _, _⟩ := hall j (by omega)
      obtain ⟨s0, s1, e0, e1, _, _⟩ := hS j (by omega)
      have hspot : spot = none := by
        have := World.cell?_spot (hall 0 (by omega)).1
        simpa [Addr.add] using this
      subst hspot
      rw [add_plain] at c0 c1
      refine ⟨b, off, rfl, World.block_lt_of_cell? W _ c0, ?_, ?_⟩
      · rw [c0, e0]; simp [strL, e0, bs_of]
      · rw [← Nat.add_assoc] at c1
        rw [c1, e1]; simp [strL, e1, bs_of]
    · intro x hx
      obtain ⟨i, hi, rfl⟩ := List.mem_map.1 hx
      rw [List.mem_range] at hi
      obtain ⟨s0, s1, e0, e1, f0, f1⟩ := hS i (by omega)
      have hwt : ∀ k, k = s0.data.toList.length ∨ k = s1.data.toList.length → k ≤ reachBytes := by
        intro k hk
        apply hw
        have hmem : k ∈ DataW.weightsAll Tryz.prog 37 ((List.range len).map fun i => DataW.agg [D0 i, D1 i]) := by
          refine weightsAll_mem (d := .agg [D0 i, D1 i]) (List.mem_map.2 ⟨i, List.mem_range.2 hi, rfl⟩) ?_
          rw [f0, f1]
          simp only [DataW.weights, Tryz.underlying37]
          rcases hk with rfl | rfl <;> simp [DataW.weightsEach, DataW.weights]
        simp only [DataW.weights, Tryz.underlying23, List.mem_cons, List.mem_append]
        exact .inr (.inl hmem)
      have h1 := hwt _ (.inl rfl)
      have h2 := hwt _ (.inr rfl)
      simp only [e0, e1, strL]
      omega
end Go.Proofs.YtmlajbdodmleiaaGreat

namespace Go.Proofs.YtmlajbdodmleiaaGreat
open Go.ChangeShapes Go.WideShapes Go.ChangeAt Go.RowKit

theorem labels_cap {H : Type} {enc : TypeId × Value → H} {W : World} {a : Option Addr} {len cap : Nat} {d : DataW H} {ps : List MemPlace} (h : DataW.Trod enc Tryz.prog W 0 (fun _ => true) true 23 (.slice a len cap) d ps) : len ≤ cap := by
  obtain ⟨fuel, h⟩ := h
  have hcs : (Value.slice a len cap).cells.toList = [.slice a len cap] := rfl
  rw [hcs] at h
  rcases Deep.open_slice_pairs Tryz.underlying23 Tryz.underlying37 cellsLab rfl rfl cellsStr cellsStr h with ⟨hc, _⟩ | ⟨ad, len', cap', m, n, V0, V1, D0, D1, P0, P1, hc, _, hl, hm, hmm, hx, hall⟩
  · simp only [List.cons.injEq, and_true, Value.slice.injEq] at hc
    omega
  · simp only [List.cons.injEq, and_true, Value.slice.injEq] at hc
    obtain ⟨rfl, rfl, rfl⟩ := hc
    exact hl
end Go.Proofs.YtmlajbdodmleiaaGreat

namespace Go.Proofs.YtmlajbdodmleiaaGreat.fnNever
open Go.ChangeShapes Go.WideShapes Go.ChangeAt Go.RowKit
open Go.ChangeMaps (open_string shut_string)

theorem own : ownKnob Tryz.prog.godebug = none := by kernel_rfl
theorem laidOut : laidOutB Tryz.prog = true := by kernel_rfl

set_option maxRecDepth 100000 in
theorem lifted (os : Os) (started : os.Started) (H : Type) (enc : TypeId × Value → H) :
    ReturnsInHanded {} Tryz.checked os 4 .any (Rows.neverSpec.pre6 enc Tryz.prog Tryz.f4 Rows.neverRow.domain false) (Rows.neverSpec.post enc Tryz.prog Tryz.f4 false true false false) := by
  refine returnsInHanded_of_change_sized (C := Tryz.checked) own started (by kernel_rfl) Tryz.func4
    (ChangeSpec.witness6 (enc := enc) (C := Tryz.checked) false ⟨#[], #[.string ByteArray.empty, .slice none 0 0, .int .i64 0], []⟩ 8 (by kernel_rfl) (by kernel_rfl) (by kernel_rfl) (by kernel_rfl)) ?_
  intro W base args ds gs before hval0 hW hcnd hsz0 _
  have hval : ∀ (j : Nat) t v, Tryz.f4.params[j]? = some t → args[j]? = some v → Value.okWide Tryz.prog W .any base t v := hval0
  have hW' := hW
  obtain ⟨p, q, hA0, hV, rfl, hfz, hnd⟩ := hW
  have hA : DataW.TrodAll enc Tryz.prog W 0 (fun _ => true) true Tryz.f4.params.toList args.toList ds p := hA0
  have hsz : (DataW.weightsEach Tryz.prog (Tryz.f4.params.toList ++ Rows.neverSpec.plain.varTypes Tryz.prog) (ds ++ gs)).all (· ≤ reachBytes) = true := hsz0
  rw [Tryz.params4] at hA hval hsz
  obtain ⟨v0, v1, v2, d0, d1, d2, p0, p1, p2, rfl, rfl, rfl, h0, h1, h2⟩ := trodAll_three hA
  obtain ⟨rfl, rfl⟩ := trodVars_none hV
  obtain ⟨s, rfl, rfl, rfl, hs⟩ := open_string Tryz.underlying9 (hval 0 9 v0 rfl rfl) h0
  obtain ⟨z, rfl, rfl, rfl, wz⟩ := open_int Tryz.underlying3 (hval 2 3 v2 rfl rfl) h2
  have hz : -9223372036854775808 ≤ z ∧ z ≤ 9223372036854775807 := by
    have h := (Lit.wf_int_iff _ _).1 wz
    have h1 : IntKind.i64.min = -9223372036854775808 := by decide
    have h2 : IntKind.i64.max = 9223372036854775807 := by decide
    omega
  obtain ⟨a1, len1, cap1, rfl⟩ := okWide_slice Tryz.underlying23 (hval 1 23 v1 rfl rfl)
  clear hA0 hval0 hsz0
  simp only [List.append_nil] at hW'
  have hlt : ∀ x ∈ ([] : List MemPlace) ++ p1, x.block < W.heap.size := fun x hx => by simpa using hW'.lt x (by simpa using hx)
  have hsl : s.data.toList.length ≤ 140737488355328 := Nat.le_trans (sized_string (j := 0) hsz rfl rfl) (Nat.le_of_lt reachBytes_lt)
  obtain ⟨L, rfl, hQ, hN, hLs⟩ := labels_open h1 (fun n hn => by
    have := List.all_eq_true.1 hsz _ (DataW.weights_mem_each (j := 1) (t := 23) (d := d1) rfl rfl n hn)
    simpa using this)
  have hb : Value.string s = .string (bs s.data.toList) := by rw [bs_of]
  rw [hb]
  refine (neverLaw_any W a1 cap1 L hQ hN hLs (labels_cap h1) s.data.toList hsl z hz.1 hz.2).mono fun e W' ⟨he, hf⟩ => ?_
  rw [← hb]
  subst he
  refine ⟨_, rfl, [.lit (.string s.data.toList), d1, .lit (.int .i64 z)], [], _, [], [] ++ (p1 ++ []), [], by simpa using hW', trodAll_cons_mk (shut_bool Tryz.underlying4 _) trodAll_mk0, trodAll_mk3 (shut_string Tryz.underlying9 hs) (Below.trod laidOut (by kernel_rfl) (of_decide_eq_true (by kernel_rfl)) h1 hf.below (fun x hx => hlt x (by simpa using hx))) (shut_int Tryz.underlying3 wz), rfl, hf.below.frame _, fun h => by cases h⟩

theorem over : Rows.neverRow.holds Tryz.pinned (OpenSpec.ofChange Rows.neverSpec) :=
  OpenClaim.holds_of_wide 4 Tryz.f4 rfl rfl rfl rfl rfl rfl rfl ⟨rfl, rfl, rfl, rfl, rfl⟩ rfl rfl rfl rfl rfl (by kernel_rfl) Tryz.func4 (by kernel_rfl)
    (of_decide_eq_true (by kernel_rfl)) (by unfold Func.isWrapper; first | (rw [if_pos (by decide +kernel)]; kernel_rfl) | (rw [if_neg (by decide +kernel)]; exact ⟨rfl, rfl⟩))
    (fun os started H enc _ => lifted os started H enc)
end Go.Proofs.YtmlajbdodmleiaaGreat.fnNever

namespace Go.Proofs.YtmlajbdodmleiaaGreat
theorem never_said : Rows.NeverSaid := fnNever.over
end Go.Proofs.YtmlajbdodmleiaaGreat

