import Derived.Test.YtpbkgeipigcefaaGreatJ28
import Derived.Test.YtpbkgeipigcefaaGreatJ38
import Derived.Test.YtpbkgeipigcefaaGreatJ39
import Derived.Test.YtpbkgeipigcefaaGreatJ1
import Derived.Test.YtpbkgeipigcefaaGreatJ29
set_option linter.unusedVariables false
set_option linter.unusedSimpArgs false
set_option linter.unnecessarySimpa false
namespace Go.Proofs.YtpbkgeipigcefaaGreat
open Go.RowKit

def autC (v : List UInt8) : AutM := match pWhole v with
  | some e => ⟨(fstE e).length, clsE e, (autE e).2.1.map fun u => if nul (dW (nrm e) u) then 1 else 0, (autE e).2.2⟩
  | none => ⟨0, [], [], []⟩
theorem reC_zero {v : List UInt8} (h : reC v = 0) : ∃ e, pWhole v = some e ∧ (autE e).1 = true ∧ plcG e ≤ 40 := by
  unfold reC at h
  split at h
  · cases h
  · rename_i e he
    split at h
    · cases h
    · split at h
      · rename_i h1 h2; exact ⟨e, he, h2, by omega⟩
      · cases h
theorem autC_ok (v : List UInt8) (h : reC v = 0) : AutOK (autC v) := by
  obtain ⟨e, he, h1, _⟩ := reC_zero h
  obtain ⟨s1, s2, s3, s4, s5, s6, s7⟩ := autE_shape (pWhole_good he).1 h1
  have h0 := s6 0 (by omega)
  have hv : autC v = ⟨(fstE e).length, clsE e, (autE e).2.1.map fun u => if nul (dW (nrm e) u) then 1 else 0, (autE e).2.2⟩ := by unfold autC; rw [he]
  rw [hv]
  generalize fstE e = F at *
  generalize clsE e = K at *
  generalize autE e = A at *
  refine ⟨by simpa using s7, by simpa using s1, by show 1 ≤ F.length; omega, s3, s5, fun c hc => ?_, fun c hc => ?_, by simpa using s2, by simpa using s4⟩
  · obtain ⟨b, hb, rfl⟩ := List.getElem_of_mem hc
    have := s6 b (by simp only [s5] at hb; exact hb)
    rw [List.getD_eq_getElem?_getD, List.getElem?_eq_getElem hb] at this
    exact this
  · obtain ⟨u, _, rfl⟩ := List.mem_map.1 hc
    split <;> omega
theorem rcp_all (v : List UInt8) (hv : v.length ≤ 40) : RCP reC autC v := by
  intro w
  refine (xCompile_any v w hv).mono ?_
  rintro e w' ⟨hF, cs, h1, h2, rfl, h3, h4⟩
  refine ⟨hF, cs, h1, h2, rfl, fun h0 A hA => ?_⟩
  obtain ⟨x, hx, _, _⟩ := reC_zero h0
  obtain ⟨va, vn, rfl, hq, hi⟩ := h4 x hx h0
  refine ⟨rfl, fun n c y hc hy => ?_⟩
  have hn : n = 0 := by
    cases n with
    | zero => rfl
    | succ n => simp at hc
  subst hn
  simp only [List.getElem?_cons_zero, Option.some.injEq] at hc hy
  subst hc hy
  have OB : OW 4 1 w.heap.size w' va (bc (autC v).acc) := by
    refine ⟨?_, fun y hy => by obtain ⟨_, _, rfl⟩ := List.mem_map.1 hy; rfl⟩
    have e1 : (bc (autC v).acc).flatten = ((autE x).2.1.map fun u => nul (dW (nrm x) u)).map fun b => Value.bool b := by
      unfold autC bc; rw [hx]
      simp only [List.map_map]
      rw [← List.flatMap_def]
      induction (autE x).2.1 with
      | nil => rfl
      | cons a r ih => simp only [List.flatMap_cons, List.map_cons, ih, Function.comp]; cases nul (dW (nrm x) a) <;> rfl
    rw [e1, show (bc (autC v).acc).length = ((autE x).2.1.map fun u => nul (dW (nrm x) u)).length by unfold autC bc; rw [hx]; simp]
    exact hq
  have OI : OW 3 1 w.heap.size w' vn (ic (autC v).nx) := by
    refine ⟨?_, fun y hy => by obtain ⟨_, _, rfl⟩ := List.mem_map.1 hy; rfl⟩
    have e1 : (ic (autC v).nx).flatten = nv .i64 (autE x).2.2 := by
      unfold autC ic nv; rw [hx]
      simp only
      induction (autE x).2.2 with
      | nil => rfl
      | cons a r ih => simp only [List.map_cons, List.flatten_cons, ih]; rfl
    rw [e1, show (ic (autC v).nx).length = (autE x).2.2.length by unfold autC ic; rw [hx]; simp]
    exact hi
  have far : ∀ {ty : TypeId} {u : Value} {vs : List (List Value)}, OW ty 1 w.heap.size w' u vs → ∀ g, u.ownBlock = some g → g ∉ A := by
    intro ty u vs h g hg hm
    have := (h.1.lt g hg).1
    have := hA g hm
    omega
  refine ⟨va, vn, ?_, OB.rw (far OB), OI.rw (far OI)⟩
  unfold acell autC
  rw [hx]
def CMQ (t : List UInt8) (w : World) (e : Ending) (w' : World) : Prop :=
  Frm [] w w' ∧ (((cRes reC t).1 ≠ 0 ∧ e = .returned (.tuple #[.pointer none, .int .i64 ((cRes reC t).1 : Nat), .int .i64 ((cRes reC t).2 : Nat)])) ∨
  (∃ L C s V pb, cRes reC t = (0, 0) ∧ cRead t = .ok (L, C) ∧ pread reC autC cs0 0 C = .ok s ∧ e = .returned (.tuple #[.pointer (some ⟨pb, 0, none⟩), .int .i64 0, .int .i64 0]) ∧ PR [] w' pb V (compM C s) ∧ MOK (compM C s) ∧ w.heap.size ≤ pb))
theorem compile_any (t : List UInt8) (w : World) (ht : t.length ≤ 1048576) : Calls Tryz.prog 25 #[.string (bs t)] w (CMQ t w) := by
  refine (aCompile_any reC autC t w ht (fun L C h c hc m hm _ => rcp_all _ ?_)).mono ?_
  · have h1 := (cRead_tree h).1
    exact ((cRead1_good t L C ht h1).2.2 c hc).ifs m hm |>.val
  · rintro e w' ⟨hF, h | ⟨L, C, s, V, pb, h1, h2, h3, rfl, h4, h5, h6⟩⟩
    · exact ⟨hF, .inl h⟩
    · exact ⟨hF, .inr ⟨L, C, s, V, pb, h1, h2, h3, rfl, ⟨h4, h5, by simp⟩, mok_of autC_ok ht h2 h3, h6⟩⟩
end Go.Proofs.YtpbkgeipigcefaaGreat

namespace Go.Proofs.YtpbkgeipigcefaaGreat
open Go.RowKit

def szL : Nat → List LBL → Nat
  | n, [] => n
  | n, x :: r => if n ≤ 16384 then szL (n + x.1.length + x.2.length) r else n
theorem szL_le : ∀ (L : List LBL) (n : Nat), n ≤ szL n L
  | [], n => Nat.le_refl _
  | x :: r, n => by
    unfold szL
    split
    · have := szL_le r (n + x.1.length + x.2.length)
      omega
    · exact Nat.le_refl _
theorem szL_all : ∀ (L : List LBL) (n : Nat), szL n L ≤ 16384 → ∀ x ∈ L, x.1.length ≤ 16384 ∧ x.2.length ≤ 16384
  | [], n, _ => by simp
  | y :: r, n, h => by
    have hn := Nat.le_trans (szL_le (y :: r) n) h
    unfold szL at h
    rw [if_pos hn] at h
    have h2 := szL_le r (n + y.1.length + y.2.length)
    intro x hx
    rcases List.mem_cons.1 hx with rfl | hx
    · omega
    · exact szL_all r _ h x hx
def LQ (w : World) (a : Option Addr) (L : List LBL) : Prop :=
  ∀ (j : Nat) (h : j < L.length), ∃ g off, a = some ⟨g, off, none⟩ ∧ g < w.heap.size ∧ w.cell? ⟨g, off + j * 2, none⟩ = some (.string (bs L[j].1)) ∧ w.cell? ⟨g, off + j * 2 + 1, none⟩ = some (.string (bs L[j].2))
theorem LQ.lr {w : World} {a : Option Addr} {L : List LBL} (h : LQ w a L) (cap : Nat) (hl : L.length ≤ 1048576) : LR w (.slice a L.length cap) L := ⟨a, cap, rfl, hl, h⟩
theorem LQ.frm {w w' : World} {a : Option Addr} {L : List LBL} (h : LQ w a L) (f : Frm [] w w') : LQ w' a L := by
  intro j hj
  obtain ⟨g, off, rfl, h2, h3, h4⟩ := h j hj
  exact ⟨g, off, rfl, Nat.lt_of_lt_of_le h2 f.size, (f.cell (p := ⟨g, off + j * 2, none⟩) h2 (by simp)).trans h3, (f.cell (p := ⟨g, off + j * 2 + 1, none⟩) h2 (by simp)).trans h4⟩
end Go.Proofs.YtpbkgeipigcefaaGreat

namespace Go.Proofs.YtpbkgeipigcefaaGreat
open Go.RowKit

def pickN (c : Int) (n : Nat) : Nat := ((if c < 0 then -(c + 1) else c) % n).toNat
theorem pickN_lt (c : Int) (n : Nat) (hn : 0 < n) : pickN c n < n := by
  unfold pickN
  have := Int.emod_lt_of_pos (if c < 0 then -(c + 1) else c) (show (0 : Int) < n by omega)
  have := Int.emod_nonneg (if c < 0 then -(c + 1) else c) (show (n : Int) ≠ 0 by omega)
  omega
set_option maxRecDepth 100000 in
set_option maxHeartbeats 1000000 in
theorem kpick_any (c : Int) (n : Nat) (hn : 0 < n) (hn2 : n ≤ 1048576) (w : World) (h0 : -9223372036854775808 ≤ c) (h1 : c ≤ 9223372036854775807) :
    Calls Tryz.prog 27 #[.int .i64 c, .int .i64 n] w fun e w' => e = .returned (.int .i64 (pickN c n : Nat)) ∧ w = w' := by
  have hne : ((n : Int) == 0) = false := by rw [beq_eq_false_iff_ne]; omega
  have hne1 : (n : Int) ≠ 0 := by omega
  by_cases hc : c < 0
  · have hd : decide (c < 0) = true := decide_eq_true hc
    have Hx : Hid ((pickN c n : Int) = Int.tmod (-(c + 1)) n) := by
      show _ = _; unfold pickN; rw [if_pos hc, Int.tmod_eq_emod_of_nonneg (by omega)]
      have := Int.emod_nonneg (-(c + 1)) hne1
      omega
    have hb1 := Int.tmod_lt_of_pos (-(c + 1)) (show (0 : Int) < n by omega)
    have hb2 : 0 ≤ Int.tmod (-(c + 1)) n := Int.tmod_nonneg _ (by omega)
    go_enter Tryz.func27, Tryz.ntmps27
    go_wp2
    go_ret
    refine ⟨ret_int ?_, rfl⟩
    rw [Hx.out]
    try rw [Int.neg_tmod]
  · have hd : decide (c < 0) = false := decide_eq_false hc
    have Hx : Hid ((pickN c n : Int) = Int.tmod c n) := by
      show _ = _; unfold pickN; rw [if_neg hc, Int.tmod_eq_emod_of_nonneg (by omega)]
      have := Int.emod_nonneg c hne1
      omega
    have hb1 := Int.tmod_lt_of_pos c (show (0 : Int) < n by omega)
    have hb2 : 0 ≤ Int.tmod c n := Int.tmod_nonneg _ (by omega)
    go_enter Tryz.func27, Tryz.ntmps27
    go_wp2
    go_ret
    refine ⟨ret_int ?_, rfl⟩
    rw [Hx.out]
    exact (Int.tmod_eq_emod_of_nonneg (by omega)).symm
theorem kn_all : ∀ x ∈ knD, cRes reC x.1 = (0, 0) := by
  intro x hx
  have : knD.all (fun x => cRes reC x.1 == (0, 0)) = true := by decide +kernel
  have := List.all_eq_true.1 this x hx
  simpa using this
theorem kn_len : ∀ x ∈ knD, x.1.length ≤ 1048576 := by
  intro x hx
  have : knD.all (fun x => decide (x.1.length ≤ 1048576)) = true := by decide +kernel
  have := List.all_eq_true.1 this x hx
  simpa using this

set_option maxRecDepth 100000 in
set_option maxHeartbeats 2000000 in
theorem stands_any (c : Int) (w : World) (h0 : -9223372036854775808 ≤ c) (h1 : c ≤ 9223372036854775807) :
    Calls Tryz.prog 14 #[.int .i64 c] w fun e w' => e = .returned (.bool true) ∧ Frm [] w w' := by
  have N1 := hide (knowns_any w)
  have NP : Hid (∀ W, Calls Tryz.prog 27 #[.int .i64 c, .int .i64 16] W fun e w' => e = .returned (.int .i64 (pickN c 16 : Nat)) ∧ W = w') := fun W => kpick_any c 16 (by omega) (by omega) W h0 h1
  have hk := pickN_lt c 16 (by omega)
  obtain ⟨x, hx⟩ : ∃ x, knD[pickN c 16]? = some x := ⟨_, List.getElem?_eq_getElem (show pickN c 16 < knD.length from hk)⟩
  have HXm := hide (List.mem_of_getElem? hx)
  have HX := hide hx
  clear hx
  go_enter Tryz.func14, Tryz.ntmps14
  go_wp2_with fail
  refine (N1.out).mono ?_
  clear N1
  rintro e w1 ⟨hF, g, rfl, hg, hKN⟩
  have F := hide hF
  obtain ⟨a, cap, c0, _, _, _, _⟩ := hKN _ _ HX.out
  have HC := hide (compile_any x.1 w1 (kn_len x HXm.out))
  clear hF hKN HX
  generalize pickN c 16 = k at *
  have hd1 : decide ((k : Int) < 0) = false := decide_eq_false (by omega)
  have hd2 : decide ((k : Int) < 16) = true := decide_eq_true (by omega)
  go_wp2_with fail
  refine (NP.out _).mono ?_
  clear NP
  rintro e w2 ⟨rfl, rfl⟩
  go_wp2_with fail
  refine (HC.out).mono ?_
  clear HC
  rintro e w3 ⟨hF3, ⟨h1, rfl⟩ | ⟨Ln, C, s, V, pb, h1, h2, h3, rfl, h4, h5, h6⟩⟩
  · rw [kn_all x HXm.out] at h1; exact absurd rfl h1
  · have F3 := hide (F.out.trans hF3)
    clear hF3 h1 h2 h3 h4 h5
    go_wp2
    go_ret
    exact ⟨rfl, F3.out⟩
end Go.Proofs.YtpbkgeipigcefaaGreat

namespace Go.Proofs.YtpbkgeipigcefaaGreat
open Go.RowKit

structure DK (w0 : World) (w : World) (db : Nat) (t : List UInt8) (a : Option Addr) (cap : Nat) (L : List LBL) (Ln : List (List UInt8)) (C : List CR) (s : CS) (V : V6) (pb : Nat) : Prop where
  row : w.heap[db]? = some (.cells #[.string (bs t), .pointer (some ⟨pb, 0, none⟩), .slice a L.length cap] 46 (0, 0))
  new : w0.heap.size ≤ db
  tl : t.length ≤ 16384
  ll : L.length ≤ 16384
  ls : ∀ x ∈ L, x.1.length ≤ 16384 ∧ x.2.length ≤ 16384
  res : cRes reC t = (0, 0)
  rd : cRead t = .ok (Ln, C)
  pr : pread reC autC cs0 0 C = .ok s
  pg : PR [] w pb V (compM C s)
  ok : MOK (compM C s)
  lr : LQ w a L
  cap : L.length ≤ cap
theorem DK.frm {w0 w w' : World} {db : Nat} {t : List UInt8} {a : Option Addr} {cap : Nat} {L : List LBL} {Ln : List (List UInt8)} {C : List CR} {s : CS} {V : V6} {pb : Nat} (h : DK w0 w db t a cap L Ln C s V pb) (f : Frm [] w w') : DK w0 w' db t a cap L Ln C s V pb :=
  ⟨(f.block db (Array.getElem?_eq_some_iff.1 h.row).1 (by simp)).trans h.row, h.new, h.tl, h.ll, h.ls, h.res, h.rd, h.pr, h.pg.frm f (by simp), h.ok, h.lr.frm f, h.cap⟩
def ATQ (t : List UInt8) (a : Option Addr) (cap : Nat) (L : List LBL) (w : World) (e : Ending) (w' : World) : Prop :=
  Frm [] w w' ∧ (e = .returned (.pointer none) ∨ ∃ db Ln C s V pb, e = .returned (.pointer (some ⟨db, 0, none⟩)) ∧ DK w w' db t a cap L Ln C s V pb)

set_option maxRecDepth 100000 in
set_option maxHeartbeats 4000000 in
theorem kat_any (w : World) (a : Option Addr) (cap : Nat) (L : List LBL) (h : LQ w a L) (hN : L.length ≤ 4398046511104) (hs : ∀ x ∈ L, x.1.length ≤ 140737488355328 ∧ x.2.length ≤ 140737488355328) (hcap : L.length ≤ cap) (r : List UInt8) (hr : r.length ≤ 140737488355328) :
    Calls Tryz.prog 13 #[.string (bs r), .slice a L.length cap] w (ATQ r a cap L w) := by
  have H := hide h
  have HS := hide hs
  have hl := bs_toList
  have hz := bs_size
  have HCM : Hid (r.length ≤ 1048576 → ∀ q, Calls Tryz.prog 25 #[.string (bs r)] (w.drewN q) (CMQ r (w.drewN q))) := fun h q => compile_any r (w.drewN q) h
  clear h hs
  go_enter Tryz.func13, Tryz.ntmps13
  go_wp2_with fail
  go_loopg [5, 6] L.length (fun k v3 v4 wr => ∃ j n q : Nat, j + k = L.length ∧ v4 = .int .i64 j ∧ v3 = .int .i64 n ∧ n ≤ 562949953421312 ∧ wr = w.drewN q ∧ Hid (szL n (L.drop j) = szL (r.length + L.length) L))
  case atStart => exact ⟨0, r.length + L.length, 0, by omega, rfl, by go_num, by omega, rfl, by show _ = _; simp⟩
  case round =>
    obtain ⟨j, n, q, hjk, rfl, rfl, hn, hw, HF⟩ := hrel
    subst hw
    by_cases hlt : j < L.length
    · have hd1 : decide ((j : Int) < (L.length : Int)) = true := decide_eq_true (by omega)
      by_cases hn2 : n ≤ 16384
      · have hd2 : decide ((n : Int) ≤ 16384) = true := decide_eq_true (by omega)
        have hd2' : decide (n ≤ 16384) = true := decide_eq_true hn2
        obtain ⟨g, off, rfl, hg, hc1, hc2⟩ := H.out j hlt
        have hx := HS.out L[j] (List.getElem_mem hlt)
        have HF2 : Hid (szL (n + L[j].1.length + L[j].2.length) (L.drop (j + 1)) = szL (r.length + L.length) L) := by
          show _ = _
          rw [← HF.out, List.drop_eq_getElem_cons hlt, szL, if_pos hn2]
        clear HF
        generalize L[j] = x at *
        obtain ⟨nm, vl⟩ := x
        simp only at hc1 hc2 hx HF2
        have hz1 := bs_size nm
        have hz2 := bs_size vl
        go_wp2_with fail
        go_quiet (fail)
        go_wp2
        go_roundg (gk - 1)
        case measure => omega
        case rel => exact ⟨j + 1, n + nm.length + vl.length, _, by omega, by go_num, by go_num, by omega, rfl, HF2⟩
      · have hd2 : decide ((n : Int) ≤ 16384) = false := decide_eq_false (by omega)
        have hd2' : decide (n ≤ 16384) = false := decide_eq_false hn2
        have hd3 : decide ((16384 : Int) < (n : Int)) = true := decide_eq_true (by omega)
        have hd3' : decide (16384 < n) = true := decide_eq_true (by omega)
        clear HF HCM
        go_wp2
        go_ret
        exact ⟨(Frm.refl [] w).drewN q, .inl rfl⟩
    · have hd1 : decide ((j : Int) < (L.length : Int)) = false := decide_eq_false (by omega)
      have HV : Hid (szL (r.length + L.length) L = n) := by
        show _ = _
        rw [← HF.out, List.drop_eq_nil_of_le (by omega)]; rfl
      clear HF
      by_cases hn2 : n ≤ 16384
      · have hd3 : decide ((16384 : Int) < (n : Int)) = false := decide_eq_false (by omega)
        have hd3' : decide (16384 < n) = false := decide_eq_false (by omega)
        have h1 := szL_le L (r.length + L.length)
        rw [HV.out] at h1
        have HLS := hide (szL_all L (r.length + L.length) (by rw [HV.out]; exact hn2))
        have N1 := hide (HCM.out (by omega) q)
        clear HCM HV
        go_wp2_with fail
        refine (N1.out).mono ?_
        clear N1
        rintro e w' ⟨hF, ⟨h1, rfl⟩ | ⟨Ln, C, s, V, pb, q1, q2, q3, rfl, q4, q5, q6⟩⟩
        · have F := hide (((Frm.refl [] w).drewN q).trans hF)
          have hne : (((cRes reC r).1 : Int) != 0) = true := by rw [bne_iff_ne]; omega
          generalize (cRes reC r).1 = n1 at *
          generalize (cRes reC r).2 = n2 at *
          clear hF h1
          go_wp2
          go_ret
          exact ⟨F.out, .inl rfl⟩
        · have F := hide (((Frm.refl [] w).drewN q).trans hF)
          have Q1 := hide q1
          have Q2 := hide q2
          have Q3 := hide q3
          have Q4 := hide q4
          have Q5 := hide q5
          clear hF q1 q2 q3 q4 q5
          go_wp2
          go_ret
          have FA : Frm [] w' (w'.alloc (Obj.cells #[.string (bs r), .pointer (some ⟨pb, 0, none⟩), .slice a L.length cap] 46)) := (Frm.refl [] w').alloc _
          exact ⟨F.out.trans FA, .inr ⟨w'.heap.size, Ln, C, s, V, pb, rfl, heap1 _ _, F.out.size, by omega, by omega, HLS.out, Q1.out, Q2.out, Q3.out, Q4.out.frm FA (by simp), Q5.out, H.out.frm (F.out.trans FA), hcap⟩⟩
      · have hd3 : decide ((16384 : Int) < (n : Int)) = true := decide_eq_true (by omega)
        have hd3' : decide (16384 < n) = true := decide_eq_true (by omega)
        clear HCM
        go_wp2
        go_ret
        exact ⟨(Frm.refl [] w).drewN q, .inl rfl⟩
end Go.Proofs.YtpbkgeipigcefaaGreat

namespace Go.Proofs.YtpbkgeipigcefaaGreat
open Go.RowKit

def lnsGo : List UInt8 → List UInt8 → List (List UInt8)
  | [], _ => []
  | c :: r, cur => if c == 10 then (cur ++ [10]) :: lnsGo r [] else lnsGo r (cur ++ [c])
def lnsK (t : List UInt8) : List (List UInt8) := lnsGo t []
theorem lnsGo_len : ∀ (t cur : List UInt8), (lnsGo t cur).length ≤ t.length
  | [], _ => Nat.le_refl _
  | c :: r, cur => by
    rw [lnsGo]
    split
    · have := lnsGo_len r []; simp; omega
    · have := lnsGo_len r (cur ++ [c]); simp; omega
theorem take_drop_snoc (t : List UInt8) (a j : Nat) (ha : a ≤ j) (hj : j < t.length) : (t.take (j + 1)).drop a = (t.take j).drop a ++ [t[j]] := by
  rw [List.take_succ_eq_append_getElem hj, List.drop_append_of_le_length (by simp; omega)]

set_option maxRecDepth 100000 in
set_option maxHeartbeats 4000000 in
theorem lines_any (t : List UInt8) (w : World) (ht : t.length ≤ 100000) :
    Calls Tryz.prog 29 #[.string (bs t)] w fun e w' => ∃ v, e = .returned v ∧ Frm [] w w' ∧ RW [] 1 w' v (sc (lnsK t)) := by
  have hsz := bs_size
  have hx := bs_extract
  go_enter Tryz.func29, Tryz.ntmps29
  go_wp2_with fail
  go_loopg [3, 4, 5] t.length (fun k vo vf vi wr => ∃ (j f : Nat) (acc : List (List UInt8)), j + k = t.length ∧ vi = .int .i64 j ∧ vf = .int .i64 f ∧ f ≤ j ∧ OW 9 1 w.heap.size wr vo (sc acc) ∧ Frm [] w wr ∧ acc.length ≤ j ∧ Hid (acc ++ lnsGo (t.drop j) ((t.take j).drop f) = lnsK t))
  case atStart => exact ⟨0, 0, [], by omega, rfl, rfl, Nat.le_refl _, OW.nil _ _ _ _, Frm.refl _ _, by simp, by show _ = _; simp [lnsK]⟩
  case round =>
    obtain ⟨j, f, acc, hjk, rfl, rfl, hfj, hO, hF, hacc, HI⟩ := hrel
    obtain ⟨ao, co, he⟩ := hO.shape
    rw [sc_len] at he
    subst he
    have F := hide hF
    have O := hide hO
    have hz := hF.size
    clear hF hO
    by_cases hlt : j < t.length
    · have hd1 : decide ((j : Int) < (t.length : Int)) = true := decide_eq_true (by omega)
      have hbg2 : (bs t)[j]'(by rw [hsz]; omega) = t[j] := rfl
      have hsn := take_drop_snoc t f j hfj hlt
      have hI := HI.out
      rw [List.drop_eq_getElem_cons hlt, lnsGo] at hI
      clear HI
      cases hc : (t[j] == 10)
      · have HI2 : Hid (acc ++ lnsGo (t.drop (j + 1)) ((t.take (j + 1)).drop f) = lnsK t) := by
          show _ = _
          rw [hsn]
          rw [hc] at hI
          exact hI
        have hcd : ((t[j].toNat : Int) == 10) = false := by
          rw [beq_eq_false_iff_ne] at hc ⊢
          intro h
          exact hc (UInt8.toNat_inj.1 (by show t[j].toNat = 10; omega))
        clear hI hsn
        generalize t[j] = c at *
        go_wp2
        go_roundg (gk - 1)
        case measure => omega
        case rel => exact ⟨j + 1, f, acc, by omega, by go_num, rfl, by omega, O.out, F.out, by omega, HI2⟩
      · have hcv : t[j] = 10 := by simpa using hc
        have HI2 : Hid ((acc ++ [(t.take (j + 1)).drop f]) ++ lnsGo (t.drop (j + 1)) ((t.take (j + 1)).drop (j + 1)) = lnsK t) := by
          show _ = _
          rw [hsn, hcv, show List.drop (j + 1) (List.take (j + 1) t) = [] from List.drop_eq_nil_of_le (by simp; omega)]
          rw [hc] at hI
          simpa using hI
        have hcd : ((t[j].toNat : Int) == 10) = true := by rw [hcv]; rfl
        clear hI hsn hcv hc
        generalize t[j] = c at *
        generalize hy : (t.take (j + 1)).drop f = y at *
        go_wp2_with (first | (at_builtin; refine wp_appSc _ rfl _ _ rfl w.heap.size (.slice ao acc.length co) acc wr.heap.size y rfl (O.out.frm (S := []) ((Frm.refl [] _).alloc _) (by simp)) rfl (by simp) (by omega) (by simp; omega) ?_; intro g2 cap2 w3 hs3 hg3 hor3 hlt3; have O3 := hide hs3; have G3 := hide hg3; clear hs3 hg3 hor3))
        go_roundg (gk - 1)
        case measure => omega
        case rel =>
          have hob : ∀ r, Value.ownBlock (.slice ao acc.length co) = some r → w.heap.size ≤ r := fun r hr => (O.out.lt hr).1
          exact ⟨j + 1, j + 1, acc ++ [y], by omega, by go_num, by go_num, Nat.le_refl _, O3.out, (F.out.alloc _).grown G3.out (fun r hr => .inr (hob r hr)), by simp; omega, HI2⟩
    · have hd1 : decide ((j : Int) < (t.length : Int)) = false := decide_eq_false (by omega)
      have HE : Hid (lnsK t = acc) := by
        show _ = _
        rw [← HI.out, List.drop_eq_nil_of_le (by omega)]
        simp [lnsGo]
      clear HI
      go_wp2
      go_ret
      refine ⟨_, rfl, F.out, ?_⟩
      rw [HE.out]
      exact O.out.rw (by simp)
end Go.Proofs.YtpbkgeipigcefaaGreat

namespace Go.Proofs.YtpbkgeipigcefaaGreat
open Go.RowKit

def hitsM (m : Mach) (l : List Nat) : List HitM := l.map fun i => m.routes.getD i ⟨[], [], 0, 0, 0⟩
theorem hitsM_snoc (m : Mach) (l : List Nat) (i : Nat) (hi : i < m.routes.length) : hitsM m (l ++ [i]) = hitsM m l ++ [m.routes[i]] := by simp [hitsM, List.getD, hi]
theorem ins_cases {m : Mach} (ok : MOK m) (V : List UInt8 → List UInt8) {k : Nat} (hk : k < m.code.length) (n : Nat) :
    (m.code[k].op = 0 ∧ runM m V (n + 1) k = []) ∨
    (m.code[k].op = 1 ∧ m.code[k].x < m.routes.length ∧ k < m.code[k].a ∧ m.code[k].a < m.code.length ∧ runM m V (n + 1) k = m.code[k].x :: runM m V n m.code[k].a) ∨
    (m.code[k].op = 2 ∧ k < m.code[k].a ∧ m.code[k].a < m.code.length ∧ k < m.code[k].b ∧ m.code[k].b < m.code.length ∧ ∃ hx : m.code[k].x < m.tests.length, TstOK m.names.length m.consts.length m.autos.length m.tests[m.code[k].x] ∧
      runM m V (n + 1) k = runM m V n (if tstM m (V (m.names.getD m.tests[m.code[k].x].n [])) m.tests[m.code[k].x] then m.code[k].a else m.code[k].b)) := by
  have h := ok.code.2.2 k hk
  have hs := h.s
  have ho := h.op
  have hc : m.code[k]? = some m.code[k] := List.getElem?_eq_getElem hk
  generalize m.code[k] = c at *
  obtain ⟨op, x, a, b⟩ := c
  simp only at ho ⊢
  match op, ho with
  | 0, _ => exact .inl ⟨rfl, by rw [runM, hc]; rfl⟩
  | 1, _ =>
    simp [stands] at hs
    exact .inr (.inl ⟨rfl, hs.1.1, hs.1.2.1, hs.1.2.2, by rw [runM, hc]; rfl⟩)
  | 2, _ =>
    simp [stands] at hs
    refine .inr (.inr ⟨rfl, hs.1.2.1, hs.1.2.2, hs.2.1, hs.2.2, hs.1.1, ok.tests.2 _ (List.getElem_mem _), ?_⟩)
    rw [runM, hc]
    simp only [List.getElem?_eq_getElem hs.1.1]
end Go.Proofs.YtpbkgeipigcefaaGreat

namespace Go.Proofs.YtpbkgeipigcefaaGreat
open Go.RowKit

theorem LR.take {w : World} {a : Option Addr} {n cap : Nat} {L : List LBL} (h : LR w (.slice a n cap) L) (j : Nat) (hj : j ≤ L.length) : LR w (.slice a j cap) (L.take j) := by
  obtain ⟨a', c', e, h0, h1⟩ := h
  simp at e
  obtain ⟨rfl, rfl, rfl⟩ := e
  have hl : (L.take j).length = j := by simp; omega
  refine ⟨a, cap, by rw [hl], by omega, ?_⟩
  intro i hi
  rw [hl] at hi
  obtain ⟨g, off, rfl, h2, h3, h4⟩ := h1 i (by omega)
  exact ⟨g, off, rfl, h2, by rw [List.getElem_take]; exact h3, by rw [List.getElem_take]; exact h4⟩


set_option maxRecDepth 100000 in
set_option maxHeartbeats 1000000 in
theorem valueOf_any (v : Value) (L : List LBL) (n : List UInt8) (w : World) (h : LR w v L) :
    Calls Tryz.prog 67 #[v, .string (bs n)] w fun e w' => e = .returned (.string (bs (lblV L n))) ∧ Frm [] w w' := by
  obtain ⟨a, cap, rfl, h0, h1⟩ := h
  have H1 := hide h1
  have hl := bs_toList
  clear h1
  go_enter Tryz.func67, Tryz.ntmps67
  go_wp2_with fail
  go_loopg [9] L.length (fun k vi wr => ∃ j : Nat, j + k = L.length ∧ vi = .int .i64 j ∧ Frm [] w wr ∧ Hid ((L.drop j).find? (fun x => x.1 == n) = L.find? (fun x => x.1 == n)))
  case atStart => exact ⟨0, by omega, rfl, Frm.refl _ _, by show _ = _; simp⟩
  case round =>
    obtain ⟨j, hj, rfl, hfr, HF⟩ := hrel
    have F := hide hfr
    clear hfr
    by_cases hlt : j < L.length
    · obtain ⟨g, off, rfl, hg, hc1, hc2⟩ := H1.out j hlt
      have hf := HF.out
      rw [List.drop_eq_getElem_cons hlt, List.find?_cons] at hf
      have q1 := (F.out.cell (p := ⟨g, off + j * 2, none⟩) hg (by simp)).trans hc1
      have q2 := (F.out.cell (p := ⟨g, off + j * 2 + 1, none⟩) hg (by simp)).trans hc2
      clear hc1 hc2
      generalize L[j] = x at *
      obtain ⟨nm, vl⟩ := x
      simp only at q1 q2 hf
      cases he : (nm == n)
      · rw [he] at hf
        have HF2 := hide hf
        clear hf HF
        go_wp2
        go_roundg (gk - 1)
        case measure => omega
        case rel => exact ⟨j + 1, by omega, by go_num, F.out.alloc _, HF2⟩
      · rw [he] at hf
        have HV : Hid (lblV L n = vl) := by show _ = _; unfold lblV; rw [← hf]
        clear hf HF
        go_wp2
        go_ret
        rw [HV.out]
        exact ⟨rfl, F.out.alloc _⟩
    · have HV : Hid (lblV L n = []) := by
        show _ = _
        unfold lblV
        rw [← HF.out, List.drop_eq_nil_of_le (by omega)]
        rfl
      clear HF
      go_wp2
      go_ret
      rw [HV.out]
      exact ⟨rfl, F.out⟩

set_option maxRecDepth 100000 in
set_option maxHeartbeats 1000000 in
theorem isNamed_any (v : Value) (L : List LBL) (n : List UInt8) (w : World) (h : LR w v L) :
    Calls Tryz.prog 51 #[v, .string (bs n)] w fun e w' => e = .returned (.bool (L.any fun x => x.1 == n)) ∧ Frm [] w w' := by
  obtain ⟨a, cap, rfl, h0, h1⟩ := h
  have H1 := hide h1
  have hl := bs_toList
  clear h1
  go_enter Tryz.func51, Tryz.ntmps51
  go_wp2_with fail
  go_loopg [9] L.length (fun k vi wr => ∃ j : Nat, j + k = L.length ∧ vi = .int .i64 j ∧ Frm [] w wr ∧ Hid (((L.drop j).any fun x => x.1 == n) = L.any fun x => x.1 == n))
  case atStart => exact ⟨0, by omega, rfl, Frm.refl _ _, by show _ = _; simp⟩
  case round =>
    obtain ⟨j, hj, rfl, hfr, HF⟩ := hrel
    have F := hide hfr
    clear hfr
    by_cases hlt : j < L.length
    · obtain ⟨g, off, rfl, hg, hc1, hc2⟩ := H1.out j hlt
      have hf := HF.out
      rw [List.drop_eq_getElem_cons hlt, List.any_cons] at hf
      have q1 := (F.out.cell (p := ⟨g, off + j * 2, none⟩) hg (by simp)).trans hc1
      have q2 := (F.out.cell (p := ⟨g, off + j * 2 + 1, none⟩) hg (by simp)).trans hc2
      clear hc1 hc2
      generalize L[j] = x at *
      obtain ⟨nm, vl⟩ := x
      simp only at q1 q2 hf
      cases he : (nm == n)
      · rw [he, Bool.false_or] at hf
        have HF2 := hide hf
        clear hf HF
        go_wp2
        go_roundg (gk - 1)
        case measure => omega
        case rel => exact ⟨j + 1, by omega, by go_num, F.out.alloc _, HF2⟩
      · rw [he, Bool.true_or] at hf
        have HV := hide hf
        clear hf HF
        go_wp2
        go_ret
        rw [← HV.out]
        exact ⟨rfl, F.out.alloc _⟩
    · have HV : Hid ((L.any fun x => x.1 == n) = false) := by
        show _ = _
        rw [← HF.out, List.drop_eq_nil_of_le (by omega)]
        rfl
      clear HF
      go_wp2
      go_ret
      rw [HV.out]
      exact ⟨rfl, F.out⟩
end Go.Proofs.YtpbkgeipigcefaaGreat

namespace Go.Proofs.YtpbkgeipigcefaaGreat
open Go.RowKit

theorem autT_next {x : AutM} (ok : AutOK x) {s : Nat} (hs : s < x.acc.length) (c : UInt8) : s * x.k + x.cl.getD c.toNat 0 < x.nx.length ∧ x.nx.getD (s * x.k + x.cl.getD c.toNat 0) 0 < x.acc.length := by
  have hc : c.toNat < x.cl.length := by rw [ok.cl]; exact c.toNat_lt
  have h1 : x.cl.getD c.toNat 0 < x.k := ok.cls _ (by simp [List.getD, hc])
  have h2 : s * x.k + x.k ≤ x.acc.length * x.k := by
    have := Nat.mul_le_mul_right x.k (Nat.succ_le_of_lt hs)
    rwa [Nat.succ_mul] at this
  have h3 : s * x.k + x.cl.getD c.toNat 0 < x.nx.length := by rw [ok.nx]; omega
  refine ⟨h3, ok.nxs _ ?_⟩
  have e : x.nx.getD (s * x.k + x.cl.getD c.toNat 0) 0 = x.nx[s * x.k + x.cl.getD c.toNat 0] := by rw [List.getD_eq_getElem?_getD, List.getElem?_eq_getElem h3]; rfl
  rw [e]; exact List.getElem_mem _

set_option maxRecDepth 100000 in
set_option maxHeartbeats 4000000 in
theorem takesM_any (A : List Nat) (w : World) (g o : Nat) (x : AutM) (va vn : Value) (v : List UInt8) (h : AUm w g o x va vn) (ra : RW A 1 w va (bc x.acc)) (rn : RW A 1 w vn (ic x.nx)) (ok : AutOK x) (hv : v.length ≤ 1048576) :
    Calls Tryz.prog 68 #[.pointer (some ⟨g, o, none⟩), .string (bs v)] w fun e w' => e = .returned (.bool (x.acc.getD (autT x 0 v) 0 == 1)) ∧ ∃ q, w' = w.drewN q := by
  obtain ⟨aa, ca, rfl, hra⟩ := ra.bool
  obtain ⟨an, cn, rfl, hrn⟩ := rn.num
  have HU := hide h
  have HRA := hide hra
  have HRN := hide hrn
  have OK := hide ok
  have hsz := bs_size v
  have hk := ok.k2
  have hac := ok.s2
  have hnx : x.nx.length ≤ 10240 := by rw [ok.nx]; exact Nat.le_trans (Nat.mul_le_mul ok.s2 ok.k2) (by decide)
  have hs1 := ok.s1
  clear h hra hrn ra rn ok
  go_enter Tryz.func68, Tryz.ntmps68
  go_wp2_with fail
  go_loopg [5, 6] v.length (fun k v5 v6 wr => ∃ (i s q : Nat), i + k = v.length ∧ v6 = .int .i64 i ∧ v5 = .int .i64 s ∧ s < x.acc.length ∧ Hid (autT x s (v.drop i) = autT x 0 v) ∧ wr = w.drewN q)
  case atStart => exact ⟨0, 0, 0, by omega, rfl, rfl, by omega, rfl, rfl⟩
  case round =>
    obtain ⟨i, s, q, hik, rfl, rfl, hs, HT, hw⟩ := hrel
    subst hw
    by_cases hlt : i < v.length
    · have c0 := HU.out.c0
      have cN := HU.out.cn
      have hbg : (bs v)[i]'(by rw [hsz]; omega) = v[i] := rfl
      obtain ⟨hr, hnext⟩ := autT_next OK.out hs v[i]
      have HT2 : Hid (autT x (x.nx.getD (s * x.k + x.cl.getD v[i].toNat 0) 0) (v.drop (i + 1)) = autT x 0 v) := by
        have h2 := HT.out
        rw [List.drop_eq_getElem_cons hlt, autT] at h2; exact h2
      have hb : v[i].toNat < 256 := v[i].toNat_lt
      have cc := HU.out.cc _ hb
      have hcs : x.cl.getD v[i].toNat 0 < 256 := by
        have hc : v[i].toNat < x.cl.length := by rw [OK.out.cl]; exact hb
        have := OK.out.cls (x.cl.getD v[i].toNat 0) (by simp [List.getD, hc]); omega
      clear HT
      generalize v[i] = y at *
      generalize x.cl.getD y.toNat 0 = m at *
      have hsm : s * x.k ≤ 40 * 256 := Nat.mul_le_mul (by omega) hk
      obtain ⟨p, hp⟩ : ∃ p, p = s * x.k := ⟨_, rfl⟩
      have hpz : (s : Int) * (x.k : Int) = (p : Int) := by rw [hp]; simp
      rw [← hp] at HT2 hsm hr hnext
      clear hp
      obtain ⟨gn, off, rfl, hgn, hcn⟩ := HRN.out (p + m) hr
      have hgd : x.nx.getD (p + m) 0 = x.nx[p + m] := by simp [List.getD, hr]
      rw [hgd] at HT2 hnext
      generalize x.nx[p + m] = z at *
      have hcn2 : ∀ k, (w.drewN k).cell? ⟨gn, off + (p + m), none⟩ = some (.int .i64 (z : Nat)) := fun k => hcn
      have cN2 : ∀ k, (w.drewN k).cell? ⟨g, o + 258, none⟩ = some (.slice (some ⟨gn, off, none⟩) x.nx.length cn) := fun k => cN
      clear hgd
      go_wp2_with fail
      go_quiet (fail)
      go_wp2_with fail
      go_roundg (gk - 1)
      case measure => omega
      case rel => exact ⟨i + 1, z, _, by omega, by go_num, rfl, hnext, HT2, rfl⟩
    · have HT2 : Hid (s = autT x 0 v) := by
        have h2 := HT.out
        rw [List.drop_eq_nil_of_le (by omega), autT] at h2; exact h2
      clear HT
      have cA := HU.out.ca
      obtain ⟨ga, off, rfl, hga, hca⟩ := HRA.out s hs
      have HV : Hid (x.acc.getD (autT x 0 v) 0 = x.acc[s]) := by show _ = _; rw [← HT2.out]; simp [List.getD, hs]
      generalize x.acc[s] = z at *
      go_wp2
      go_ret
      rw [HV.out]
      exact ⟨rfl, q, rfl⟩
end Go.Proofs.YtpbkgeipigcefaaGreat

