import Derived.Test.YthlemieldfbbfabT4
import Derived.Deep.RegionLaw
import Derived.Deep.DeepCutAuto
import Derived.Deep.CutBlock
namespace Go.Proofs.Ythlemieldfbbfab
open Go.RowKit
set_option linter.unusedVariables false
set_option linter.unusedSimpArgs false
set_option linter.unnecessarySimpa false

def rautI : Inn AutM where
  rel A w cs x := ∃ v1 v2 v3, cs = racell x v1 v2 v3 ∧ RW A 1 w v1 (ic x.cl) ∧ RW A 1 w v2 (ic x.acc) ∧ RW A 1 w v3 (ic x.nx)
  frm := by
    rintro A S w w' cs x ⟨v1, v2, v3, h1, h2, h3, h4⟩ f hS
    exact ⟨v1, v2, v3, h1, h2.frm f hS, h3.frm f hS, h4.frm f hS⟩
  avoid := by
    rintro A B w cs x ⟨v1, v2, v3, h1, h2, h3, h4⟩ hB
    exact ⟨v1, v2, v3, h1, h2.avoid hB, h3.avoid hB, h4.avoid hB⟩
theorem infoRAut : (Try.prog.info? 72).map (fun i => (i.zero, i.size, i.bytes)) = some (some (.agg rz4), 4, 80) := by kernel_rfl
theorem racell_one (x : AutM) (a1 a2 a3 : Option Addr) (n1 n2 n3 c1 c2 c3 : Nat) : (racell x (.slice a1 n1 c1) (.slice a2 n2 c2) (.slice a3 n3 c3)).all (·.oneCell') = true := by simp [racell, Value.oneCell']
/-- What stands behind the mark, if there is room for one. -/
def gl (t : List UInt8) : Option (Mach × List UInt8) := if 3 ≤ t.length then pM1 (t.drop 3) else none
/-- The reference's machine, and what it is. -/
structure RM (A : List Nat) (w : World) (mb : Nat) (V : V6) (m : Mach) : Prop where
  row : MK w mb V
  n : RW A 1 w V.n (sc m.names)
  c : RW A 1 w V.c (sc m.consts)
  a : ∃ css, RW A 4 w V.a (lst css) ∧ RowI rautI A w css m.autos
  t : ∃ css, RW A 1 w V.t (lst css) ∧ RowI tstI A w css m.tests
  r : ∃ css, RW A 5 w V.r (lst css) ∧ RowI hitI A w css m.routes
  i : ∃ css, RW A 1 w V.i (lst css) ∧ RowI insI A w css m.code
def LoadedQ (A : List Nat) (t : List UInt8) (w : World) (e : Ending) (w' : World) : Prop :=
  Frm [] w w' ∧ ((ld t = none ∧ e = .returned (.pointer none)) ∨ (∃ m V mb, ld t = some m ∧ e = .returned (.pointer (some ⟨mb, 0, none⟩)) ∧ RM A w' mb V m ∧ mb ∉ A ∧ w.heap.size ≤ mb))

set_option maxRecDepth 100000 in
set_option maxHeartbeats 16000000 in
theorem rLoaded_any (A : List Nat) (t : List UInt8) (w : World) (ht : t.length ≤ 262144) (hA : ∀ g ∈ A, g < w.heap.size) :
    Calls Try.prog 10 #[.string (bs t)] w (LoadedQ A t w) := by
  have HA := hide hA
  clear hA
  have hsz := bs_size t
  have hd0 : decide ((t.length : Int) ≤ 262144) = true := decide_eq_true (by omega)
  have hd0' : decide (t.length ≤ 262144) = true := decide_eq_true (by omega)
  obtain ⟨W1, hW1⟩ : ∃ W1, W1 = (w.alloc (Obj.cells #[.string (bs t), .bool true] 63)).alloc (Obj.cells #[.slice none 0 0, .slice none 0 0, .slice none 0 0, .slice none 0 0, .slice none 0 0, .slice none 0 0] 67) := ⟨_, rfl⟩
  have hT1 : TK W1 w.heap.size t true := by
    refine ⟨?_, by omega⟩
    rw [hW1]
    exact (((Frm.refl [] (w.alloc (Obj.cells #[.string (bs t), .bool true] 63))).alloc _).block w.heap.size (by simp) (by simp)).trans (heap1 _ _)
  have hM1 : MK W1 (w.heap.size + 1) V6.z := by
    show W1.heap[w.heap.size + 1]? = _
    rw [hW1]
    have := heap1 (w.alloc (Obj.cells #[.string (bs t), .bool true] 63)) (Obj.cells #[.slice none 0 0, .slice none 0 0, .slice none 0 0, .slice none 0 0, .slice none 0 0, .slice none 0 0] 67)
    rw [show (w.alloc (Obj.cells #[.string (bs t), .bool true] 63)).heap.size = w.heap.size + 1 by simp] at this
    exact this
  have F1 : Hid (Frm [] w W1) := by rw [hW1]; exact ((Frm.refl [] w).alloc _).alloc _
  have hz1 : W1.heap.size = w.heap.size + 2 := by rw [hW1]; simp
  have N1 := hide (rtake_any w.heap.size t true 3 3 W1 hT1 rfl (by omega))
  have M1 := hide hM1
  clear hT1 hM1
  go_enter Try.func10, Try.ntmps10
  have N1' := N1.out
  rw [hW1] at N1'
  go_wp2_with fail
  refine N1'.mono ?_
  clear N1' N1
  rintro e w2 ⟨mg, s2, ok2, rfl, hT2, hF2', hO2, hmg, hs2, hmge⟩
  have hF2 : Frm [w.heap.size] W1 w2 := by rw [hW1]; exact hF2'
  clear hF2' hW1
  have T2 := hide hT2
  have M2 := hide (M1.out.frm hF2 (by simp))
  have F2 := hide (F1.out.over hF2 (by intro x hx; simp at hx; left; omega))
  have hz2 := hF2.size
  have hzz : w.heap.size + 1 < w2.heap.size := by omega
  have MG : Hid ((mg = markL ∧ 3 ≤ t.length) ↔ t.take 3 = markL) := by
    constructor
    · rintro ⟨h1, h2⟩; rw [← hmge h2]; exact h1
    · intro h
      have hl := congrArg List.length h
      simp [markL] at hl
      have h3 : 3 ≤ t.length := by omega
      exact ⟨by rw [hmge h3]; exact h, h3⟩
  have HL2 : Hid ((ok2 = true ∧ gl t = pM1 s2) ∨ (gl t = none ∧ ok2 = false)) := by
    unfold gl
    rcases hO2 with ⟨_, k2, k3⟩ | ⟨k2, k3⟩
    · unfold pB at k2
      split at k2
      · rename_i h3
        simp at k2
        left
        rw [if_pos h3, k2.2]
        exact ⟨k3, rfl⟩
      · cases k2
    · right
      refine ⟨?_, k3⟩
      rcases k2 with k2 | k2
      · cases k2
      · unfold pB at k2
        split at k2
        · cases k2
        · rename_i h3; rw [if_neg h3]
  clear hT2 hF2 hO2 hmge M1 F1
  have N3 := hide (rnum_any w.heap.size s2 ok2 1 256 1 255 w2 T2.out rfl rfl (by omega) (by omega))
  go_wp2_with fail
  refine (N3.out).mono ?_
  clear N3
  rintro e w3 ⟨n3, s3, ok3, rfl, hT, hF, hO, hss, hn⟩
  have T3 := hide hT
  have M3 := hide (M2.out.frm hF (by simp))
  have F3 := hide (F2.out.over hF (by intro x hx; simp at hx; left; omega))
  have hz3 : w.heap.size + 1 < w3.heap.size := by have := hF.size; omega
  have hn3 : n3 < 256 := by omega
  have HL3 : Hid ((ok3 = true ∧ gl t = (pR (fun _ => pNm) n3 [] s3).bind fun y => pM2 y.1 y.2) ∨ (gl t = none ∧ ok3 = false)) := by
    rcases HL2.out with ⟨h1, h2⟩ | ⟨h1, h2⟩
    · rcases hO with ⟨_, k2, k3⟩ | ⟨k2, k3⟩
      · left
        refine ⟨k3, ?_⟩
        rw [h2]; unfold pM1 pL; rw [k2]; rfl
      · right
        refine ⟨?_, k3⟩
        rcases k2 with k2 | k2
        · rw [h1] at k2; cases k2
        · rw [h2]; unfold pM1 pL; rw [k2]; rfl
    · right
      refine ⟨h1, ?_⟩
      rcases hO with ⟨k1, _, _⟩ | ⟨_, k3⟩
      · rw [h2] at k1; cases k1
      · exact k3
  clear hT hF hO hss hn T2 M2 F2 HL2
  go_upto_block 0 with fail
  go_cut [] (fun wc => True ∧ ∃ (acc : List (List UInt8)) (a : Option Addr) (c : Nat) (s' : List UInt8) (ok' : Bool), acc.length ≤ 1000 ∧ TK wc w.heap.size s' ok' ∧ MK wc (w.heap.size + 1) ⟨.slice a acc.length c, .slice none 0 0, .slice none 0 0, .slice none 0 0, .slice none 0 0, .slice none 0 0⟩ ∧ Frm [w.heap.size, w.heap.size + 1] w3 wc ∧ RW (w.heap.size :: (w.heap.size + 1) :: A) 1 wc (.slice a acc.length c) (sc acc) ∧ Hid ((ok' = true ∧ gl t = pM2 acc s') ∨ (gl t = none ∧ ok' = false)))
  case first =>
    go_wp2_with fail
    go_loopg [7] n3 (fun k vk wr => ∃ (j : Nat) (acc : List (List UInt8)) (vr : Value) (s' : List UInt8) (ok' : Bool), j + k = n3 ∧ vk = .int .i64 j ∧ acc.length ≤ j ∧ TK wr w.heap.size s' ok' ∧ MK wr (w.heap.size + 1) ⟨vr, .slice none 0 0, .slice none 0 0, .slice none 0 0, .slice none 0 0, .slice none 0 0⟩ ∧ Frm [w.heap.size, w.heap.size + 1] w3 wr ∧ OW 9 1 w3.heap.size wr vr (sc acc) ∧
        Hid ((ok' = true ∧ gl t = (pR (fun _ => pNm) (n3 - j) acc s').bind fun y => pM2 y.1 y.2) ∨ (gl t = none ∧ ok' = false)))
    case atStart => exact ⟨0, [], _, s3, ok3, by omega, rfl, by simp, T3.out, M3.out, Frm.refl _ _, OW.nil _ _ _ _, HL3⟩
    case round =>
      clear T3 M3 HL3
      obtain ⟨j, acc, vr, s4p, ok4p, hjk, rfl, hal, hT, hM, hF, hO, HR⟩ := hrel
      obtain ⟨a, c, he⟩ := hO.shape
      rw [sc_len] at he
      subst he
      have T := hide hT
      have M := hide hM
      have F := hide hF
      have O := hide hO
      have hcl : acc.length ≤ 1000 := by omega
      have c1 := hT.c1
      have hzr := hF.size
      clear hT hM hF hO
      by_cases hlt : j < n3 ∧ ok4p = true
      · obtain ⟨hlt, rfl⟩ := hlt
        have hd : decide ((j : Int) < (n3 : Int)) = true := decide_eq_true (by omega)
        have hd' : decide (j < n3) = true := decide_eq_true hlt
        have HP : Hid (gl t = (pR (fun _ => pNm) (n3 - j) acc s4p).bind fun y => pM2 y.1 y.2) := by
          rcases HR.out with ⟨_, h⟩ | ⟨_, h⟩
          · exact h
          · cases h
        clear HR
        have NX := hide (rname_any w.heap.size s4p true wr T.out)
        go_wp2_with fail
        refine (NX.out).mono ?_
        clear NX
        rintro e wx ⟨x, sx, okx, rfl, hTx, hFx, hOx, hsx, hxl⟩
        have HR2 : Hid ((okx = true ∧ gl t = (pR (fun _ => pNm) (n3 - (j + 1)) (acc ++ [x]) sx).bind fun y => pM2 y.1 y.2) ∨ (gl t = none ∧ okx = false)) := by
          have h := HP.out
          rw [show n3 - j = (n3 - (j + 1)) + 1 by omega, pR_succ] at h
          rcases hOx with ⟨_, k2, k3⟩ | ⟨k2, k3⟩
          · left; refine ⟨k3, ?_⟩; rw [h, k2]; rfl
          · right; refine ⟨?_, k3⟩
            rcases k2 with k2 | k2
            · cases k2
            · rw [h, k2]; rfl
        have T6 := hide hTx
        have M6 := hide (M.out.frm hFx (by simp))
        have F6 := hide (F.out.trans (hFx.mono (by intro k _ hk; simp at hk; simp [hk])))
        have O6 := hide (O.out.frm hFx (by intro g hg; simp at hg; omega))
        have hz6 := hFx.size
        have hb6 := hTx.lt
        have hm6 := M6.out.lt
        have cm := M6.out.c0
        have zm := M6.out.fz 0
        have HOB : Hid (∀ r, Value.ownBlock (.slice a acc.length c) = some r → w3.heap.size ≤ r) := fun r hr => (O6.out.lt hr).1
        clear hTx hFx hOx HP T M O
        go_wp2_with (first | (at_builtin; refine wp_appSc _ rfl _ _ rfl w3.heap.size (.slice a acc.length c) acc wx.heap.size x rfl (O6.out.frm (S := []) ((Frm.refl [] _).alloc _) (by simp)) rfl (by simp) (by omega) (by simp; omega) ?_; intro g7 cap7 w7 hs7 hg7 hor7 hlt7; have O7 := hide hs7; have G7 := hide hg7; have M7 := hide ((M6.out.frm (S := []) ((Frm.refl [] _).alloc _) (by simp)).grown hg7 (fun r hr => by have := HOB.out r hr; omega)); have c7 := M7.out.c0; have z7 := M7.out.fz 0; clear hs7 hg7 hor7))
        go_roundg (gk - 1)
        case measure => omega
        case rel =>
          have FB : ∀ u, Frm [w.heap.size + 1] w7 (w7.setCell ⟨w.heap.size + 1, 0, none⟩ u) := fun u => (Frm.refl _ _).setCell (p := ⟨w.heap.size + 1, 0, none⟩) (.inl (by simp)) u
          exact ⟨j + 1, acc ++ [x], _, sx, okx, by omega, by go_num, by simp; omega, ((T6.out.frm (S := []) ((Frm.refl [] _).alloc _) (by simp)).grown G7.out (fun r hr => by have := HOB.out r hr; omega)).frm (FB _) (by simp), M7.out.set0 _, ((F6.out.alloc _).grown G7.out (fun r hr => .inr (HOB.out r hr))).trans ((FB _).mono (by intro k _ hk; simp at hk; simp [hk])), O7.out.frm (FB _) (by simp; omega), HR2⟩
      have HEX : Hid ((ok4p = true ∧ gl t = pM2 acc s4p) ∨ (gl t = none ∧ ok4p = false)) := by
        rcases HR.out with ⟨h1, h2⟩ | h
        · left
          have hje : j = n3 := by
            apply Classical.byContradiction
            intro hne
            exact hlt ⟨by omega, h1⟩
          rw [hje, Nat.sub_self] at h2
          exact ⟨h1, h2⟩
        · exact .inr h
      have hlx : acc.length ≤ 1000 := by omega
      have QE := hide (O.out.rw (A := w.heap.size :: (w.heap.size + 1) :: A) (fun g hg hm => by have := (O.out.lt hg).1; simp at hm; rcases hm with hm | hm | hm; omega; omega; have := HA.out g hm; omega))
      clear HR O
      by_cases hjn : j < n3
      · have hk : ok4p = false := by
          cases h : ok4p
          · rfl
          · exact absurd ⟨hjn, h⟩ hlt
        have hd : decide ((j : Int) < (n3 : Int)) = true := decide_eq_true (by omega)
        have hd' : decide (j < n3) = true := decide_eq_true hjn
        rw [hk] at c1
        clear hk
        go_wp2
        go_meet
        exact ⟨trivial, acc, a, c, s4p, ok4p, hlx, T.out, M.out, F.out, QE.out, HEX⟩
      · have hd : decide ((j : Int) < (n3 : Int)) = false := decide_eq_false (by omega)
        have hd' : decide (j < n3) = false := decide_eq_false hjn
        go_wp2
        go_meet
        exact ⟨trivial, acc, a, c, s4p, ok4p, hlx, T.out, M.out, F.out, QE.out, HEX⟩
  case rest =>
  obtain ⟨_, x4, a4, c4, s4, ok4, hl4, hT, hM, hF, hQ, HL4⟩ := hcut
  obtain ⟨w4, hwE⟩ : ∃ x, x = wc := ⟨_, rfl⟩
  rw [← hwE] at hT hM hF hQ ⊢
  clear hwE
  have T4 := hide hT
  have M4 := hide hM
  have F4 := hide (F3.out.over hF (by intro x hx; simp at hx; left; omega))
  have hz4 : w.heap.size + 1 < w4.heap.size := by have := hF.size; omega
  have Q4 := hide hQ
  clear hT hM hF hQ F3 T3 M3 HL3
  have N5 := hide (rnum_any w.heap.size s4 ok4 1 256 1 255 w4 T4.out rfl rfl (by omega) (by omega))
  go_wp2_with fail
  refine (N5.out).mono ?_
  clear N5
  rintro e w5 ⟨n5, s5, ok5, rfl, hT, hF, hO, hss, hn⟩
  have T5 := hide hT
  have M5 := hide (M4.out.frm hF (by simp))
  have F5 := hide (F4.out.over hF (by intro x hx; simp at hx; left; omega))
  have hz5 : w.heap.size + 1 < w5.heap.size := by have := hF.size; omega
  have hn5 : n5 < 256 := by omega
  have HL5 : Hid ((ok5 = true ∧ gl t = (pR (fun _ => pT 41) n5 [] s5).bind fun y => pM3 x4 y.1 y.2) ∨ (gl t = none ∧ ok5 = false)) := by
    rcases HL4.out with ⟨h1, h2⟩ | ⟨h1, h2⟩
    · rcases hO with ⟨_, k2, k3⟩ | ⟨k2, k3⟩
      · left
        refine ⟨k3, ?_⟩
        rw [h2]; unfold pM2 pCs; rw [k2]; rfl
      · right
        refine ⟨?_, k3⟩
        rcases k2 with k2 | k2
        · rw [h1] at k2; cases k2
        · rw [h2]; unfold pM2 pCs; rw [k2]; rfl
    · right
      refine ⟨h1, ?_⟩
      rcases hO with ⟨k1, _, _⟩ | ⟨_, k3⟩
      · rw [h2] at k1; cases k1
      · exact k3
  have Q4n := hide (Q4.out.frm hF (by simp))
  clear Q4
  have Q4 := Q4n
  clear Q4n
  clear hT hF hO hss hn T4 M4 F4 HL4
  go_upto_block 2 with fail
  go_cut [] (fun wc => True ∧ ∃ (acc : List (List UInt8)) (a : Option Addr) (c : Nat) (s' : List UInt8) (ok' : Bool), acc.length ≤ 1000 ∧ TK wc w.heap.size s' ok' ∧ MK wc (w.heap.size + 1) ⟨.slice a4 x4.length c4, .slice a acc.length c, .slice none 0 0, .slice none 0 0, .slice none 0 0, .slice none 0 0⟩ ∧ Frm [w.heap.size, w.heap.size + 1] w5 wc ∧ RW (w.heap.size :: (w.heap.size + 1) :: A) 1 wc (.slice a acc.length c) (sc acc) ∧ Hid ((ok' = true ∧ gl t = pM3 x4 acc s') ∨ (gl t = none ∧ ok' = false)))
  case first =>
    go_wp2_with fail
    go_loopg [9] n5 (fun k vk wr => ∃ (j : Nat) (acc : List (List UInt8)) (vr : Value) (s' : List UInt8) (ok' : Bool), j + k = n5 ∧ vk = .int .i64 j ∧ acc.length ≤ j ∧ TK wr w.heap.size s' ok' ∧ MK wr (w.heap.size + 1) ⟨.slice a4 x4.length c4, vr, .slice none 0 0, .slice none 0 0, .slice none 0 0, .slice none 0 0⟩ ∧ Frm [w.heap.size, w.heap.size + 1] w5 wr ∧ OW 9 1 w5.heap.size wr vr (sc acc) ∧
        Hid ((ok' = true ∧ gl t = (pR (fun _ => pT 41) (n5 - j) acc s').bind fun y => pM3 x4 y.1 y.2) ∨ (gl t = none ∧ ok' = false)))
    case atStart => exact ⟨0, [], _, s5, ok5, by omega, rfl, by simp, T5.out, M5.out, Frm.refl _ _, OW.nil _ _ _ _, HL5⟩
    case round =>
      clear T5 M5 HL5
      obtain ⟨j, acc, vr, s4p, ok4p, hjk, rfl, hal, hT, hM, hF, hO, HR⟩ := hrel
      obtain ⟨a, c, he⟩ := hO.shape
      rw [sc_len] at he
      subst he
      have T := hide hT
      have M := hide hM
      have F := hide hF
      have O := hide hO
      have hcl : acc.length ≤ 1000 := by omega
      have c1 := hT.c1
      have hzr := hF.size
      clear hT hM hF hO
      by_cases hlt : j < n5 ∧ ok4p = true
      · obtain ⟨hlt, rfl⟩ := hlt
        have hd : decide ((j : Int) < (n5 : Int)) = true := decide_eq_true (by omega)
        have hd' : decide (j < n5) = true := decide_eq_true hlt
        have HP : Hid (gl t = (pR (fun _ => pT 41) (n5 - j) acc s4p).bind fun y => pM3 x4 y.1 y.2) := by
          rcases HR.out with ⟨_, h⟩ | ⟨_, h⟩
          · exact h
          · cases h
        clear HR
        have NX := hide (rword_any w.heap.size s4p true 41 40 wr T.out rfl (by omega))
        go_wp2_with fail
        refine (NX.out).mono ?_
        clear NX
        rintro e wx ⟨x, sx, okx, rfl, hTx, hFx, hOx, hsx, hxl⟩
        have HR2 : Hid ((okx = true ∧ gl t = (pR (fun _ => pT 41) (n5 - (j + 1)) (acc ++ [x]) sx).bind fun y => pM3 x4 y.1 y.2) ∨ (gl t = none ∧ okx = false)) := by
          have h := HP.out
          rw [show n5 - j = (n5 - (j + 1)) + 1 by omega, pR_succ] at h
          rcases hOx with ⟨_, k2, k3⟩ | ⟨k2, k3⟩
          · left; refine ⟨k3, ?_⟩; rw [h, k2]; rfl
          · right; refine ⟨?_, k3⟩
            rcases k2 with k2 | k2
            · cases k2
            · rw [h, k2]; rfl
        have T6 := hide hTx
        have M6 := hide (M.out.frm hFx (by simp))
        have F6 := hide (F.out.trans (hFx.mono (by intro k _ hk; simp at hk; simp [hk])))
        have O6 := hide (O.out.frm hFx (by intro g hg; simp at hg; omega))
        have hz6 := hFx.size
        have hb6 := hTx.lt
        have hm6 := M6.out.lt
        have cm := M6.out.c1
        have zm := M6.out.fz 1
        have HOB : Hid (∀ r, Value.ownBlock (.slice a acc.length c) = some r → w5.heap.size ≤ r) := fun r hr => (O6.out.lt hr).1
        clear hTx hFx hOx HP T M O
        go_wp2_with (first | (at_builtin; refine wp_appSc _ rfl _ _ rfl w5.heap.size (.slice a acc.length c) acc wx.heap.size x rfl (O6.out.frm (S := []) ((Frm.refl [] _).alloc _) (by simp)) rfl (by simp) (by omega) (by simp; omega) ?_; intro g7 cap7 w7 hs7 hg7 hor7 hlt7; have O7 := hide hs7; have G7 := hide hg7; have M7 := hide ((M6.out.frm (S := []) ((Frm.refl [] _).alloc _) (by simp)).grown hg7 (fun r hr => by have := HOB.out r hr; omega)); have c7 := M7.out.c1; have z7 := M7.out.fz 1; clear hs7 hg7 hor7))
        go_roundg (gk - 1)
        case measure => omega
        case rel =>
          have FB : ∀ u, Frm [w.heap.size + 1] w7 (w7.setCell ⟨w.heap.size + 1, 1, none⟩ u) := fun u => (Frm.refl _ _).setCell (p := ⟨w.heap.size + 1, 1, none⟩) (.inl (by simp)) u
          exact ⟨j + 1, acc ++ [x], _, sx, okx, by omega, by go_num, by simp; omega, ((T6.out.frm (S := []) ((Frm.refl [] _).alloc _) (by simp)).grown G7.out (fun r hr => by have := HOB.out r hr; omega)).frm (FB _) (by simp), M7.out.set1 _, ((F6.out.alloc _).grown G7.out (fun r hr => .inr (HOB.out r hr))).trans ((FB _).mono (by intro k _ hk; simp at hk; simp [hk])), O7.out.frm (FB _) (by simp; omega), HR2⟩
      have HEX : Hid ((ok4p = true ∧ gl t = pM3 x4 acc s4p) ∨ (gl t = none ∧ ok4p = false)) := by
        rcases HR.out with ⟨h1, h2⟩ | h
        · left
          have hje : j = n5 := by
            apply Classical.byContradiction
            intro hne
            exact hlt ⟨by omega, h1⟩
          rw [hje, Nat.sub_self] at h2
          exact ⟨h1, h2⟩
        · exact .inr h
      have hlx : acc.length ≤ 1000 := by omega
      have QE := hide (O.out.rw (A := w.heap.size :: (w.heap.size + 1) :: A) (fun g hg hm => by have := (O.out.lt hg).1; simp at hm; rcases hm with hm | hm | hm; omega; omega; have := HA.out g hm; omega))
      clear HR O
      by_cases hjn : j < n5
      · have hk : ok4p = false := by
          cases h : ok4p
          · rfl
          · exact absurd ⟨hjn, h⟩ hlt
        have hd : decide ((j : Int) < (n5 : Int)) = true := decide_eq_true (by omega)
        have hd' : decide (j < n5) = true := decide_eq_true hjn
        rw [hk] at c1
        clear hk
        go_wp2
        go_meet
        exact ⟨trivial, acc, a, c, s4p, ok4p, hlx, T.out, M.out, F.out, QE.out, HEX⟩
      · have hd : decide ((j : Int) < (n5 : Int)) = false := decide_eq_false (by omega)
        have hd' : decide (j < n5) = false := decide_eq_false hjn
        go_wp2
        go_meet
        exact ⟨trivial, acc, a, c, s4p, ok4p, hlx, T.out, M.out, F.out, QE.out, HEX⟩
  case rest =>
  obtain ⟨_, x6, a6, c6, s6, ok6, hl6, hT, hM, hF, hQ, HL6⟩ := hcut
  obtain ⟨w6, hwE⟩ : ∃ x, x = wc := ⟨_, rfl⟩
  rw [← hwE] at hT hM hF hQ ⊢
  clear hwE
  have T6 := hide hT
  have M6 := hide hM
  have F6 := hide (F5.out.over hF (by intro x hx; simp at hx; left; omega))
  have hz6 : w.heap.size + 1 < w6.heap.size := by have := hF.size; omega
  have Q6 := hide hQ
  have Q4n := hide (Q4.out.frm hF (by simp))
  clear Q4
  have Q4 := Q4n
  clear Q4n
  clear hT hM hF hQ F5 T5 M5 HL5
  have N7 := hide (rnum_any w.heap.size s6 ok6 1 256 1 255 w6 T6.out rfl rfl (by omega) (by omega))
  go_wp2_with fail
  refine (N7.out).mono ?_
  clear N7
  rintro e w7 ⟨n7, s7, ok7, rfl, hT, hF, hO, hss, hn⟩
  have T7 := hide hT
  have M7 := hide (M6.out.frm hF (by simp))
  have F7 := hide (F6.out.over hF (by intro x hx; simp at hx; left; omega))
  have hz7 : w.heap.size + 1 < w7.heap.size := by have := hF.size; omega
  have hn7 : n7 < 256 := by omega
  have HL7 : Hid ((ok7 = true ∧ gl t = (pR (fun _ => pA) n7 [] s7).bind fun y => pM4 x4 x6 y.1 y.2) ∨ (gl t = none ∧ ok7 = false)) := by
    rcases HL6.out with ⟨h1, h2⟩ | ⟨h1, h2⟩
    · rcases hO with ⟨_, k2, k3⟩ | ⟨k2, k3⟩
      · left
        refine ⟨k3, ?_⟩
        rw [h2]; unfold pM3 pAs; rw [k2]; rfl
      · right
        refine ⟨?_, k3⟩
        rcases k2 with k2 | k2
        · rw [h1] at k2; cases k2
        · rw [h2]; unfold pM3 pAs; rw [k2]; rfl
    · right
      refine ⟨h1, ?_⟩
      rcases hO with ⟨k1, _, _⟩ | ⟨_, k3⟩
      · rw [h2] at k1; cases k1
      · exact k3
  have Q4n := hide (Q4.out.frm hF (by simp))
  clear Q4
  have Q4 := Q4n
  clear Q4n
  have Q6n := hide (Q6.out.frm hF (by simp))
  clear Q6
  have Q6 := Q6n
  clear Q6n
  clear hT hF hO hss hn T6 M6 F6 HL6
  go_upto_block 4 with fail
  go_cut [] (fun wc => True ∧ ∃ (acc : List AutM) (css : List (Array Value)) (a : Option Addr) (c : Nat) (s' : List UInt8) (ok' : Bool), acc.length ≤ 1000 ∧ TK wc w.heap.size s' ok' ∧ MK wc (w.heap.size + 1) ⟨.slice a4 x4.length c4, .slice a6 x6.length c6, .slice a acc.length c, .slice none 0 0, .slice none 0 0, .slice none 0 0⟩ ∧ Frm [w.heap.size, w.heap.size + 1] w7 wc ∧ RW (w.heap.size :: (w.heap.size + 1) :: A) 4 wc (.slice a acc.length c) (lst css) ∧ RowI rautI (w.heap.size :: (w.heap.size + 1) :: A) wc css acc ∧ Hid ((ok' = true ∧ gl t = pM4 x4 x6 acc s') ∨ (gl t = none ∧ ok' = false)))
  case first =>
    go_wp2_with fail
    go_loopg [11] n7 (fun k vk wr => ∃ (j : Nat) (acc : List AutM) (css : List (Array Value)) (vr : Value) (s' : List UInt8) (ok' : Bool), j + k = n7 ∧ vk = .int .i64 j ∧ acc.length ≤ j ∧ TK wr w.heap.size s' ok' ∧ MK wr (w.heap.size + 1) ⟨.slice a4 x4.length c4, .slice a6 x6.length c6, vr, .slice none 0 0, .slice none 0 0, .slice none 0 0⟩ ∧ Frm [w.heap.size, w.heap.size + 1] w7 wr ∧ OW 72 4 w7.heap.size wr vr (lst css) ∧ RowI rautI ((w.heap.size :: (w.heap.size + 1) :: A) ++ vr.ownBlock.toList) wr css acc ∧
        Hid ((ok' = true ∧ gl t = (pR (fun _ => pA) (n7 - j) acc s').bind fun y => pM4 x4 x6 y.1 y.2) ∨ (gl t = none ∧ ok' = false)))
    case atStart => exact ⟨0, [], [], _, s7, ok7, by omega, rfl, by simp, T7.out, M7.out, Frm.refl _ _, OW.nil _ _ _ _, RowI.nil _ _ _, HL7⟩
    case round =>
      clear T7 M7 HL7
      obtain ⟨j, acc, css, vr, s4p, ok4p, hjk, rfl, hal, hT, hM, hF, hO, hI, HR⟩ := hrel
      obtain ⟨a, c, he⟩ := hO.shape
      rw [lst_len] at he
      subst he
      have T := hide hT
      have M := hide hM
      have F := hide hF
      have O := hide hO
      have I := hide hI
      have hcl : css.length ≤ 1000 := by have := hI.1; omega
      have hcla := hide hI.1
      clear hI
      have c1 := hT.c1
      have hzr := hF.size
      clear hT hM hF hO
      by_cases hlt : j < n7 ∧ ok4p = true
      · obtain ⟨hlt, rfl⟩ := hlt
        have hd : decide ((j : Int) < (n7 : Int)) = true := decide_eq_true (by omega)
        have hd' : decide (j < n7) = true := decide_eq_true hlt
        have HP : Hid (gl t = (pR (fun _ => pA) (n7 - j) acc s4p).bind fun y => pM4 x4 x6 y.1 y.2) := by
          rcases HR.out with ⟨_, h⟩ | ⟨_, h⟩
          · exact h
          · cases h
        clear HR
        have NX := hide (rauto_any w.heap.size s4p true wr T.out)
        go_wp2_with fail
        refine (NX.out).mono ?_
        clear NX
        rintro e wx ⟨x, a1, a2, a3, b1, b2, b3, sx, okx, rfl, hTx, hFx, hOx, hsx, hw1, hw2, hw3⟩
        have HR2 : Hid ((okx = true ∧ gl t = (pR (fun _ => pA) (n7 - (j + 1)) (acc ++ [x]) sx).bind fun y => pM4 x4 x6 y.1 y.2) ∨ (gl t = none ∧ okx = false)) := by
          have h := HP.out
          rw [show n7 - j = (n7 - (j + 1)) + 1 by omega, pR_succ] at h
          rcases hOx with ⟨_, k2, k3⟩ | ⟨k2, k3⟩
          · left; refine ⟨k3, ?_⟩; rw [h, k2]; rfl
          · right; refine ⟨?_, k3⟩
            rcases k2 with k2 | k2
            · cases k2
            · rw [h, k2]; rfl
        have T6 := hide hTx
        have M6 := hide (M.out.frm hFx (by simp))
        have F6 := hide (F.out.trans (hFx.mono (by intro k _ hk; simp at hk; simp [hk])))
        have O6 := hide (O.out.frm hFx (by intro g hg; simp at hg; omega))
        have hz6 := hFx.size
        have hb6 := hTx.lt
        have hm6 := M6.out.lt
        have cm := M6.out.c2
        have zm := M6.out.fz 2
        have HOB : Hid (∀ r, Value.ownBlock (.slice a css.length c) = some r → w7.heap.size ≤ r) := fun r hr => (O6.out.lt hr).1
        have I6 : Hid (RowI rautI ((w.heap.size :: (w.heap.size + 1) :: A) ++ (Value.ownBlock (.slice a css.length c)).toList) wx (css ++ [racell x (.slice a1 x.cl.length b1) (.slice a2 x.acc.length b2) (.slice a3 x.nx.length b3)]) (acc ++ [x])) := by
          refine RowI.snoc (I.out.frm hFx (by simp)) ?_
          have hne : ∀ v e k vs, OW e k wr.heap.size wx v vs → ∀ g, v.ownBlock = some g → g ∉ (w.heap.size :: (w.heap.size + 1) :: A) ++ (Value.ownBlock (.slice a css.length c)).toList := by
            intro v e k vs ho g hg hm
            have h1 := (ho.lt hg).1
            simp at hm
            rcases hm with hm | hm | hm | hm
            · omega
            · omega
            · have := HA.out g hm; omega
            · have := (O.out.lt hm).2; omega
          exact ⟨_, _, _, rfl, hw1.rw (hne _ _ _ _ hw1), hw2.rw (hne _ _ _ _ hw2), hw3.rw (hne _ _ _ _ hw3)⟩
        have HTC := hide (lst_len css)
        have g2 : ∀ o o' : Obj, ((wx.alloc o).alloc o').drew.frozen? ⟨w.heap.size + 1, 2, none⟩ = false := fun o o' => (((((Frm.refl [] wx).alloc o).alloc o').drew).frozen (p := ⟨w.heap.size + 1, 2, none⟩) hm6 (by simp)).trans zm
        have g1 : ∀ o : Obj, (wx.alloc o).drew.frozen? ⟨w.heap.size + 1, 2, none⟩ = false := fun o => ((((Frm.refl [] wx).alloc o).drew).frozen (p := ⟨w.heap.size + 1, 2, none⟩) hm6 (by simp)).trans zm
        have ag : Value.ownBlock (.slice a css.length c) ≠ some (w.heap.size + 1) := fun e => by have := HOB.out _ e; omega
        clear hTx hFx hOx HP T M O I hw1 hw2 hw3
        obtain ⟨q1, q2, q3, q4⟩ := x
        simp only [racell]
        go_wp2_with fail
        go_region_law ((refine step_appG _ (by rfl) _ _ 64 72 _ 4 80 infoRAut Try.underlying64 (by rfl) (by omega) (by rfl) w7.heap.size (.slice a css.length c) (lst css) (wx.heap.size + 1) (racell ⟨q1, q2, q3, q4⟩ (.slice a1 q2.length b1) (.slice a2 q3.length b2) (.slice a3 q4.length b3)) (0, 0) (by rfl) (O6.out.frm (S := []) ((((Frm.refl [] _).alloc _).alloc _).drew) (by simp)) (by rfl) (by rfl) (by exact heap_new2d _ _ _) (racell_one _ _ _ _ _ _ _ _ _ _) (by rw [HTC.out]; omega) (by rw [HTC.out]; omega) (by simp; omega) (wx.heap.size + 2) (by simp) ?_; intro gg cap7 w7 hown7 hgrow hat hlt7; have c7 := (hgrow.cell_far ⟨w.heap.size + 1, 2, none⟩ (by simp; omega) (Ne.symm ag)); have f7 := (hgrow.frozen_far ⟨w.heap.size + 1, 2, none⟩ (by simp; omega) (Ne.symm ag)); have f8 := f7.trans (g2 _ _); rw [HTC.out] at hown7 ⊢))
        all_goals
          have G7 := hide hgrow
          have O7 := hide hown7
          clear hgrow hown7
          go_wp2
          go_roundg (gk - 1)
          case measure => omega
          case rel =>
            have F3 : Frm [] wx ((wx.alloc (Obj.cells (racell ⟨q1, q2, q3, q4⟩ (.slice a1 q2.length b1) (.slice a2 q3.length b2) (.slice a3 q4.length b3)) 72)).alloc (Obj.cells (racell ⟨q1, q2, q3, q4⟩ (.slice a1 q2.length b1) (.slice a2 q3.length b2) (.slice a3 q4.length b3)) 72)).drew := (((Frm.refl [] _).alloc _).alloc _).drew
            have M7 := (M6.out.frm F3 (by simp)).grown G7.out (fun r hr => by have := HOB.out r hr; omega)
            have T7 := (T6.out.frm F3 (by simp)).grown G7.out (fun r hr => by have := HOB.out r hr; omega)
            have O8 := O7.out
            rw [lst_snoc] at O8
            have FB : ∀ u, Frm [w.heap.size + 1] w7 (w7.setCell ⟨w.heap.size + 1, 2, none⟩ u) := fun u => (Frm.refl _ _).setCell (p := ⟨w.heap.size + 1, 2, none⟩) (.inl (by simp)) u
            have R3 := I6.out.frm F3 (by simp)
            have R4 := R3.app (g := gg) G7.out (hat.imp id (fun h => by rw [h]; simp))
            exact ⟨j + 1, acc ++ [(⟨q1, q2, q3, q4⟩ : AutM)], css ++ [racell ⟨q1, q2, q3, q4⟩ (.slice a1 q2.length b1) (.slice a2 q3.length b2) (.slice a3 q4.length b3)], _, sx, okx, by omega, by go_num, by simp; omega, T7.frm (FB _) (by simp), M7.set2 _, ((F6.out.trans (F3.mono (by simp))).grown G7.out (fun r hr => .inr (HOB.out r hr))).trans ((FB _).mono (by intro k _ hk; simp at hk; simp [hk])), O8.frm (FB _) (by simp; omega), R4.frm (FB _) (by simp), HR2⟩
      have HEX : Hid ((ok4p = true ∧ gl t = pM4 x4 x6 acc s4p) ∨ (gl t = none ∧ ok4p = false)) := by
        rcases HR.out with ⟨h1, h2⟩ | h
        · left
          have hje : j = n7 := by
            apply Classical.byContradiction
            intro hne
            exact hlt ⟨by omega, h1⟩
          rw [hje, Nat.sub_self] at h2
          exact ⟨h1, h2⟩
        · exact .inr h
      have hlx : acc.length ≤ 1000 := by omega
      have QE := hide (O.out.rw (A := w.heap.size :: (w.heap.size + 1) :: A) (fun g hg hm => by have := (O.out.lt hg).1; simp at hm; rcases hm with hm | hm | hm; omega; omega; have := HA.out g hm; omega))
      have IE : Hid (RowI rautI (w.heap.size :: (w.heap.size + 1) :: A) wr css acc) := I.out.avoid (by intro g hg; left; simp at hg ⊢; rcases hg with h | h | h <;> simp [h])
      have hcl2 : css.length = acc.length := hcla.out
      clear HR O I
      by_cases hjn : j < n7
      · have hk : ok4p = false := by
          cases h : ok4p
          · rfl
          · exact absurd ⟨hjn, h⟩ hlt
        have hd : decide ((j : Int) < (n7 : Int)) = true := decide_eq_true (by omega)
        have hd' : decide (j < n7) = true := decide_eq_true hjn
        rw [hk] at c1
        clear hk
        go_wp2
        go_meet
        exact ⟨trivial, acc, css, a, c, s4p, ok4p, hlx, T.out, (hcl2 ▸ M.out), F.out, (hcl2 ▸ QE.out), IE.out, HEX⟩
      · have hd : decide ((j : Int) < (n7 : Int)) = false := decide_eq_false (by omega)
        have hd' : decide (j < n7) = false := decide_eq_false hjn
        go_wp2
        go_meet
        exact ⟨trivial, acc, css, a, c, s4p, ok4p, hlx, T.out, (hcl2 ▸ M.out), F.out, (hcl2 ▸ QE.out), IE.out, HEX⟩
  case rest =>
  obtain ⟨_, x8, css8, a8, c8, s8, ok8, hl8, hT, hM, hF, hQ, hI, HL8⟩ := hcut
  obtain ⟨w8, hwE⟩ : ∃ x, x = wc := ⟨_, rfl⟩
  rw [← hwE] at hT hM hF hQ hI ⊢
  clear hwE
  have T8 := hide hT
  have M8 := hide hM
  have F8 := hide (F7.out.over hF (by intro x hx; simp at hx; left; omega))
  have hz8 : w.heap.size + 1 < w8.heap.size := by have := hF.size; omega
  have Q8 := hide hQ
  have I8 := hide hI
  have Q4n := hide (Q4.out.frm hF (by simp))
  clear Q4
  have Q4 := Q4n
  clear Q4n
  have Q6n := hide (Q6.out.frm hF (by simp))
  clear Q6
  have Q6 := Q6n
  clear Q6n
  clear hT hM hF hQ hI F7 T7 M7 HL7
  have N9 := hide (rnum_any w.heap.size s8 ok8 1 256 1 255 w8 T8.out rfl rfl (by omega) (by omega))
  go_wp2_with fail
  refine (N9.out).mono ?_
  clear N9
  rintro e w9 ⟨n9, s9, ok9, rfl, hT, hF, hO, hss, hn⟩
  have T9 := hide hT
  have M9 := hide (M8.out.frm hF (by simp))
  have F9 := hide (F8.out.over hF (by intro x hx; simp at hx; left; omega))
  have hz9 : w.heap.size + 1 < w9.heap.size := by have := hF.size; omega
  have hn9 : n9 < 256 := by omega
  have HL9 : Hid ((ok9 = true ∧ gl t = (pR (fun _ => pTs x4.length x6.length x8.length) n9 [] s9).bind fun y => pM5 x4 x6 x8 y.1 y.2) ∨ (gl t = none ∧ ok9 = false)) := by
    rcases HL8.out with ⟨h1, h2⟩ | ⟨h1, h2⟩
    · rcases hO with ⟨_, k2, k3⟩ | ⟨k2, k3⟩
      · left
        refine ⟨k3, ?_⟩
        rw [h2]; unfold pM4 pTss; rw [k2]; rfl
      · right
        refine ⟨?_, k3⟩
        rcases k2 with k2 | k2
        · rw [h1] at k2; cases k2
        · rw [h2]; unfold pM4 pTss; rw [k2]; rfl
    · right
      refine ⟨h1, ?_⟩
      rcases hO with ⟨k1, _, _⟩ | ⟨_, k3⟩
      · rw [h2] at k1; cases k1
      · exact k3
  have Q4n := hide (Q4.out.frm hF (by simp))
  clear Q4
  have Q4 := Q4n
  clear Q4n
  have Q6n := hide (Q6.out.frm hF (by simp))
  clear Q6
  have Q6 := Q6n
  clear Q6n
  have Q8n := hide (Q8.out.frm hF (by simp))
  clear Q8
  have Q8 := Q8n
  clear Q8n
  have I8n := hide (I8.out.frm hF (by simp))
  clear I8
  have I8 := I8n
  clear I8n
  clear hT hF hO hss hn T8 M8 F8 HL8
  go_upto_block 6 with fail
  go_cut [] (fun wc => True ∧ ∃ (acc : List TstM) (css : List (Array Value)) (a : Option Addr) (c : Nat) (s' : List UInt8) (ok' : Bool), acc.length ≤ 1000 ∧ TK wc w.heap.size s' ok' ∧ MK wc (w.heap.size + 1) ⟨.slice a4 x4.length c4, .slice a6 x6.length c6, .slice a8 x8.length c8, .slice a acc.length c, .slice none 0 0, .slice none 0 0⟩ ∧ Frm [w.heap.size, w.heap.size + 1] w9 wc ∧ RW (w.heap.size :: (w.heap.size + 1) :: A) 1 wc (.slice a acc.length c) (lst css) ∧ RowI tstI (w.heap.size :: (w.heap.size + 1) :: A) wc css acc ∧ Hid ((ok' = true ∧ gl t = pM5 x4 x6 x8 acc s') ∨ (gl t = none ∧ ok' = false)))
  case first =>
    go_wp2_with fail
    go_loopg [13] n9 (fun k vk wr => ∃ (j : Nat) (acc : List TstM) (css : List (Array Value)) (vr : Value) (s' : List UInt8) (ok' : Bool), j + k = n9 ∧ vk = .int .i64 j ∧ acc.length ≤ j ∧ TK wr w.heap.size s' ok' ∧ MK wr (w.heap.size + 1) ⟨.slice a4 x4.length c4, .slice a6 x6.length c6, .slice a8 x8.length c8, vr, .slice none 0 0, .slice none 0 0⟩ ∧ Frm [w.heap.size, w.heap.size + 1] w9 wr ∧ OW 70 1 w9.heap.size wr vr (lst css) ∧ RowI tstI ((w.heap.size :: (w.heap.size + 1) :: A) ++ vr.ownBlock.toList) wr css acc ∧
        Hid ((ok' = true ∧ gl t = (pR (fun _ => pTs x4.length x6.length x8.length) (n9 - j) acc s').bind fun y => pM5 x4 x6 x8 y.1 y.2) ∨ (gl t = none ∧ ok' = false)))
    case atStart => exact ⟨0, [], [], _, s9, ok9, by omega, rfl, by simp, T9.out, M9.out, Frm.refl _ _, OW.nil _ _ _ _, RowI.nil _ _ _, HL9⟩
    case round =>
      clear T9 M9 HL9
      obtain ⟨j, acc, css, vr, s4p, ok4p, hjk, rfl, hal, hT, hM, hF, hO, hI, HR⟩ := hrel
      obtain ⟨a, c, he⟩ := hO.shape
      rw [lst_len] at he
      subst he
      have T := hide hT
      have M := hide hM
      have F := hide hF
      have O := hide hO
      have I := hide hI
      have hcl : css.length ≤ 1000 := by have := hI.1; omega
      have hcla := hide hI.1
      clear hI
      have c1 := hT.c1
      have hzr := hF.size
      clear hT hM hF hO
      by_cases hlt : j < n9 ∧ ok4p = true
      · obtain ⟨hlt, rfl⟩ := hlt
        have hd : decide ((j : Int) < (n9 : Int)) = true := decide_eq_true (by omega)
        have hd' : decide (j < n9) = true := decide_eq_true hlt
        have HP : Hid (gl t = (pR (fun _ => pTs x4.length x6.length x8.length) (n9 - j) acc s4p).bind fun y => pM5 x4 x6 x8 y.1 y.2) := by
          rcases HR.out with ⟨_, h⟩ | ⟨_, h⟩
          · exact h
          · cases h
        clear HR
        have m0 := M.out.c0
        have NA := hide (rnum_any w.heap.size s4p true 1 x4.length 1 ((x4.length : Int) - 1) wr T.out rfl rfl (by omega) (by omega))
        go_wp2_with fail
        refine (NA.out).mono ?_
        clear NA
        rintro e wa ⟨q1, sa, oka, rfl, hTa, hFa, hOa, hsa, hqa⟩
        have NB := hide (rnum_any w.heap.size sa oka 1 2 1 1 wa hTa rfl rfl (by omega) (by omega))
        go_wp2_with fail
        refine (NB.out).mono ?_
        clear NB
        rintro e wb ⟨q2, sb2, okb, rfl, hTb, hFb, hOb, hsb2, hqb⟩
        have hFab := hFa.trans hFb
        have Mb := M.out.frm hFab (by simp)
        have m1 := Mb.c1
        have m2 := Mb.c2
        obtain ⟨q, hq, HQ⟩ : ∃ q : Nat, q ≤ 1000 ∧ Hid (q = if q2 = 1 then x8.length else x6.length) := ⟨_, by split <;> omega, rfl⟩
        have NC := hide (rnum_any w.heap.size sb2 okb 1 q 1 ((q : Int) - 1) wb hTb rfl rfl (by omega) (by omega))
        have hq3 : ((q2 : Int) == 1) = (q2 == 1) := by rw [Bool.eq_iff_iff, beq_iff_eq, beq_iff_eq]; omega
        have OA := hide hOa
        have OB := hide hOb
        have FAB := hide hFab
        clear hTa hFa hOa hTb hFb hOb hFab Mb m0
        cases hqq : (q2 == 1)
        all_goals
          have hmy : Hid (q = if (q2 == 1) = true then x8.length else x6.length) := by
            show _ = _; rw [HQ.out]; simp
          have hmy2 := hmy.out
          rw [hqq] at hmy2
          simp only [if_true, Bool.false_eq_true, if_false] at hmy2
          rw [hmy2] at NC
          clear hmy
          go_wp2_with fail
          refine (NC.out).mono ?_
          clear NC
          rintro e wx ⟨q3, sx, okx, rfl, hTx, hFx', hOx', hsx, hqx⟩
          have hFx := FAB.out.trans hFx'
          have hOx : TO true (pTs x4.length x6.length x8.length) s4p (⟨q1, q2, q3⟩ : TstM) okx sx := by
            unfold TO
            rw [pTs_eq]
            rcases OA.out with ⟨_, k2, k3⟩ | ⟨k2, k3⟩
            · rw [k2]
              simp only [Option.bind_some]
              rcases OB.out with ⟨_, l2, l3⟩ | ⟨l2, l3⟩
              · rw [l2]
                simp only [Option.bind_some]
                have hqe : (if q2 = 1 then x8.length else x6.length) = q := HQ.out.symm
                rw [hqe, hmy2]
                rcases hOx' with ⟨_, n2, n3⟩ | ⟨n2, n3⟩
                · rw [n2]; exact .inl ⟨by simp, rfl, n3⟩
                · refine .inr ⟨.inr ?_, n3⟩
                  rcases n2 with n2 | n2
                  · rw [l3] at n2; cases n2
                  · rw [n2]; rfl
              · have hk : okx = false := by
                  rcases hOx' with ⟨n1, _, _⟩ | ⟨_, n3⟩
                  · rw [l3] at n1; cases n1
                  · exact n3
                refine .inr ⟨.inr ?_, hk⟩
                rcases l2 with l2 | l2
                · rw [k3] at l2; cases l2
                · rw [l2]; rfl
            · have hk : okx = false := by
                rcases OB.out with ⟨l1, _, _⟩ | ⟨_, l3⟩
                · rw [k3] at l1; cases l1
                · rcases hOx' with ⟨n1, _, _⟩ | ⟨_, n3⟩
                  · rw [l3] at n1; cases n1
                  · exact n3
              refine .inr ⟨.inr ?_, hk⟩
              rcases k2 with k2 | k2
              · cases k2
              · rw [k2]; rfl
          have HR2 : Hid ((okx = true ∧ gl t = (pR (fun _ => pTs x4.length x6.length x8.length) (n9 - (j + 1)) (acc ++ [(⟨q1, q2, q3⟩ : TstM)]) sx).bind fun y => pM5 x4 x6 x8 y.1 y.2) ∨ (gl t = none ∧ okx = false)) := by
            have h := HP.out
            rw [show n9 - j = (n9 - (j + 1)) + 1 by omega, pR_succ] at h
            rcases hOx with ⟨_, k2, k3⟩ | ⟨k2, k3⟩
            · left; refine ⟨k3, ?_⟩; rw [h, k2]; rfl
            · right; refine ⟨?_, k3⟩
              rcases k2 with k2 | k2
              · cases k2
              · rw [h, k2]; rfl
          have T6 := hide hTx
          have M6 := hide (M.out.frm hFx (by simp))
          have F6 := hide (F.out.trans (hFx.mono (by intro k _ hk; simp at hk; simp [hk])))
          have O6 := hide (O.out.frm hFx (by intro g hg; simp at hg; omega))
          have hz6 := hFx.size
          have hb6 := hTx.lt
          have hm6 := M6.out.lt
          have cm := M6.out.c3
          have zm := M6.out.fz 3
          have HOB : Hid (∀ r, Value.ownBlock (.slice a css.length c) = some r → w9.heap.size ≤ r) := fun r hr => (O6.out.lt hr).1
          have HTC := hide (lst_len css)
          have I6 := hide (I.out.frm hFx (by simp))
          have hqb3 : q1 < 1000 ∧ q2 < 1000 ∧ q3 < 1000 := by omega
          have hnc : ∀ (o1 o2 : Obj), o2 = Obj.cells #[.slice (some ⟨wx.heap.size, 0, none⟩) 3 3] 70 → ∀ q u, ([.slice (some ⟨wx.heap.size, 0, none⟩) 3 3] : List Value)[q]? = some u → ((wx.alloc o1).alloc o2).cell? ⟨wx.heap.size + 1, q, none⟩ = some u := by
            intro o1 o2 ho2 q u hq
            subst ho2
            cases q with
            | zero =>
              simp only [List.getElem?_cons_zero, Option.some.injEq] at hq
              have h1 := heap1 (wx.alloc o1) (Obj.cells #[.slice (some ⟨wx.heap.size, 0, none⟩) 3 3] 70)
              rw [show (wx.alloc o1).heap.size = wx.heap.size + 1 by simp] at h1
              simp only [World.cell?, h1]
              rw [← hq]; rfl
            | succ q => simp at hq
          clear hTx hFx hFx' hOx hOx' HP M m1 m2 OA OB FAB HQ hmy2 hqq hq3
          go_wp2_with (first | (at_builtin; refine wp_appG _ rfl _ _ 65 70 (.slice none 0 0) 1 24 infoSl Try.underlying65 rfl (by decide) rfl w9.heap.size (.slice a css.length c) (lst css) (wx.heap.size + 1) [.slice (some ⟨wx.heap.size, 0, none⟩) 3 3] rfl (O6.out.frm (S := []) (((Frm.refl [] _).alloc _).alloc _) (by simp)) rfl rfl (hnc _ _ rfl) (by intro u hu; simp only [List.mem_singleton] at hu; subst hu; rfl) (by rw [HTC.out]; omega) (by rw [HTC.out]; omega) (by simp; omega) ?_; intro g7 cap7 w7 hs7 hg7 hor7 hlt7; rw [HTC.out] at hs7 ⊢; have O7 := hide hs7; have G7 := hide hg7; have OR7 := hide hor7; have M7 := hide ((M6.out.frm (S := []) (((Frm.refl [] _).alloc _).alloc _) (by simp)).grown hg7 (fun r hr => by have := HOB.out r hr; omega)); have c7 := M7.out.c3; have z7 := M7.out.fz 3; clear hs7 hg7 hor7))
          go_roundg (gk - 1)
          case measure => omega
          case rel =>
            have FA : Frm [] wx ((wx.alloc (Obj.cells #[.int .i64 (q1 : Nat), .int .i64 (q2 : Nat), .int .i64 (q3 : Nat)] 3)).alloc (Obj.cells #[.slice (some ⟨wx.heap.size, 0, none⟩) 3 3] 70)) := ((Frm.refl [] _).alloc _).alloc _
            have FB : ∀ u, Frm [w.heap.size + 1] w7 (w7.setCell ⟨w.heap.size + 1, 3, none⟩ u) := fun u => (Frm.refl _ _).setCell (p := ⟨w.heap.size + 1, 3, none⟩) (.inl (by simp)) u
            have O7' := O7.out
            rw [show ([.slice (some ⟨wx.heap.size, 0, none⟩) 3 3] : List Value) = (#[.slice (some ⟨wx.heap.size, 0, none⟩) 3 3] : Array Value).toList from rfl, lst_snoc] at O7'
            have IA := I6.out.frm FA (by simp)
            have hgn : ((wx.alloc (Obj.cells #[.int .i64 (q1 : Nat), .int .i64 (q2 : Nat), .int .i64 (q3 : Nat)] 3)).alloc (Obj.cells #[.slice (some ⟨wx.heap.size, 0, none⟩) 3 3] 70)).heap[wx.heap.size]? = some (Obj.cells #[.int .i64 (q1 : Nat), .int .i64 (q2 : Nat), .int .i64 (q3 : Nat)] 3) := (((Frm.refl [] _).alloc _).block wx.heap.size (by simp) (by simp)).trans (heap1 _ _)
            have IN : tstI.rel ((w.heap.size :: (w.heap.size + 1) :: A) ++ (Value.ownBlock (.slice a css.length c)).toList) ((wx.alloc (Obj.cells #[.int .i64 (q1 : Nat), .int .i64 (q2 : Nat), .int .i64 (q3 : Nat)] 3)).alloc (Obj.cells #[.slice (some ⟨wx.heap.size, 0, none⟩) 3 3] 70)) #[.slice (some ⟨wx.heap.size, 0, none⟩) 3 3] ⟨q1, q2, q3⟩ := by
              refine ⟨_, rfl, some ⟨wx.heap.size, 0, none⟩, 3, rfl, by simp [ic], fun i hi => ⟨wx.heap.size, 0, rfl, ?_, by simp; omega, ?_⟩⟩
              · intro hm
                simp at hm
                rcases hm with hm | hm | hm | hm
                · omega
                · omega
                · have := HA.out _ hm; omega
                · have := (O6.out.lt hm).2; omega
              · intro q u hu
                have hi3 : i < 3 := by simpa [ic] using hi
                simp only [World.cell?, hgn]
                match i, hi3 with
                | 0, _ => cases q with
                  | zero => simp [ic] at hu; subst hu; rfl
                  | succ q => simp [ic] at hu
                | 1, _ => cases q with
                  | zero => simp [ic] at hu; subst hu; rfl
                  | succ q => simp [ic] at hu
                | 2, _ => cases q with
                  | zero => simp [ic] at hu; subst hu; rfl
                  | succ q => simp [ic] at hu
            have IS := ((RowI.snoc IA IN).app (g := g7) G7.out (OR7.out.imp id (fun h => by rw [h]))).frm (FB (.slice (some ⟨g7, 0, none⟩) (css.length + 1) cap7)) (by simp)
            exact ⟨j + 1, acc ++ [(⟨q1, q2, q3⟩ : TstM)], css ++ [(#[Value.slice (some ⟨wx.heap.size, 0, none⟩) 3 3] : Array Value)], _, sx, okx, by omega, by go_num, by simp; omega, ((T6.out.frm FA (by simp)).grown G7.out (fun r hr => by have := HOB.out r hr; omega)).frm (FB _) (by simp), M7.out.set3 _, ((F6.out.trans (FA.mono (by simp))).grown G7.out (fun r hr => .inr (HOB.out r hr))).trans ((FB _).mono (by intro k _ hk; simp at hk; simp [hk])), O7'.frm (FB _) (by simp; omega), IS, HR2⟩
      have HEX : Hid ((ok4p = true ∧ gl t = pM5 x4 x6 x8 acc s4p) ∨ (gl t = none ∧ ok4p = false)) := by
        rcases HR.out with ⟨h1, h2⟩ | h
        · left
          have hje : j = n9 := by
            apply Classical.byContradiction
            intro hne
            exact hlt ⟨by omega, h1⟩
          rw [hje, Nat.sub_self] at h2
          exact ⟨h1, h2⟩
        · exact .inr h
      have hlx : acc.length ≤ 1000 := by omega
      have QE := hide (O.out.rw (A := w.heap.size :: (w.heap.size + 1) :: A) (fun g hg hm => by have := (O.out.lt hg).1; simp at hm; rcases hm with hm | hm | hm; omega; omega; have := HA.out g hm; omega))
      have IE : Hid (RowI tstI (w.heap.size :: (w.heap.size + 1) :: A) wr css acc) := I.out.avoid (by intro g hg; left; simp at hg ⊢; rcases hg with h | h | h <;> simp [h])
      have hcl2 : css.length = acc.length := hcla.out
      clear HR O I
      by_cases hjn : j < n9
      · have hk : ok4p = false := by
          cases h : ok4p
          · rfl
          · exact absurd ⟨hjn, h⟩ hlt
        have hd : decide ((j : Int) < (n9 : Int)) = true := decide_eq_true (by omega)
        have hd' : decide (j < n9) = true := decide_eq_true hjn
        rw [hk] at c1
        clear hk
        go_wp2
        go_meet
        exact ⟨trivial, acc, css, a, c, s4p, ok4p, hlx, T.out, (hcl2 ▸ M.out), F.out, (hcl2 ▸ QE.out), IE.out, HEX⟩
      · have hd : decide ((j : Int) < (n9 : Int)) = false := decide_eq_false (by omega)
        have hd' : decide (j < n9) = false := decide_eq_false hjn
        go_wp2
        go_meet
        exact ⟨trivial, acc, css, a, c, s4p, ok4p, hlx, T.out, (hcl2 ▸ M.out), F.out, (hcl2 ▸ QE.out), IE.out, HEX⟩
  case rest =>
  obtain ⟨_, x10, css10, a10, c10, s10, ok10, hl10, hT, hM, hF, hQ, hI, HL10⟩ := hcut
  obtain ⟨w10, hwE⟩ : ∃ x, x = wc := ⟨_, rfl⟩
  rw [← hwE] at hT hM hF hQ hI ⊢
  clear hwE
  have T10 := hide hT
  have M10 := hide hM
  have F10 := hide (F9.out.over hF (by intro x hx; simp at hx; left; omega))
  have hz10 : w.heap.size + 1 < w10.heap.size := by have := hF.size; omega
  have Q10 := hide hQ
  have I10 := hide hI
  have Q4n := hide (Q4.out.frm hF (by simp))
  clear Q4
  have Q4 := Q4n
  clear Q4n
  have Q6n := hide (Q6.out.frm hF (by simp))
  clear Q6
  have Q6 := Q6n
  clear Q6n
  have Q8n := hide (Q8.out.frm hF (by simp))
  clear Q8
  have Q8 := Q8n
  clear Q8n
  have I8n := hide (I8.out.frm hF (by simp))
  clear I8
  have I8 := I8n
  clear I8n
  clear hT hM hF hQ hI F9 T9 M9 HL9
  have N11 := hide (rnum_any w.heap.size s10 ok10 1 17 1 16 w10 T10.out rfl rfl (by omega) (by omega))
  go_wp2_with fail
  refine (N11.out).mono ?_
  clear N11
  rintro e w11 ⟨n11, s11, ok11, rfl, hT, hF, hO, hss, hn⟩
  have T11 := hide hT
  have M11 := hide (M10.out.frm hF (by simp))
  have F11 := hide (F10.out.over hF (by intro x hx; simp at hx; left; omega))
  have hz11 : w.heap.size + 1 < w11.heap.size := by have := hF.size; omega
  have hn11 : n11 < 17 := by omega
  have HL11 : Hid ((ok11 = true ∧ gl t = (pR (fun _ => pH) n11 [] s11).bind fun y => pM6 x4 x6 x8 x10 y.1 y.2) ∨ (gl t = none ∧ ok11 = false)) := by
    rcases HL10.out with ⟨h1, h2⟩ | ⟨h1, h2⟩
    · rcases hO with ⟨_, k2, k3⟩ | ⟨k2, k3⟩
      · left
        refine ⟨k3, ?_⟩
        rw [h2]; unfold pM5 pHs; rw [k2]; rfl
      · right
        refine ⟨?_, k3⟩
        rcases k2 with k2 | k2
        · rw [h1] at k2; cases k2
        · rw [h2]; unfold pM5 pHs; rw [k2]; rfl
    · right
      refine ⟨h1, ?_⟩
      rcases hO with ⟨k1, _, _⟩ | ⟨_, k3⟩
      · rw [h2] at k1; cases k1
      · exact k3
  have Q4n := hide (Q4.out.frm hF (by simp))
  clear Q4
  have Q4 := Q4n
  clear Q4n
  have Q6n := hide (Q6.out.frm hF (by simp))
  clear Q6
  have Q6 := Q6n
  clear Q6n
  have Q8n := hide (Q8.out.frm hF (by simp))
  clear Q8
  have Q8 := Q8n
  clear Q8n
  have I8n := hide (I8.out.frm hF (by simp))
  clear I8
  have I8 := I8n
  clear I8n
  have Q10n := hide (Q10.out.frm hF (by simp))
  clear Q10
  have Q10 := Q10n
  clear Q10n
  have I10n := hide (I10.out.frm hF (by simp))
  clear I10
  have I10 := I10n
  clear I10n
  clear hT hF hO hss hn T10 M10 F10 HL10
  go_upto_block 8 with fail
  go_cut [] (fun wc => True ∧ ∃ (acc : List HitM) (css : List (Array Value)) (a : Option Addr) (c : Nat) (s' : List UInt8) (ok' : Bool), acc.length ≤ 1000 ∧ TK wc w.heap.size s' ok' ∧ MK wc (w.heap.size + 1) ⟨.slice a4 x4.length c4, .slice a6 x6.length c6, .slice a8 x8.length c8, .slice a10 x10.length c10, .slice a acc.length c, .slice none 0 0⟩ ∧ Frm [w.heap.size, w.heap.size + 1] w11 wc ∧ RW (w.heap.size :: (w.heap.size + 1) :: A) 5 wc (.slice a acc.length c) (lst css) ∧ RowI hitI (w.heap.size :: (w.heap.size + 1) :: A) wc css acc ∧ Hid ((ok' = true ∧ gl t = pM6 x4 x6 x8 x10 acc s') ∨ (gl t = none ∧ ok' = false)))
  case first =>
    go_wp2_with fail
    go_loopg [19] n11 (fun k vk wr => ∃ (j : Nat) (acc : List HitM) (css : List (Array Value)) (vr : Value) (s' : List UInt8) (ok' : Bool), j + k = n11 ∧ vk = .int .i64 j ∧ acc.length ≤ j ∧ TK wr w.heap.size s' ok' ∧ MK wr (w.heap.size + 1) ⟨.slice a4 x4.length c4, .slice a6 x6.length c6, .slice a8 x8.length c8, .slice a10 x10.length c10, vr, .slice none 0 0⟩ ∧ Frm [w.heap.size, w.heap.size + 1] w11 wr ∧ OW 75 5 w11.heap.size wr vr (lst css) ∧ RowI hitI ((w.heap.size :: (w.heap.size + 1) :: A) ++ vr.ownBlock.toList) wr css acc ∧
        Hid ((ok' = true ∧ gl t = (pR (fun _ => pH) (n11 - j) acc s').bind fun y => pM6 x4 x6 x8 x10 y.1 y.2) ∨ (gl t = none ∧ ok' = false)))
    case atStart => exact ⟨0, [], [], _, s11, ok11, by omega, rfl, by simp, T11.out, M11.out, Frm.refl _ _, OW.nil _ _ _ _, RowI.nil _ _ _, HL11⟩
    case round =>
      clear T11 M11 HL11
      obtain ⟨j, acc, css, vr, s4p, ok4p, hjk, rfl, hal, hT, hM, hF, hO, hI, HR⟩ := hrel
      obtain ⟨a, c, he⟩ := hO.shape
      rw [lst_len] at he
      subst he
      have T := hide hT
      have M := hide hM
      have F := hide hF
      have O := hide hO
      have I := hide hI
      have hcl : css.length ≤ 1000 := by have := hI.1; omega
      have hcla := hide hI.1
      clear hI
      have c1 := hT.c1
      have hzr := hF.size
      clear hT hM hF hO
      by_cases hlt : j < n11 ∧ ok4p = true
      · obtain ⟨hlt, rfl⟩ := hlt
        have hd : decide ((j : Int) < (n11 : Int)) = true := decide_eq_true (by omega)
        have hd' : decide (j < n11) = true := decide_eq_true hlt
        have HP : Hid (gl t = (pR (fun _ => pH) (n11 - j) acc s4p).bind fun y => pM6 x4 x6 x8 x10 y.1 y.2) := by
          rcases HR.out with ⟨_, h⟩ | ⟨_, h⟩
          · exact h
          · cases h
        clear HR
        have NX := hide (rhit_any w.heap.size s4p true wr T.out)
        go_wp2_with fail
        refine (NX.out).mono ?_
        clear NX
        rintro e wx ⟨x, ab, cb, sx, okx, rfl, hTx, hFx, hOx, hsx, hw1, hbl⟩
        have HR2 : Hid ((okx = true ∧ gl t = (pR (fun _ => pH) (n11 - (j + 1)) (acc ++ [x]) sx).bind fun y => pM6 x4 x6 x8 x10 y.1 y.2) ∨ (gl t = none ∧ okx = false)) := by
          have h := HP.out
          rw [show n11 - j = (n11 - (j + 1)) + 1 by omega, pR_succ] at h
          rcases hOx with ⟨_, k2, k3⟩ | ⟨k2, k3⟩
          · left; refine ⟨k3, ?_⟩; rw [h, k2]; rfl
          · right; refine ⟨?_, k3⟩
            rcases k2 with k2 | k2
            · cases k2
            · rw [h, k2]; rfl
        have T6 := hide hTx
        have M6 := hide (M.out.frm hFx (by simp))
        have F6 := hide (F.out.trans (hFx.mono (by intro k _ hk; simp at hk; simp [hk])))
        have O6 := hide (O.out.frm hFx (by intro g hg; simp at hg; omega))
        have hz6 := hFx.size
        have hb6 := hTx.lt
        have hm6 := M6.out.lt
        have cm := M6.out.c4
        have zm := M6.out.fz 4
        have HOB : Hid (∀ r, Value.ownBlock (.slice a css.length c) = some r → w11.heap.size ≤ r) := fun r hr => (O6.out.lt hr).1
        have I6 : Hid (RowI hitI ((w.heap.size :: (w.heap.size + 1) :: A) ++ (Value.ownBlock (.slice a css.length c)).toList) wx (css ++ [hcell x (.slice ab x.bl.length cb)]) (acc ++ [x])) := by
          refine RowI.snoc (I.out.frm hFx (by simp)) ?_
          have hne : ∀ v e k vs, OW e k wr.heap.size wx v vs → ∀ g, v.ownBlock = some g → g ∉ (w.heap.size :: (w.heap.size + 1) :: A) ++ (Value.ownBlock (.slice a css.length c)).toList := by
            intro v e k vs ho g hg hm
            have h1 := (ho.lt hg).1
            simp at hm
            rcases hm with hm | hm | hm | hm
            · omega
            · omega
            · have := HA.out g hm; omega
            · have := (O.out.lt hm).2; omega
          exact ⟨_, rfl, hw1.rw (hne _ _ _ _ hw1)⟩
        have HTC := hide (lst_len css)
        have g2 : ∀ o o' : Obj, ((wx.alloc o).alloc o').drew.frozen? ⟨w.heap.size + 1, 4, none⟩ = false := fun o o' => (((((Frm.refl [] wx).alloc o).alloc o').drew).frozen (p := ⟨w.heap.size + 1, 4, none⟩) hm6 (by simp)).trans zm
        have g1 : ∀ o : Obj, (wx.alloc o).drew.frozen? ⟨w.heap.size + 1, 4, none⟩ = false := fun o => ((((Frm.refl [] wx).alloc o).drew).frozen (p := ⟨w.heap.size + 1, 4, none⟩) hm6 (by simp)).trans zm
        have ag : Value.ownBlock (.slice a css.length c) ≠ some (w.heap.size + 1) := fun e => by have := HOB.out _ e; omega
        clear hTx hFx hOx HP T M O I hw1
        obtain ⟨q1, q2, q3, q4, q5⟩ := x
        simp only [hcell]
        go_wp2_with fail
        go_region_law ((refine step_appG _ (by rfl) _ _ 34 75 _ 5 64 infoHit Try.underlying34 (by rfl) (by omega) (by rfl) w11.heap.size (.slice a css.length c) (lst css) (wx.heap.size + 1) (hcell ⟨q1, q2, q3, q4, q5⟩ (.slice ab q2.length cb)) (0, 0) (by rfl) (O6.out.frm (S := []) ((((Frm.refl [] _).alloc _).alloc _).drew) (by simp)) (by rfl) (by rfl) (by exact heap_new2d _ _ _) (hcell_one _ _ _ _) (by rw [HTC.out]; omega) (by rw [HTC.out]; omega) (by simp; omega) (wx.heap.size + 2) (by simp) ?_; intro gg cap7 w7 hown7 hgrow hat hlt7; have c7 := (hgrow.cell_far ⟨w.heap.size + 1, 4, none⟩ (by simp; omega) (Ne.symm ag)); have f7 := (hgrow.frozen_far ⟨w.heap.size + 1, 4, none⟩ (by simp; omega) (Ne.symm ag)); have f8 := f7.trans (g2 _ _); rw [HTC.out] at hown7 ⊢))
        all_goals
          have G7 := hide hgrow
          have O7 := hide hown7
          clear hgrow hown7
          go_wp2
          go_roundg (gk - 1)
          case measure => omega
          case rel =>
            have F3 : Frm [] wx ((wx.alloc (Obj.cells (hcell ⟨q1, q2, q3, q4, q5⟩ (.slice ab q2.length cb)) 75)).alloc (Obj.cells (hcell ⟨q1, q2, q3, q4, q5⟩ (.slice ab q2.length cb)) 75)).drew := (((Frm.refl [] _).alloc _).alloc _).drew
            have M7 := (M6.out.frm F3 (by simp)).grown G7.out (fun r hr => by have := HOB.out r hr; omega)
            have T7 := (T6.out.frm F3 (by simp)).grown G7.out (fun r hr => by have := HOB.out r hr; omega)
            have O8 := O7.out
            rw [lst_snoc] at O8
            have FB : ∀ u, Frm [w.heap.size + 1] w7 (w7.setCell ⟨w.heap.size + 1, 4, none⟩ u) := fun u => (Frm.refl _ _).setCell (p := ⟨w.heap.size + 1, 4, none⟩) (.inl (by simp)) u
            have R3 := I6.out.frm F3 (by simp)
            have R4 := R3.app (g := gg) G7.out (hat.imp id (fun h => by rw [h]; simp))
            exact ⟨j + 1, acc ++ [(⟨q1, q2, q3, q4, q5⟩ : HitM)], css ++ [hcell ⟨q1, q2, q3, q4, q5⟩ (.slice ab q2.length cb)], _, sx, okx, by omega, by go_num, by simp; omega, T7.frm (FB _) (by simp), M7.set4 _, ((F6.out.trans (F3.mono (by simp))).grown G7.out (fun r hr => .inr (HOB.out r hr))).trans ((FB _).mono (by intro k _ hk; simp at hk; simp [hk])), O8.frm (FB _) (by simp; omega), R4.frm (FB _) (by simp), HR2⟩
      have HEX : Hid ((ok4p = true ∧ gl t = pM6 x4 x6 x8 x10 acc s4p) ∨ (gl t = none ∧ ok4p = false)) := by
        rcases HR.out with ⟨h1, h2⟩ | h
        · left
          have hje : j = n11 := by
            apply Classical.byContradiction
            intro hne
            exact hlt ⟨by omega, h1⟩
          rw [hje, Nat.sub_self] at h2
          exact ⟨h1, h2⟩
        · exact .inr h
      have hlx : acc.length ≤ 1000 := by omega
      have QE := hide (O.out.rw (A := w.heap.size :: (w.heap.size + 1) :: A) (fun g hg hm => by have := (O.out.lt hg).1; simp at hm; rcases hm with hm | hm | hm; omega; omega; have := HA.out g hm; omega))
      have IE : Hid (RowI hitI (w.heap.size :: (w.heap.size + 1) :: A) wr css acc) := I.out.avoid (by intro g hg; left; simp at hg ⊢; rcases hg with h | h | h <;> simp [h])
      have hcl2 : css.length = acc.length := hcla.out
      clear HR O I
      by_cases hjn : j < n11
      · have hk : ok4p = false := by
          cases h : ok4p
          · rfl
          · exact absurd ⟨hjn, h⟩ hlt
        have hd : decide ((j : Int) < (n11 : Int)) = true := decide_eq_true (by omega)
        have hd' : decide (j < n11) = true := decide_eq_true hjn
        rw [hk] at c1
        clear hk
        go_wp2
        go_meet
        exact ⟨trivial, acc, css, a, c, s4p, ok4p, hlx, T.out, (hcl2 ▸ M.out), F.out, (hcl2 ▸ QE.out), IE.out, HEX⟩
      · have hd : decide ((j : Int) < (n11 : Int)) = false := decide_eq_false (by omega)
        have hd' : decide (j < n11) = false := decide_eq_false hjn
        go_wp2
        go_meet
        exact ⟨trivial, acc, css, a, c, s4p, ok4p, hlx, T.out, (hcl2 ▸ M.out), F.out, (hcl2 ▸ QE.out), IE.out, HEX⟩
  case rest =>
  obtain ⟨_, x12, css12, a12, c12, s12, ok12, hl12, hT, hM, hF, hQ, hI, HL12⟩ := hcut
  obtain ⟨w12, hwE⟩ : ∃ x, x = wc := ⟨_, rfl⟩
  rw [← hwE] at hT hM hF hQ hI ⊢
  clear hwE
  have T12 := hide hT
  have M12 := hide hM
  have F12 := hide (F11.out.over hF (by intro x hx; simp at hx; left; omega))
  have hz12 : w.heap.size + 1 < w12.heap.size := by have := hF.size; omega
  have Q12 := hide hQ
  have I12 := hide hI
  have Q4n := hide (Q4.out.frm hF (by simp))
  clear Q4
  have Q4 := Q4n
  clear Q4n
  have Q6n := hide (Q6.out.frm hF (by simp))
  clear Q6
  have Q6 := Q6n
  clear Q6n
  have Q8n := hide (Q8.out.frm hF (by simp))
  clear Q8
  have Q8 := Q8n
  clear Q8n
  have I8n := hide (I8.out.frm hF (by simp))
  clear I8
  have I8 := I8n
  clear I8n
  have Q10n := hide (Q10.out.frm hF (by simp))
  clear Q10
  have Q10 := Q10n
  clear Q10n
  have I10n := hide (I10.out.frm hF (by simp))
  clear I10
  have I10 := I10n
  clear I10n
  clear hT hM hF hQ hI F11 T11 M11 HL11
  have N13 := hide (rinstructions_any w.heap.size (w.heap.size + 1) s12 ok12 ⟨.slice a4 x4.length c4, .slice a6 x6.length c6, .slice a8 x8.length c8, .slice a10 x10.length c10, .slice a12 x12.length c12, .slice none 0 0⟩ x12.length x10.length A w12 T12.out M12.out (by omega) ⟨_, _, rfl⟩ ⟨_, _, rfl⟩ rfl (fun g hg => by have := HA.out g hg; omega))
  go_wp2_with fail
  refine (N13.out).mono ?_
  clear N13
  rintro e w13 ⟨rfl, code, css13, vc, s13, ok13, hT, hM, hF, hO, hW, hI⟩
  obtain ⟨a13, c13, he⟩ := hW.shape
  rw [lst_len, hI.1] at he
  subst he
  have hz13 := hF.size
  have F13 := hide (F12.out.over hF (by intro x hx; simp at hx; left; omega))
  have RMx : Hid (RM A w13 (w.heap.size + 1) ⟨.slice a4 x4.length c4, .slice a6 x6.length c6, .slice a8 x8.length c8, .slice a10 x10.length c10, .slice a12 x12.length c12, .slice a13 code.length c13⟩ ⟨x4, x6, x8, x10, x12, code⟩) := by
    have av : ∀ g ∈ A, g ∈ (w.heap.size :: (w.heap.size + 1) :: A) ∨ w13.heap.size ≤ g := fun g hg => by left; simp [hg]
    exact ⟨hM, (Q4.out.frm hF (by simp)).avoid av, (Q6.out.frm hF (by simp)).avoid av, ⟨_, (Q8.out.frm hF (by simp)).avoid av, (I8.out.frm hF (by simp)).avoid av⟩, ⟨_, (Q10.out.frm hF (by simp)).avoid av, (I10.out.frm hF (by simp)).avoid av⟩, ⟨_, (Q12.out.frm hF (by simp)).avoid av, (I12.out.frm hF (by simp)).avoid av⟩, ⟨css13, hW.rw (fun g hg hm => by have := (hW.lt hg).1; have := HA.out g hm; omega), hI.avoid (fun g hg => by left; simp [hg])⟩⟩
  have HL13 : Hid ((ok13 = true ∧ gl t = some (⟨x4, x6, x8, x10, x12, code⟩, s13)) ∨ (gl t = none ∧ ok13 = false)) := by
    rcases HL12.out with ⟨h1, h2⟩ | ⟨h1, h2⟩
    · rcases hO with ⟨_, k2, k3⟩ | ⟨k2, k3⟩
      · left; refine ⟨k3, ?_⟩; rw [h2]; unfold pM6; rw [k2]; rfl
      · right; refine ⟨?_, k3⟩
        rcases k2 with k2 | k2
        · rw [h1] at k2; cases k2
        · rw [h2]; unfold pM6; rw [k2]; rfl
    · right
      refine ⟨h1, ?_⟩
      rcases hO with ⟨k1, _, _⟩ | ⟨_, k3⟩
      · rw [h2] at k1; cases k1
      · exact k3
  have HLD : Hid (ld t = if t.take 3 = markL then ldE (gl t) else none) := by
    show _ = _
    by_cases h : t.take 3 = markL
    · have hl := congrArg List.length h
      simp [markL] at hl
      rw [if_pos h, ld_mark h]
      unfold gl
      rw [if_pos (by omega)]
    · rw [if_neg h, ld_nomark h]
  have c0 := hT.c0
  have c1 := hT.c1
  have hl := bs_toList
  have hm3 : (ByteArray.mk #[79, 66, 49]).toList = markL := by rw [ByteArray.toList_eq]; rfl
  have hm0 : (ByteArray.mk #[]).toList = [] := by rw [ByteArray.toList_eq]
  clear hT hM hF hO hW hI Q4 Q6 Q8 Q10 Q12 I8 I10 I12 T12 M12 HL12 F12
  cases ok13 with
  | false =>
    have HN : Hid (ld t = none) := by
      show _ = _
      rw [HLD.out]
      rcases HL13.out with ⟨h, _⟩ | ⟨h, _⟩
      · cases h
      · rw [h]; unfold ldE; simp
    clear HLD HL13
    go_wp2
    go_ret
    exact ⟨F13.out, .inl ⟨HN.out, rfl⟩⟩
  | true =>
    have HG : Hid (gl t = some (⟨x4, x6, x8, x10, x12, code⟩, s13)) := by
      rcases HL13.out with ⟨_, h⟩ | ⟨_, h⟩
      · exact h
      · cases h
    clear HL13
    cases hmm : (mg == markL)
    · have HN : Hid (ld t = none) := by
        show _ = _
        rw [HLD.out, if_neg]
        intro h
        have := (MG.out.2 h).1
        rw [this] at hmm
        simp at hmm
      clear HLD HG
      go_wp2
      go_ret
      exact ⟨F13.out, .inl ⟨HN.out, rfl⟩⟩
    · have H3 : Hid (t.take 3 = markL) := by
        refine MG.out.1 ⟨by simpa using hmm, ?_⟩
        have h := HG.out
        unfold gl at h
        split at h
        · assumption
        · cases h
      cases hss : (s13 == [])
      · have HN : Hid (ld t = none) := by
          show _ = _
          rw [HLD.out, if_pos H3.out, HG.out]
          unfold ldE
          simp only [Option.bind_some]
          rw [if_neg]
          intro h
          rw [h] at hss
          simp at hss
        clear HLD HG
        go_wp2
        go_ret
        exact ⟨F13.out, .inl ⟨HN.out, rfl⟩⟩
      · have HN : Hid (ld t = some ⟨x4, x6, x8, x10, x12, code⟩) := by
          show _ = _
          rw [HLD.out, if_pos H3.out, HG.out]
          unfold ldE
          simp only [Option.bind_some]
          rw [if_pos (by simpa using hss)]
        clear HLD HG
        go_wp2
        go_ret
        exact ⟨F13.out, .inr ⟨_, _, w.heap.size + 1, HN.out, rfl, RMx.out, fun hm => by have := HA.out _ hm; omega, by omega⟩⟩
end Go.Proofs.Ythlemieldfbbfab
