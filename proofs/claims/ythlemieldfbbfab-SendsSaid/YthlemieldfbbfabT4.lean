import Derived.Test.YthlemieldfbbfabT3
namespace Go.Proofs.Ythlemieldfbbfab
open Go.RowKit
set_option linter.unusedVariables false
set_option linter.unusedSimpArgs false
set_option linter.unnecessarySimpa false

/-- The reference's machine in memory. -/
def MK (w : World) (mb : Nat) (V : V6) : Prop := w.heap[mb]? = some (.cells #[V.n, V.c, V.a, V.t, V.r, V.i] 67 (0, 0))
theorem MK.lt {w : World} {mb : Nat} {V : V6} (h : MK w mb V) : mb < w.heap.size := (Array.getElem?_eq_some_iff.1 h).1
theorem MK.fz {w : World} {mb : Nat} {V : V6} (h : MK w mb V) (o : Nat) : w.frozen? ⟨mb, o, none⟩ = false := by unfold MK at h; simp [World.frozen?, h]
theorem MK.frm {S : List Nat} {w w' : World} {mb : Nat} {V : V6} (h : MK w mb V) (f : Frm S w w') (hS : mb ∉ S) : MK w' mb V := (f.block mb h.lt hS).trans h
theorem MK.grown {w w' : World} {mb : Nat} {V : V6} {row : Option Nat} (h : MK w mb V) (hg : w.grownBy w' row) (hr : ∀ r, row = some r → r ≠ mb) : MK w' mb V := (hg.block mb h.lt (fun e => hr mb e.symm rfl)).trans h
theorem MK.c0 {w : World} {mb : Nat} {V : V6} (h : MK w mb V) : w.cell? ⟨mb, 0, none⟩ = some V.n := by unfold MK at h; simp [World.cell?, h]
theorem MK.c1 {w : World} {mb : Nat} {V : V6} (h : MK w mb V) : w.cell? ⟨mb, 1, none⟩ = some V.c := by unfold MK at h; simp [World.cell?, h]
theorem MK.c2 {w : World} {mb : Nat} {V : V6} (h : MK w mb V) : w.cell? ⟨mb, 2, none⟩ = some V.a := by unfold MK at h; simp [World.cell?, h]
theorem MK.c3 {w : World} {mb : Nat} {V : V6} (h : MK w mb V) : w.cell? ⟨mb, 3, none⟩ = some V.t := by unfold MK at h; simp [World.cell?, h]
theorem MK.c4 {w : World} {mb : Nat} {V : V6} (h : MK w mb V) : w.cell? ⟨mb, 4, none⟩ = some V.r := by unfold MK at h; simp [World.cell?, h]
theorem MK.c5 {w : World} {mb : Nat} {V : V6} (h : MK w mb V) : w.cell? ⟨mb, 5, none⟩ = some V.i := by unfold MK at h; simp [World.cell?, h]
theorem MK.set0 {w : World} {mb : Nat} {V : V6} (h : MK w mb V) (v : Value) : MK (w.setCell ⟨mb, 0, none⟩ v) mb { V with n := v } := by unfold MK at h ⊢; simp [World.setCell, Array.getElem?_modify, h]
theorem MK.set1 {w : World} {mb : Nat} {V : V6} (h : MK w mb V) (v : Value) : MK (w.setCell ⟨mb, 1, none⟩ v) mb { V with c := v } := by unfold MK at h ⊢; simp [World.setCell, Array.getElem?_modify, h]
theorem MK.set2 {w : World} {mb : Nat} {V : V6} (h : MK w mb V) (v : Value) : MK (w.setCell ⟨mb, 2, none⟩ v) mb { V with a := v } := by unfold MK at h ⊢; simp [World.setCell, Array.getElem?_modify, h]
theorem MK.set3 {w : World} {mb : Nat} {V : V6} (h : MK w mb V) (v : Value) : MK (w.setCell ⟨mb, 3, none⟩ v) mb { V with t := v } := by unfold MK at h ⊢; simp [World.setCell, Array.getElem?_modify, h]
theorem MK.set4 {w : World} {mb : Nat} {V : V6} (h : MK w mb V) (v : Value) : MK (w.setCell ⟨mb, 4, none⟩ v) mb { V with r := v } := by unfold MK at h ⊢; simp [World.setCell, Array.getElem?_modify, h]
theorem MK.set5 {w : World} {mb : Nat} {V : V6} (h : MK w mb V) (v : Value) : MK (w.setCell ⟨mb, 5, none⟩ v) mb { V with i := v } := by unfold MK at h ⊢; simp [World.setCell, Array.getElem?_modify, h]
/-- One thing that is kept as a row of numbers. -/
def numI {α : Type} (f : α → List Nat) : Inn α where
  rel A w cs x := ∃ v, cs = #[v] ∧ RW A 1 w v (ic (f x))
  frm := by
    rintro A S w w' cs x ⟨v, h1, h2⟩ g hS
    exact ⟨v, h1, h2.frm g hS⟩
  avoid := by
    rintro A B w cs x ⟨v, h1, h2⟩ hB
    exact ⟨v, h1, h2.avoid hB⟩
def insI : Inn InM := numI fun x => [x.op, x.x, x.a, x.b]
def tstI : Inn TstM := numI fun x => [x.n, x.k, x.x]
theorem infoSl : (Try.prog.info? 70).map (fun i => (i.zero, i.size, i.bytes)) = some (some (.slice none 0 0), 1, 24) := by kernel_rfl
def fineB (nr nt i : Nat) (c : InM) : Bool :=
  match c.op with
  | 0 => c.x + c.a + c.b == 0
  | 1 => decide (c.x < nr) && decide (i < c.a) && c.b == 0
  | 2 => decide (c.x < nt) && decide (i < c.a) && decide (i < c.b)
  | _ => false
theorem stands_fine (nr nt n i : Nat) (c : InM) (ha : c.a < n) (hb : c.b < n) : stands nr nt n i c = fineB nr nt i c := by
  obtain ⟨op, x, a, b⟩ := c
  simp only at ha hb
  unfold stands fineB
  match op with
  | 0 =>
    simp only
    rw [Bool.eq_iff_iff]
    simp only [Bool.and_eq_true, beq_iff_eq]
    omega
  | 1 => simp [ha]
  | 2 => simp [ha, hb]
  | k + 3 => rfl
theorem stands_far (nr nt n i : Nat) (c : InM) (hn : 1 ≤ n) (h : n ≤ c.a ∨ n ≤ c.b) : stands nr nt n i c = false := by
  obtain ⟨op, x, a, b⟩ := c
  simp only at h
  unfold stands
  match op with
  | 0 =>
    simp only
    rw [Bool.eq_false_iff]
    simp only [ne_eq, Bool.and_eq_true, beq_iff_eq]
    omega
  | 1 =>
    simp only
    rw [Bool.eq_false_iff]
    simp only [ne_eq, Bool.and_eq_true, beq_iff_eq, decide_eq_true_iff]
    omega
  | 2 =>
    simp only
    rw [Bool.eq_false_iff]
    simp only [ne_eq, Bool.and_eq_true, beq_iff_eq, decide_eq_true_iff]
    omega
  | k + 3 => rfl
theorem pN_hi {k n hi : Nat} {s : List UInt8} (h : n ≤ hi) : pN k 0 n s = (pN k 0 hi s).bind fun x => if x.1 < n then some x else none := by
  unfold pN
  by_cases h1 : k ≤ s.length
  · by_cases h2 : nmV (s.take k) < n
    · rw [if_pos ⟨h1, by omega, h2⟩, if_pos ⟨h1, by omega, by omega⟩]; simp [h2]
    · rw [if_neg (by omega)]
      by_cases h3 : nmV (s.take k) < hi
      · rw [if_pos ⟨h1, by omega, h3⟩]; simp [h2]
      · rw [if_neg (by omega)]; rfl
  · rw [if_neg (by omega), if_neg (by omega)]; rfl
def pJ (nr nt n i : Nat) : PT InM := fun s => (pN 1 0 3 s).bind fun o => (pN 1 0 256 o.2).bind fun x => (pN 2 0 n x.2).bind fun a => (pN 2 0 n a.2).bind fun b => if fineB nr nt i ⟨o.1, x.1, a.1, b.1⟩ = true then some (⟨o.1, x.1, a.1, b.1⟩, b.2) else none
theorem pI_pJ (nr nt n i : Nat) (s : List UInt8) (h1 : 1 ≤ n) (h2 : n ≤ 65536) : pI nr nt n i s = pJ nr nt n i s := by
  unfold pI pJ
  cases pN 1 0 3 s with
  | none => rfl
  | some o =>
    simp only [Option.bind_some]
    cases pN 1 0 256 o.2 with
    | none => rfl
    | some x =>
      simp only [Option.bind_some]
      rw [pN_hi (n := n) (hi := 65536) h2]
      cases pN 2 0 65536 x.2 with
      | none => rfl
      | some a =>
        simp only [Option.bind_some]
        by_cases ha : a.1 < n
        · rw [if_pos ha]
          simp only [Option.bind_some]
          rw [pN_hi (n := n) (hi := 65536) h2]
          cases pN 2 0 65536 a.2 with
          | none => rfl
          | some b =>
            simp only [Option.bind_some]
            by_cases hb : b.1 < n
            · rw [if_pos hb]
              simp only [Option.bind_some]
              rw [stands_fine nr nt n i _ ha hb]
            · rw [if_neg hb]
              simp only [Option.bind_none]
              rw [stands_far nr nt n i _ h1 (.inr (by simp only; omega)), if_neg (by simp)]
        · rw [if_neg ha]
          simp only [Option.bind_none]
          cases pN 2 0 65536 a.2 with
          | none => rfl
          | some b =>
            simp only [Option.bind_some]
            rw [stands_far nr nt n i _ h1 (.inl (by simp only; omega)), if_neg (by simp)]
theorem fine_eq (nr nt i op x a b : Nat) : fineB nr nt i ⟨op, x, a, b⟩ = if op = 0 then ((x : Int) + (a : Int) + (b : Int) == 0) else if op = 1 then (decide (x < nr) && decide (i < a) && ((b : Int) == 0)) else if op = 2 then (decide (x < nt) && decide (i < a) && decide (i < b)) else false := by
  have z : ∀ k : Nat, ((k : Int) == 0) = (k == 0) := fun k => by rw [Bool.eq_iff_iff, beq_iff_eq, beq_iff_eq]; omega
  have z3 : ((x : Int) + (a : Int) + (b : Int) == 0) = (x + a + b == 0) := by rw [Bool.eq_iff_iff, beq_iff_eq, beq_iff_eq]; omega
  rw [z, z3]
  unfold fineB
  match op with
  | 0 => rfl
  | 1 => rfl
  | 2 => rfl
  | k + 3 => simp

def RInsQ (nr nt : Nat) (A : List Nat) (w : World) (b mb : Nat) (V : V6) (s : List UInt8) (ok : Bool) (e : Ending) (w' : World) : Prop :=
  e = .returned (.tuple #[]) ∧ ∃ (code : List InM) (css : List (Array Value)) (vc : Value) (s' : List UInt8) (ok' : Bool), TK w' b s' ok' ∧ MK w' mb { V with i := vc } ∧ Frm [b, mb] w w' ∧ TO ok (pIs nr nt) s code ok' s' ∧ OW 70 1 w.heap.size w' vc (lst css) ∧ RowI insI ((b :: mb :: A) ++ vc.ownBlock.toList) w' css code

set_option maxRecDepth 100000 in
set_option maxHeartbeats 8000000 in
theorem rinstructions_any (b mb : Nat) (s : List UInt8) (ok : Bool) (V : V6) (nr nt : Nat) (A : List Nat) (w : World) (h : TK w b s ok) (hm : MK w mb V) (hne : b ≠ mb) (hr : ∃ a c, V.r = .slice a nr c) (ht : ∃ a c, V.t = .slice a nt c) (hV : V.i = .slice none 0 0) (hA : ∀ g ∈ A, g < w.heap.size) :
    Calls Try.prog 28 #[.pointer (some ⟨mb, 0, none⟩), .pointer (some ⟨b, 0, none⟩)] w (RInsQ nr nt A w b mb V s ok) := by
  obtain ⟨vn, vc0, va, vt, vr, vi⟩ := V
  obtain ⟨ar, cr, rfl⟩ := hr
  obtain ⟨at1, ct, rfl⟩ := ht
  simp only at hV
  subst hV
  have hb := h.lt
  have hmb := hm.lt
  have M0 := hide hm
  have HA := hide hA
  have N1 := hide (rnum_any b s ok 2 65536 2 65535 w h rfl rfl (by omega) (by omega))
  clear h hm hA
  go_enter Try.func28, Try.ntmps28
  go_wp2_with fail
  refine (N1.out).mono ?_
  clear N1
  rintro e w1 ⟨n, s1, ok1, rfl, hT1, hF1, hO1, hs1, hn⟩
  have hnb : n < 65536 := by omega
  obtain ⟨ok2, w2, T2, F2, M2, HZ2, HW⟩ : ∃ ok2 w2, Hid (TK w2 b s1 ok2) ∧ Hid (Frm [b, mb] w w2) ∧ Hid (MK w2 mb ⟨vn, vc0, va, .slice at1 nt ct, .slice ar nr cr, .slice none 0 0⟩) ∧ Hid ((ok = true ∧ ok2 = true ∧ 1 ≤ n ∧ pR (pI nr nt n) n [] s1 = pIs nr nt s) ∨ ((ok = false ∨ pIs nr nt s = none) ∧ ok2 = false)) ∧ Hid ((n = 0 ∧ w2 = w1.setCell ⟨b, 1, none⟩ (.bool false)) ∨ (n ≠ 0 ∧ w2 = w1)) := by
    have hF1b : Frm [b, mb] w w1 := hF1.mono (by intro k _ hk; simp at hk; simp [hk])
    have hM1 := M0.out.frm hF1 (by simp; exact fun e => hne e.symm)
    by_cases h0 : n = 0
    · refine ⟨false, w1.setCell ⟨b, 1, none⟩ (.bool false), hT1.set1 false, hF1b.setCell (p := ⟨b, 1, none⟩) (.inl (by simp)) _, hM1.frm (S := [b]) ((Frm.refl [b] _).setCell (p := ⟨b, 1, none⟩) (.inl (by simp)) _) (by simp; exact fun e => hne e.symm), .inr ⟨?_, rfl⟩, .inl ⟨h0, rfl⟩⟩
      rcases hO1 with ⟨k1, k2, k3⟩ | ⟨k1, k2⟩
      · right
        unfold pIs
        rw [pN_lo k2, if_neg (by omega)]
        rfl
      · exact k1.imp id (fun h => by unfold pIs; rw [pN_lo0 h]; rfl)
    · refine ⟨ok1, w1, hT1, hF1b, hM1, ?_, .inr ⟨h0, rfl⟩⟩
      rcases hO1 with ⟨k1, k2, k3⟩ | ⟨k1, k2⟩
      · refine .inl ⟨k1, k3, by omega, ?_⟩
        unfold pIs
        rw [pN_lo k2, if_pos (by omega)]
        rfl
      · exact .inr ⟨k1.imp id (fun h => by unfold pIs; rw [pN_lo0 h]; rfl), k2⟩
  have c1 := hT1.c1
  have z1 := hT1.fz 1
  have hz2 := F2.out.size
  clear hT1 hF1 hO1 M0 hn
  by_cases h0 : n = 0
  · have hw2 : w2 = w1.setCell ⟨b, 1, none⟩ (.bool false) := by
      rcases HW.out with ⟨_, h⟩ | ⟨h, _⟩
      · exact h
      · exact absurd h0 h
    have H0 := hide h0
    have hb0 : ((n : Int) == 0) = true := by rw [beq_iff_eq]; omega
    clear HW h0
    go_wp2_with fail
    rw [← hw2]
    clear hw2 c1 z1 hb0
    go_loopg [5] n (fun k v5 wr => ∃ (j : Nat) (acc : List InM) (css : List (Array Value)) (vc : Value) (s' : List UInt8) (ok' : Bool), j + k = n ∧ v5 = .int .i64 j ∧ acc.length = j ∧ TK wr b s' ok' ∧ MK wr mb ⟨vn, vc0, va, .slice at1 nt ct, .slice ar nr cr, vc⟩ ∧ Frm [b, mb] w wr ∧ OW 70 1 w.heap.size wr vc (lst css) ∧ RowI insI ((b :: mb :: A) ++ vc.ownBlock.toList) wr css acc ∧
        Hid ((ok = true ∧ ok' = true ∧ 1 ≤ n ∧ pR (pI nr nt n) (n - j) acc s' = pIs nr nt s) ∨ ((ok = false ∨ pIs nr nt s = none) ∧ ok' = false)))
    case atStart => exact ⟨0, [], [], _, s1, ok2, by omega, rfl, rfl, T2.out, M2.out, F2.out, OW.nil _ _ _ _, RowI.nil _ _ _, HZ2⟩
    case round =>
      clear T2 M2 F2 HZ2
      obtain ⟨j, acc, css, vc, s3, ok3, hjk, rfl, hal, hT, hM, hF, hO, hI, HR⟩ := hrel
      obtain ⟨a, c, he⟩ := hO.shape
      rw [lst_len] at he
      subst he
      have T := hide hT
      have M := hide hM
      have F := hide hF
      have O := hide hO
      have I := hide hI
      have HAL := hide hal
      have c1 := hT.c1
      have hz3 := hF.size
      have hcl : css.length ≤ 65536 := by have := hI.1; omega
      clear hT hM hF hO hI hal
      by_cases hlt : j < n
      · have hd : decide ((j : Int) < (n : Int)) = true := decide_eq_true (by omega)
        have hd' : decide (j < n) = true := decide_eq_true hlt
        exact absurd hlt (by have := H0.out; omega)
      · have hje : j = n := by omega
        have hd : decide ((j : Int) < (n : Int)) = false := decide_eq_false (by omega)
        have hd' : decide (j < n) = false := decide_eq_false hlt
        have HE : Hid (TO ok (pIs nr nt) s acc ok3 s3) := by
          rcases HR.out with ⟨h1, h2, _, h3⟩ | h
          · rw [hje, Nat.sub_self] at h3; exact .inl ⟨h1, h3.symm, h2⟩
          · exact .inr h
        clear HR hje
        go_wp2
        go_end0
        exact ⟨rfl, acc, css, _, s3, ok3, T.out, M.out, F.out, HE.out, O.out, I.out⟩
  · have hw2 : w2 = w1 := by
      rcases HW.out with ⟨h, _⟩ | ⟨_, h⟩
      · exact absurd h h0
      · exact h
    have H0 := hide h0
    have hb0 : ((n : Int) == 0) = false := by rw [beq_eq_false_iff_ne]; omega
    clear HW h0
    go_wp2_with fail
    rw [← hw2]
    clear hw2 c1 z1 hb0
    go_loopg [5] n (fun k v5 wr => ∃ (j : Nat) (acc : List InM) (css : List (Array Value)) (vc : Value) (s' : List UInt8) (ok' : Bool), j + k = n ∧ v5 = .int .i64 j ∧ acc.length = j ∧ TK wr b s' ok' ∧ MK wr mb ⟨vn, vc0, va, .slice at1 nt ct, .slice ar nr cr, vc⟩ ∧ Frm [b, mb] w wr ∧ OW 70 1 w.heap.size wr vc (lst css) ∧ RowI insI ((b :: mb :: A) ++ vc.ownBlock.toList) wr css acc ∧
        Hid ((ok = true ∧ ok' = true ∧ 1 ≤ n ∧ pR (pI nr nt n) (n - j) acc s' = pIs nr nt s) ∨ ((ok = false ∨ pIs nr nt s = none) ∧ ok' = false)))
    case atStart => exact ⟨0, [], [], _, s1, ok2, by omega, rfl, rfl, T2.out, M2.out, F2.out, OW.nil _ _ _ _, RowI.nil _ _ _, HZ2⟩
    case round =>
      clear T2 M2 F2 HZ2
      obtain ⟨j, acc, css, vc, s3, ok3, hjk, rfl, hal, hT, hM, hF, hO, hI, HR⟩ := hrel
      obtain ⟨a, c, he⟩ := hO.shape
      rw [lst_len] at he
      subst he
      have T := hide hT
      have M := hide hM
      have F := hide hF
      have O := hide hO
      have I := hide hI
      have HAL := hide hal
      have c1 := hT.c1
      have hz3 := hF.size
      have hcl : css.length ≤ 65536 := by have := hI.1; omega
      clear hT hM hF hO hI hal
      by_cases hlt : j < n
      · have hd : decide ((j : Int) < (n : Int)) = true := decide_eq_true (by omega)
        have hd' : decide (j < n) = true := decide_eq_true hlt
        cases ok3 with
        | false =>
          go_wp2
          go_end0
          refine ⟨rfl, acc, css, _, s3, false, T.out, M.out, F.out, ?_, O.out, I.out⟩
          rcases HR.out with ⟨_, h, _⟩ | ⟨h, _⟩
          · cases h
          · exact .inr ⟨h, rfl⟩
        | true =>
          have HP : Hid (ok = true ∧ 1 ≤ n ∧ pR (pI nr nt n) (n - j) acc s3 = pIs nr nt s) := by
            rcases HR.out with ⟨h1, _, h2, h3⟩ | ⟨_, h⟩
            · exact ⟨h1, h2, h3⟩
            · cases h
          clear HR
          have N4 := hide (rnum_any b s3 true 1 3 1 2 wr T.out rfl rfl (by omega) (by omega))
          go_wp2_with fail
          refine (N4.out).mono ?_
          clear N4
          rintro e w5 ⟨op, s5, ok5, rfl, hT5, hF5, hO5, hs5, hop⟩
          have N5 := hide (rnum_any b s5 ok5 1 256 1 255 w5 hT5 rfl rfl (by omega) (by omega))
          go_wp2_with fail
          refine (N5.out).mono ?_
          clear N5
          rintro e w6 ⟨x, s6, ok6, rfl, hT6, hF6, hO6, hs6, hx⟩
          have N6 := hide (rnum_any b s6 ok6 2 n 2 ((n : Int) - 1) w6 hT6 rfl rfl (by omega) (by omega))
          go_wp2_with fail
          refine (N6.out).mono ?_
          clear N6
          rintro e w7 ⟨aa, s7, ok7, rfl, hT7, hF7, hO7, hs7, haa⟩
          have N7 := hide (rnum_any b s7 ok7 2 n 2 ((n : Int) - 1) w7 hT7 rfl rfl (by omega) (by omega))
          go_wp2_with fail
          refine (N7.out).mono ?_
          clear N7
          rintro e w8 ⟨bb, s8, ok8, rfl, hT8, hF8, hO8, hs8, hbb⟩
          have hFx : Frm [b] wr w8 := ((hF5.trans hF6).trans hF7).trans hF8
          have T8 := hide hT8
          have M8 := hide (M.out.frm hFx (by simp; exact fun e => hne e.symm))
          have F8 := hide (F.out.trans (hFx.mono (by intro k _ hk; simp at hk; simp [hk])))
          have O8 := hide (O.out.frm hFx (by intro g hg; simp at hg; omega))
          have I8 := hide (I.out.frm hFx (by simp))
          have hz8 := hFx.size
          have c8 := hT8.c1
          have z8 := hT8.fz 1
          have r3 := M8.out.c3
          have r4 := M8.out.c4
          have r5 := M8.out.c5
          have hb8 := hT8.lt
          have hm8 := M8.out.lt
          have HTC := hide (lst_len css)
          have HOB : Hid (∀ r, Value.ownBlock (.slice a css.length c) = some r → w.heap.size ≤ r) := fun r hr => (O8.out.lt hr).1
          have hopb : op < 3 := by omega
          have HR2 : Hid (∀ okN, okN = (ok8 && fineB nr nt j ⟨op, x, aa, bb⟩) → ((ok = true ∧ okN = true ∧ 1 ≤ n ∧ pR (pI nr nt n) (n - (j + 1)) (acc ++ [(⟨op, x, aa, bb⟩ : InM)]) s8 = pIs nr nt s) ∨ ((ok = false ∨ pIs nr nt s = none) ∧ okN = false))) := by
            intro okN hok
            have h := HP.out
            rw [show n - j = (n - (j + 1)) + 1 by omega, pR_succ, HAL.out, pI_pJ nr nt n j s3 h.2.1 (by omega)] at h
            have hpj : pJ nr nt n j s3 = (pN 1 0 3 s3).bind fun o => (pN 1 0 256 o.2).bind fun x => (pN 2 0 n x.2).bind fun a => (pN 2 0 n a.2).bind fun b => if fineB nr nt j ⟨o.1, x.1, a.1, b.1⟩ = true then some (⟨o.1, x.1, a.1, b.1⟩, b.2) else none := rfl
            rw [hpj] at h
            rcases hO5 with ⟨_, k2, k3⟩ | ⟨k2, k3⟩
            · rw [k2] at h
              simp only [Option.bind_some] at h
              rcases hO6 with ⟨_, l2, l3⟩ | ⟨l2, l3⟩
              · rw [l2] at h
                simp only [Option.bind_some] at h
                rcases hO7 with ⟨_, m2, m3⟩ | ⟨m2, m3⟩
                · rw [m2] at h
                  simp only [Option.bind_some] at h
                  rcases hO8 with ⟨_, n2, n3⟩ | ⟨n2, n3⟩
                  · rw [n2] at h
                    simp only [Option.bind_some] at h
                    rw [n3, Bool.true_and] at hok
                    cases hf : fineB nr nt j ⟨op, x, aa, bb⟩ with
                    | true =>
                      rw [hf] at hok h
                      simp only [if_true, Option.bind_some] at h
                      exact .inl ⟨h.1, hok, h.2.1, h.2.2⟩
                    | false =>
                      rw [hf] at hok h
                      simp only [Bool.false_eq_true, if_false, Option.bind_none] at h
                      exact .inr ⟨.inr h.2.2.symm, hok⟩
                  · rw [n3, Bool.false_and] at hok
                    rcases n2 with n2 | n2
                    · rw [m3] at n2; cases n2
                    · rw [n2] at h
                      exact .inr ⟨.inr h.2.2.symm, hok⟩
                · have hk8 : ok8 = false := by
                    rcases hO8 with ⟨n1, _, _⟩ | ⟨_, n3⟩
                    · rw [m3] at n1; cases n1
                    · exact n3
                  rw [hk8, Bool.false_and] at hok
                  rcases m2 with m2 | m2
                  · rw [l3] at m2; cases m2
                  · rw [m2] at h
                    exact .inr ⟨.inr h.2.2.symm, hok⟩
              · have hk8 : ok8 = false := by
                  rcases hO7 with ⟨m1, _, _⟩ | ⟨_, m3⟩
                  · rw [l3] at m1; cases m1
                  · rcases hO8 with ⟨n1, _, _⟩ | ⟨_, n3⟩
                    · rw [m3] at n1; cases n1
                    · exact n3
                rw [hk8, Bool.false_and] at hok
                rcases l2 with l2 | l2
                · rw [k3] at l2; cases l2
                · rw [l2] at h
                  exact .inr ⟨.inr h.2.2.symm, hok⟩
            · have hk8 : ok8 = false := by
                rcases hO6 with ⟨l1, _, _⟩ | ⟨_, l3⟩
                · rw [k3] at l1; cases l1
                · rcases hO7 with ⟨m1, _, _⟩ | ⟨_, m3⟩
                  · rw [l3] at m1; cases m1
                  · rcases hO8 with ⟨n1, _, _⟩ | ⟨_, n3⟩
                    · rw [m3] at n1; cases n1
                    · exact n3
              rw [hk8, Bool.false_and] at hok
              rcases k2 with k2 | k2
              · cases k2
              · rw [k2] at h
                exact .inr ⟨.inr h.2.2.symm, hok⟩
          have HFE := hide (fine_eq nr nt j op x aa bb)
          clear hT5 hT6 hT7 hT8 hF5 hF6 hF7 hF8 hO5 hO6 hO7 hO8 hFx HP T M F O I c1 hop
          have hxb : x < 256 := by omega
          have hab : aa < 65536 := by omega
          have hbbb : bb < 65536 := by omega
          clear hx haa hbb
          have hnc : ∀ (o1 o2 : Obj) (w0 : World), o2 = Obj.cells #[.slice (some ⟨w8.heap.size, 0, none⟩) 4 4] 70 → w0.heap.size = w8.heap.size → ∀ q u, ([.slice (some ⟨w8.heap.size, 0, none⟩) 4 4] : List Value)[q]? = some u → ((w0.alloc o1).alloc o2).cell? ⟨w8.heap.size + 1, q, none⟩ = some u := by
            intro o1 o2 w0 ho2 hw0 q u hq
            subst ho2
            cases q with
            | zero =>
              simp only [List.getElem?_cons_zero, Option.some.injEq] at hq
              have h1 := heap1 (w0.alloc o1) (Obj.cells #[.slice (some ⟨w8.heap.size, 0, none⟩) 4 4] 70)
              rw [show (w0.alloc o1).heap.size = w8.heap.size + 1 by simp [hw0]] at h1
              simp only [World.cell?, h1]
              rw [← hq]; rfl
            | succ q => simp at hq
          obtain ⟨z0, y0⟩ : ∃ p, ((x : Int) + (aa : Int) + (bb : Int) == 0) = p := ⟨_, rfl⟩
          obtain ⟨z1, y1⟩ : ∃ p, ((bb : Int) == 0) = p := ⟨_, rfl⟩
          obtain ⟨q1, f1⟩ : ∃ p, decide (x < nr) = p := ⟨_, rfl⟩
          obtain ⟨q2, f2⟩ : ∃ p, decide (x < nt) = p := ⟨_, rfl⟩
          obtain ⟨p1, e1⟩ : ∃ p, decide (j < aa) = p := ⟨_, rfl⟩
          obtain ⟨p2, e2⟩ : ∃ p, decide (j < bb) = p := ⟨_, rfl⟩
          have HF2 : Hid (fineB nr nt j ⟨op, x, aa, bb⟩ = if op = 0 then z0 else if op = 1 then (q1 && p1 && z1) else if op = 2 then (q2 && p1 && p2) else false) := by
            show _ = _; rw [HFE.out, y0, y1, f1, f2, e1, e2]
          clear HFE
          rcases (show op = 0 ∨ op = 1 ∨ op = 2 by omega) with h0 | h0 | h0
          · have HV : Hid (fineB nr nt j ⟨op, x, aa, bb⟩ = z0) := by show _ = _; rw [HF2.out, if_pos h0]
            clear HF2
            have hb0 : ((op : Int) == 0) = true := by rw [beq_iff_eq]; omega
            clear h0
            cases ok8
            · go_wp2_with (first | (at_builtin; refine wp_appG _ rfl _ _ 65 70 (.slice none 0 0) 1 24 infoSl Try.underlying65 rfl (by decide) rfl w.heap.size (.slice a css.length c) (lst css) (w8.heap.size + 1) [.slice (some ⟨w8.heap.size, 0, none⟩) 4 4] rfl (O8.out.frm (S := [b]) (((((Frm.refl [b] w8).setCell (p := ⟨b, 1, none⟩) (.inl (by simp)) _).alloc _).alloc _)) (by simp; omega)) rfl rfl (hnc _ _ _ rfl (by simp)) (by intro u hu; simp only [List.mem_singleton] at hu; subst hu; rfl) (by rw [HTC.out]; omega) (by rw [HTC.out]; omega) (by simp; omega) ?_; intro g9 cap9 w9 hs9 hg9 hor9 hlt9; rw [HTC.out] at hs9 ⊢; have O9 := hide hs9; have G9 := hide hg9; have OR9 := hide hor9; have M9 := hide ((M8.out.frm (S := [b]) (((((Frm.refl [b] w8).setCell (p := ⟨b, 1, none⟩) (.inl (by simp)) _).alloc _).alloc _)) (by simp; exact fun e => hne e.symm)).grown hg9 (fun r hr => by have := HOB.out r hr; omega)); have c9 := M9.out.c5; have z9 := M9.out.fz 5; clear hs9 hg9 hor9))
              go_roundg (gk - 1)
              case measure => omega
              case rel =>
                have FA : Frm [b] w8 (((w8.setCell ⟨b, 1, none⟩ (.bool false)).alloc (Obj.cells #[.int .i64 (op : Nat), .int .i64 (x : Nat), .int .i64 (aa : Nat), .int .i64 (bb : Nat)] 3)).alloc (Obj.cells #[.slice (some ⟨w8.heap.size, 0, none⟩) 4 4] 70)) := ((((Frm.refl [b] w8).setCell (p := ⟨b, 1, none⟩) (.inl (by simp)) _).alloc _).alloc _)
                have FB : ∀ u, Frm [mb] w9 (w9.setCell ⟨mb, 5, none⟩ u) := fun u => (Frm.refl [mb] w9).setCell (p := ⟨mb, 5, none⟩) (.inl (by simp)) u
                have O9' := O9.out
                rw [show ([.slice (some ⟨w8.heap.size, 0, none⟩) 4 4] : List Value) = (#[.slice (some ⟨w8.heap.size, 0, none⟩) 4 4] : Array Value).toList from rfl, lst_snoc] at O9'
                have TA : TK (((w8.setCell ⟨b, 1, none⟩ (.bool false)).alloc (Obj.cells #[.int .i64 (op : Nat), .int .i64 (x : Nat), .int .i64 (aa : Nat), .int .i64 (bb : Nat)] 3)).alloc (Obj.cells #[.slice (some ⟨w8.heap.size, 0, none⟩) 4 4] 70)) b s8 false := (((T8.out.set1 false).frm (S := []) ((Frm.refl [] _).alloc _) (by simp)).frm (S := []) ((Frm.refl [] _).alloc _) (by simp))
                have IA := I8.out.frm FA (by simp)
                have hgn : (((w8.setCell ⟨b, 1, none⟩ (.bool false)).alloc (Obj.cells #[.int .i64 (op : Nat), .int .i64 (x : Nat), .int .i64 (aa : Nat), .int .i64 (bb : Nat)] 3)).alloc (Obj.cells #[.slice (some ⟨w8.heap.size, 0, none⟩) 4 4] 70)).heap[w8.heap.size]? = some (Obj.cells #[.int .i64 (op : Nat), .int .i64 (x : Nat), .int .i64 (aa : Nat), .int .i64 (bb : Nat)] 3) := by
                  have h1 := heap1 (w8.setCell ⟨b, 1, none⟩ (.bool false)) (Obj.cells #[.int .i64 (op : Nat), .int .i64 (x : Nat), .int .i64 (aa : Nat), .int .i64 (bb : Nat)] 3)
                  rw [show (w8.setCell ⟨b, 1, none⟩ (.bool false)).heap.size = w8.heap.size by simp] at h1
                  exact (((Frm.refl [] _).alloc _).block w8.heap.size (by simp) (by simp)).trans h1
                have IN : insI.rel ((b :: mb :: A) ++ (Value.ownBlock (.slice a css.length c)).toList) (((w8.setCell ⟨b, 1, none⟩ (.bool false)).alloc (Obj.cells #[.int .i64 (op : Nat), .int .i64 (x : Nat), .int .i64 (aa : Nat), .int .i64 (bb : Nat)] 3)).alloc (Obj.cells #[.slice (some ⟨w8.heap.size, 0, none⟩) 4 4] 70)) #[.slice (some ⟨w8.heap.size, 0, none⟩) 4 4] ⟨op, x, aa, bb⟩ := by
                  refine ⟨_, rfl, some ⟨w8.heap.size, 0, none⟩, 4, rfl, by simp [ic], fun i hi => ⟨w8.heap.size, 0, rfl, ?_, by simp; omega, ?_⟩⟩
                  · intro hm
                    simp at hm
                    rcases hm with hm | hm | hm | hm
                    · omega
                    · omega
                    · have := HA.out _ hm; omega
                    · have := (O8.out.lt hm).2; omega
                  · intro q u hu
                    have hi4 : i < 4 := by simpa [ic] using hi
                    simp only [World.cell?, hgn]
                    match i, hi4 with
                    | 0, _ => cases q with
                      | zero => simp [ic] at hu; subst hu; rfl
                      | succ q => simp [ic] at hu
                    | 1, _ => cases q with
                      | zero => simp [ic] at hu; subst hu; rfl
                      | succ q => simp [ic] at hu
                    | 2, _ => cases q with
                      | zero => simp [ic] at hu; subst hu; rfl
                      | succ q => simp [ic] at hu
                    | 3, _ => cases q with
                      | zero => simp [ic] at hu; subst hu; rfl
                      | succ q => simp [ic] at hu
                have IS := ((RowI.snoc IA IN).app (g := g9) G9.out (OR9.out.imp id (fun h => by rw [h]))).frm (FB (.slice (some ⟨g9, 0, none⟩) (css.length + 1) cap9)) (by simp)
                refine ⟨j + 1, acc ++ [(⟨op, x, aa, bb⟩ : InM)], css ++ [(#[Value.slice (some ⟨w8.heap.size, 0, none⟩) 4 4] : Array Value)], _, s8, false, by omega, by go_num, by simp [HAL.out], (TA.grown G9.out (fun r hr => by have := HOB.out r hr; omega)).frm (FB _) (by simpa using hne), M9.out.set5 _, ((F8.out.trans (FA.mono (by intro k _ hk; simp at hk; simp [hk]))).grown G9.out (fun r hr => .inr (HOB.out r hr))).trans ((FB _).mono (by intro k _ hk; simp at hk; simp [hk])), O9'.frm (FB _) (by simp; omega), IS, ?_⟩
                exact HR2.out false (by rfl)
            · go_wp2_with (first | (at_builtin; refine wp_appG _ rfl _ _ 65 70 (.slice none 0 0) 1 24 infoSl Try.underlying65 rfl (by decide) rfl w.heap.size (.slice a css.length c) (lst css) (w8.heap.size + 1) [.slice (some ⟨w8.heap.size, 0, none⟩) 4 4] rfl (O8.out.frm (S := [b]) (((((Frm.refl [b] w8).setCell (p := ⟨b, 1, none⟩) (.inl (by simp)) _).alloc _).alloc _)) (by simp; omega)) rfl rfl (hnc _ _ _ rfl (by simp)) (by intro u hu; simp only [List.mem_singleton] at hu; subst hu; rfl) (by rw [HTC.out]; omega) (by rw [HTC.out]; omega) (by simp; omega) ?_; intro g9 cap9 w9 hs9 hg9 hor9 hlt9; rw [HTC.out] at hs9 ⊢; have O9 := hide hs9; have G9 := hide hg9; have OR9 := hide hor9; have M9 := hide ((M8.out.frm (S := [b]) (((((Frm.refl [b] w8).setCell (p := ⟨b, 1, none⟩) (.inl (by simp)) _).alloc _).alloc _)) (by simp; exact fun e => hne e.symm)).grown hg9 (fun r hr => by have := HOB.out r hr; omega)); have c9 := M9.out.c5; have z9 := M9.out.fz 5; clear hs9 hg9 hor9))
              go_roundg (gk - 1)
              case measure => omega
              case rel =>
                have FA : Frm [b] w8 (((w8.setCell ⟨b, 1, none⟩ (.bool z0)).alloc (Obj.cells #[.int .i64 (op : Nat), .int .i64 (x : Nat), .int .i64 (aa : Nat), .int .i64 (bb : Nat)] 3)).alloc (Obj.cells #[.slice (some ⟨w8.heap.size, 0, none⟩) 4 4] 70)) := ((((Frm.refl [b] w8).setCell (p := ⟨b, 1, none⟩) (.inl (by simp)) _).alloc _).alloc _)
                have FB : ∀ u, Frm [mb] w9 (w9.setCell ⟨mb, 5, none⟩ u) := fun u => (Frm.refl [mb] w9).setCell (p := ⟨mb, 5, none⟩) (.inl (by simp)) u
                have O9' := O9.out
                rw [show ([.slice (some ⟨w8.heap.size, 0, none⟩) 4 4] : List Value) = (#[.slice (some ⟨w8.heap.size, 0, none⟩) 4 4] : Array Value).toList from rfl, lst_snoc] at O9'
                have TA : TK (((w8.setCell ⟨b, 1, none⟩ (.bool z0)).alloc (Obj.cells #[.int .i64 (op : Nat), .int .i64 (x : Nat), .int .i64 (aa : Nat), .int .i64 (bb : Nat)] 3)).alloc (Obj.cells #[.slice (some ⟨w8.heap.size, 0, none⟩) 4 4] 70)) b s8 z0 := (((T8.out.set1 z0).frm (S := []) ((Frm.refl [] _).alloc _) (by simp)).frm (S := []) ((Frm.refl [] _).alloc _) (by simp))
                have IA := I8.out.frm FA (by simp)
                have hgn : (((w8.setCell ⟨b, 1, none⟩ (.bool z0)).alloc (Obj.cells #[.int .i64 (op : Nat), .int .i64 (x : Nat), .int .i64 (aa : Nat), .int .i64 (bb : Nat)] 3)).alloc (Obj.cells #[.slice (some ⟨w8.heap.size, 0, none⟩) 4 4] 70)).heap[w8.heap.size]? = some (Obj.cells #[.int .i64 (op : Nat), .int .i64 (x : Nat), .int .i64 (aa : Nat), .int .i64 (bb : Nat)] 3) := by
                  have h1 := heap1 (w8.setCell ⟨b, 1, none⟩ (.bool z0)) (Obj.cells #[.int .i64 (op : Nat), .int .i64 (x : Nat), .int .i64 (aa : Nat), .int .i64 (bb : Nat)] 3)
                  rw [show (w8.setCell ⟨b, 1, none⟩ (.bool z0)).heap.size = w8.heap.size by simp] at h1
                  exact (((Frm.refl [] _).alloc _).block w8.heap.size (by simp) (by simp)).trans h1
                have IN : insI.rel ((b :: mb :: A) ++ (Value.ownBlock (.slice a css.length c)).toList) (((w8.setCell ⟨b, 1, none⟩ (.bool z0)).alloc (Obj.cells #[.int .i64 (op : Nat), .int .i64 (x : Nat), .int .i64 (aa : Nat), .int .i64 (bb : Nat)] 3)).alloc (Obj.cells #[.slice (some ⟨w8.heap.size, 0, none⟩) 4 4] 70)) #[.slice (some ⟨w8.heap.size, 0, none⟩) 4 4] ⟨op, x, aa, bb⟩ := by
                  refine ⟨_, rfl, some ⟨w8.heap.size, 0, none⟩, 4, rfl, by simp [ic], fun i hi => ⟨w8.heap.size, 0, rfl, ?_, by simp; omega, ?_⟩⟩
                  · intro hm
                    simp at hm
                    rcases hm with hm | hm | hm | hm
                    · omega
                    · omega
                    · have := HA.out _ hm; omega
                    · have := (O8.out.lt hm).2; omega
                  · intro q u hu
                    have hi4 : i < 4 := by simpa [ic] using hi
                    simp only [World.cell?, hgn]
                    match i, hi4 with
                    | 0, _ => cases q with
                      | zero => simp [ic] at hu; subst hu; rfl
                      | succ q => simp [ic] at hu
                    | 1, _ => cases q with
                      | zero => simp [ic] at hu; subst hu; rfl
                      | succ q => simp [ic] at hu
                    | 2, _ => cases q with
                      | zero => simp [ic] at hu; subst hu; rfl
                      | succ q => simp [ic] at hu
                    | 3, _ => cases q with
                      | zero => simp [ic] at hu; subst hu; rfl
                      | succ q => simp [ic] at hu
                have IS := ((RowI.snoc IA IN).app (g := g9) G9.out (OR9.out.imp id (fun h => by rw [h]))).frm (FB (.slice (some ⟨g9, 0, none⟩) (css.length + 1) cap9)) (by simp)
                refine ⟨j + 1, acc ++ [(⟨op, x, aa, bb⟩ : InM)], css ++ [(#[Value.slice (some ⟨w8.heap.size, 0, none⟩) 4 4] : Array Value)], _, s8, z0, by omega, by go_num, by simp [HAL.out], (TA.grown G9.out (fun r hr => by have := HOB.out r hr; omega)).frm (FB _) (by simpa using hne), M9.out.set5 _, ((F8.out.trans (FA.mono (by intro k _ hk; simp at hk; simp [hk]))).grown G9.out (fun r hr => .inr (HOB.out r hr))).trans ((FB _).mono (by intro k _ hk; simp at hk; simp [hk])), O9'.frm (FB _) (by simp; omega), IS, ?_⟩
                exact HR2.out z0 (by rw [HV.out]; rfl)
          · have HV : Hid (fineB nr nt j ⟨op, x, aa, bb⟩ = (q1 && p1 && z1)) := by show _ = _; rw [HF2.out, if_neg (by omega), if_pos h0]
            clear HF2
            have hb0 : ((op : Int) == 0) = false := by rw [beq_eq_false_iff_ne]; omega
            have hb1 : ((op : Int) == 1) = true := by rw [beq_iff_eq]; omega
            clear h0
            cases q1
            · cases ok8
              · go_wp2_with (first | (at_builtin; refine wp_appG _ rfl _ _ 65 70 (.slice none 0 0) 1 24 infoSl Try.underlying65 rfl (by decide) rfl w.heap.size (.slice a css.length c) (lst css) (w8.heap.size + 1) [.slice (some ⟨w8.heap.size, 0, none⟩) 4 4] rfl (O8.out.frm (S := [b]) (((((Frm.refl [b] w8).setCell (p := ⟨b, 1, none⟩) (.inl (by simp)) _).alloc _).alloc _)) (by simp; omega)) rfl rfl (hnc _ _ _ rfl (by simp)) (by intro u hu; simp only [List.mem_singleton] at hu; subst hu; rfl) (by rw [HTC.out]; omega) (by rw [HTC.out]; omega) (by simp; omega) ?_; intro g9 cap9 w9 hs9 hg9 hor9 hlt9; rw [HTC.out] at hs9 ⊢; have O9 := hide hs9; have G9 := hide hg9; have OR9 := hide hor9; have M9 := hide ((M8.out.frm (S := [b]) (((((Frm.refl [b] w8).setCell (p := ⟨b, 1, none⟩) (.inl (by simp)) _).alloc _).alloc _)) (by simp; exact fun e => hne e.symm)).grown hg9 (fun r hr => by have := HOB.out r hr; omega)); have c9 := M9.out.c5; have z9 := M9.out.fz 5; clear hs9 hg9 hor9))
                go_roundg (gk - 1)
                case measure => omega
                case rel =>
                  have FA : Frm [b] w8 (((w8.setCell ⟨b, 1, none⟩ (.bool false)).alloc (Obj.cells #[.int .i64 (op : Nat), .int .i64 (x : Nat), .int .i64 (aa : Nat), .int .i64 (bb : Nat)] 3)).alloc (Obj.cells #[.slice (some ⟨w8.heap.size, 0, none⟩) 4 4] 70)) := ((((Frm.refl [b] w8).setCell (p := ⟨b, 1, none⟩) (.inl (by simp)) _).alloc _).alloc _)
                  have FB : ∀ u, Frm [mb] w9 (w9.setCell ⟨mb, 5, none⟩ u) := fun u => (Frm.refl [mb] w9).setCell (p := ⟨mb, 5, none⟩) (.inl (by simp)) u
                  have O9' := O9.out
                  rw [show ([.slice (some ⟨w8.heap.size, 0, none⟩) 4 4] : List Value) = (#[.slice (some ⟨w8.heap.size, 0, none⟩) 4 4] : Array Value).toList from rfl, lst_snoc] at O9'
                  have TA : TK (((w8.setCell ⟨b, 1, none⟩ (.bool false)).alloc (Obj.cells #[.int .i64 (op : Nat), .int .i64 (x : Nat), .int .i64 (aa : Nat), .int .i64 (bb : Nat)] 3)).alloc (Obj.cells #[.slice (some ⟨w8.heap.size, 0, none⟩) 4 4] 70)) b s8 false := (((T8.out.set1 false).frm (S := []) ((Frm.refl [] _).alloc _) (by simp)).frm (S := []) ((Frm.refl [] _).alloc _) (by simp))
                  have IA := I8.out.frm FA (by simp)
                  have hgn : (((w8.setCell ⟨b, 1, none⟩ (.bool false)).alloc (Obj.cells #[.int .i64 (op : Nat), .int .i64 (x : Nat), .int .i64 (aa : Nat), .int .i64 (bb : Nat)] 3)).alloc (Obj.cells #[.slice (some ⟨w8.heap.size, 0, none⟩) 4 4] 70)).heap[w8.heap.size]? = some (Obj.cells #[.int .i64 (op : Nat), .int .i64 (x : Nat), .int .i64 (aa : Nat), .int .i64 (bb : Nat)] 3) := by
                    have h1 := heap1 (w8.setCell ⟨b, 1, none⟩ (.bool false)) (Obj.cells #[.int .i64 (op : Nat), .int .i64 (x : Nat), .int .i64 (aa : Nat), .int .i64 (bb : Nat)] 3)
                    rw [show (w8.setCell ⟨b, 1, none⟩ (.bool false)).heap.size = w8.heap.size by simp] at h1
                    exact (((Frm.refl [] _).alloc _).block w8.heap.size (by simp) (by simp)).trans h1
                  have IN : insI.rel ((b :: mb :: A) ++ (Value.ownBlock (.slice a css.length c)).toList) (((w8.setCell ⟨b, 1, none⟩ (.bool false)).alloc (Obj.cells #[.int .i64 (op : Nat), .int .i64 (x : Nat), .int .i64 (aa : Nat), .int .i64 (bb : Nat)] 3)).alloc (Obj.cells #[.slice (some ⟨w8.heap.size, 0, none⟩) 4 4] 70)) #[.slice (some ⟨w8.heap.size, 0, none⟩) 4 4] ⟨op, x, aa, bb⟩ := by
                    refine ⟨_, rfl, some ⟨w8.heap.size, 0, none⟩, 4, rfl, by simp [ic], fun i hi => ⟨w8.heap.size, 0, rfl, ?_, by simp; omega, ?_⟩⟩
                    · intro hm
                      simp at hm
                      rcases hm with hm | hm | hm | hm
                      · omega
                      · omega
                      · have := HA.out _ hm; omega
                      · have := (O8.out.lt hm).2; omega
                    · intro q u hu
                      have hi4 : i < 4 := by simpa [ic] using hi
                      simp only [World.cell?, hgn]
                      match i, hi4 with
                      | 0, _ => cases q with
                        | zero => simp [ic] at hu; subst hu; rfl
                        | succ q => simp [ic] at hu
                      | 1, _ => cases q with
                        | zero => simp [ic] at hu; subst hu; rfl
                        | succ q => simp [ic] at hu
                      | 2, _ => cases q with
                        | zero => simp [ic] at hu; subst hu; rfl
                        | succ q => simp [ic] at hu
                      | 3, _ => cases q with
                        | zero => simp [ic] at hu; subst hu; rfl
                        | succ q => simp [ic] at hu
                  have IS := ((RowI.snoc IA IN).app (g := g9) G9.out (OR9.out.imp id (fun h => by rw [h]))).frm (FB (.slice (some ⟨g9, 0, none⟩) (css.length + 1) cap9)) (by simp)
                  refine ⟨j + 1, acc ++ [(⟨op, x, aa, bb⟩ : InM)], css ++ [(#[Value.slice (some ⟨w8.heap.size, 0, none⟩) 4 4] : Array Value)], _, s8, false, by omega, by go_num, by simp [HAL.out], (TA.grown G9.out (fun r hr => by have := HOB.out r hr; omega)).frm (FB _) (by simpa using hne), M9.out.set5 _, ((F8.out.trans (FA.mono (by intro k _ hk; simp at hk; simp [hk]))).grown G9.out (fun r hr => .inr (HOB.out r hr))).trans ((FB _).mono (by intro k _ hk; simp at hk; simp [hk])), O9'.frm (FB _) (by simp; omega), IS, ?_⟩
                  exact HR2.out false (by rfl)
              · go_wp2_with (first | (at_builtin; refine wp_appG _ rfl _ _ 65 70 (.slice none 0 0) 1 24 infoSl Try.underlying65 rfl (by decide) rfl w.heap.size (.slice a css.length c) (lst css) (w8.heap.size + 1) [.slice (some ⟨w8.heap.size, 0, none⟩) 4 4] rfl (O8.out.frm (S := [b]) (((((Frm.refl [b] w8).setCell (p := ⟨b, 1, none⟩) (.inl (by simp)) _).alloc _).alloc _)) (by simp; omega)) rfl rfl (hnc _ _ _ rfl (by simp)) (by intro u hu; simp only [List.mem_singleton] at hu; subst hu; rfl) (by rw [HTC.out]; omega) (by rw [HTC.out]; omega) (by simp; omega) ?_; intro g9 cap9 w9 hs9 hg9 hor9 hlt9; rw [HTC.out] at hs9 ⊢; have O9 := hide hs9; have G9 := hide hg9; have OR9 := hide hor9; have M9 := hide ((M8.out.frm (S := [b]) (((((Frm.refl [b] w8).setCell (p := ⟨b, 1, none⟩) (.inl (by simp)) _).alloc _).alloc _)) (by simp; exact fun e => hne e.symm)).grown hg9 (fun r hr => by have := HOB.out r hr; omega)); have c9 := M9.out.c5; have z9 := M9.out.fz 5; clear hs9 hg9 hor9))
                go_roundg (gk - 1)
                case measure => omega
                case rel =>
                  have FA : Frm [b] w8 (((w8.setCell ⟨b, 1, none⟩ (.bool false)).alloc (Obj.cells #[.int .i64 (op : Nat), .int .i64 (x : Nat), .int .i64 (aa : Nat), .int .i64 (bb : Nat)] 3)).alloc (Obj.cells #[.slice (some ⟨w8.heap.size, 0, none⟩) 4 4] 70)) := ((((Frm.refl [b] w8).setCell (p := ⟨b, 1, none⟩) (.inl (by simp)) _).alloc _).alloc _)
                  have FB : ∀ u, Frm [mb] w9 (w9.setCell ⟨mb, 5, none⟩ u) := fun u => (Frm.refl [mb] w9).setCell (p := ⟨mb, 5, none⟩) (.inl (by simp)) u
                  have O9' := O9.out
                  rw [show ([.slice (some ⟨w8.heap.size, 0, none⟩) 4 4] : List Value) = (#[.slice (some ⟨w8.heap.size, 0, none⟩) 4 4] : Array Value).toList from rfl, lst_snoc] at O9'
                  have TA : TK (((w8.setCell ⟨b, 1, none⟩ (.bool false)).alloc (Obj.cells #[.int .i64 (op : Nat), .int .i64 (x : Nat), .int .i64 (aa : Nat), .int .i64 (bb : Nat)] 3)).alloc (Obj.cells #[.slice (some ⟨w8.heap.size, 0, none⟩) 4 4] 70)) b s8 false := (((T8.out.set1 false).frm (S := []) ((Frm.refl [] _).alloc _) (by simp)).frm (S := []) ((Frm.refl [] _).alloc _) (by simp))
                  have IA := I8.out.frm FA (by simp)
                  have hgn : (((w8.setCell ⟨b, 1, none⟩ (.bool false)).alloc (Obj.cells #[.int .i64 (op : Nat), .int .i64 (x : Nat), .int .i64 (aa : Nat), .int .i64 (bb : Nat)] 3)).alloc (Obj.cells #[.slice (some ⟨w8.heap.size, 0, none⟩) 4 4] 70)).heap[w8.heap.size]? = some (Obj.cells #[.int .i64 (op : Nat), .int .i64 (x : Nat), .int .i64 (aa : Nat), .int .i64 (bb : Nat)] 3) := by
                    have h1 := heap1 (w8.setCell ⟨b, 1, none⟩ (.bool false)) (Obj.cells #[.int .i64 (op : Nat), .int .i64 (x : Nat), .int .i64 (aa : Nat), .int .i64 (bb : Nat)] 3)
                    rw [show (w8.setCell ⟨b, 1, none⟩ (.bool false)).heap.size = w8.heap.size by simp] at h1
                    exact (((Frm.refl [] _).alloc _).block w8.heap.size (by simp) (by simp)).trans h1
                  have IN : insI.rel ((b :: mb :: A) ++ (Value.ownBlock (.slice a css.length c)).toList) (((w8.setCell ⟨b, 1, none⟩ (.bool false)).alloc (Obj.cells #[.int .i64 (op : Nat), .int .i64 (x : Nat), .int .i64 (aa : Nat), .int .i64 (bb : Nat)] 3)).alloc (Obj.cells #[.slice (some ⟨w8.heap.size, 0, none⟩) 4 4] 70)) #[.slice (some ⟨w8.heap.size, 0, none⟩) 4 4] ⟨op, x, aa, bb⟩ := by
                    refine ⟨_, rfl, some ⟨w8.heap.size, 0, none⟩, 4, rfl, by simp [ic], fun i hi => ⟨w8.heap.size, 0, rfl, ?_, by simp; omega, ?_⟩⟩
                    · intro hm
                      simp at hm
                      rcases hm with hm | hm | hm | hm
                      · omega
                      · omega
                      · have := HA.out _ hm; omega
                      · have := (O8.out.lt hm).2; omega
                    · intro q u hu
                      have hi4 : i < 4 := by simpa [ic] using hi
                      simp only [World.cell?, hgn]
                      match i, hi4 with
                      | 0, _ => cases q with
                        | zero => simp [ic] at hu; subst hu; rfl
                        | succ q => simp [ic] at hu
                      | 1, _ => cases q with
                        | zero => simp [ic] at hu; subst hu; rfl
                        | succ q => simp [ic] at hu
                      | 2, _ => cases q with
                        | zero => simp [ic] at hu; subst hu; rfl
                        | succ q => simp [ic] at hu
                      | 3, _ => cases q with
                        | zero => simp [ic] at hu; subst hu; rfl
                        | succ q => simp [ic] at hu
                  have IS := ((RowI.snoc IA IN).app (g := g9) G9.out (OR9.out.imp id (fun h => by rw [h]))).frm (FB (.slice (some ⟨g9, 0, none⟩) (css.length + 1) cap9)) (by simp)
                  refine ⟨j + 1, acc ++ [(⟨op, x, aa, bb⟩ : InM)], css ++ [(#[Value.slice (some ⟨w8.heap.size, 0, none⟩) 4 4] : Array Value)], _, s8, false, by omega, by go_num, by simp [HAL.out], (TA.grown G9.out (fun r hr => by have := HOB.out r hr; omega)).frm (FB _) (by simpa using hne), M9.out.set5 _, ((F8.out.trans (FA.mono (by intro k _ hk; simp at hk; simp [hk]))).grown G9.out (fun r hr => .inr (HOB.out r hr))).trans ((FB _).mono (by intro k _ hk; simp at hk; simp [hk])), O9'.frm (FB _) (by simp; omega), IS, ?_⟩
                  exact HR2.out false (by rw [HV.out]; rfl)
            · cases p1
              · cases ok8
                · go_wp2_with (first | (at_builtin; refine wp_appG _ rfl _ _ 65 70 (.slice none 0 0) 1 24 infoSl Try.underlying65 rfl (by decide) rfl w.heap.size (.slice a css.length c) (lst css) (w8.heap.size + 1) [.slice (some ⟨w8.heap.size, 0, none⟩) 4 4] rfl (O8.out.frm (S := [b]) (((((Frm.refl [b] w8).setCell (p := ⟨b, 1, none⟩) (.inl (by simp)) _).alloc _).alloc _)) (by simp; omega)) rfl rfl (hnc _ _ _ rfl (by simp)) (by intro u hu; simp only [List.mem_singleton] at hu; subst hu; rfl) (by rw [HTC.out]; omega) (by rw [HTC.out]; omega) (by simp; omega) ?_; intro g9 cap9 w9 hs9 hg9 hor9 hlt9; rw [HTC.out] at hs9 ⊢; have O9 := hide hs9; have G9 := hide hg9; have OR9 := hide hor9; have M9 := hide ((M8.out.frm (S := [b]) (((((Frm.refl [b] w8).setCell (p := ⟨b, 1, none⟩) (.inl (by simp)) _).alloc _).alloc _)) (by simp; exact fun e => hne e.symm)).grown hg9 (fun r hr => by have := HOB.out r hr; omega)); have c9 := M9.out.c5; have z9 := M9.out.fz 5; clear hs9 hg9 hor9))
                  go_roundg (gk - 1)
                  case measure => omega
                  case rel =>
                    have FA : Frm [b] w8 (((w8.setCell ⟨b, 1, none⟩ (.bool false)).alloc (Obj.cells #[.int .i64 (op : Nat), .int .i64 (x : Nat), .int .i64 (aa : Nat), .int .i64 (bb : Nat)] 3)).alloc (Obj.cells #[.slice (some ⟨w8.heap.size, 0, none⟩) 4 4] 70)) := ((((Frm.refl [b] w8).setCell (p := ⟨b, 1, none⟩) (.inl (by simp)) _).alloc _).alloc _)
                    have FB : ∀ u, Frm [mb] w9 (w9.setCell ⟨mb, 5, none⟩ u) := fun u => (Frm.refl [mb] w9).setCell (p := ⟨mb, 5, none⟩) (.inl (by simp)) u
                    have O9' := O9.out
                    rw [show ([.slice (some ⟨w8.heap.size, 0, none⟩) 4 4] : List Value) = (#[.slice (some ⟨w8.heap.size, 0, none⟩) 4 4] : Array Value).toList from rfl, lst_snoc] at O9'
                    have TA : TK (((w8.setCell ⟨b, 1, none⟩ (.bool false)).alloc (Obj.cells #[.int .i64 (op : Nat), .int .i64 (x : Nat), .int .i64 (aa : Nat), .int .i64 (bb : Nat)] 3)).alloc (Obj.cells #[.slice (some ⟨w8.heap.size, 0, none⟩) 4 4] 70)) b s8 false := (((T8.out.set1 false).frm (S := []) ((Frm.refl [] _).alloc _) (by simp)).frm (S := []) ((Frm.refl [] _).alloc _) (by simp))
                    have IA := I8.out.frm FA (by simp)
                    have hgn : (((w8.setCell ⟨b, 1, none⟩ (.bool false)).alloc (Obj.cells #[.int .i64 (op : Nat), .int .i64 (x : Nat), .int .i64 (aa : Nat), .int .i64 (bb : Nat)] 3)).alloc (Obj.cells #[.slice (some ⟨w8.heap.size, 0, none⟩) 4 4] 70)).heap[w8.heap.size]? = some (Obj.cells #[.int .i64 (op : Nat), .int .i64 (x : Nat), .int .i64 (aa : Nat), .int .i64 (bb : Nat)] 3) := by
                      have h1 := heap1 (w8.setCell ⟨b, 1, none⟩ (.bool false)) (Obj.cells #[.int .i64 (op : Nat), .int .i64 (x : Nat), .int .i64 (aa : Nat), .int .i64 (bb : Nat)] 3)
                      rw [show (w8.setCell ⟨b, 1, none⟩ (.bool false)).heap.size = w8.heap.size by simp] at h1
                      exact (((Frm.refl [] _).alloc _).block w8.heap.size (by simp) (by simp)).trans h1
                    have IN : insI.rel ((b :: mb :: A) ++ (Value.ownBlock (.slice a css.length c)).toList) (((w8.setCell ⟨b, 1, none⟩ (.bool false)).alloc (Obj.cells #[.int .i64 (op : Nat), .int .i64 (x : Nat), .int .i64 (aa : Nat), .int .i64 (bb : Nat)] 3)).alloc (Obj.cells #[.slice (some ⟨w8.heap.size, 0, none⟩) 4 4] 70)) #[.slice (some ⟨w8.heap.size, 0, none⟩) 4 4] ⟨op, x, aa, bb⟩ := by
                      refine ⟨_, rfl, some ⟨w8.heap.size, 0, none⟩, 4, rfl, by simp [ic], fun i hi => ⟨w8.heap.size, 0, rfl, ?_, by simp; omega, ?_⟩⟩
                      · intro hm
                        simp at hm
                        rcases hm with hm | hm | hm | hm
                        · omega
                        · omega
                        · have := HA.out _ hm; omega
                        · have := (O8.out.lt hm).2; omega
                      · intro q u hu
                        have hi4 : i < 4 := by simpa [ic] using hi
                        simp only [World.cell?, hgn]
                        match i, hi4 with
                        | 0, _ => cases q with
                          | zero => simp [ic] at hu; subst hu; rfl
                          | succ q => simp [ic] at hu
                        | 1, _ => cases q with
                          | zero => simp [ic] at hu; subst hu; rfl
                          | succ q => simp [ic] at hu
                        | 2, _ => cases q with
                          | zero => simp [ic] at hu; subst hu; rfl
                          | succ q => simp [ic] at hu
                        | 3, _ => cases q with
                          | zero => simp [ic] at hu; subst hu; rfl
                          | succ q => simp [ic] at hu
                    have IS := ((RowI.snoc IA IN).app (g := g9) G9.out (OR9.out.imp id (fun h => by rw [h]))).frm (FB (.slice (some ⟨g9, 0, none⟩) (css.length + 1) cap9)) (by simp)
                    refine ⟨j + 1, acc ++ [(⟨op, x, aa, bb⟩ : InM)], css ++ [(#[Value.slice (some ⟨w8.heap.size, 0, none⟩) 4 4] : Array Value)], _, s8, false, by omega, by go_num, by simp [HAL.out], (TA.grown G9.out (fun r hr => by have := HOB.out r hr; omega)).frm (FB _) (by simpa using hne), M9.out.set5 _, ((F8.out.trans (FA.mono (by intro k _ hk; simp at hk; simp [hk]))).grown G9.out (fun r hr => .inr (HOB.out r hr))).trans ((FB _).mono (by intro k _ hk; simp at hk; simp [hk])), O9'.frm (FB _) (by simp; omega), IS, ?_⟩
                    exact HR2.out false (by rfl)
                · go_wp2_with (first | (at_builtin; refine wp_appG _ rfl _ _ 65 70 (.slice none 0 0) 1 24 infoSl Try.underlying65 rfl (by decide) rfl w.heap.size (.slice a css.length c) (lst css) (w8.heap.size + 1) [.slice (some ⟨w8.heap.size, 0, none⟩) 4 4] rfl (O8.out.frm (S := [b]) (((((Frm.refl [b] w8).setCell (p := ⟨b, 1, none⟩) (.inl (by simp)) _).alloc _).alloc _)) (by simp; omega)) rfl rfl (hnc _ _ _ rfl (by simp)) (by intro u hu; simp only [List.mem_singleton] at hu; subst hu; rfl) (by rw [HTC.out]; omega) (by rw [HTC.out]; omega) (by simp; omega) ?_; intro g9 cap9 w9 hs9 hg9 hor9 hlt9; rw [HTC.out] at hs9 ⊢; have O9 := hide hs9; have G9 := hide hg9; have OR9 := hide hor9; have M9 := hide ((M8.out.frm (S := [b]) (((((Frm.refl [b] w8).setCell (p := ⟨b, 1, none⟩) (.inl (by simp)) _).alloc _).alloc _)) (by simp; exact fun e => hne e.symm)).grown hg9 (fun r hr => by have := HOB.out r hr; omega)); have c9 := M9.out.c5; have z9 := M9.out.fz 5; clear hs9 hg9 hor9))
                  go_roundg (gk - 1)
                  case measure => omega
                  case rel =>
                    have FA : Frm [b] w8 (((w8.setCell ⟨b, 1, none⟩ (.bool false)).alloc (Obj.cells #[.int .i64 (op : Nat), .int .i64 (x : Nat), .int .i64 (aa : Nat), .int .i64 (bb : Nat)] 3)).alloc (Obj.cells #[.slice (some ⟨w8.heap.size, 0, none⟩) 4 4] 70)) := ((((Frm.refl [b] w8).setCell (p := ⟨b, 1, none⟩) (.inl (by simp)) _).alloc _).alloc _)
                    have FB : ∀ u, Frm [mb] w9 (w9.setCell ⟨mb, 5, none⟩ u) := fun u => (Frm.refl [mb] w9).setCell (p := ⟨mb, 5, none⟩) (.inl (by simp)) u
                    have O9' := O9.out
                    rw [show ([.slice (some ⟨w8.heap.size, 0, none⟩) 4 4] : List Value) = (#[.slice (some ⟨w8.heap.size, 0, none⟩) 4 4] : Array Value).toList from rfl, lst_snoc] at O9'
                    have TA : TK (((w8.setCell ⟨b, 1, none⟩ (.bool false)).alloc (Obj.cells #[.int .i64 (op : Nat), .int .i64 (x : Nat), .int .i64 (aa : Nat), .int .i64 (bb : Nat)] 3)).alloc (Obj.cells #[.slice (some ⟨w8.heap.size, 0, none⟩) 4 4] 70)) b s8 false := (((T8.out.set1 false).frm (S := []) ((Frm.refl [] _).alloc _) (by simp)).frm (S := []) ((Frm.refl [] _).alloc _) (by simp))
                    have IA := I8.out.frm FA (by simp)
                    have hgn : (((w8.setCell ⟨b, 1, none⟩ (.bool false)).alloc (Obj.cells #[.int .i64 (op : Nat), .int .i64 (x : Nat), .int .i64 (aa : Nat), .int .i64 (bb : Nat)] 3)).alloc (Obj.cells #[.slice (some ⟨w8.heap.size, 0, none⟩) 4 4] 70)).heap[w8.heap.size]? = some (Obj.cells #[.int .i64 (op : Nat), .int .i64 (x : Nat), .int .i64 (aa : Nat), .int .i64 (bb : Nat)] 3) := by
                      have h1 := heap1 (w8.setCell ⟨b, 1, none⟩ (.bool false)) (Obj.cells #[.int .i64 (op : Nat), .int .i64 (x : Nat), .int .i64 (aa : Nat), .int .i64 (bb : Nat)] 3)
                      rw [show (w8.setCell ⟨b, 1, none⟩ (.bool false)).heap.size = w8.heap.size by simp] at h1
                      exact (((Frm.refl [] _).alloc _).block w8.heap.size (by simp) (by simp)).trans h1
                    have IN : insI.rel ((b :: mb :: A) ++ (Value.ownBlock (.slice a css.length c)).toList) (((w8.setCell ⟨b, 1, none⟩ (.bool false)).alloc (Obj.cells #[.int .i64 (op : Nat), .int .i64 (x : Nat), .int .i64 (aa : Nat), .int .i64 (bb : Nat)] 3)).alloc (Obj.cells #[.slice (some ⟨w8.heap.size, 0, none⟩) 4 4] 70)) #[.slice (some ⟨w8.heap.size, 0, none⟩) 4 4] ⟨op, x, aa, bb⟩ := by
                      refine ⟨_, rfl, some ⟨w8.heap.size, 0, none⟩, 4, rfl, by simp [ic], fun i hi => ⟨w8.heap.size, 0, rfl, ?_, by simp; omega, ?_⟩⟩
                      · intro hm
                        simp at hm
                        rcases hm with hm | hm | hm | hm
                        · omega
                        · omega
                        · have := HA.out _ hm; omega
                        · have := (O8.out.lt hm).2; omega
                      · intro q u hu
                        have hi4 : i < 4 := by simpa [ic] using hi
                        simp only [World.cell?, hgn]
                        match i, hi4 with
                        | 0, _ => cases q with
                          | zero => simp [ic] at hu; subst hu; rfl
                          | succ q => simp [ic] at hu
                        | 1, _ => cases q with
                          | zero => simp [ic] at hu; subst hu; rfl
                          | succ q => simp [ic] at hu
                        | 2, _ => cases q with
                          | zero => simp [ic] at hu; subst hu; rfl
                          | succ q => simp [ic] at hu
                        | 3, _ => cases q with
                          | zero => simp [ic] at hu; subst hu; rfl
                          | succ q => simp [ic] at hu
                    have IS := ((RowI.snoc IA IN).app (g := g9) G9.out (OR9.out.imp id (fun h => by rw [h]))).frm (FB (.slice (some ⟨g9, 0, none⟩) (css.length + 1) cap9)) (by simp)
                    refine ⟨j + 1, acc ++ [(⟨op, x, aa, bb⟩ : InM)], css ++ [(#[Value.slice (some ⟨w8.heap.size, 0, none⟩) 4 4] : Array Value)], _, s8, false, by omega, by go_num, by simp [HAL.out], (TA.grown G9.out (fun r hr => by have := HOB.out r hr; omega)).frm (FB _) (by simpa using hne), M9.out.set5 _, ((F8.out.trans (FA.mono (by intro k _ hk; simp at hk; simp [hk]))).grown G9.out (fun r hr => .inr (HOB.out r hr))).trans ((FB _).mono (by intro k _ hk; simp at hk; simp [hk])), O9'.frm (FB _) (by simp; omega), IS, ?_⟩
                    exact HR2.out false (by rw [HV.out]; rfl)
              · cases ok8
                · go_wp2_with (first | (at_builtin; refine wp_appG _ rfl _ _ 65 70 (.slice none 0 0) 1 24 infoSl Try.underlying65 rfl (by decide) rfl w.heap.size (.slice a css.length c) (lst css) (w8.heap.size + 1) [.slice (some ⟨w8.heap.size, 0, none⟩) 4 4] rfl (O8.out.frm (S := [b]) (((((Frm.refl [b] w8).setCell (p := ⟨b, 1, none⟩) (.inl (by simp)) _).alloc _).alloc _)) (by simp; omega)) rfl rfl (hnc _ _ _ rfl (by simp)) (by intro u hu; simp only [List.mem_singleton] at hu; subst hu; rfl) (by rw [HTC.out]; omega) (by rw [HTC.out]; omega) (by simp; omega) ?_; intro g9 cap9 w9 hs9 hg9 hor9 hlt9; rw [HTC.out] at hs9 ⊢; have O9 := hide hs9; have G9 := hide hg9; have OR9 := hide hor9; have M9 := hide ((M8.out.frm (S := [b]) (((((Frm.refl [b] w8).setCell (p := ⟨b, 1, none⟩) (.inl (by simp)) _).alloc _).alloc _)) (by simp; exact fun e => hne e.symm)).grown hg9 (fun r hr => by have := HOB.out r hr; omega)); have c9 := M9.out.c5; have z9 := M9.out.fz 5; clear hs9 hg9 hor9))
                  go_roundg (gk - 1)
                  case measure => omega
                  case rel =>
                    have FA : Frm [b] w8 (((w8.setCell ⟨b, 1, none⟩ (.bool false)).alloc (Obj.cells #[.int .i64 (op : Nat), .int .i64 (x : Nat), .int .i64 (aa : Nat), .int .i64 (bb : Nat)] 3)).alloc (Obj.cells #[.slice (some ⟨w8.heap.size, 0, none⟩) 4 4] 70)) := ((((Frm.refl [b] w8).setCell (p := ⟨b, 1, none⟩) (.inl (by simp)) _).alloc _).alloc _)
                    have FB : ∀ u, Frm [mb] w9 (w9.setCell ⟨mb, 5, none⟩ u) := fun u => (Frm.refl [mb] w9).setCell (p := ⟨mb, 5, none⟩) (.inl (by simp)) u
                    have O9' := O9.out
                    rw [show ([.slice (some ⟨w8.heap.size, 0, none⟩) 4 4] : List Value) = (#[.slice (some ⟨w8.heap.size, 0, none⟩) 4 4] : Array Value).toList from rfl, lst_snoc] at O9'
                    have TA : TK (((w8.setCell ⟨b, 1, none⟩ (.bool false)).alloc (Obj.cells #[.int .i64 (op : Nat), .int .i64 (x : Nat), .int .i64 (aa : Nat), .int .i64 (bb : Nat)] 3)).alloc (Obj.cells #[.slice (some ⟨w8.heap.size, 0, none⟩) 4 4] 70)) b s8 false := (((T8.out.set1 false).frm (S := []) ((Frm.refl [] _).alloc _) (by simp)).frm (S := []) ((Frm.refl [] _).alloc _) (by simp))
                    have IA := I8.out.frm FA (by simp)
                    have hgn : (((w8.setCell ⟨b, 1, none⟩ (.bool false)).alloc (Obj.cells #[.int .i64 (op : Nat), .int .i64 (x : Nat), .int .i64 (aa : Nat), .int .i64 (bb : Nat)] 3)).alloc (Obj.cells #[.slice (some ⟨w8.heap.size, 0, none⟩) 4 4] 70)).heap[w8.heap.size]? = some (Obj.cells #[.int .i64 (op : Nat), .int .i64 (x : Nat), .int .i64 (aa : Nat), .int .i64 (bb : Nat)] 3) := by
                      have h1 := heap1 (w8.setCell ⟨b, 1, none⟩ (.bool false)) (Obj.cells #[.int .i64 (op : Nat), .int .i64 (x : Nat), .int .i64 (aa : Nat), .int .i64 (bb : Nat)] 3)
                      rw [show (w8.setCell ⟨b, 1, none⟩ (.bool false)).heap.size = w8.heap.size by simp] at h1
                      exact (((Frm.refl [] _).alloc _).block w8.heap.size (by simp) (by simp)).trans h1
                    have IN : insI.rel ((b :: mb :: A) ++ (Value.ownBlock (.slice a css.length c)).toList) (((w8.setCell ⟨b, 1, none⟩ (.bool false)).alloc (Obj.cells #[.int .i64 (op : Nat), .int .i64 (x : Nat), .int .i64 (aa : Nat), .int .i64 (bb : Nat)] 3)).alloc (Obj.cells #[.slice (some ⟨w8.heap.size, 0, none⟩) 4 4] 70)) #[.slice (some ⟨w8.heap.size, 0, none⟩) 4 4] ⟨op, x, aa, bb⟩ := by
                      refine ⟨_, rfl, some ⟨w8.heap.size, 0, none⟩, 4, rfl, by simp [ic], fun i hi => ⟨w8.heap.size, 0, rfl, ?_, by simp; omega, ?_⟩⟩
                      · intro hm
                        simp at hm
                        rcases hm with hm | hm | hm | hm
                        · omega
                        · omega
                        · have := HA.out _ hm; omega
                        · have := (O8.out.lt hm).2; omega
                      · intro q u hu
                        have hi4 : i < 4 := by simpa [ic] using hi
                        simp only [World.cell?, hgn]
                        match i, hi4 with
                        | 0, _ => cases q with
                          | zero => simp [ic] at hu; subst hu; rfl
                          | succ q => simp [ic] at hu
                        | 1, _ => cases q with
                          | zero => simp [ic] at hu; subst hu; rfl
                          | succ q => simp [ic] at hu
                        | 2, _ => cases q with
                          | zero => simp [ic] at hu; subst hu; rfl
                          | succ q => simp [ic] at hu
                        | 3, _ => cases q with
                          | zero => simp [ic] at hu; subst hu; rfl
                          | succ q => simp [ic] at hu
                    have IS := ((RowI.snoc IA IN).app (g := g9) G9.out (OR9.out.imp id (fun h => by rw [h]))).frm (FB (.slice (some ⟨g9, 0, none⟩) (css.length + 1) cap9)) (by simp)
                    refine ⟨j + 1, acc ++ [(⟨op, x, aa, bb⟩ : InM)], css ++ [(#[Value.slice (some ⟨w8.heap.size, 0, none⟩) 4 4] : Array Value)], _, s8, false, by omega, by go_num, by simp [HAL.out], (TA.grown G9.out (fun r hr => by have := HOB.out r hr; omega)).frm (FB _) (by simpa using hne), M9.out.set5 _, ((F8.out.trans (FA.mono (by intro k _ hk; simp at hk; simp [hk]))).grown G9.out (fun r hr => .inr (HOB.out r hr))).trans ((FB _).mono (by intro k _ hk; simp at hk; simp [hk])), O9'.frm (FB _) (by simp; omega), IS, ?_⟩
                    exact HR2.out false (by rfl)
                · go_wp2_with (first | (at_builtin; refine wp_appG _ rfl _ _ 65 70 (.slice none 0 0) 1 24 infoSl Try.underlying65 rfl (by decide) rfl w.heap.size (.slice a css.length c) (lst css) (w8.heap.size + 1) [.slice (some ⟨w8.heap.size, 0, none⟩) 4 4] rfl (O8.out.frm (S := [b]) (((((Frm.refl [b] w8).setCell (p := ⟨b, 1, none⟩) (.inl (by simp)) _).alloc _).alloc _)) (by simp; omega)) rfl rfl (hnc _ _ _ rfl (by simp)) (by intro u hu; simp only [List.mem_singleton] at hu; subst hu; rfl) (by rw [HTC.out]; omega) (by rw [HTC.out]; omega) (by simp; omega) ?_; intro g9 cap9 w9 hs9 hg9 hor9 hlt9; rw [HTC.out] at hs9 ⊢; have O9 := hide hs9; have G9 := hide hg9; have OR9 := hide hor9; have M9 := hide ((M8.out.frm (S := [b]) (((((Frm.refl [b] w8).setCell (p := ⟨b, 1, none⟩) (.inl (by simp)) _).alloc _).alloc _)) (by simp; exact fun e => hne e.symm)).grown hg9 (fun r hr => by have := HOB.out r hr; omega)); have c9 := M9.out.c5; have z9 := M9.out.fz 5; clear hs9 hg9 hor9))
                  go_roundg (gk - 1)
                  case measure => omega
                  case rel =>
                    have FA : Frm [b] w8 (((w8.setCell ⟨b, 1, none⟩ (.bool z1)).alloc (Obj.cells #[.int .i64 (op : Nat), .int .i64 (x : Nat), .int .i64 (aa : Nat), .int .i64 (bb : Nat)] 3)).alloc (Obj.cells #[.slice (some ⟨w8.heap.size, 0, none⟩) 4 4] 70)) := ((((Frm.refl [b] w8).setCell (p := ⟨b, 1, none⟩) (.inl (by simp)) _).alloc _).alloc _)
                    have FB : ∀ u, Frm [mb] w9 (w9.setCell ⟨mb, 5, none⟩ u) := fun u => (Frm.refl [mb] w9).setCell (p := ⟨mb, 5, none⟩) (.inl (by simp)) u
                    have O9' := O9.out
                    rw [show ([.slice (some ⟨w8.heap.size, 0, none⟩) 4 4] : List Value) = (#[.slice (some ⟨w8.heap.size, 0, none⟩) 4 4] : Array Value).toList from rfl, lst_snoc] at O9'
                    have TA : TK (((w8.setCell ⟨b, 1, none⟩ (.bool z1)).alloc (Obj.cells #[.int .i64 (op : Nat), .int .i64 (x : Nat), .int .i64 (aa : Nat), .int .i64 (bb : Nat)] 3)).alloc (Obj.cells #[.slice (some ⟨w8.heap.size, 0, none⟩) 4 4] 70)) b s8 z1 := (((T8.out.set1 z1).frm (S := []) ((Frm.refl [] _).alloc _) (by simp)).frm (S := []) ((Frm.refl [] _).alloc _) (by simp))
                    have IA := I8.out.frm FA (by simp)
                    have hgn : (((w8.setCell ⟨b, 1, none⟩ (.bool z1)).alloc (Obj.cells #[.int .i64 (op : Nat), .int .i64 (x : Nat), .int .i64 (aa : Nat), .int .i64 (bb : Nat)] 3)).alloc (Obj.cells #[.slice (some ⟨w8.heap.size, 0, none⟩) 4 4] 70)).heap[w8.heap.size]? = some (Obj.cells #[.int .i64 (op : Nat), .int .i64 (x : Nat), .int .i64 (aa : Nat), .int .i64 (bb : Nat)] 3) := by
                      have h1 := heap1 (w8.setCell ⟨b, 1, none⟩ (.bool z1)) (Obj.cells #[.int .i64 (op : Nat), .int .i64 (x : Nat), .int .i64 (aa : Nat), .int .i64 (bb : Nat)] 3)
                      rw [show (w8.setCell ⟨b, 1, none⟩ (.bool z1)).heap.size = w8.heap.size by simp] at h1
                      exact (((Frm.refl [] _).alloc _).block w8.heap.size (by simp) (by simp)).trans h1
                    have IN : insI.rel ((b :: mb :: A) ++ (Value.ownBlock (.slice a css.length c)).toList) (((w8.setCell ⟨b, 1, none⟩ (.bool z1)).alloc (Obj.cells #[.int .i64 (op : Nat), .int .i64 (x : Nat), .int .i64 (aa : Nat), .int .i64 (bb : Nat)] 3)).alloc (Obj.cells #[.slice (some ⟨w8.heap.size, 0, none⟩) 4 4] 70)) #[.slice (some ⟨w8.heap.size, 0, none⟩) 4 4] ⟨op, x, aa, bb⟩ := by
                      refine ⟨_, rfl, some ⟨w8.heap.size, 0, none⟩, 4, rfl, by simp [ic], fun i hi => ⟨w8.heap.size, 0, rfl, ?_, by simp; omega, ?_⟩⟩
                      · intro hm
                        simp at hm
                        rcases hm with hm | hm | hm | hm
                        · omega
                        · omega
                        · have := HA.out _ hm; omega
                        · have := (O8.out.lt hm).2; omega
                      · intro q u hu
                        have hi4 : i < 4 := by simpa [ic] using hi
                        simp only [World.cell?, hgn]
                        match i, hi4 with
                        | 0, _ => cases q with
                          | zero => simp [ic] at hu; subst hu; rfl
                          | succ q => simp [ic] at hu
                        | 1, _ => cases q with
                          | zero => simp [ic] at hu; subst hu; rfl
                          | succ q => simp [ic] at hu
                        | 2, _ => cases q with
                          | zero => simp [ic] at hu; subst hu; rfl
                          | succ q => simp [ic] at hu
                        | 3, _ => cases q with
                          | zero => simp [ic] at hu; subst hu; rfl
                          | succ q => simp [ic] at hu
                    have IS := ((RowI.snoc IA IN).app (g := g9) G9.out (OR9.out.imp id (fun h => by rw [h]))).frm (FB (.slice (some ⟨g9, 0, none⟩) (css.length + 1) cap9)) (by simp)
                    refine ⟨j + 1, acc ++ [(⟨op, x, aa, bb⟩ : InM)], css ++ [(#[Value.slice (some ⟨w8.heap.size, 0, none⟩) 4 4] : Array Value)], _, s8, z1, by omega, by go_num, by simp [HAL.out], (TA.grown G9.out (fun r hr => by have := HOB.out r hr; omega)).frm (FB _) (by simpa using hne), M9.out.set5 _, ((F8.out.trans (FA.mono (by intro k _ hk; simp at hk; simp [hk]))).grown G9.out (fun r hr => .inr (HOB.out r hr))).trans ((FB _).mono (by intro k _ hk; simp at hk; simp [hk])), O9'.frm (FB _) (by simp; omega), IS, ?_⟩
                    exact HR2.out z1 (by rw [HV.out]; rfl)
          · have HV : Hid (fineB nr nt j ⟨op, x, aa, bb⟩ = (q2 && p1 && p2)) := by show _ = _; rw [HF2.out, if_neg (by omega), if_neg (by omega), if_pos h0]
            clear HF2
            have hb0 : ((op : Int) == 0) = false := by rw [beq_eq_false_iff_ne]; omega
            have hb1 : ((op : Int) == 1) = false := by rw [beq_eq_false_iff_ne]; omega
            have hb2 : ((op : Int) == 2) = true := by rw [beq_iff_eq]; omega
            clear h0
            cases q2
            · cases ok8
              · go_wp2_with (first | (at_builtin; refine wp_appG _ rfl _ _ 65 70 (.slice none 0 0) 1 24 infoSl Try.underlying65 rfl (by decide) rfl w.heap.size (.slice a css.length c) (lst css) (w8.heap.size + 1) [.slice (some ⟨w8.heap.size, 0, none⟩) 4 4] rfl (O8.out.frm (S := [b]) (((((Frm.refl [b] w8).setCell (p := ⟨b, 1, none⟩) (.inl (by simp)) _).alloc _).alloc _)) (by simp; omega)) rfl rfl (hnc _ _ _ rfl (by simp)) (by intro u hu; simp only [List.mem_singleton] at hu; subst hu; rfl) (by rw [HTC.out]; omega) (by rw [HTC.out]; omega) (by simp; omega) ?_; intro g9 cap9 w9 hs9 hg9 hor9 hlt9; rw [HTC.out] at hs9 ⊢; have O9 := hide hs9; have G9 := hide hg9; have OR9 := hide hor9; have M9 := hide ((M8.out.frm (S := [b]) (((((Frm.refl [b] w8).setCell (p := ⟨b, 1, none⟩) (.inl (by simp)) _).alloc _).alloc _)) (by simp; exact fun e => hne e.symm)).grown hg9 (fun r hr => by have := HOB.out r hr; omega)); have c9 := M9.out.c5; have z9 := M9.out.fz 5; clear hs9 hg9 hor9))
                go_roundg (gk - 1)
                case measure => omega
                case rel =>
                  have FA : Frm [b] w8 (((w8.setCell ⟨b, 1, none⟩ (.bool false)).alloc (Obj.cells #[.int .i64 (op : Nat), .int .i64 (x : Nat), .int .i64 (aa : Nat), .int .i64 (bb : Nat)] 3)).alloc (Obj.cells #[.slice (some ⟨w8.heap.size, 0, none⟩) 4 4] 70)) := ((((Frm.refl [b] w8).setCell (p := ⟨b, 1, none⟩) (.inl (by simp)) _).alloc _).alloc _)
                  have FB : ∀ u, Frm [mb] w9 (w9.setCell ⟨mb, 5, none⟩ u) := fun u => (Frm.refl [mb] w9).setCell (p := ⟨mb, 5, none⟩) (.inl (by simp)) u
                  have O9' := O9.out
                  rw [show ([.slice (some ⟨w8.heap.size, 0, none⟩) 4 4] : List Value) = (#[.slice (some ⟨w8.heap.size, 0, none⟩) 4 4] : Array Value).toList from rfl, lst_snoc] at O9'
                  have TA : TK (((w8.setCell ⟨b, 1, none⟩ (.bool false)).alloc (Obj.cells #[.int .i64 (op : Nat), .int .i64 (x : Nat), .int .i64 (aa : Nat), .int .i64 (bb : Nat)] 3)).alloc (Obj.cells #[.slice (some ⟨w8.heap.size, 0, none⟩) 4 4] 70)) b s8 false := (((T8.out.set1 false).frm (S := []) ((Frm.refl [] _).alloc _) (by simp)).frm (S := []) ((Frm.refl [] _).alloc _) (by simp))
                  have IA := I8.out.frm FA (by simp)
                  have hgn : (((w8.setCell ⟨b, 1, none⟩ (.bool false)).alloc (Obj.cells #[.int .i64 (op : Nat), .int .i64 (x : Nat), .int .i64 (aa : Nat), .int .i64 (bb : Nat)] 3)).alloc (Obj.cells #[.slice (some ⟨w8.heap.size, 0, none⟩) 4 4] 70)).heap[w8.heap.size]? = some (Obj.cells #[.int .i64 (op : Nat), .int .i64 (x : Nat), .int .i64 (aa : Nat), .int .i64 (bb : Nat)] 3) := by
                    have h1 := heap1 (w8.setCell ⟨b, 1, none⟩ (.bool false)) (Obj.cells #[.int .i64 (op : Nat), .int .i64 (x : Nat), .int .i64 (aa : Nat), .int .i64 (bb : Nat)] 3)
                    rw [show (w8.setCell ⟨b, 1, none⟩ (.bool false)).heap.size = w8.heap.size by simp] at h1
                    exact (((Frm.refl [] _).alloc _).block w8.heap.size (by simp) (by simp)).trans h1
                  have IN : insI.rel ((b :: mb :: A) ++ (Value.ownBlock (.slice a css.length c)).toList) (((w8.setCell ⟨b, 1, none⟩ (.bool false)).alloc (Obj.cells #[.int .i64 (op : Nat), .int .i64 (x : Nat), .int .i64 (aa : Nat), .int .i64 (bb : Nat)] 3)).alloc (Obj.cells #[.slice (some ⟨w8.heap.size, 0, none⟩) 4 4] 70)) #[.slice (some ⟨w8.heap.size, 0, none⟩) 4 4] ⟨op, x, aa, bb⟩ := by
                    refine ⟨_, rfl, some ⟨w8.heap.size, 0, none⟩, 4, rfl, by simp [ic], fun i hi => ⟨w8.heap.size, 0, rfl, ?_, by simp; omega, ?_⟩⟩
                    · intro hm
                      simp at hm
                      rcases hm with hm | hm | hm | hm
                      · omega
                      · omega
                      · have := HA.out _ hm; omega
                      · have := (O8.out.lt hm).2; omega
                    · intro q u hu
                      have hi4 : i < 4 := by simpa [ic] using hi
                      simp only [World.cell?, hgn]
                      match i, hi4 with
                      | 0, _ => cases q with
                        | zero => simp [ic] at hu; subst hu; rfl
                        | succ q => simp [ic] at hu
                      | 1, _ => cases q with
                        | zero => simp [ic] at hu; subst hu; rfl
                        | succ q => simp [ic] at hu
                      | 2, _ => cases q with
                        | zero => simp [ic] at hu; subst hu; rfl
                        | succ q => simp [ic] at hu
                      | 3, _ => cases q with
                        | zero => simp [ic] at hu; subst hu; rfl
                        | succ q => simp [ic] at hu
                  have IS := ((RowI.snoc IA IN).app (g := g9) G9.out (OR9.out.imp id (fun h => by rw [h]))).frm (FB (.slice (some ⟨g9, 0, none⟩) (css.length + 1) cap9)) (by simp)
                  refine ⟨j + 1, acc ++ [(⟨op, x, aa, bb⟩ : InM)], css ++ [(#[Value.slice (some ⟨w8.heap.size, 0, none⟩) 4 4] : Array Value)], _, s8, false, by omega, by go_num, by simp [HAL.out], (TA.grown G9.out (fun r hr => by have := HOB.out r hr; omega)).frm (FB _) (by simpa using hne), M9.out.set5 _, ((F8.out.trans (FA.mono (by intro k _ hk; simp at hk; simp [hk]))).grown G9.out (fun r hr => .inr (HOB.out r hr))).trans ((FB _).mono (by intro k _ hk; simp at hk; simp [hk])), O9'.frm (FB _) (by simp; omega), IS, ?_⟩
                  exact HR2.out false (by rfl)
              · go_wp2_with (first | (at_builtin; refine wp_appG _ rfl _ _ 65 70 (.slice none 0 0) 1 24 infoSl Try.underlying65 rfl (by decide) rfl w.heap.size (.slice a css.length c) (lst css) (w8.heap.size + 1) [.slice (some ⟨w8.heap.size, 0, none⟩) 4 4] rfl (O8.out.frm (S := [b]) (((((Frm.refl [b] w8).setCell (p := ⟨b, 1, none⟩) (.inl (by simp)) _).alloc _).alloc _)) (by simp; omega)) rfl rfl (hnc _ _ _ rfl (by simp)) (by intro u hu; simp only [List.mem_singleton] at hu; subst hu; rfl) (by rw [HTC.out]; omega) (by rw [HTC.out]; omega) (by simp; omega) ?_; intro g9 cap9 w9 hs9 hg9 hor9 hlt9; rw [HTC.out] at hs9 ⊢; have O9 := hide hs9; have G9 := hide hg9; have OR9 := hide hor9; have M9 := hide ((M8.out.frm (S := [b]) (((((Frm.refl [b] w8).setCell (p := ⟨b, 1, none⟩) (.inl (by simp)) _).alloc _).alloc _)) (by simp; exact fun e => hne e.symm)).grown hg9 (fun r hr => by have := HOB.out r hr; omega)); have c9 := M9.out.c5; have z9 := M9.out.fz 5; clear hs9 hg9 hor9))
                go_roundg (gk - 1)
                case measure => omega
                case rel =>
                  have FA : Frm [b] w8 (((w8.setCell ⟨b, 1, none⟩ (.bool false)).alloc (Obj.cells #[.int .i64 (op : Nat), .int .i64 (x : Nat), .int .i64 (aa : Nat), .int .i64 (bb : Nat)] 3)).alloc (Obj.cells #[.slice (some ⟨w8.heap.size, 0, none⟩) 4 4] 70)) := ((((Frm.refl [b] w8).setCell (p := ⟨b, 1, none⟩) (.inl (by simp)) _).alloc _).alloc _)
                  have FB : ∀ u, Frm [mb] w9 (w9.setCell ⟨mb, 5, none⟩ u) := fun u => (Frm.refl [mb] w9).setCell (p := ⟨mb, 5, none⟩) (.inl (by simp)) u
                  have O9' := O9.out
                  rw [show ([.slice (some ⟨w8.heap.size, 0, none⟩) 4 4] : List Value) = (#[.slice (some ⟨w8.heap.size, 0, none⟩) 4 4] : Array Value).toList from rfl, lst_snoc] at O9'
                  have TA : TK (((w8.setCell ⟨b, 1, none⟩ (.bool false)).alloc (Obj.cells #[.int .i64 (op : Nat), .int .i64 (x : Nat), .int .i64 (aa : Nat), .int .i64 (bb : Nat)] 3)).alloc (Obj.cells #[.slice (some ⟨w8.heap.size, 0, none⟩) 4 4] 70)) b s8 false := (((T8.out.set1 false).frm (S := []) ((Frm.refl [] _).alloc _) (by simp)).frm (S := []) ((Frm.refl [] _).alloc _) (by simp))
                  have IA := I8.out.frm FA (by simp)
                  have hgn : (((w8.setCell ⟨b, 1, none⟩ (.bool false)).alloc (Obj.cells #[.int .i64 (op : Nat), .int .i64 (x : Nat), .int .i64 (aa : Nat), .int .i64 (bb : Nat)] 3)).alloc (Obj.cells #[.slice (some ⟨w8.heap.size, 0, none⟩) 4 4] 70)).heap[w8.heap.size]? = some (Obj.cells #[.int .i64 (op : Nat), .int .i64 (x : Nat), .int .i64 (aa : Nat), .int .i64 (bb : Nat)] 3) := by
                    have h1 := heap1 (w8.setCell ⟨b, 1, none⟩ (.bool false)) (Obj.cells #[.int .i64 (op : Nat), .int .i64 (x : Nat), .int .i64 (aa : Nat), .int .i64 (bb : Nat)] 3)
                    rw [show (w8.setCell ⟨b, 1, none⟩ (.bool false)).heap.size = w8.heap.size by simp] at h1
                    exact (((Frm.refl [] _).alloc _).block w8.heap.size (by simp) (by simp)).trans h1
                  have IN : insI.rel ((b :: mb :: A) ++ (Value.ownBlock (.slice a css.length c)).toList) (((w8.setCell ⟨b, 1, none⟩ (.bool false)).alloc (Obj.cells #[.int .i64 (op : Nat), .int .i64 (x : Nat), .int .i64 (aa : Nat), .int .i64 (bb : Nat)] 3)).alloc (Obj.cells #[.slice (some ⟨w8.heap.size, 0, none⟩) 4 4] 70)) #[.slice (some ⟨w8.heap.size, 0, none⟩) 4 4] ⟨op, x, aa, bb⟩ := by
                    refine ⟨_, rfl, some ⟨w8.heap.size, 0, none⟩, 4, rfl, by simp [ic], fun i hi => ⟨w8.heap.size, 0, rfl, ?_, by simp; omega, ?_⟩⟩
                    · intro hm
                      simp at hm
                      rcases hm with hm | hm | hm | hm
                      · omega
                      · omega
                      · have := HA.out _ hm; omega
                      · have := (O8.out.lt hm).2; omega
                    · intro q u hu
                      have hi4 : i < 4 := by simpa [ic] using hi
                      simp only [World.cell?, hgn]
                      match i, hi4 with
                      | 0, _ => cases q with
                        | zero => simp [ic] at hu; subst hu; rfl
                        | succ q => simp [ic] at hu
                      | 1, _ => cases q with
                        | zero => simp [ic] at hu; subst hu; rfl
                        | succ q => simp [ic] at hu
                      | 2, _ => cases q with
                        | zero => simp [ic] at hu; subst hu; rfl
                        | succ q => simp [ic] at hu
                      | 3, _ => cases q with
                        | zero => simp [ic] at hu; subst hu; rfl
                        | succ q => simp [ic] at hu
                  have IS := ((RowI.snoc IA IN).app (g := g9) G9.out (OR9.out.imp id (fun h => by rw [h]))).frm (FB (.slice (some ⟨g9, 0, none⟩) (css.length + 1) cap9)) (by simp)
                  refine ⟨j + 1, acc ++ [(⟨op, x, aa, bb⟩ : InM)], css ++ [(#[Value.slice (some ⟨w8.heap.size, 0, none⟩) 4 4] : Array Value)], _, s8, false, by omega, by go_num, by simp [HAL.out], (TA.grown G9.out (fun r hr => by have := HOB.out r hr; omega)).frm (FB _) (by simpa using hne), M9.out.set5 _, ((F8.out.trans (FA.mono (by intro k _ hk; simp at hk; simp [hk]))).grown G9.out (fun r hr => .inr (HOB.out r hr))).trans ((FB _).mono (by intro k _ hk; simp at hk; simp [hk])), O9'.frm (FB _) (by simp; omega), IS, ?_⟩
                  exact HR2.out false (by rw [HV.out]; rfl)
            · cases p1
              · cases ok8
                · go_wp2_with (first | (at_builtin; refine wp_appG _ rfl _ _ 65 70 (.slice none 0 0) 1 24 infoSl Try.underlying65 rfl (by decide) rfl w.heap.size (.slice a css.length c) (lst css) (w8.heap.size + 1) [.slice (some ⟨w8.heap.size, 0, none⟩) 4 4] rfl (O8.out.frm (S := [b]) (((((Frm.refl [b] w8).setCell (p := ⟨b, 1, none⟩) (.inl (by simp)) _).alloc _).alloc _)) (by simp; omega)) rfl rfl (hnc _ _ _ rfl (by simp)) (by intro u hu; simp only [List.mem_singleton] at hu; subst hu; rfl) (by rw [HTC.out]; omega) (by rw [HTC.out]; omega) (by simp; omega) ?_; intro g9 cap9 w9 hs9 hg9 hor9 hlt9; rw [HTC.out] at hs9 ⊢; have O9 := hide hs9; have G9 := hide hg9; have OR9 := hide hor9; have M9 := hide ((M8.out.frm (S := [b]) (((((Frm.refl [b] w8).setCell (p := ⟨b, 1, none⟩) (.inl (by simp)) _).alloc _).alloc _)) (by simp; exact fun e => hne e.symm)).grown hg9 (fun r hr => by have := HOB.out r hr; omega)); have c9 := M9.out.c5; have z9 := M9.out.fz 5; clear hs9 hg9 hor9))
                  go_roundg (gk - 1)
                  case measure => omega
                  case rel =>
                    have FA : Frm [b] w8 (((w8.setCell ⟨b, 1, none⟩ (.bool false)).alloc (Obj.cells #[.int .i64 (op : Nat), .int .i64 (x : Nat), .int .i64 (aa : Nat), .int .i64 (bb : Nat)] 3)).alloc (Obj.cells #[.slice (some ⟨w8.heap.size, 0, none⟩) 4 4] 70)) := ((((Frm.refl [b] w8).setCell (p := ⟨b, 1, none⟩) (.inl (by simp)) _).alloc _).alloc _)
                    have FB : ∀ u, Frm [mb] w9 (w9.setCell ⟨mb, 5, none⟩ u) := fun u => (Frm.refl [mb] w9).setCell (p := ⟨mb, 5, none⟩) (.inl (by simp)) u
                    have O9' := O9.out
                    rw [show ([.slice (some ⟨w8.heap.size, 0, none⟩) 4 4] : List Value) = (#[.slice (some ⟨w8.heap.size, 0, none⟩) 4 4] : Array Value).toList from rfl, lst_snoc] at O9'
                    have TA : TK (((w8.setCell ⟨b, 1, none⟩ (.bool false)).alloc (Obj.cells #[.int .i64 (op : Nat), .int .i64 (x : Nat), .int .i64 (aa : Nat), .int .i64 (bb : Nat)] 3)).alloc (Obj.cells #[.slice (some ⟨w8.heap.size, 0, none⟩) 4 4] 70)) b s8 false := (((T8.out.set1 false).frm (S := []) ((Frm.refl [] _).alloc _) (by simp)).frm (S := []) ((Frm.refl [] _).alloc _) (by simp))
                    have IA := I8.out.frm FA (by simp)
                    have hgn : (((w8.setCell ⟨b, 1, none⟩ (.bool false)).alloc (Obj.cells #[.int .i64 (op : Nat), .int .i64 (x : Nat), .int .i64 (aa : Nat), .int .i64 (bb : Nat)] 3)).alloc (Obj.cells #[.slice (some ⟨w8.heap.size, 0, none⟩) 4 4] 70)).heap[w8.heap.size]? = some (Obj.cells #[.int .i64 (op : Nat), .int .i64 (x : Nat), .int .i64 (aa : Nat), .int .i64 (bb : Nat)] 3) := by
                      have h1 := heap1 (w8.setCell ⟨b, 1, none⟩ (.bool false)) (Obj.cells #[.int .i64 (op : Nat), .int .i64 (x : Nat), .int .i64 (aa : Nat), .int .i64 (bb : Nat)] 3)
                      rw [show (w8.setCell ⟨b, 1, none⟩ (.bool false)).heap.size = w8.heap.size by simp] at h1
                      exact (((Frm.refl [] _).alloc _).block w8.heap.size (by simp) (by simp)).trans h1
                    have IN : insI.rel ((b :: mb :: A) ++ (Value.ownBlock (.slice a css.length c)).toList) (((w8.setCell ⟨b, 1, none⟩ (.bool false)).alloc (Obj.cells #[.int .i64 (op : Nat), .int .i64 (x : Nat), .int .i64 (aa : Nat), .int .i64 (bb : Nat)] 3)).alloc (Obj.cells #[.slice (some ⟨w8.heap.size, 0, none⟩) 4 4] 70)) #[.slice (some ⟨w8.heap.size, 0, none⟩) 4 4] ⟨op, x, aa, bb⟩ := by
                      refine ⟨_, rfl, some ⟨w8.heap.size, 0, none⟩, 4, rfl, by simp [ic], fun i hi => ⟨w8.heap.size, 0, rfl, ?_, by simp; omega, ?_⟩⟩
                      · intro hm
                        simp at hm
                        rcases hm with hm | hm | hm | hm
                        · omega
                        · omega
                        · have := HA.out _ hm; omega
                        · have := (O8.out.lt hm).2; omega
                      · intro q u hu
                        have hi4 : i < 4 := by simpa [ic] using hi
                        simp only [World.cell?, hgn]
                        match i, hi4 with
                        | 0, _ => cases q with
                          | zero => simp [ic] at hu; subst hu; rfl
                          | succ q => simp [ic] at hu
                        | 1, _ => cases q with
                          | zero => simp [ic] at hu; subst hu; rfl
                          | succ q => simp [ic] at hu
                        | 2, _ => cases q with
                          | zero => simp [ic] at hu; subst hu; rfl
                          | succ q => simp [ic] at hu
                        | 3, _ => cases q with
                          | zero => simp [ic] at hu; subst hu; rfl
                          | succ q => simp [ic] at hu
                    have IS := ((RowI.snoc IA IN).app (g := g9) G9.out (OR9.out.imp id (fun h => by rw [h]))).frm (FB (.slice (some ⟨g9, 0, none⟩) (css.length + 1) cap9)) (by simp)
                    refine ⟨j + 1, acc ++ [(⟨op, x, aa, bb⟩ : InM)], css ++ [(#[Value.slice (some ⟨w8.heap.size, 0, none⟩) 4 4] : Array Value)], _, s8, false, by omega, by go_num, by simp [HAL.out], (TA.grown G9.out (fun r hr => by have := HOB.out r hr; omega)).frm (FB _) (by simpa using hne), M9.out.set5 _, ((F8.out.trans (FA.mono (by intro k _ hk; simp at hk; simp [hk]))).grown G9.out (fun r hr => .inr (HOB.out r hr))).trans ((FB _).mono (by intro k _ hk; simp at hk; simp [hk])), O9'.frm (FB _) (by simp; omega), IS, ?_⟩
                    exact HR2.out false (by rfl)
                · go_wp2_with (first | (at_builtin; refine wp_appG _ rfl _ _ 65 70 (.slice none 0 0) 1 24 infoSl Try.underlying65 rfl (by decide) rfl w.heap.size (.slice a css.length c) (lst css) (w8.heap.size + 1) [.slice (some ⟨w8.heap.size, 0, none⟩) 4 4] rfl (O8.out.frm (S := [b]) (((((Frm.refl [b] w8).setCell (p := ⟨b, 1, none⟩) (.inl (by simp)) _).alloc _).alloc _)) (by simp; omega)) rfl rfl (hnc _ _ _ rfl (by simp)) (by intro u hu; simp only [List.mem_singleton] at hu; subst hu; rfl) (by rw [HTC.out]; omega) (by rw [HTC.out]; omega) (by simp; omega) ?_; intro g9 cap9 w9 hs9 hg9 hor9 hlt9; rw [HTC.out] at hs9 ⊢; have O9 := hide hs9; have G9 := hide hg9; have OR9 := hide hor9; have M9 := hide ((M8.out.frm (S := [b]) (((((Frm.refl [b] w8).setCell (p := ⟨b, 1, none⟩) (.inl (by simp)) _).alloc _).alloc _)) (by simp; exact fun e => hne e.symm)).grown hg9 (fun r hr => by have := HOB.out r hr; omega)); have c9 := M9.out.c5; have z9 := M9.out.fz 5; clear hs9 hg9 hor9))
                  go_roundg (gk - 1)
                  case measure => omega
                  case rel =>
                    have FA : Frm [b] w8 (((w8.setCell ⟨b, 1, none⟩ (.bool false)).alloc (Obj.cells #[.int .i64 (op : Nat), .int .i64 (x : Nat), .int .i64 (aa : Nat), .int .i64 (bb : Nat)] 3)).alloc (Obj.cells #[.slice (some ⟨w8.heap.size, 0, none⟩) 4 4] 70)) := ((((Frm.refl [b] w8).setCell (p := ⟨b, 1, none⟩) (.inl (by simp)) _).alloc _).alloc _)
                    have FB : ∀ u, Frm [mb] w9 (w9.setCell ⟨mb, 5, none⟩ u) := fun u => (Frm.refl [mb] w9).setCell (p := ⟨mb, 5, none⟩) (.inl (by simp)) u
                    have O9' := O9.out
                    rw [show ([.slice (some ⟨w8.heap.size, 0, none⟩) 4 4] : List Value) = (#[.slice (some ⟨w8.heap.size, 0, none⟩) 4 4] : Array Value).toList from rfl, lst_snoc] at O9'
                    have TA : TK (((w8.setCell ⟨b, 1, none⟩ (.bool false)).alloc (Obj.cells #[.int .i64 (op : Nat), .int .i64 (x : Nat), .int .i64 (aa : Nat), .int .i64 (bb : Nat)] 3)).alloc (Obj.cells #[.slice (some ⟨w8.heap.size, 0, none⟩) 4 4] 70)) b s8 false := (((T8.out.set1 false).frm (S := []) ((Frm.refl [] _).alloc _) (by simp)).frm (S := []) ((Frm.refl [] _).alloc _) (by simp))
                    have IA := I8.out.frm FA (by simp)
                    have hgn : (((w8.setCell ⟨b, 1, none⟩ (.bool false)).alloc (Obj.cells #[.int .i64 (op : Nat), .int .i64 (x : Nat), .int .i64 (aa : Nat), .int .i64 (bb : Nat)] 3)).alloc (Obj.cells #[.slice (some ⟨w8.heap.size, 0, none⟩) 4 4] 70)).heap[w8.heap.size]? = some (Obj.cells #[.int .i64 (op : Nat), .int .i64 (x : Nat), .int .i64 (aa : Nat), .int .i64 (bb : Nat)] 3) := by
                      have h1 := heap1 (w8.setCell ⟨b, 1, none⟩ (.bool false)) (Obj.cells #[.int .i64 (op : Nat), .int .i64 (x : Nat), .int .i64 (aa : Nat), .int .i64 (bb : Nat)] 3)
                      rw [show (w8.setCell ⟨b, 1, none⟩ (.bool false)).heap.size = w8.heap.size by simp] at h1
                      exact (((Frm.refl [] _).alloc _).block w8.heap.size (by simp) (by simp)).trans h1
                    have IN : insI.rel ((b :: mb :: A) ++ (Value.ownBlock (.slice a css.length c)).toList) (((w8.setCell ⟨b, 1, none⟩ (.bool false)).alloc (Obj.cells #[.int .i64 (op : Nat), .int .i64 (x : Nat), .int .i64 (aa : Nat), .int .i64 (bb : Nat)] 3)).alloc (Obj.cells #[.slice (some ⟨w8.heap.size, 0, none⟩) 4 4] 70)) #[.slice (some ⟨w8.heap.size, 0, none⟩) 4 4] ⟨op, x, aa, bb⟩ := by
                      refine ⟨_, rfl, some ⟨w8.heap.size, 0, none⟩, 4, rfl, by simp [ic], fun i hi => ⟨w8.heap.size, 0, rfl, ?_, by simp; omega, ?_⟩⟩
                      · intro hm
                        simp at hm
                        rcases hm with hm | hm | hm | hm
                        · omega
                        · omega
                        · have := HA.out _ hm; omega
                        · have := (O8.out.lt hm).2; omega
                      · intro q u hu
                        have hi4 : i < 4 := by simpa [ic] using hi
                        simp only [World.cell?, hgn]
                        match i, hi4 with
                        | 0, _ => cases q with
                          | zero => simp [ic] at hu; subst hu; rfl
                          | succ q => simp [ic] at hu
                        | 1, _ => cases q with
                          | zero => simp [ic] at hu; subst hu; rfl
                          | succ q => simp [ic] at hu
                        | 2, _ => cases q with
                          | zero => simp [ic] at hu; subst hu; rfl
                          | succ q => simp [ic] at hu
                        | 3, _ => cases q with
                          | zero => simp [ic] at hu; subst hu; rfl
                          | succ q => simp [ic] at hu
                    have IS := ((RowI.snoc IA IN).app (g := g9) G9.out (OR9.out.imp id (fun h => by rw [h]))).frm (FB (.slice (some ⟨g9, 0, none⟩) (css.length + 1) cap9)) (by simp)
                    refine ⟨j + 1, acc ++ [(⟨op, x, aa, bb⟩ : InM)], css ++ [(#[Value.slice (some ⟨w8.heap.size, 0, none⟩) 4 4] : Array Value)], _, s8, false, by omega, by go_num, by simp [HAL.out], (TA.grown G9.out (fun r hr => by have := HOB.out r hr; omega)).frm (FB _) (by simpa using hne), M9.out.set5 _, ((F8.out.trans (FA.mono (by intro k _ hk; simp at hk; simp [hk]))).grown G9.out (fun r hr => .inr (HOB.out r hr))).trans ((FB _).mono (by intro k _ hk; simp at hk; simp [hk])), O9'.frm (FB _) (by simp; omega), IS, ?_⟩
                    exact HR2.out false (by rw [HV.out]; rfl)
              · cases ok8
                · go_wp2_with (first | (at_builtin; refine wp_appG _ rfl _ _ 65 70 (.slice none 0 0) 1 24 infoSl Try.underlying65 rfl (by decide) rfl w.heap.size (.slice a css.length c) (lst css) (w8.heap.size + 1) [.slice (some ⟨w8.heap.size, 0, none⟩) 4 4] rfl (O8.out.frm (S := [b]) (((((Frm.refl [b] w8).setCell (p := ⟨b, 1, none⟩) (.inl (by simp)) _).alloc _).alloc _)) (by simp; omega)) rfl rfl (hnc _ _ _ rfl (by simp)) (by intro u hu; simp only [List.mem_singleton] at hu; subst hu; rfl) (by rw [HTC.out]; omega) (by rw [HTC.out]; omega) (by simp; omega) ?_; intro g9 cap9 w9 hs9 hg9 hor9 hlt9; rw [HTC.out] at hs9 ⊢; have O9 := hide hs9; have G9 := hide hg9; have OR9 := hide hor9; have M9 := hide ((M8.out.frm (S := [b]) (((((Frm.refl [b] w8).setCell (p := ⟨b, 1, none⟩) (.inl (by simp)) _).alloc _).alloc _)) (by simp; exact fun e => hne e.symm)).grown hg9 (fun r hr => by have := HOB.out r hr; omega)); have c9 := M9.out.c5; have z9 := M9.out.fz 5; clear hs9 hg9 hor9))
                  go_roundg (gk - 1)
                  case measure => omega
                  case rel =>
                    have FA : Frm [b] w8 (((w8.setCell ⟨b, 1, none⟩ (.bool false)).alloc (Obj.cells #[.int .i64 (op : Nat), .int .i64 (x : Nat), .int .i64 (aa : Nat), .int .i64 (bb : Nat)] 3)).alloc (Obj.cells #[.slice (some ⟨w8.heap.size, 0, none⟩) 4 4] 70)) := ((((Frm.refl [b] w8).setCell (p := ⟨b, 1, none⟩) (.inl (by simp)) _).alloc _).alloc _)
                    have FB : ∀ u, Frm [mb] w9 (w9.setCell ⟨mb, 5, none⟩ u) := fun u => (Frm.refl [mb] w9).setCell (p := ⟨mb, 5, none⟩) (.inl (by simp)) u
                    have O9' := O9.out
                    rw [show ([.slice (some ⟨w8.heap.size, 0, none⟩) 4 4] : List Value) = (#[.slice (some ⟨w8.heap.size, 0, none⟩) 4 4] : Array Value).toList from rfl, lst_snoc] at O9'
                    have TA : TK (((w8.setCell ⟨b, 1, none⟩ (.bool false)).alloc (Obj.cells #[.int .i64 (op : Nat), .int .i64 (x : Nat), .int .i64 (aa : Nat), .int .i64 (bb : Nat)] 3)).alloc (Obj.cells #[.slice (some ⟨w8.heap.size, 0, none⟩) 4 4] 70)) b s8 false := (((T8.out.set1 false).frm (S := []) ((Frm.refl [] _).alloc _) (by simp)).frm (S := []) ((Frm.refl [] _).alloc _) (by simp))
                    have IA := I8.out.frm FA (by simp)
                    have hgn : (((w8.setCell ⟨b, 1, none⟩ (.bool false)).alloc (Obj.cells #[.int .i64 (op : Nat), .int .i64 (x : Nat), .int .i64 (aa : Nat), .int .i64 (bb : Nat)] 3)).alloc (Obj.cells #[.slice (some ⟨w8.heap.size, 0, none⟩) 4 4] 70)).heap[w8.heap.size]? = some (Obj.cells #[.int .i64 (op : Nat), .int .i64 (x : Nat), .int .i64 (aa : Nat), .int .i64 (bb : Nat)] 3) := by
                      have h1 := heap1 (w8.setCell ⟨b, 1, none⟩ (.bool false)) (Obj.cells #[.int .i64 (op : Nat), .int .i64 (x : Nat), .int .i64 (aa : Nat), .int .i64 (bb : Nat)] 3)
                      rw [show (w8.setCell ⟨b, 1, none⟩ (.bool false)).heap.size = w8.heap.size by simp] at h1
                      exact (((Frm.refl [] _).alloc _).block w8.heap.size (by simp) (by simp)).trans h1
                    have IN : insI.rel ((b :: mb :: A) ++ (Value.ownBlock (.slice a css.length c)).toList) (((w8.setCell ⟨b, 1, none⟩ (.bool false)).alloc (Obj.cells #[.int .i64 (op : Nat), .int .i64 (x : Nat), .int .i64 (aa : Nat), .int .i64 (bb : Nat)] 3)).alloc (Obj.cells #[.slice (some ⟨w8.heap.size, 0, none⟩) 4 4] 70)) #[.slice (some ⟨w8.heap.size, 0, none⟩) 4 4] ⟨op, x, aa, bb⟩ := by
                      refine ⟨_, rfl, some ⟨w8.heap.size, 0, none⟩, 4, rfl, by simp [ic], fun i hi => ⟨w8.heap.size, 0, rfl, ?_, by simp; omega, ?_⟩⟩
                      · intro hm
                        simp at hm
                        rcases hm with hm | hm | hm | hm
                        · omega
                        · omega
                        · have := HA.out _ hm; omega
                        · have := (O8.out.lt hm).2; omega
                      · intro q u hu
                        have hi4 : i < 4 := by simpa [ic] using hi
                        simp only [World.cell?, hgn]
                        match i, hi4 with
                        | 0, _ => cases q with
                          | zero => simp [ic] at hu; subst hu; rfl
                          | succ q => simp [ic] at hu
                        | 1, _ => cases q with
                          | zero => simp [ic] at hu; subst hu; rfl
                          | succ q => simp [ic] at hu
                        | 2, _ => cases q with
                          | zero => simp [ic] at hu; subst hu; rfl
                          | succ q => simp [ic] at hu
                        | 3, _ => cases q with
                          | zero => simp [ic] at hu; subst hu; rfl
                          | succ q => simp [ic] at hu
                    have IS := ((RowI.snoc IA IN).app (g := g9) G9.out (OR9.out.imp id (fun h => by rw [h]))).frm (FB (.slice (some ⟨g9, 0, none⟩) (css.length + 1) cap9)) (by simp)
                    refine ⟨j + 1, acc ++ [(⟨op, x, aa, bb⟩ : InM)], css ++ [(#[Value.slice (some ⟨w8.heap.size, 0, none⟩) 4 4] : Array Value)], _, s8, false, by omega, by go_num, by simp [HAL.out], (TA.grown G9.out (fun r hr => by have := HOB.out r hr; omega)).frm (FB _) (by simpa using hne), M9.out.set5 _, ((F8.out.trans (FA.mono (by intro k _ hk; simp at hk; simp [hk]))).grown G9.out (fun r hr => .inr (HOB.out r hr))).trans ((FB _).mono (by intro k _ hk; simp at hk; simp [hk])), O9'.frm (FB _) (by simp; omega), IS, ?_⟩
                    exact HR2.out false (by rfl)
                · go_wp2_with (first | (at_builtin; refine wp_appG _ rfl _ _ 65 70 (.slice none 0 0) 1 24 infoSl Try.underlying65 rfl (by decide) rfl w.heap.size (.slice a css.length c) (lst css) (w8.heap.size + 1) [.slice (some ⟨w8.heap.size, 0, none⟩) 4 4] rfl (O8.out.frm (S := [b]) (((((Frm.refl [b] w8).setCell (p := ⟨b, 1, none⟩) (.inl (by simp)) _).alloc _).alloc _)) (by simp; omega)) rfl rfl (hnc _ _ _ rfl (by simp)) (by intro u hu; simp only [List.mem_singleton] at hu; subst hu; rfl) (by rw [HTC.out]; omega) (by rw [HTC.out]; omega) (by simp; omega) ?_; intro g9 cap9 w9 hs9 hg9 hor9 hlt9; rw [HTC.out] at hs9 ⊢; have O9 := hide hs9; have G9 := hide hg9; have OR9 := hide hor9; have M9 := hide ((M8.out.frm (S := [b]) (((((Frm.refl [b] w8).setCell (p := ⟨b, 1, none⟩) (.inl (by simp)) _).alloc _).alloc _)) (by simp; exact fun e => hne e.symm)).grown hg9 (fun r hr => by have := HOB.out r hr; omega)); have c9 := M9.out.c5; have z9 := M9.out.fz 5; clear hs9 hg9 hor9))
                  go_roundg (gk - 1)
                  case measure => omega
                  case rel =>
                    have FA : Frm [b] w8 (((w8.setCell ⟨b, 1, none⟩ (.bool p2)).alloc (Obj.cells #[.int .i64 (op : Nat), .int .i64 (x : Nat), .int .i64 (aa : Nat), .int .i64 (bb : Nat)] 3)).alloc (Obj.cells #[.slice (some ⟨w8.heap.size, 0, none⟩) 4 4] 70)) := ((((Frm.refl [b] w8).setCell (p := ⟨b, 1, none⟩) (.inl (by simp)) _).alloc _).alloc _)
                    have FB : ∀ u, Frm [mb] w9 (w9.setCell ⟨mb, 5, none⟩ u) := fun u => (Frm.refl [mb] w9).setCell (p := ⟨mb, 5, none⟩) (.inl (by simp)) u
                    have O9' := O9.out
                    rw [show ([.slice (some ⟨w8.heap.size, 0, none⟩) 4 4] : List Value) = (#[.slice (some ⟨w8.heap.size, 0, none⟩) 4 4] : Array Value).toList from rfl, lst_snoc] at O9'
                    have TA : TK (((w8.setCell ⟨b, 1, none⟩ (.bool p2)).alloc (Obj.cells #[.int .i64 (op : Nat), .int .i64 (x : Nat), .int .i64 (aa : Nat), .int .i64 (bb : Nat)] 3)).alloc (Obj.cells #[.slice (some ⟨w8.heap.size, 0, none⟩) 4 4] 70)) b s8 p2 := (((T8.out.set1 p2).frm (S := []) ((Frm.refl [] _).alloc _) (by simp)).frm (S := []) ((Frm.refl [] _).alloc _) (by simp))
                    have IA := I8.out.frm FA (by simp)
                    have hgn : (((w8.setCell ⟨b, 1, none⟩ (.bool p2)).alloc (Obj.cells #[.int .i64 (op : Nat), .int .i64 (x : Nat), .int .i64 (aa : Nat), .int .i64 (bb : Nat)] 3)).alloc (Obj.cells #[.slice (some ⟨w8.heap.size, 0, none⟩) 4 4] 70)).heap[w8.heap.size]? = some (Obj.cells #[.int .i64 (op : Nat), .int .i64 (x : Nat), .int .i64 (aa : Nat), .int .i64 (bb : Nat)] 3) := by
                      have h1 := heap1 (w8.setCell ⟨b, 1, none⟩ (.bool p2)) (Obj.cells #[.int .i64 (op : Nat), .int .i64 (x : Nat), .int .i64 (aa : Nat), .int .i64 (bb : Nat)] 3)
                      rw [show (w8.setCell ⟨b, 1, none⟩ (.bool p2)).heap.size = w8.heap.size by simp] at h1
                      exact (((Frm.refl [] _).alloc _).block w8.heap.size (by simp) (by simp)).trans h1
                    have IN : insI.rel ((b :: mb :: A) ++ (Value.ownBlock (.slice a css.length c)).toList) (((w8.setCell ⟨b, 1, none⟩ (.bool p2)).alloc (Obj.cells #[.int .i64 (op : Nat), .int .i64 (x : Nat), .int .i64 (aa : Nat), .int .i64 (bb : Nat)] 3)).alloc (Obj.cells #[.slice (some ⟨w8.heap.size, 0, none⟩) 4 4] 70)) #[.slice (some ⟨w8.heap.size, 0, none⟩) 4 4] ⟨op, x, aa, bb⟩ := by
                      refine ⟨_, rfl, some ⟨w8.heap.size, 0, none⟩, 4, rfl, by simp [ic], fun i hi => ⟨w8.heap.size, 0, rfl, ?_, by simp; omega, ?_⟩⟩
                      · intro hm
                        simp at hm
                        rcases hm with hm | hm | hm | hm
                        · omega
                        · omega
                        · have := HA.out _ hm; omega
                        · have := (O8.out.lt hm).2; omega
                      · intro q u hu
                        have hi4 : i < 4 := by simpa [ic] using hi
                        simp only [World.cell?, hgn]
                        match i, hi4 with
                        | 0, _ => cases q with
                          | zero => simp [ic] at hu; subst hu; rfl
                          | succ q => simp [ic] at hu
                        | 1, _ => cases q with
                          | zero => simp [ic] at hu; subst hu; rfl
                          | succ q => simp [ic] at hu
                        | 2, _ => cases q with
                          | zero => simp [ic] at hu; subst hu; rfl
                          | succ q => simp [ic] at hu
                        | 3, _ => cases q with
                          | zero => simp [ic] at hu; subst hu; rfl
                          | succ q => simp [ic] at hu
                    have IS := ((RowI.snoc IA IN).app (g := g9) G9.out (OR9.out.imp id (fun h => by rw [h]))).frm (FB (.slice (some ⟨g9, 0, none⟩) (css.length + 1) cap9)) (by simp)
                    refine ⟨j + 1, acc ++ [(⟨op, x, aa, bb⟩ : InM)], css ++ [(#[Value.slice (some ⟨w8.heap.size, 0, none⟩) 4 4] : Array Value)], _, s8, p2, by omega, by go_num, by simp [HAL.out], (TA.grown G9.out (fun r hr => by have := HOB.out r hr; omega)).frm (FB _) (by simpa using hne), M9.out.set5 _, ((F8.out.trans (FA.mono (by intro k _ hk; simp at hk; simp [hk]))).grown G9.out (fun r hr => .inr (HOB.out r hr))).trans ((FB _).mono (by intro k _ hk; simp at hk; simp [hk])), O9'.frm (FB _) (by simp; omega), IS, ?_⟩
                    exact HR2.out p2 (by rw [HV.out]; rfl)
      · have hje : j = n := by omega
        have hd : decide ((j : Int) < (n : Int)) = false := decide_eq_false (by omega)
        have hd' : decide (j < n) = false := decide_eq_false hlt
        have HE : Hid (TO ok (pIs nr nt) s acc ok3 s3) := by
          rcases HR.out with ⟨h1, h2, _, h3⟩ | h
          · rw [hje, Nat.sub_self] at h3; exact .inl ⟨h1, h3.symm, h2⟩
          · exact .inr h
        clear HR hje
        go_wp2
        go_end0
        exact ⟨rfl, acc, css, _, s3, ok3, T.out, M.out, F.out, HE.out, O.out, I.out⟩
end Go.Proofs.Ythlemieldfbbfab
