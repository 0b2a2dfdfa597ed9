import Derived.Test.YthlemieldfbbfabM14
import Derived.Test.YthlemieldfbbfabRSo
namespace Go.Proofs.Ythlemieldfbbfab
open Go.RowKit
set_option linter.unusedVariables false
set_option linter.unusedSimpArgs false
set_option linter.unnecessarySimpa false

/-- The reference's taker in memory: what is left, whether all was well. -/
def TK (w : World) (b : Nat) (s : List UInt8) (ok : Bool) : Prop := w.heap[b]? = some (.cells #[.string (bs s), .bool ok] 63 (0, 0)) ∧ s.length ≤ 1048576
theorem TK.c0 {w : World} {b : Nat} {s : List UInt8} {ok : Bool} (h : TK w b s ok) : w.cell? ⟨b, 0, none⟩ = some (.string (bs s)) := by simp [World.cell?, h.1]
theorem TK.c1 {w : World} {b : Nat} {s : List UInt8} {ok : Bool} (h : TK w b s ok) : w.cell? ⟨b, 1, none⟩ = some (.bool ok) := by simp [World.cell?, h.1]
theorem TK.fz {w : World} {b : Nat} {s : List UInt8} {ok : Bool} (h : TK w b s ok) (o : Nat) : w.frozen? ⟨b, o, none⟩ = false := by simp [World.frozen?, h.1]
theorem TK.lt {w : World} {b : Nat} {s : List UInt8} {ok : Bool} (h : TK w b s ok) : b < w.heap.size := (Array.getElem?_eq_some_iff.1 h.1).1
theorem TK.frm {S : List Nat} {w w' : World} {b : Nat} {s : List UInt8} {ok : Bool} (h : TK w b s ok) (f : Frm S w w') (hS : b ∉ S) : TK w' b s ok := ⟨(f.block b h.lt hS).trans h.1, h.2⟩
theorem TK.grown {w w' : World} {b : Nat} {s : List UInt8} {ok : Bool} {row : Option Nat} (h : TK w b s ok) (hg : w.grownBy w' row) (hr : ∀ r, row = some r → r ≠ b) : TK w' b s ok := ⟨(hg.block b h.lt (fun e => hr b e.symm rfl)).trans h.1, h.2⟩
theorem TK.set0 {w : World} {b : Nat} {s : List UInt8} {ok : Bool} (h : TK w b s ok) (s' : List UInt8) (hs : s'.length ≤ 1048576) : TK (w.setCell ⟨b, 0, none⟩ (.string (bs s'))) b s' ok := by
  refine ⟨?_, hs⟩
  simp [World.setCell, Array.getElem?_modify, h.1]
theorem TK.set1 {w : World} {b : Nat} {s : List UInt8} {ok : Bool} (h : TK w b s ok) (k : Bool) : TK (w.setCell ⟨b, 1, none⟩ (.bool k)) b s k := by
  refine ⟨?_, h.2⟩
  simp [World.setCell, Array.getElem?_modify, h.1]
/-- What was asked for was there and all is well; or it isn't. -/
def TO {α : Type} (ok : Bool) (p : PT α) (s : List UInt8) (x : α) (ok' : Bool) (s' : List UInt8) : Prop := (ok = true ∧ p s = some (x, s') ∧ ok' = true) ∨ ((ok = false ∨ p s = none) ∧ ok' = false)
def pB (n : Nat) : PT (List UInt8) := fun s => if n ≤ s.length then some (s.take n, s.drop n) else none

def TakeQ (n : Nat) (w : World) (b : Nat) (s : List UInt8) (ok : Bool) (e : Ending) (w' : World) : Prop :=
  ∃ x s' ok', e = .returned (.string (bs x)) ∧ TK w' b s' ok' ∧ Frm [b] w w' ∧ TO ok (pB n) s x ok' s' ∧ x.length ≤ n ∧ s'.length ≤ s.length ∧ (n ≤ s.length → x = s.take n)

set_option maxRecDepth 100000 in
set_option maxHeartbeats 2000000 in
theorem rtake_any (b : Nat) (s : List UInt8) (ok : Bool) (n : Nat) (nv : Int) (w : World) (h : TK w b s ok) (hn : nv = (n : Int)) (hnb : n ≤ 1048576) :
    Calls Try.prog 22 #[.pointer (some ⟨b, 0, none⟩), .int .i64 nv] w (TakeQ n w b s ok) := by
  subst hn
  have H := hide h
  have c0 := h.c0
  have c1 := h.c1
  have z0 := h.fz 0
  have z1 := h.fz 1
  have hsz := bs_size s
  have hs := h.2
  clear h
  by_cases hlen : s.length < n
  · have hd : decide ((s.length : Int) < (n : Int)) = true := decide_eq_true (by omega)
    have hd' : decide (s.length < n) = true := decide_eq_true hlen
    go_enter Try.func22, Try.ntmps22
    go_wp2
    go_ret
    refine ⟨[], [], false, rfl, (H.out.set1 false).set0 [] (by simp), (((Frm.refl [b] w).setCell (p := ⟨b, 1, none⟩) (.inl (by simp)) _).setCell (p := ⟨b, 0, none⟩) (.inl (by simp)) _), .inr ⟨.inr ?_, rfl⟩, by simp, by simp, fun h => by omega⟩
    unfold pB; rw [if_neg (by omega)]
  · have hd : decide ((s.length : Int) < (n : Int)) = false := decide_eq_false (by omega)
    have hd' : decide (s.length < n) = false := decide_eq_false hlen
    have e1 : (bs s).extract 0 n = bs (s.take n) := by rw [bs_extract]; simp
    have e2 : (bs s).extract n s.length = bs (s.drop n) := by rw [bs_extract, List.take_length]
    go_enter Try.func22, Try.ntmps22
    go_wp2
    go_ret
    refine ⟨s.take n, s.drop n, ok, rfl, H.out.set0 _ (by rw [List.length_drop]; omega), ((Frm.refl [b] w).setCell (p := ⟨b, 0, none⟩) (.inl (by simp)) _), ?_, by rw [List.length_take]; omega, by rw [List.length_drop]; omega, fun _ => rfl⟩
    have e : pB n s = some (s.take n, s.drop n) := by unfold pB; rw [if_pos (by omega)]
    cases ok
    · exact .inr ⟨.inl rfl, rfl⟩
    · exact .inl ⟨rfl, e, rfl⟩

def NumQ (n hi : Nat) (w : World) (b : Nat) (s : List UInt8) (ok : Bool) (e : Ending) (w' : World) : Prop :=
  ∃ (v : Nat) (s' : List UInt8) (ok' : Bool), e = .returned (.int .i64 v) ∧ TK w' b s' ok' ∧ Frm [b] w w' ∧ TO ok (pN n 0 hi) s v ok' s' ∧ s'.length ≤ s.length ∧ (v < hi ∨ v = 0)

set_option maxRecDepth 100000 in
set_option maxHeartbeats 2000000 in
theorem rnum_any (b : Nat) (s : List UInt8) (ok : Bool) (n hi : Nat) (nv mo : Int) (w : World) (h : TK w b s ok) (hn : nv = (n : Int)) (hmo : mo = (hi : Int) - 1) (hn3 : n ≤ 3) (hhi : hi ≤ 1000000) :
    Calls Try.prog 23 #[.pointer (some ⟨b, 0, none⟩), .int .i64 nv, .int .i64 mo] w (NumQ n hi w b s ok) := by
  have N1 := hide (rtake_any b s ok n nv w h hn (by omega))
  have hs := h.2
  subst hn hmo
  clear h
  go_enter Try.func23, Try.ntmps23
  go_wp2_with fail
  refine (N1.out).mono ?_
  rintro e w1 ⟨x, s1, ok1, rfl, hT1, hF1, hO1, hx, hs1, hxe⟩
  have T1 := hide hT1
  have F1 := hide hF1
  have O1 := hide hO1
  have HXE := hide hxe
  have c1 := hT1.c1
  have z1 := hT1.fz 1
  have hsz := bs_size x
  clear hT1 hF1 hO1 N1 hxe
  go_wp2_with fail
  go_loopg [8, 9] x.length (fun k v8 v9 wr => ∃ j : Nat, j + k = x.length ∧ v9 = .int .i64 j ∧ v8 = .int .i64 (nmV (x.take j)) ∧ wr = w1)
  case atStart => exact ⟨0, by omega, rfl, rfl, rfl⟩
  case round =>
    obtain ⟨j, hjk, rfl, rfl, hw⟩ := hrel
    subst hw
    by_cases hlt : j < x.length
    · have hbg : (bs x)[j]'(by rw [hsz]; omega) = x[j] := rfl
      have HT : Hid (nmV (x.take (j + 1)) = nmV (x.take j) * 256 + x[j].toNat) := by
        show _ = _; rw [List.take_succ_eq_append_getElem hlt, nmV_snoc]
      have hb := nmV_lt j (x.take j) (by rw [List.length_take]; omega)
      have hb2 : 256 ^ j ≤ 256 ^ 2 := Nat.pow_le_pow_right (by omega) (by omega)
      have hx8 := x[j].toNat_lt
      generalize x[j] = y at *
      generalize nmV (x.take j) = m at *
      generalize 256 ^ j = p at *
      have hm : m < 65536 := by omega
      clear hb hb2
      go_wp2_with fail
      go_roundg (gk - 1)
      case measure => omega
      case rel => exact ⟨j + 1, by omega, by go_num, by rw [HT.out]; go_num, rfl⟩
    · have hjx : j = x.length := by omega
      subst hjx
      have hb := nmV_lt x.length x rfl
      have hb2 : 256 ^ x.length ≤ 256 ^ 3 := Nat.pow_le_pow_right (by omega) (by omega)
      rw [List.take_length]
      have HP : Hid (n ≤ s.length → pN n 0 hi s = if nmV x < hi then some (nmV x, s.drop n) else none) := by
        intro h
        unfold pN
        rw [HXE.out h]
        by_cases h2 : nmV (s.take n) < hi
        · rw [if_pos ⟨h, by omega, h2⟩, if_pos h2]
        · rw [if_neg (by omega), if_neg h2]
      have HQ : Hid (s.length < n → pN n 0 hi s = none) := by
        intro h; unfold pN; rw [if_neg (by omega)]
      have HB : Hid (∀ y t, pB n s = some (y, t) → n ≤ s.length ∧ y = s.take n ∧ t = s.drop n) := by
        intro y t h
        unfold pB at h
        split at h
        · simp at h; exact ⟨by assumption, h.1.symm, h.2.symm⟩
        · cases h
      have HN : Hid (pB n s = none → s.length < n) := by
        intro h
        unfold pB at h
        split at h
        · cases h
        · omega
      generalize 256 ^ x.length = p at *
      generalize nmV x = m at *
      have hm : m < 16777216 := by omega
      clear hb hb2
      by_cases hlt2 : m < hi
      · have hd : decide ((hi : Int) - 1 < (m : Int)) = false := decide_eq_false (by omega)
        go_wp2
        go_ret
        refine ⟨m, s1, ok1, rfl, T1.out, F1.out, ?_, hs1, .inl hlt2⟩
        rcases O1.out with ⟨h1, h2, h3⟩ | ⟨h1, h2⟩
        · obtain ⟨q1, q2, q3⟩ := HB.out _ _ h2
          refine .inl ⟨h1, ?_, h3⟩
          rw [HP.out q1, if_pos hlt2, q3]
        · exact .inr ⟨h1.imp id (fun h => HQ.out (HN.out h)), h2⟩
      · have hd : decide ((hi : Int) - 1 < (m : Int)) = true := decide_eq_true (by omega)
        go_wp2
        go_ret
        refine ⟨0, s1, false, rfl, T1.out.set1 false, F1.out.setCell (p := ⟨b, 1, none⟩) (.inl (by simp)) _, ?_, hs1, .inr rfl⟩
        refine .inr ⟨.inr ?_, rfl⟩
        by_cases h : n ≤ s.length
        · rw [HP.out h, if_neg hlt2]
        · exact HQ.out (by omega)

def WordQ (p : PT (List UInt8)) (w : World) (b : Nat) (s : List UInt8) (ok : Bool) (e : Ending) (w' : World) : Prop :=
  ∃ x s' ok', e = .returned (.string (bs x)) ∧ TK w' b s' ok' ∧ Frm [b] w w' ∧ TO ok p s x ok' s' ∧ s'.length ≤ s.length ∧ x.length ≤ 1048576

set_option maxRecDepth 100000 in
set_option maxHeartbeats 2000000 in
theorem rword_any (b : Nat) (s : List UInt8) (ok : Bool) (hi : Nat) (mo : Int) (w : World) (h : TK w b s ok) (hmo : mo = (hi : Int) - 1) (hhi : hi ≤ 1000) :
    Calls Try.prog 25 #[.pointer (some ⟨b, 0, none⟩), .int .i64 mo] w (WordQ (pT hi) w b s ok) := by
  have N1 := hide (rnum_any b s ok 1 hi 1 mo w h rfl hmo (by omega) (by omega))
  clear h hmo
  go_enter Try.func25, Try.ntmps25
  go_wp2_with fail
  refine (N1.out).mono ?_
  rintro e w1 ⟨v, s1, ok1, rfl, hT1, hF1, hO1, hs1, hv⟩
  have N2 := hide (rtake_any b s1 ok1 v (v : Int) w1 hT1 rfl (by omega))
  have F1 := hide hF1
  have O1 := hide hO1
  have hvb : v ≤ 1000 := by omega
  clear hT1 hF1 hO1 N1 hv
  go_wp2_with fail
  refine (N2.out).mono ?_
  rintro e w2 ⟨x, s2, ok2, rfl, hT2, hF2, hO2, hx, hs2, hxe⟩
  have T2 := hide hT2
  have F2 := hide (F1.out.trans hF2)
  have O2 := hide hO2
  clear hT2 hF2 hO2 N2 hxe
  go_wp2
  go_ret
  refine ⟨x, s2, ok2, rfl, T2.out, F2.out, ?_, by omega, by omega⟩
  unfold TO pT
  rcases O1.out with ⟨h1, h2, h3⟩ | ⟨h1, h2⟩
  · rw [h2]
    simp only [Option.bind_some]
    rcases O2.out with ⟨k1, k2, k3⟩ | ⟨k1, k2⟩
    · exact .inl ⟨h1, k2, k3⟩
    · refine .inr ⟨.inr ?_, k2⟩
      rcases k1 with k1 | k1
      · rw [h3] at k1; cases k1
      · exact k1
  · rcases O2.out with ⟨k1, _, _⟩ | ⟨_, k2⟩
    · rw [h2] at k1; cases k1
    · refine .inr ⟨h1.imp id (fun h => by rw [h]; rfl), k2⟩

set_option maxRecDepth 100000 in
set_option maxHeartbeats 2000000 in
theorem rname_any (b : Nat) (s : List UInt8) (ok : Bool) (w : World) (h : TK w b s ok) :
    Calls Try.prog 24 #[.pointer (some ⟨b, 0, none⟩)] w (WordQ pNm w b s ok) := by
  have N1 := hide (rword_any b s ok 9 8 w h rfl (by omega))
  clear h
  go_enter Try.func24, Try.ntmps24
  go_wp2_with fail
  refine (N1.out).mono ?_
  rintro e w1 ⟨x, s1, ok1, rfl, hT1, hF1, hO1, hs1, hx⟩
  have N2 := hide (rName_any x w1 hx)
  have T1 := hide hT1
  have F1 := hide hF1
  have O1 := hide hO1
  have c1 := hT1.c1
  have z1 := hT1.fz 1
  clear hT1 hF1 hO1 N1
  go_wp2_with fail
  refine (N2.out).mono ?_
  rintro e w2 ⟨rfl, rfl⟩
  clear N2
  cases hn : isNameL x
  · go_wp2
    go_ret
    refine ⟨x, s1, false, rfl, T1.out.set1 false, F1.out.setCell (p := ⟨b, 1, none⟩) (.inl (by simp)) _, ?_, hs1, hx⟩
    refine .inr ⟨?_, rfl⟩
    rcases O1.out with ⟨h1, h2, h3⟩ | ⟨h1, h2⟩
    · right; unfold pNm; rw [h2]; simp [hn]
    · exact h1.imp id (fun h => by unfold pNm; rw [h]; rfl)
  · go_wp2
    go_ret
    refine ⟨x, s1, ok1, rfl, T1.out, F1.out, ?_, hs1, hx⟩
    rcases O1.out with ⟨h1, h2, h3⟩ | ⟨h1, h2⟩
    · exact .inl ⟨h1, by unfold pNm; rw [h2]; simp [hn], h3⟩
    · exact .inr ⟨h1.imp id (fun h => by unfold pNm; rw [h]; rfl), h2⟩
end Go.Proofs.Ythlemieldfbbfab
