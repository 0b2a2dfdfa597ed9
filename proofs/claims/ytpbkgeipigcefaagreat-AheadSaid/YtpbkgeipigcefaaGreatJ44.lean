import Derived.Test.YtpbkgeipigcefaaGreatJ42
import Derived.Test.YtpbkgeipigcefaaGreatJ43
set_option linter.unusedVariables false
set_option linter.unusedSimpArgs false
set_option linter.unnecessarySimpa false
namespace Go.Proofs.YtpbkgeipigcefaaGreat
open Go.RowKit

set_option maxRecDepth 100000 in
set_option maxHeartbeats 8000000 in
theorem ksameHits_eq (w : World) (v1 v2 : Value) (hs : List HitM) (h1 : HRS w v1 hs) (h2 : HRS w v2 hs) (hlen : hs.length ≤ 1000) (hbl : ∀ x ∈ hs, x.bl.length ≤ 1000) :
    Calls Tryz.prog 34 #[v1, v2] w fun e w' => e = .returned (.bool true) ∧ ∃ q, w' = w.drewN q := by
  obtain ⟨a1, c1, rfl, hc1, r1⟩ := h1
  obtain ⟨a2, c2, rfl, hc2, r2⟩ := h2
  have R1 := hide r1
  have R2 := hide r2
  have HBL := hide hbl
  have hl := bs_toList
  clear r1 r2 hbl
  go_enter Tryz.func34, Tryz.ntmps34
  go_wp2_with fail
  go_loopg [5] hs.length (fun k v5 wr => ∃ j q : Nat, j + k = hs.length ∧ v5 = .int .i64 j ∧ wr = w.drewN q)
  case atStart => exact ⟨0, 0, by omega, rfl, rfl⟩
  case round =>
    obtain ⟨j, q, hjk, rfl, hw⟩ := hrel
    obtain ⟨K0, hK0⟩ : ∃ K0, K0 = gk := ⟨_, rfl⟩
    subst hw
    by_cases hlt : j < hs.length
    · have hd1 : decide ((j : Int) < (hs.length : Int)) = true := decide_eq_true (by omega)
      obtain ⟨g1, o1, vb1, rfl, p⟩ := R1.out j hlt
      obtain ⟨g2, o2, vb2, rfl, p'⟩ := R2.out j hlt
      have hb := HBL.out hs[j] (List.getElem_mem hlt)
      generalize hs[j] = x at *
      have p0 := p.c0
      have p1 := p.c1
      have p2 := p.c2
      have p3 := p.c3
      have p4 := p.c4
      have q0 := p'.c0
      have q1 := p'.c1
      have q2 := p'.c2
      have q3 := p'.c3
      have q4 := p'.c4
      obtain ⟨b1, d1, rfl, s1⟩ := p.r.str
      obtain ⟨b2, d2, rfl, s2⟩ := p'.r.str
      have S1 := hide s1
      have S2 := hide s2
      clear p p' s1 s2
      go_wp2_with fail
      go_quiet (fail)
      go_wp2_with fail
      go_loopg [8] x.bl.length (fun k v8 wr => ∃ i q : Nat, i + k = x.bl.length ∧ v8 = .int .i64 i ∧ wr = w.drewN q)
      case atStart => exact ⟨0, q + nq, by omega, rfl, by simp [World.drewN_drewN]⟩
      case round =>
        obtain ⟨i, q', hik, rfl, hw⟩ := hrel
        subst hw
        by_cases hil : i < x.bl.length
        · have hd2 : decide ((i : Int) < (x.bl.length : Int)) = true := decide_eq_true (by omega)
          obtain ⟨gb1, ob1, rfl, hgb1, u1⟩ := S1.out i hil
          obtain ⟨gb2, ob2, rfl, hgb2, u2⟩ := S2.out i hil
          generalize x.bl[i] = y at *
          go_wp2_with fail
          go_quiet (fail)
          go_wp2
          go_roundg (gk - 1)
          case measure => omega
          case rel => exact ⟨i + 1, _, by omega, by go_num, rfl⟩
        · have hd2 : decide ((i : Int) < (x.bl.length : Int)) = false := decide_eq_false (by omega)
          go_wp2
          go_roundg (K0 - 1)
          case measure => omega
          case rel => exact ⟨j + 1, _, by omega, by go_num, rfl⟩
    · have hd1 : decide ((j : Int) < (hs.length : Int)) = false := decide_eq_false (by omega)
      go_wp2
      go_ret
      exact ⟨rfl, q, rfl⟩
set_option maxRecDepth 100000 in
set_option maxHeartbeats 2000000 in
theorem ksameHits_ne (w : World) (a1 a2 : Option Addr) (n1 n2 c1 c2 : Nat) (h : n1 ≠ n2) :
    Calls Tryz.prog 34 #[.slice a1 n1 c1, .slice a2 n2 c2] w fun e w' => e = .returned (.bool false) ∧ w = w' := by
  have hne : ((n1 : Int) != (n2 : Int)) = true := by rw [bne_iff_ne]; omega
  have hne' : (n1 != n2) = true := by rw [bne_iff_ne]; exact h
  go_enter Tryz.func34, Tryz.ntmps34
  go_wp2
  go_ret
  exact ⟨rfl, rfl⟩
end Go.Proofs.YtpbkgeipigcefaaGreat

namespace Go.Proofs.YtpbkgeipigcefaaGreat
open Go.RowKit

def wthL (ls : List (List UInt8)) (k : Nat) (x : List UInt8) : List (List UInt8) := ls.take k ++ x :: ls.drop k
def wthT (ls : List (List UInt8)) (k : Nat) (x : List UInt8) : Nat → List UInt8
  | 0 => []
  | j + 1 => wthT ls k x j ++ ((if j = k then x else []) ++ ls.getD j [])
theorem wthT_lo (ls : List (List UInt8)) (k : Nat) (x : List UInt8) : ∀ j, j ≤ k → j ≤ ls.length → wthT ls k x j = (ls.take j).flatten
  | 0, _, _ => rfl
  | j + 1, h, hl => by
    rw [wthT, wthT_lo ls k x j (by omega) (by omega), if_neg (by omega), List.nil_append, List.take_succ_eq_append_getElem (by omega), List.flatten_append]
    simp [List.getD, show j < ls.length by omega]
theorem wthT_hi (ls : List (List UInt8)) (k : Nat) (x : List UInt8) (hk : k ≤ ls.length) : ∀ d, k + d ≤ ls.length → 0 < d → wthT ls k x (k + d) = (ls.take k).flatten ++ (x ++ ((ls.drop k).take d).flatten)
  | 0, _, h => by omega
  | d + 1, hl, _ => by
    have e : ls.getD (k + d) [] = ((ls.drop k)[d]'(by simp; omega)) := by simp [List.getD, show k + d < ls.length by omega]
    rw [show k + (d + 1) = (k + d) + 1 by omega, wthT, e, List.take_succ_eq_append_getElem (by simp; omega)]
    cases d with
    | zero =>
      rw [Nat.add_zero, wthT_lo ls k x k (Nat.le_refl _) hk, if_pos rfl]
      simp
    | succ d =>
      rw [wthT_hi ls k x hk (d + 1) (by omega) (by omega), if_neg (by omega)]
      simp
theorem wthT_all (ls : List (List UInt8)) (k : Nat) (x : List UInt8) (hk : k ≤ ls.length) : wthT ls k x ls.length ++ (if k = ls.length then x else []) = (wthL ls k x).flatten := by
  unfold wthL
  rw [List.flatten_append, List.flatten_cons]
  by_cases h : k = ls.length
  · rw [if_pos h, wthT_lo ls k x ls.length (by omega) (Nat.le_refl _), h, List.drop_length]; simp
  · rw [if_neg h, List.append_nil]
    have := wthT_hi ls k x hk (ls.length - k) (by omega) (by omega)
    rw [show k + (ls.length - k) = ls.length by omega] at this
    rw [this, List.take_of_length_le (l := ls.drop k) (by simp)]
theorem wthT_len (ls : List (List UInt8)) (k : Nat) (x : List UInt8) : ∀ j, j ≤ ls.length → (wthT ls k x j).length ≤ (ls.take j).flatten.length + (if k < j then x.length else 0)
  | 0, _ => by simp [wthT]
  | j + 1, hl => by
    have := wthT_len ls k x j (by omega)
    rw [wthT, List.take_succ_eq_append_getElem (by omega), List.flatten_append, List.length_append, List.length_append, List.length_append]
    have e : ls.getD j [] = ls[j] := by simp [List.getD, show j < ls.length by omega]
    rw [e]
    simp only [List.flatten_cons, List.flatten_nil, List.append_nil]
    by_cases h : j = k
    · rw [if_pos h, if_pos (by omega)]; rw [if_neg (by omega)] at this; omega
    · rw [if_neg h]
      by_cases h2 : k < j
      · rw [if_pos h2] at this; rw [if_pos (by omega)]; simp only [List.length_nil]; omega
      · rw [if_neg h2] at this; rw [if_neg (by omega)]; simp only [List.length_nil]; omega
def WTQ (ls : List (List UInt8)) (tn : List UInt8) (w : World) (e : Ending) (w' : World) : Prop :=
  Frm [] w w' ∧ ((e = .returned (.pointer none) ∧ (1200 < tn.length ∨ 16 < ls.length ∨ (cRes reC tn).1 ≠ 0)) ∨
  (∃ Ln C s V pb, e = .returned (.pointer (some ⟨pb, 0, none⟩)) ∧ tn.length ≤ 1200 ∧ ls.length ≤ 16 ∧ cRead tn = .ok (Ln, C) ∧ pread reC autC cs0 0 C = .ok s ∧ PR [] w' pb V (compM C s) ∧ MOK (compM C s)))

set_option maxRecDepth 100000 in
set_option maxHeartbeats 4000000 in
theorem kwith_any {w0 w : World} {db : Nat} {t : List UInt8} {a : Option Addr} {cap : Nat} {L : List LBL} {Ln : List (List UInt8)} {C : List CR} {s : CS} {V : V6} {pb : Nat} (h : DK w0 w db t a cap L Ln C s V pb) (k : Nat) (hk : k ≤ (lnsK t).length) (x : List UInt8) (hx : x.length ≤ 1000) :
    Calls Tryz.prog 33 #[.pointer (some ⟨db, 0, none⟩), .int .i64 k, .string (bs x)] w (WTQ (lnsK t) (wthL (lnsK t) k x).flatten w) := by
  have htl := h.tl
  have r0 : w.cell? ⟨db, 0, none⟩ = some (.string (bs t)) := by simp [World.cell?, h.row]
  have N1 := hide (lines_any t w (by omega))
  have hfl : (lnsK t).flatten = t := ((cRead1_lines t Ln C).1 (cRead_tree h.rd).1).1
  have HAL := hide (wthT_all (lnsK t) k x hk)
  have hll : (lnsK t).length ≤ t.length := lnsGo_len t []
  have HLE : Hid (∀ j, j ≤ (lnsK t).length → (wthT (lnsK t) k x j).length ≤ 20000) := by
    intro j hj
    have h1 := wthT_len (lnsK t) k x j hj
    have h2 : ((lnsK t).take j).flatten.length ≤ t.length := by
      have : (((lnsK t).take j).flatten ++ ((lnsK t).drop j).flatten).length = t.length := by rw [← List.flatten_append, List.take_append_drop, hfl]
      rw [List.length_append] at this
      omega
    split at h1 <;> omega
  have HST : Hid (∀ j (hj : j < (lnsK t).length), wthT (lnsK t) k x (j + 1) = wthT (lnsK t) k x j ++ ((if j = k then x else []) ++ (lnsK t)[j])) := by
    intro j hj
    rw [wthT]
    simp [List.getD, hj]
  have HCM : Hid (∀ (tn : List UInt8) (W : World), tn.length ≤ 1048576 → Calls Tryz.prog 25 #[.string (bs tn)] W (CMQ tn W)) := fun tn W h => compile_any tn W h
  have hsz := bs_size
  have hap := bs_append
  have k0 : ({ data := #[] } : ByteArray) = bs [] := rfl
  clear h hfl
  generalize hls : lnsK t = ls at *
  clear hls
  generalize htn : (wthL ls k x).flatten = tn at *
  clear htn
  go_enter Tryz.func33, Tryz.ntmps33
  go_wp2_with fail
  refine (N1.out).mono ?_
  clear N1
  rintro e w1 ⟨v, rfl, hF, hR⟩
  have F := hide hF
  obtain ⟨al, cl, rfl, hr⟩ := hR.str
  have HR := hide hr
  clear hF hR hr
  go_wp2_with fail
  go_loopg [8, 9] ls.length (fun kk vt vi wr => ∃ j : Nat, j + kk = ls.length ∧ vi = .int .i64 j ∧ vt = .string (bs (wthT ls k x j)) ∧ wr = w1)
  case atStart => exact ⟨0, by omega, rfl, by rw [k0]; rfl, rfl⟩
  case round =>
    obtain ⟨j, hjk, rfl, rfl, hw⟩ := hrel
    subst hw
    have hle := HLE.out j (by omega)
    by_cases hlt : j < ls.length
    · have hd1 : decide ((j : Int) < (ls.length : Int)) = true := decide_eq_true (by omega)
      obtain ⟨g, o, rfl, hg, c0⟩ := HR.out j hlt
      have HS := hide (HST.out j hlt)
      have hle1 := HLE.out (j + 1) (by omega)
      by_cases hjk2 : j = k
      · have he : ((j : Int) == (k : Int)) = true := by rw [beq_iff_eq]; omega
        have he' : (j == k) = true := by rw [beq_iff_eq]; exact hjk2
        have HS2 : Hid (wthT ls k x j ++ (x ++ ls[j]) = wthT ls k x (j + 1)) := by show _ = _; rw [HS.out, if_pos hjk2]
        have hl2 : (wthT ls k x j ++ (x ++ ls[j])).length ≤ 20000 := by rw [HS2.out]; exact hle1
        rw [List.length_append, List.length_append] at hl2
        clear HS hle1
        subst hjk2
        generalize ls[j] = lj at *
        generalize hT : wthT ls j x j = T at *
        clear hT
        go_wp2
        go_roundg (gk - 1)
        case measure => omega
        case rel => exact ⟨j + 1, by omega, by go_num, by rw [← HS2.out], rfl⟩
      · have he : ((j : Int) == (k : Int)) = false := by rw [beq_eq_false_iff_ne]; omega
        have he' : (j == k) = false := by rw [beq_eq_false_iff_ne]; exact hjk2
        have HS2 : Hid (wthT ls k x j ++ ls[j] = wthT ls k x (j + 1)) := by show _ = _; rw [HS.out, if_neg hjk2]; simp
        have hl2 : (wthT ls k x j ++ ls[j]).length ≤ 20000 := by rw [HS2.out]; exact hle1
        rw [List.length_append] at hl2
        clear HS hle1
        generalize ls[j] = lj at *
        generalize hT : wthT ls k x j = T at *
        clear hT
        go_wp2
        go_roundg (gk - 1)
        case measure => omega
        case rel => exact ⟨j + 1, by omega, by go_num, by rw [← HS2.out], rfl⟩
    · have hjl : j = ls.length := by omega
      subst hjl
      have hd1 : decide ((ls.length : Int) < (ls.length : Int)) = false := decide_eq_false (by omega)
      -- the text is whole
      have key : ∀ tn' : List UInt8, tn' = tn → tn'.length ≤ 30000 → Hid (∀ W, Calls Tryz.prog 25 #[.string (bs tn')] W (CMQ tn W)) := fun tn' h1 h2 W => by rw [h1] at h2 ⊢; exact HCM.out tn W (by omega)
      by_cases hkl : k = ls.length
      · have he : ((k : Int) == (ls.length : Int)) = true := by rw [beq_iff_eq]; omega
        have he' : (k == ls.length) = true := by rw [beq_iff_eq]; exact hkl
        have HT : Hid (wthT ls k x ls.length ++ x = tn) := by show _ = _; have := HAL.out; rw [if_pos hkl] at this; exact this
        have N2 := key _ HT.out (by rw [List.length_append]; omega)
        have hlt : (wthT ls k x ls.length ++ x).length = tn.length := by rw [HT.out]
        rw [List.length_append] at hlt
        clear HAL HLE HST HCM key
        generalize wthT ls k x ls.length = T at *
        subst hkl
        by_cases hb : 1200 < tn.length
        · have hd3 : decide ((1200 : Int) < (T.length : Int) + (x.length : Int)) = true := decide_eq_true (by omega)
          have hd3' : decide (1200 < T.length + x.length) = true := decide_eq_true (by omega)
          clear N2
          go_wp2
          go_ret
          exact ⟨F.out, .inl ⟨rfl, .inl hb⟩⟩
        · have hd3 : decide ((1200 : Int) < (T.length : Int) + (x.length : Int)) = false := decide_eq_false (by omega)
          have hd3' : decide (1200 < T.length + x.length) = false := decide_eq_false (by omega)
          by_cases hb2 : 16 < ls.length
          · have hd4 : decide ((16 : Int) < (ls.length : Int)) = true := decide_eq_true (by omega)
            have hd4' : decide (16 < ls.length) = true := decide_eq_true hb2
            clear N2
            go_wp2
            go_ret
            exact ⟨F.out, .inl ⟨rfl, .inr (.inl hb2)⟩⟩
          · have hd4 : decide ((16 : Int) < (ls.length : Int)) = false := decide_eq_false (by omega)
            have hd4' : decide (16 < ls.length) = false := decide_eq_false hb2
            go_wp2_with fail
            refine (N2.out _).mono ?_
            clear N2
            rintro e w2 ⟨hF2, ⟨h1, rfl⟩ | ⟨Ln2, C2, s2, V2, pb2, h1, h2, h3, rfl, h4, h5, h6⟩⟩
            · have F2 := hide (F.out.trans hF2)
              have H1 := hide h1
              have hne : (((cRes reC tn).1 : Int) != 0) = true := by rw [bne_iff_ne]; omega
              clear hF2 h1
              generalize (cRes reC tn).2 = n2 at *
              generalize hn1 : (cRes reC tn).1 = n1 at *
              go_wp2
              go_ret
              exact ⟨F2.out, .inl ⟨rfl, .inr (.inr (by rw [hn1]; exact H1.out))⟩⟩
            · have HH : Hid (WTQ ls tn w (.returned (.pointer (some ⟨pb2, 0, none⟩))) w2) := ⟨F.out.trans hF2, .inr ⟨Ln2, C2, s2, V2, pb2, rfl, by omega, by omega, h2, h3, h4, h5⟩⟩
              clear hF2 h1 h2 h3 h4 h5
              go_wp2
              go_ret
              exact HH.out
      · have he : ((k : Int) == (ls.length : Int)) = false := by rw [beq_eq_false_iff_ne]; omega
        have he' : (k == ls.length) = false := by rw [beq_eq_false_iff_ne]; exact hkl
        have HT : Hid (wthT ls k x ls.length = tn) := by show _ = _; have := HAL.out; rw [if_neg hkl, List.append_nil] at this; exact this
        have N2 := key _ HT.out (by omega)
        have hlt : (wthT ls k x ls.length).length = tn.length := by rw [HT.out]
        clear HAL HLE HST HCM key
        generalize wthT ls k x ls.length = T at *
        by_cases hb : 1200 < tn.length
        · have hd3 : decide ((1200 : Int) < (T.length : Int)) = true := decide_eq_true (by omega)
          have hd3' : decide (1200 < T.length) = true := decide_eq_true (by omega)
          clear N2
          go_wp2
          go_ret
          exact ⟨F.out, .inl ⟨rfl, .inl hb⟩⟩
        · have hd3 : decide ((1200 : Int) < (T.length : Int)) = false := decide_eq_false (by omega)
          have hd3' : decide (1200 < T.length) = false := decide_eq_false (by omega)
          by_cases hb2 : 16 < ls.length
          · have hd4 : decide ((16 : Int) < (ls.length : Int)) = true := decide_eq_true (by omega)
            have hd4' : decide (16 < ls.length) = true := decide_eq_true hb2
            clear N2
            go_wp2
            go_ret
            exact ⟨F.out, .inl ⟨rfl, .inr (.inl hb2)⟩⟩
          · have hd4 : decide ((16 : Int) < (ls.length : Int)) = false := decide_eq_false (by omega)
            have hd4' : decide (16 < ls.length) = false := decide_eq_false hb2
            go_wp2_with fail
            refine (N2.out _).mono ?_
            clear N2
            rintro e w2 ⟨hF2, ⟨h1, rfl⟩ | ⟨Ln2, C2, s2, V2, pb2, h1, h2, h3, rfl, h4, h5, h6⟩⟩
            · have F2 := hide (F.out.trans hF2)
              have H1 := hide h1
              have hne : (((cRes reC tn).1 : Int) != 0) = true := by rw [bne_iff_ne]; omega
              clear hF2 h1
              generalize (cRes reC tn).2 = n2 at *
              generalize hn1 : (cRes reC tn).1 = n1 at *
              go_wp2
              go_ret
              exact ⟨F2.out, .inl ⟨rfl, .inr (.inr (by rw [hn1]; exact H1.out))⟩⟩
            · have HH : Hid (WTQ ls tn w (.returned (.pointer (some ⟨pb2, 0, none⟩))) w2) := ⟨F.out.trans hF2, .inr ⟨Ln2, C2, s2, V2, pb2, rfl, by omega, by omega, h2, h3, h4, h5⟩⟩
              clear hF2 h1 h2 h3 h4 h5
              go_wp2
              go_ret
              exact HH.out
end Go.Proofs.YtpbkgeipigcefaaGreat

namespace Go.Proofs.YtpbkgeipigcefaaGreat
open Go.RowKit

end Go.Proofs.YtpbkgeipigcefaaGreat

namespace Go.Proofs.YtpbkgeipigcefaaGreat
open Go.RowKit

/-! What a route sends: some, each once. -/
theorem walkH_ne {H : Nat → Bool} {C : List CR} {S : Nat → List Nat} : ∀ K : List Nat, K.any H = true → (∀ c ∈ K, S c ≠ []) → walkH H C S K ≠ []
  | [], h, _ => by simp at h
  | c :: r, h, hS => by
    rw [walkH]
    cases hc : H c
    · simp only [Bool.false_eq_true, if_false]
      exact walkH_ne r (by simpa [hc] using h) (fun x hx => hS x (by simp [hx]))
    · simp only [if_true]
      intro e
      exact hS c (by simp) (List.append_eq_nil_iff.1 e).1
inductive Below' (C : List CR) (r : Nat) : Nat → Prop
  | self : Below' C r r
  | step {j p : Nat} : par C j = some p → Below' C r p → Below' C r j
theorem Below'.ge {C : List CR} {r j : Nat} (h : Below' C r j) : r ≤ j := by
  induction h with
  | self => exact Nat.le_refl _
  | step hp _ ih => have := par_lt hp; omega
theorem Below'.up {C : List CR} {c r j : Nat} (hc : par C c = some r) (h : Below' C c j) : Below' C r j := by
  induction h with
  | self => exact .step hc .self
  | step hp _ ih => exact .step hp ih
theorem Below'.one {C : List CR} {r a b j : Nat} (ha : par C a = some r) (hb : par C b = some r) (h1 : Below' C a j) (h2 : Below' C b j) : a = b := by
  induction h1 with
  | self =>
    cases h2 with
    | self => rfl
    | step hp h3 =>
      rw [ha] at hp
      cases hp
      have h4 := h3.ge
      have h5 := par_lt hb
      omega
  | step hp h3 ih =>
    cases h2 with
    | self =>
      rw [hb] at hp
      cases hp
      have h4 := h3.ge
      have h5 := par_lt ha
      omega
    | step hp2 h4 =>
      rw [hp] at hp2
      cases hp2
      exact ih h4
theorem walkH_mem {H : Nat → Bool} {C : List CR} {S : Nat → List Nat} : ∀ K : List Nat, ∀ x ∈ walkH H C S K, ∃ c ∈ K, x ∈ S c
  | [], x, h => by simp [walkH] at h
  | c :: r, x, h => by
    rw [walkH] at h
    split at h
    · rcases List.mem_append.1 h with h | h
      · exact ⟨c, by simp, h⟩
      · split at h
        · obtain ⟨d, hd, hx⟩ := walkH_mem r x h
          exact ⟨d, by simp [hd], hx⟩
        · simp at h
    · obtain ⟨d, hd, hx⟩ := walkH_mem r x h
      exact ⟨d, by simp [hd], hx⟩
theorem walkH_nodup {H : Nat → Bool} {C : List CR} {S : Nat → List Nat} : ∀ K : List Nat, K.Nodup → (∀ c ∈ K, (S c).Nodup) → (∀ c ∈ K, ∀ d ∈ K, ∀ x, x ∈ S c → x ∈ S d → c = d) → (walkH H C S K).Nodup
  | [], _, _, _ => by simp [walkH]
  | c :: r, hK, hS, hD => by
    have hr := walkH_nodup (H := H) (C := C) r (List.nodup_cons.1 hK).2 (fun d hd => hS d (by simp [hd])) (fun a ha b hb => hD a (by simp [ha]) b (by simp [hb]))
    rw [walkH]
    split
    · rw [List.nodup_append]
      refine ⟨hS c (by simp), ?_, ?_⟩
      · split
        · exact hr
        · exact List.nodup_nil
      · intro x hx y hy e
        subst e
        split at hy
        · obtain ⟨d, hd, hxd⟩ := walkH_mem r x hy
          have := hD c (by simp) d (by simp [hd]) x hx hxd
          subst this
          exact (List.nodup_cons.1 hK).1 hd
        · simp at hy
    · exact hr
theorem sentH_below {H : Nat → Bool} {C : List CR} : ∀ f r, r < C.length → (∀ x ∈ sentH H C f r, Below' C r x ∧ x < C.length) ∧ (sentH H C f r).Nodup
  | 0, r, _ => ⟨by simp [sentH], by simp [sentH]⟩
  | f + 1, r, hr => by
    rw [sentH]
    split
    · have hk : ∀ c ∈ kids C r, (∀ x ∈ sentH H C f c, Below' C c x ∧ x < C.length) ∧ (sentH H C f c).Nodup := fun c hc => sentH_below f c (mem_kids' hc).1
      refine ⟨fun x hx => ?_, walkH_nodup _ (kids_nodup C r) (fun c hc => (hk c hc).2) (fun c hc d hd x hx hy => ?_)⟩
      · obtain ⟨c, hc, hxc⟩ := walkH_mem _ x hx
        have := (hk c hc).1 x hxc
        exact ⟨this.1.up (mem_kids' hc).2, this.2⟩
      · exact Below'.one (mem_kids' hc).2 (mem_kids' hd).2 ((hk c hc).1 x hx).1 ((hk d hd).1 x hy).1
    · exact ⟨fun x hx => by rw [List.mem_singleton.1 hx]; exact ⟨.self, hr⟩, by simp⟩
theorem kid_depth {C : List CR} {r c : Nat} (h : c ∈ kids C r) {x y : CR} (hx : C[r]? = some x) (hy : C[c]? = some y) : y.d = x.d + 1 := by
  have hp := (mem_kids' h).2
  unfold par at hp
  rw [hy] at hp
  have go : ∀ (d i p : Nat), parGo C d i = some p → (C[p]?.map fun c => c.d + 1) = some d := by
    intro d i
    induction i with
    | zero => intro p h; simp [parGo] at h
    | succ i ih =>
      intro p h
      rw [parGo] at h
      split at h
      · rename_i h1; cases h; exact h1
      · exact ih p h
  have := go _ _ _ hp
  rw [hx] at this
  simp at this
  omega
theorem sentH_some {H : Nat → Bool} {C : List CR} (hd : ∀ c ∈ C, c.d ≤ 5) : ∀ f r x, C[r]? = some x → 6 ≤ f + x.d → sentH H C f r ≠ []
  | 0, r, x, hx, h => by
    have := hd x (List.mem_of_getElem? hx)
    omega
  | f + 1, r, x, hx, h => by
    rw [sentH]
    split
    · rename_i ha
      refine walkH_ne _ ha (fun c hc => ?_)
      have hcl := (mem_kids' hc).1
      have := kid_depth hc hx (List.getElem?_eq_getElem hcl)
      exact sentH_some hd f c C[c] (List.getElem?_eq_getElem hcl) (by omega)
    · simp
theorem sentH_len {H : Nat → Bool} {C : List CR} (f r : Nat) (hr : r < C.length) : (sentH H C f r).length ≤ C.length := by
  obtain ⟨h1, h2⟩ := sentH_below (H := H) f r hr
  exact nodup_le _ _ h2 (fun x hx => (h1 x hx).2)
end Go.Proofs.YtpbkgeipigcefaaGreat

namespace Go.Proofs.YtpbkgeipigcefaaGreat
open Go.RowKit

/-! A route put in. -/
def sh (i j : Nat) : Nat := if j < i then j else j + 1
def insC (C : List CR) (i : Nat) (N : CR) : List CR := C.take i ++ N :: C.drop i
theorem sh_ne (i j : Nat) : sh i j ≠ i := by unfold sh; split <;> omega
theorem sh_lt {i a b : Nat} : sh i a < sh i b ↔ a < b := by unfold sh; split <;> split <;> omega
theorem sh_inj {i a b : Nat} (h : sh i a = sh i b) : a = b := by unfold sh at h; split at h <;> split at h <;> omega
theorem sh_of {i k : Nat} (h : k ≠ i) : ∃ j, k = sh i j := by
  by_cases h1 : k < i
  · exact ⟨k, by unfold sh; rw [if_pos h1]⟩
  · exact ⟨k - 1, by unfold sh; rw [if_neg (by omega)]; omega⟩
theorem insC_len {C : List CR} {i : Nat} (N : CR) (hi : i ≤ C.length) : (insC C i N).length = C.length + 1 := by unfold insC; simp; omega
theorem insC_at {C : List CR} {i : Nat} (N : CR) (hi : i ≤ C.length) : (insC C i N)[i]? = some N := by
  unfold insC
  rw [List.getElem?_append_right (by simp; omega)]
  simp [show i - min i C.length = 0 by omega]
theorem insC_sh {C : List CR} {i : Nat} (N : CR) (hi : i ≤ C.length) (j : Nat) : (insC C i N)[sh i j]? = C[j]? := by
  unfold insC sh
  by_cases h : j < i
  · rw [if_pos h, List.getElem?_append_left (by simp; omega), List.getElem?_take_of_lt h]
  · rw [if_neg h, List.getElem?_append_right (by simp; omega), List.length_take, show j + 1 - min i C.length = (j - i) + 1 by omega, List.getElem?_cons_succ, List.getElem?_drop, show i + (j - i) = j by omega]
theorem parGo_spec {C : List CR} {d : Nat} : ∀ (i p : Nat), parGo C d i = some p ↔ p < i ∧ (∃ x, C[p]? = some x ∧ x.d + 1 = d) ∧ ∀ q x, p < q → q < i → C[q]? = some x → x.d + 1 ≠ d
  | 0, p => by simp [parGo]
  | i + 1, p => by
    rw [parGo]
    by_cases e : (C[i]?.map fun c => c.d + 1) = some d
    · rw [if_pos e]
      rw [Option.map_eq_some_iff] at e
      obtain ⟨x, hx, hd⟩ := e
      constructor
      · intro h
        cases h
        exact ⟨by omega, ⟨x, hx, hd⟩, fun q y h1 h2 => by omega⟩
      · rintro ⟨h1, ⟨y, hy, hyd⟩, h3⟩
        rcases Nat.lt_or_ge p i with h4 | h4
        · exact absurd hd (h3 i x h4 (by omega) hx)
        · congr 1; omega
    · rw [if_neg e, parGo_spec i p]
      constructor
      · rintro ⟨h1, h2, h3⟩
        refine ⟨by omega, h2, fun q y h4 h5 hy => ?_⟩
        rcases Nat.lt_or_ge q i with h6 | h6
        · exact h3 q y h4 h6 hy
        · have : q = i := by omega
          subst this
          intro h7
          exact e (by rw [hy]; simp [h7])
      · rintro ⟨h1, ⟨y, hy, hyd⟩, h3⟩
        refine ⟨?_, ⟨y, hy, hyd⟩, fun q z h4 h5 hz => h3 q z h4 (by omega) hz⟩
        rcases Nat.lt_or_ge p i with h6 | h6
        · exact h6
        · have : p = i := by omega
          subst this
          exact absurd (by rw [hy]; simp [hyd]) e
theorem par_spec {C : List CR} {j p : Nat} {c : CR} (hc : C[j]? = some c) : par C j = some p ↔ p < j ∧ (∃ x, C[p]? = some x ∧ x.d + 1 = c.d) ∧ ∀ q x, p < q → q < j → C[q]? = some x → x.d + 1 ≠ c.d := by
  unfold par
  rw [hc]
  exact parGo_spec j p
structure Put (C : List CR) (i : Nat) (N : CR) : Prop where
  st : Steps C
  i1 : 1 ≤ i
  il : i ≤ C.length
  d : ∀ c, C[i]? = some c → N.d = c.d
theorem Put.parS {C : List CR} {i : Nat} {N : CR} (h : Put C i N) {j p : Nat} (hp : par C j = some p) : par (insC C i N) (sh i j) = some (sh i p) := by
  have hjl : j < C.length := by
    rcases Nat.lt_or_ge j C.length with h1 | h1
    · exact h1
    · unfold par at hp; rw [List.getElem?_eq_none h1] at hp; cases hp
  have hc : C[j]? = some C[j] := List.getElem?_eq_getElem hjl
  obtain ⟨h1, ⟨x, hx, hd⟩, h3⟩ := (par_spec hc).1 hp
  refine (par_spec (by rw [insC_sh N h.il]; exact hc)).2 ⟨sh_lt.2 h1, ⟨x, by rw [insC_sh N h.il]; exact hx, hd⟩, fun q y h4 h5 hy => ?_⟩
  by_cases hq : q = i
  · subst hq
    rw [insC_at N h.il] at hy
    cases hy
    have hpi : p < q := by unfold sh at h4; split at h4 <;> omega
    have hij : q ≤ j := by unfold sh at h5; split at h5 <;> omega
    have hil : q < C.length := by omega
    have hN := h.d C[q] (List.getElem?_eq_getElem hil)
    rcases Nat.lt_or_ge q j with h6 | h6
    · rw [hN]
      exact h3 q C[q] hpi h6 (List.getElem?_eq_getElem hil)
    · have : q = j := by omega
      subst this
      omega
  · obtain ⟨q', rfl⟩ := sh_of hq
    rw [insC_sh N h.il] at hy
    exact h3 q' y (sh_lt.1 h4) (sh_lt.1 h5) hy
theorem Put.par0 {C : List CR} {i : Nat} {N : CR} (h : Put C i N) : ∀ j, j < C.length → par (insC C i N) (sh i j) = (par C j).map (sh i)
  | 0, hj => by
    have h0 : sh i 0 = 0 := by unfold sh; rw [if_pos (by have := h.i1; omega)]
    have e : ∀ D : List CR, par D 0 = none := fun D => by
      cases hp : par D 0 with
      | none => rfl
      | some p => exact absurd (par_lt hp) (by omega)
    rw [h0, e, e]; rfl
  | j + 1, hj => by
    obtain ⟨p, hp⟩ := par_of h.st j hj
    rw [hp, h.parS hp]; rfl
theorem Put.notkid {C : List CR} {i : Nat} {N : CR} (h : Put C i N) (j' : Nat) (hj : j' < C.length + 1) (hp : par (insC C i N) j' = some i) : False := by
  have h1 := par_lt hp
  obtain ⟨j, rfl⟩ := sh_of (show j' ≠ i by omega)
  have hjl : j < C.length := by
    have hil := h.il
    unfold sh at hj h1
    by_cases h2 : j < i
    · omega
    · rw [if_neg h2] at hj; omega
  rw [h.par0 j hjl] at hp
  cases hq : par C j with
  | none => rw [hq] at hp; cases hp
  | some p => rw [hq] at hp; simp at hp; exact sh_ne i p hp
theorem kids_iff {C : List CR} {r c : Nat} : c ∈ kids C r ↔ c < C.length ∧ par C c = some r := by
  constructor
  · exact mem_kids'
  · rintro ⟨h1, h2⟩
    unfold kids
    rw [List.mem_filter, List.mem_range]
    refine ⟨h1, ?_⟩
    have := par_lt h2
    simp [h2, this]
theorem kids_sorted (C : List CR) (r : Nat) : (kids C r).Pairwise (· < ·) := by
  unfold kids
  exact List.Pairwise.filter _ List.pairwise_lt_range
theorem sorted_ext : ∀ (l l' : List Nat), l.Pairwise (· < ·) → l'.Pairwise (· < ·) → (∀ x, x ∈ l ↔ x ∈ l') → l = l'
  | [], [], _, _, _ => rfl
  | [], b :: r, _, _, h => by have := (h b).2 (by simp); simp at this
  | a :: l, [], _, _, h => by have := (h a).1 (by simp); simp at this
  | a :: l, b :: r, h1, h2, h => by
    have ha : ∀ {x}, x ∈ l → a < x := fun hx => List.rel_of_pairwise_cons h1 hx
    have hb : ∀ {x}, x ∈ r → b < x := fun hx => List.rel_of_pairwise_cons h2 hx
    have e : a = b := by
      rcases List.mem_cons.1 ((h a).1 (by simp)) with e | e
      · exact e
      · rcases List.mem_cons.1 ((h b).2 (by simp)) with e2 | e2
        · exact e2.symm
        · have h3 := hb e
          have h4 := ha e2
          omega
    subst e
    rw [sorted_ext l r (List.Pairwise.of_cons h1) (List.Pairwise.of_cons h2) (fun x => ?_)]
    constructor
    · intro hx
      rcases List.mem_cons.1 ((h x).1 (by simp [hx])) with e | e
      · subst e; exact absurd (ha hx) (by omega)
      · exact e
    · intro hx
      rcases List.mem_cons.1 ((h x).2 (by simp [hx])) with e | e
      · subst e; exact absurd (hb hx) (by omega)
      · exact e
theorem map_sorted (i : Nat) : ∀ (l : List Nat), l.Pairwise (· < ·) → (l.map (sh i)).Pairwise (· < ·) := fun l h => by
  rw [List.pairwise_map]
  exact h.imp (fun hab => sh_lt.2 hab)
theorem Put.kidsS {C : List CR} {i : Nat} {N : CR} (h : Put C i N) (r : Nat) : (kids (insC C i N) (sh i r)).filter (fun x => decide (x ≠ i)) = (kids C r).map (sh i) := by
  refine sorted_ext _ _ (List.Pairwise.filter _ (kids_sorted _ _)) (map_sorted i _ (kids_sorted _ _)) (fun x => ?_)
  rw [List.mem_filter, List.mem_map, kids_iff, insC_len N h.il]
  constructor
  · rintro ⟨⟨h1, h2⟩, h3⟩
    have h3 : x ≠ i := by simpa using h3
    obtain ⟨j, rfl⟩ := sh_of h3
    have hjl : j < C.length := by have := h.il; unfold sh at h1; split at h1 <;> omega
    rw [h.par0 j hjl] at h2
    cases hq : par C j with
    | none => rw [hq] at h2; cases h2
    | some p =>
      rw [hq] at h2
      simp at h2
      have := sh_inj h2
      subst this
      exact ⟨j, kids_iff.2 ⟨hjl, hq⟩, rfl⟩
  · rintro ⟨j, hj, rfl⟩
    obtain ⟨h1, h2⟩ := kids_iff.1 hj
    refine ⟨⟨by have := h.il; unfold sh; split <;> omega, by rw [h.par0 j h1, h2]; rfl⟩, by simpa using sh_ne i j⟩
theorem Put.kidsN {C : List CR} {i : Nat} {N : CR} (h : Put C i N) : kids (insC C i N) i = [] := by
  cases hk : kids (insC C i N) i with
  | nil => rfl
  | cons c r =>
    have hc : c ∈ kids (insC C i N) i := by rw [hk]; simp
    obtain ⟨h1, h2⟩ := kids_iff.1 hc
    rw [insC_len N h.il] at h1
    exact (h.notkid c h1 h2).elim
theorem walkH_filter {H : Nat → Bool} {C : List CR} {S : Nat → List Nat} {i : Nat} : ∀ K : List Nat, (H i = false ∨ i ∉ K) → walkH H C S K = walkH H C S (K.filter fun x => decide (x ≠ i))
  | [], _ => rfl
  | c :: r, h => by
    have hr : H i = false ∨ i ∉ r := h.imp id (fun h hm => h (by simp [hm]))
    by_cases e : c = i
    · subst e
      have hc : H c = false := h.resolve_right (by simp)
      rw [walkH, hc, List.filter_cons]
      simp only [Bool.false_eq_true, if_false, ne_eq, not_true_eq_false, decide_false]
      exact walkH_filter r hr
    · rw [List.filter_cons, if_pos (by simpa using e), walkH, walkH, walkH_filter r hr]
theorem any_filter' {H : Nat → Bool} {i : Nat} : ∀ K : List Nat, (H i = false ∨ i ∉ K) → K.any H = (K.filter fun x => decide (x ≠ i)).any H
  | [], _ => rfl
  | c :: r, h => by
    have hr : H i = false ∨ i ∉ r := h.imp id (fun h hm => h (by simp [hm]))
    by_cases e : c = i
    · subst e
      have hc : H c = false := h.resolve_right (by simp)
      rw [List.any_cons, hc, List.filter_cons]
      simp only [Bool.false_or, ne_eq, not_true_eq_false, decide_false, Bool.false_eq_true, if_false]
      exact any_filter' r hr
    · rw [List.filter_cons, if_pos (by simpa using e), List.any_cons, List.any_cons, any_filter' r hr]
theorem walkH_map {H H' : Nat → Bool} {C C' : List CR} {S S' : Nat → List Nat} {i : Nat} : ∀ K : List Nat, (∀ c ∈ K, H' (sh i c) = H c ∧ (C'[sh i c]?.map (·.co)) = (C[c]?.map (·.co)) ∧ S' (sh i c) = (S c).map (sh i)) → walkH H' C' S' (K.map (sh i)) = (walkH H C S K).map (sh i)
  | [], _ => rfl
  | c :: r, h => by
    obtain ⟨h1, h2, h3⟩ := h c (by simp)
    rw [List.map_cons, walkH, walkH, h1, h2, h3, walkH_map r (fun x hx => h x (by simp [hx]))]
    split
    · rw [List.map_append]
      congr 1
      split <;> rfl
    · rfl
theorem any_map {H H' : Nat → Bool} {i : Nat} : ∀ K : List Nat, (∀ c ∈ K, H' (sh i c) = H c) → (K.map (sh i)).any H' = K.any H
  | [], _ => rfl
  | c :: r, h => by rw [List.map_cons, List.any_cons, List.any_cons, h c (by simp), any_map r (fun x hx => h x (by simp [hx]))]
theorem Put.step {C : List CR} {i : Nat} {N : CR} (h : Put C i N) {H H' : Nat → Bool} (hH : ∀ c, c < C.length → H' (sh i c) = H c) {f r : Nat} (hr : H' i = false ∨ i ∉ kids (insC C i N) (sh i r)) (ih : ∀ c ∈ kids C r, sentH H' (insC C i N) f (sh i c) = (sentH H C f c).map (sh i)) :
    sentH H' (insC C i N) (f + 1) (sh i r) = (sentH H C (f + 1) r).map (sh i) := by
  rw [sentH, sentH, any_filter' _ hr, walkH_filter _ hr, h.kidsS r]
  have hk : ∀ c ∈ kids C r, H' (sh i c) = H c := fun c hc => hH c (kids_iff.1 hc).1
  rw [any_map _ hk, walkH_map _ (fun c hc => ⟨hk c hc, by rw [insC_sh N h.il], ih c hc⟩)]
  split
  · rfl
  · rfl
theorem Put.never {C : List CR} {i : Nat} {N : CR} (h : Put C i N) {H H' : Nat → Bool} (hH : ∀ c, c < C.length → H' (sh i c) = H c) (h0 : H' i = false) : ∀ f r, sentH H' (insC C i N) f (sh i r) = (sentH H C f r).map (sh i)
  | 0, r => rfl
  | f + 1, r => h.step hH (.inl h0) (fun c _ => h.never hH h0 f c)
theorem Put.beside {C : List CR} {N : CR} (h : Put C 1 N) (hN : N.d = 1) {H H' : Nat → Bool} (hH : ∀ c, c < C.length → H' (sh 1 c) = H c) : ∀ f r, 1 ≤ r → sentH H' (insC C 1 N) f (sh 1 r) = (sentH H C f r).map (sh 1)
  | 0, r, _ => rfl
  | f + 1, r, hr => h.step hH (.inr (fun hm => by
      have := (kids_iff.1 hm).2
      have h2 := par_lt this
      unfold sh at h2
      rw [if_neg (by omega)] at h2
      omega)) (fun c hc => h.beside hN hH f c (by have := par_lt (kids_iff.1 hc).2; omega))
theorem Put.first {C : List CR} {N : CR} (h : Put C 1 N) (hN : N.d = 1) (h0 : 0 < C.length) : par (insC C 1 N) 1 = some 0 := by
  refine (par_spec (insC_at N h.il)).2 ⟨by omega, ⟨C[0], ?_, ?_⟩, fun q x h1 h2 => by omega⟩
  · have := insC_sh N h.il 0
    rw [show sh 1 0 = 0 from rfl] at this
    rw [this]; exact List.getElem?_eq_getElem h0
  · have := (h.st.1 C[0] (List.getElem?_eq_getElem h0)).1
    omega
theorem Put.ahead {C : List CR} {N : CR} (h : Put C 1 N) (hN : N.d = 1) (h0 : 0 < C.length) {H H' : Nat → Bool} (hH : ∀ c, c < C.length → H' (sh 1 c) = H c) (h1 : H' 1 = true) (f : Nat) :
    sentH H' (insC C 1 N) (f + 2) 0 = 1 :: (if N.co then (if (kids C 0).any H then (sentH H C (f + 2) 0).map (sh 1) else []) else []) := by
  have hp := h.first hN h0
  have hk : kids (insC C 1 N) 0 = 1 :: (kids C 0).map (sh 1) := by
    refine sorted_ext _ _ (kids_sorted _ _) ?_ (fun x => ?_)
    · rw [List.pairwise_cons]
      refine ⟨fun y hy => ?_, map_sorted 1 _ (kids_sorted _ _)⟩
      obtain ⟨c, hc, rfl⟩ := List.mem_map.1 hy
      have := par_lt (kids_iff.1 hc).2
      unfold sh; rw [if_neg (by omega)]; omega
    · have hs := h.kidsS 0
      rw [show sh 1 0 = 0 from rfl] at hs
      rw [← hs, List.mem_cons, List.mem_filter]
      constructor
      · intro hx
        by_cases e : x = 1
        · exact .inl e
        · exact .inr ⟨hx, by simpa using e⟩
      · rintro (rfl | hx)
        · exact kids_iff.2 ⟨by rw [insC_len N h.il]; omega, hp⟩
        · exact hx.1
  have hs1 : sentH H' (insC C 1 N) (f + 1) 1 = [1] := by rw [sentH, h.kidsN]; rfl
  have hco : ((insC C 1 N)[1]?.map (·.co)) = some N.co := by rw [insC_at N h.il]; rfl
  have hkk : ∀ c ∈ kids C 0, H' (sh 1 c) = H c := fun c hc => hH c (kids_iff.1 hc).1
  have hw : walkH H' (insC C 1 N) (sentH H' (insC C 1 N) (f + 1)) ((kids C 0).map (sh 1)) = (walkH H C (sentH H C (f + 1)) (kids C 0)).map (sh 1) :=
    walkH_map _ (fun c hc => ⟨hkk c hc, by rw [insC_sh N h.il], h.beside hN hH (f + 1) c (by have := par_lt (kids_iff.1 hc).2; omega)⟩)
  rw [sentH, hk, List.any_cons, h1, Bool.true_or, if_pos rfl, walkH, h1, if_pos rfl, hs1, hco, hw, sentH]
  have none_holds : (kids C 0).any H = false → walkH H C (sentH H C (f + 1)) (kids C 0) = [] := by
    intro hf
    have : ∀ K : List Nat, K.any H = false → walkH H C (sentH H C (f + 1)) K = [] := by
      intro K
      induction K with
      | nil => intro _; rfl
      | cons c r ih =>
        intro hK
        rw [List.any_cons, Bool.or_eq_false_iff] at hK
        rw [walkH, hK.1]
        simp only [Bool.false_eq_true, if_false]
        exact ih hK.2
    exact this _ hf
  cases hco2 : N.co
  · simp
  · cases ha : (kids C 0).any H
    · rw [none_holds ha]; simp
    · simp
end Go.Proofs.YtpbkgeipigcefaaGreat

