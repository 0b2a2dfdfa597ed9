import Derived.Test.YtmlajbdodmleiaaGreatJ43
import Derived.Test.YtmlajbdodmleiaaGreatJ20
import Derived.Test.YtmlajbdodmleiaaGreatJ42
import Derived.Test.YtmlajbdodmleiaaGreatJ19
set_option linter.unusedVariables false
set_option linter.unusedSimpArgs false
set_option linter.unnecessarySimpa false
namespace Go.Proofs.YtmlajbdodmleiaaGreat
open Go.RowKit

def wthL (ls : List (List UInt8)) (k : Nat) (x : List UInt8) : List (List UInt8) := ls.take k ++ x :: ls.drop k
def wthT (ls : List (List UInt8)) (k : Nat) (x : List UInt8) : Nat → List UInt8
  | 0 => []
  | j + 1 => wthT ls k x j ++ ((if j = k then x else []) ++ ls.getD j [])
theorem wthT_lo (ls : List (List UInt8)) (k : Nat) (x : List UInt8) : ∀ j, j ≤ k → j ≤ ls.length → wthT ls k x j = (ls.take j).flatten
  | 0, _, _ => rfl
  | j + 1, h, hl => by
    rw [wthT, wthT_lo ls k x j (by omega) (by omega), if_neg (by omega), List.nil_append, List.take_succ_eq_append_getElem (by omega), List.flatten_append]
    simp [List.getD, show j < ls.length by omega]
theorem wthT_hi (ls : List (List UInt8)) (k : Nat) (x : List UInt8) (hk : k ≤ ls.length) : ∀ d, k + d ≤ ls.length → 0 < d → wthT ls k x (k + d) = (ls.take k).flatten ++ (x ++ ((ls.drop k).take d).flatten)
  | 0, _, h => by omega
  | d + 1, hl, _ => by
    have e : ls.getD (k + d) [] = ((ls.drop k)[d]'(by simp; omega)) := by simp [List.getD, show k + d < ls.length by omega]
    rw [show k + (d + 1) = (k + d) + 1 by omega, wthT, e, List.take_succ_eq_append_getElem (by simp; omega)]
    cases d with
    | zero =>
      rw [Nat.add_zero, wthT_lo ls k x k (Nat.le_refl _) hk, if_pos rfl]
      simp
    | succ d =>
      rw [wthT_hi ls k x hk (d + 1) (by omega) (by omega), if_neg (by omega)]
      simp
theorem wthT_all (ls : List (List UInt8)) (k : Nat) (x : List UInt8) (hk : k ≤ ls.length) : wthT ls k x ls.length ++ (if k = ls.length then x else []) = (wthL ls k x).flatten := by
  unfold wthL
  rw [List.flatten_append, List.flatten_cons]
  by_cases h : k = ls.length
  · rw [if_pos h, wthT_lo ls k x ls.length (by omega) (Nat.le_refl _), h, List.drop_length]; simp
  · rw [if_neg h, List.append_nil]
    have := wthT_hi ls k x hk (ls.length - k) (by omega) (by omega)
    rw [show k + (ls.length - k) = ls.length by omega] at this
    rw [this, List.take_of_length_le (l := ls.drop k) (by simp)]
theorem wthT_len (ls : List (List UInt8)) (k : Nat) (x : List UInt8) : ∀ j, j ≤ ls.length → (wthT ls k x j).length ≤ (ls.take j).flatten.length + (if k < j then x.length else 0)
  | 0, _ => by simp [wthT]
  | j + 1, hl => by
    have := wthT_len ls k x j (by omega)
    rw [wthT, List.take_succ_eq_append_getElem (by omega), List.flatten_append, List.length_append, List.length_append, List.length_append]
    have e : ls.getD j [] = ls[j] := by simp [List.getD, show j < ls.length by omega]
    rw [e]
    simp only [List.flatten_cons, List.flatten_nil, List.append_nil]
    by_cases h : j = k
    · rw [if_pos h, if_pos (by omega)]; rw [if_neg (by omega)] at this; omega
    · rw [if_neg h]
      by_cases h2 : k < j
      · rw [if_pos h2] at this; rw [if_pos (by omega)]; simp only [List.length_nil]; omega
      · rw [if_neg h2] at this; rw [if_neg (by omega)]; simp only [List.length_nil]; omega
def WTQ (ls : List (List UInt8)) (tn : List UInt8) (w : World) (e : Ending) (w' : World) : Prop :=
  Frm [] w w' ∧ ((e = .returned (.pointer none) ∧ (1200 < tn.length ∨ 16 < ls.length ∨ (cRes reC tn).1 ≠ 0)) ∨
  (∃ Ln C s V pb, e = .returned (.pointer (some ⟨pb, 0, none⟩)) ∧ tn.length ≤ 1200 ∧ ls.length ≤ 16 ∧ cRead tn = .ok (Ln, C) ∧ pread reC autC cs0 0 C = .ok s ∧ PR [] w' pb V (compM C s) ∧ MOK (compM C s)))

set_option maxRecDepth 100000 in
set_option maxHeartbeats 4000000 in
theorem kwith_any {w0 w : World} {db : Nat} {t : List UInt8} {a : Option Addr} {cap : Nat} {L : List LBL} {Ln : List (List UInt8)} {C : List CR} {s : CS} {V : V6} {pb : Nat} (h : DK w0 w db t a cap L Ln C s V pb) (k : Nat) (hk : k ≤ (lnsK t).length) (x : List UInt8) (hx : x.length ≤ 1000) :
    Calls Tryz.prog 20 #[.pointer (some ⟨db, 0, none⟩), .int .i64 k, .string (bs x)] w (WTQ (lnsK t) (wthL (lnsK t) k x).flatten w) := by
  have htl := h.tl
  have r0 : w.cell? ⟨db, 0, none⟩ = some (.string (bs t)) := by simp [World.cell?, h.row]
  have N1 := hide (lines_any t w (by omega))
  have hfl : (lnsK t).flatten = t := ((cRead1_lines t Ln C).1 (cRead_tree h.rd).1).1
  have HAL := hide (wthT_all (lnsK t) k x hk)
  have hll : (lnsK t).length ≤ t.length := lnsGo_len t []
  have HLE : Hid (∀ j, j ≤ (lnsK t).length → (wthT (lnsK t) k x j).length ≤ 20000) := by
    intro j hj
    have h1 := wthT_len (lnsK t) k x j hj
    have h2 : ((lnsK t).take j).flatten.length ≤ t.length := by
      have : (((lnsK t).take j).flatten ++ ((lnsK t).drop j).flatten).length = t.length := by rw [← List.flatten_append, List.take_append_drop, hfl]
      rw [List.length_append] at this
      omega
    split at h1 <;> omega
  have HST : Hid (∀ j (hj : j < (lnsK t).length), wthT (lnsK t) k x (j + 1) = wthT (lnsK t) k x j ++ ((if j = k then x else []) ++ (lnsK t)[j])) := by
    intro j hj
    rw [wthT]
    simp [List.getD, hj]
  have HCM : Hid (∀ (tn : List UInt8) (W : World), tn.length ≤ 1048576 → Calls Tryz.prog 16 #[.string (bs tn)] W (CMQ tn W)) := fun tn W h => compile_any tn W h
  have hsz := bs_size
  have hap := bs_append
  have k0 : ({ data := #[] } : ByteArray) = bs [] := rfl
  clear h hfl
  generalize hls : lnsK t = ls at *
  clear hls
  generalize htn : (wthL ls k x).flatten = tn at *
  clear htn
  go_enter Tryz.func20, Tryz.ntmps20
  go_wp2_with fail
  refine (N1.out).mono ?_
  clear N1
  rintro e w1 ⟨v, rfl, hF, hR⟩
  have F := hide hF
  obtain ⟨al, cl, rfl, hr⟩ := hR.str
  have HR := hide hr
  clear hF hR hr
  go_wp2_with fail
  go_loopg [8, 9] ls.length (fun kk vt vi wr => ∃ j : Nat, j + kk = ls.length ∧ vi = .int .i64 j ∧ vt = .string (bs (wthT ls k x j)) ∧ wr = w1)
  case atStart => exact ⟨0, by omega, rfl, by rw [k0]; rfl, rfl⟩
  case round =>
    obtain ⟨j, hjk, rfl, rfl, hw⟩ := hrel
    subst hw
    have hle := HLE.out j (by omega)
    by_cases hlt : j < ls.length
    · have hd1 : decide ((j : Int) < (ls.length : Int)) = true := decide_eq_true (by omega)
      obtain ⟨g, o, rfl, hg, c0⟩ := HR.out j hlt
      have HS := hide (HST.out j hlt)
      have hle1 := HLE.out (j + 1) (by omega)
      by_cases hjk2 : j = k
      · have he : ((j : Int) == (k : Int)) = true := by rw [beq_iff_eq]; omega
        have he' : (j == k) = true := by rw [beq_iff_eq]; exact hjk2
        have HS2 : Hid (wthT ls k x j ++ (x ++ ls[j]) = wthT ls k x (j + 1)) := by show _ = _; rw [HS.out, if_pos hjk2]
        have hl2 : (wthT ls k x j ++ (x ++ ls[j])).length ≤ 20000 := by rw [HS2.out]; exact hle1
        rw [List.length_append, List.length_append] at hl2
        clear HS hle1
        subst hjk2
        generalize ls[j] = lj at *
        generalize hT : wthT ls j x j = T at *
        clear hT
        go_wp2
        go_roundg (gk - 1)
        case measure => omega
        case rel => exact ⟨j + 1, by omega, by go_num, by rw [← HS2.out], rfl⟩
      · have he : ((j : Int) == (k : Int)) = false := by rw [beq_eq_false_iff_ne]; omega
        have he' : (j == k) = false := by rw [beq_eq_false_iff_ne]; exact hjk2
        have HS2 : Hid (wthT ls k x j ++ ls[j] = wthT ls k x (j + 1)) := by show _ = _; rw [HS.out, if_neg hjk2]; simp
        have hl2 : (wthT ls k x j ++ ls[j]).length ≤ 20000 := by rw [HS2.out]; exact hle1
        rw [List.length_append] at hl2
        clear HS hle1
        generalize ls[j] = lj at *
        generalize hT : wthT ls k x j = T at *
        clear hT
        go_wp2
        go_roundg (gk - 1)
        case measure => omega
        case rel => exact ⟨j + 1, by omega, by go_num, by rw [← HS2.out], rfl⟩
    · have hjl : j = ls.length := by omega
      subst hjl
      have hd1 : decide ((ls.length : Int) < (ls.length : Int)) = false := decide_eq_false (by omega)
      -- the text is whole
      have key : ∀ tn' : List UInt8, tn' = tn → tn'.length ≤ 30000 → Hid (∀ W, Calls Tryz.prog 16 #[.string (bs tn')] W (CMQ tn W)) := fun tn' h1 h2 W => by rw [h1] at h2 ⊢; exact HCM.out tn W (by omega)
      by_cases hkl : k = ls.length
      · have he : ((k : Int) == (ls.length : Int)) = true := by rw [beq_iff_eq]; omega
        have he' : (k == ls.length) = true := by rw [beq_iff_eq]; exact hkl
        have HT : Hid (wthT ls k x ls.length ++ x = tn) := by show _ = _; have := HAL.out; rw [if_pos hkl] at this; exact this
        have N2 := key _ HT.out (by rw [List.length_append]; omega)
        have hlt : (wthT ls k x ls.length ++ x).length = tn.length := by rw [HT.out]
        rw [List.length_append] at hlt
        clear HAL HLE HST HCM key
        generalize wthT ls k x ls.length = T at *
        subst hkl
        by_cases hb : 1200 < tn.length
        · have hd3 : decide ((1200 : Int) < (T.length : Int) + (x.length : Int)) = true := decide_eq_true (by omega)
          have hd3' : decide (1200 < T.length + x.length) = true := decide_eq_true (by omega)
          clear N2
          go_wp2
          go_ret
          exact ⟨F.out, .inl ⟨rfl, .inl hb⟩⟩
        · have hd3 : decide ((1200 : Int) < (T.length : Int) + (x.length : Int)) = false := decide_eq_false (by omega)
          have hd3' : decide (1200 < T.length + x.length) = false := decide_eq_false (by omega)
          by_cases hb2 : 16 < ls.length
          · have hd4 : decide ((16 : Int) < (ls.length : Int)) = true := decide_eq_true (by omega)
            have hd4' : decide (16 < ls.length) = true := decide_eq_true hb2
            clear N2
            go_wp2
            go_ret
            exact ⟨F.out, .inl ⟨rfl, .inr (.inl hb2)⟩⟩
          · have hd4 : decide ((16 : Int) < (ls.length : Int)) = false := decide_eq_false (by omega)
            have hd4' : decide (16 < ls.length) = false := decide_eq_false hb2
            go_wp2_with fail
            refine (N2.out _).mono ?_
            clear N2
            rintro e w2 ⟨hF2, ⟨h1, rfl⟩ | ⟨Ln2, C2, s2, V2, pb2, h1, h2, h3, rfl, h4, h5, h6⟩⟩
            · have F2 := hide (F.out.trans hF2)
              have H1 := hide h1
              have hne : (((cRes reC tn).1 : Int) != 0) = true := by rw [bne_iff_ne]; omega
              clear hF2 h1
              generalize (cRes reC tn).2 = n2 at *
              generalize hn1 : (cRes reC tn).1 = n1 at *
              go_wp2
              go_ret
              exact ⟨F2.out, .inl ⟨rfl, .inr (.inr (by rw [hn1]; exact H1.out))⟩⟩
            · have HH : Hid (WTQ ls tn w (.returned (.pointer (some ⟨pb2, 0, none⟩))) w2) := ⟨F.out.trans hF2, .inr ⟨Ln2, C2, s2, V2, pb2, rfl, by omega, by omega, h2, h3, h4, h5⟩⟩
              clear hF2 h1 h2 h3 h4 h5
              go_wp2
              go_ret
              exact HH.out
      · have he : ((k : Int) == (ls.length : Int)) = false := by rw [beq_eq_false_iff_ne]; omega
        have he' : (k == ls.length) = false := by rw [beq_eq_false_iff_ne]; exact hkl
        have HT : Hid (wthT ls k x ls.length = tn) := by show _ = _; have := HAL.out; rw [if_neg hkl, List.append_nil] at this; exact this
        have N2 := key _ HT.out (by omega)
        have hlt : (wthT ls k x ls.length).length = tn.length := by rw [HT.out]
        clear HAL HLE HST HCM key
        generalize wthT ls k x ls.length = T at *
        by_cases hb : 1200 < tn.length
        · have hd3 : decide ((1200 : Int) < (T.length : Int)) = true := decide_eq_true (by omega)
          have hd3' : decide (1200 < T.length) = true := decide_eq_true (by omega)
          clear N2
          go_wp2
          go_ret
          exact ⟨F.out, .inl ⟨rfl, .inl hb⟩⟩
        · have hd3 : decide ((1200 : Int) < (T.length : Int)) = false := decide_eq_false (by omega)
          have hd3' : decide (1200 < T.length) = false := decide_eq_false (by omega)
          by_cases hb2 : 16 < ls.length
          · have hd4 : decide ((16 : Int) < (ls.length : Int)) = true := decide_eq_true (by omega)
            have hd4' : decide (16 < ls.length) = true := decide_eq_true hb2
            clear N2
            go_wp2
            go_ret
            exact ⟨F.out, .inl ⟨rfl, .inr (.inl hb2)⟩⟩
          · have hd4 : decide ((16 : Int) < (ls.length : Int)) = false := decide_eq_false (by omega)
            have hd4' : decide (16 < ls.length) = false := decide_eq_false hb2
            go_wp2_with fail
            refine (N2.out _).mono ?_
            clear N2
            rintro e w2 ⟨hF2, ⟨h1, rfl⟩ | ⟨Ln2, C2, s2, V2, pb2, h1, h2, h3, rfl, h4, h5, h6⟩⟩
            · have F2 := hide (F.out.trans hF2)
              have H1 := hide h1
              have hne : (((cRes reC tn).1 : Int) != 0) = true := by rw [bne_iff_ne]; omega
              clear hF2 h1
              generalize (cRes reC tn).2 = n2 at *
              generalize hn1 : (cRes reC tn).1 = n1 at *
              go_wp2
              go_ret
              exact ⟨F2.out, .inl ⟨rfl, .inr (.inr (by rw [hn1]; exact H1.out))⟩⟩
            · have HH : Hid (WTQ ls tn w (.returned (.pointer (some ⟨pb2, 0, none⟩))) w2) := ⟨F.out.trans hF2, .inr ⟨Ln2, C2, s2, V2, pb2, rfl, by omega, by omega, h2, h3, h4, h5⟩⟩
              clear hF2 h1 h2 h3 h4 h5
              go_wp2
              go_ret
              exact HH.out
end Go.Proofs.YtmlajbdodmleiaaGreat

namespace Go.Proofs.YtmlajbdodmleiaaGreat
open Go.RowKit

/-! What a route tells, where one is put in. -/
def hAt (C : List CR) (j : Nat) : HitM := (hitsN C C.length).getD j ⟨[], [], 0, 0, 0⟩
theorem hitsN_pre (C : List CR) : ∀ (d n : Nat), hitsN C n <+: hitsN C (n + d)
  | 0, n => List.prefix_refl _
  | d + 1, n => by rw [show n + (d + 1) = (n + d) + 1 by omega, hitsN]; exact (hitsN_pre C d n).trans (List.prefix_append _ _)
theorem hitsN_get {C : List CR} {p n : Nat} (hp : p < n) (hn : n ≤ C.length) (d : HitM) : (hitsN C n).getD p d = hAt C p := by
  have h := hitsN_pre C (C.length - n) n
  rw [show n + (C.length - n) = C.length by omega] at h
  unfold hAt
  rw [pre_getD h _ (by rw [hitsN_len]; exact hp)]
  simp [List.getD, hitsN_len, hp]
theorem hAt_eq {C : List CR} {j : Nat} (hj : j < C.length) : hAt C j = hitB (match par C j with | some p => hAt C p | none => rootH) C[j] := by
  rw [← hitsN_get (n := j + 1) (by omega) (by omega) ⟨[], [], 0, 0, 0⟩, hitsN, List.getElem?_eq_getElem hj]
  rw [List.getD_eq_getElem?_getD, List.getElem?_append_right (by rw [hitsN_len]; exact Nat.le_refl _), hitsN_len, Nat.sub_self]
  show hitB (aboveH C (hitsN C j) j) C[j] = _
  unfold aboveH
  cases hp : par C j with
  | none => rfl
  | some p =>
    simp only
    rw [hitsN_get (par_lt hp) (by omega)]
theorem Put.hits {C : List CR} {i : Nat} {N : CR} (h : Put C i N) : ∀ j, j < C.length → hAt (insC C i N) (sh i j) = hAt C j := by
  intro j
  induction j using Nat.strongRecOn with
  | ind j ih =>
    intro hj
    have hl : sh i j < (insC C i N).length := by rw [insC_len N h.il]; unfold sh; split <;> omega
    have he : (insC C i N)[sh i j] = C[j] := by
      have := insC_sh N h.il j
      rw [List.getElem?_eq_getElem hl, List.getElem?_eq_getElem hj] at this
      exact Option.some.inj this
    rw [hAt_eq hl, hAt_eq hj, he, h.par0 j hj]
    cases hp : par C j with
    | none => rfl
    | some p =>
      have hpl := par_lt hp
      simp only [Option.map_some]
      rw [ih p hpl (by omega)]
theorem hitsC_eq (C : List CR) (V : List UInt8 → List UInt8) : hitsC C V = (sentH (hold autC V C) C 6 0).map (hAt C) := rfl
theorem hold_put {C : List CR} {i : Nat} {N : CR} (h : Put C i N) (V : List UInt8 → List UInt8) : ∀ c, c < C.length → hold autC V (insC C i N) (sh i c) = hold autC V C c := fun c _ => by
  unfold hold
  rw [insC_sh N h.il]
theorem hold_new {C : List CR} {i : Nat} {N : CR} (h : Put C i N) (V : List UInt8 → List UInt8) : hold autC V (insC C i N) i = N.ifs.all (mHolds autC V) := by
  unfold hold
  rw [insC_at N h.il]
theorem Put.map_hits {C : List CR} {i : Nat} {N : CR} (h : Put C i N) (H : Nat → Bool) (h0 : 0 < C.length) : ((sentH H C 6 0).map (sh i)).map (hAt (insC C i N)) = (sentH H C 6 0).map (hAt C) := by
  rw [List.map_map]
  refine List.map_congr_left (fun x hx => ?_)
  exact h.hits x ((sentH_below 6 0 h0).1 x hx).2
theorem never_hits {C : List CR} {i : Nat} {N : CR} (h : Put C i N) (h0 : 0 < C.length) (V : List UInt8 → List UInt8) (hN : N.ifs.all (mHolds autC V) = false) : hitsC (insC C i N) V = hitsC C V := by
  have h1 := h.never (H := hold autC V C) (H' := hold autC V (insC C i N)) (hold_put h V) (by rw [hold_new h]; exact hN) 6 0
  rw [show sh i 0 = 0 by unfold sh; rw [if_pos (by have := h.i1; omega)]] at h1
  rw [hitsC_eq, hitsC_eq, h1, h.map_hits _ h0]
theorem lns_none : ∀ (t cur : List UInt8), (10 : UInt8) ∉ cur → ∀ l ∈ lnsGo t cur, ∃ x, l = x ++ [10] ∧ (10 : UInt8) ∉ x
  | [], cur, _, l, h => by simp [lnsGo] at h
  | c :: r, cur, hc, l, h => by
    rw [lnsGo] at h
    split at h
    · rcases List.mem_cons.1 h with rfl | h
      · exact ⟨cur, rfl, hc⟩
      · exact lns_none r [] (by simp) l h
    · rename_i hc10
      refine lns_none r _ ?_ l h
      intro hm
      rcases List.mem_append.1 hm with h1 | h1
      · exact hc h1
      · simp at h1; rw [← h1] at hc10; simp at hc10
theorem lns_one : ∀ (x cur r : List UInt8), (10 : UInt8) ∉ x → lnsGo (x ++ 10 :: r) cur = (cur ++ x ++ [10]) :: lnsGo r []
  | [], cur, r, _ => by simp [lnsGo]
  | c :: x, cur, r, h => by
    have hc : (c == 10) = false := by
      rw [beq_eq_false_iff_ne]; rintro rfl; exact h (by simp)
    rw [List.cons_append, lnsGo, hc]
    simp only [Bool.false_eq_true, if_false]
    rw [lns_one x (cur ++ [c]) r (fun hm => h (by simp [hm]))]
    simp
theorem lns_flat : ∀ (ls : List (List UInt8)), (∀ l ∈ ls, ∃ x, l = x ++ [10] ∧ (10 : UInt8) ∉ x) → lnsK ls.flatten = ls
  | [], _ => rfl
  | l :: ls, h => by
    obtain ⟨x, rfl, hx⟩ := h l (by simp)
    have ih := lns_flat ls (fun y hy => h y (by simp [hy]))
    unfold lnsK at ih ⊢
    rw [List.flatten_cons, List.append_assoc]
    show lnsGo (x ++ 10 :: ls.flatten) [] = _
    rw [lns_one x [] _ hx, ih]; rfl
theorem mapM_ins {f : List UInt8 → Option CR} {x : List UInt8} {N : CR} (hx : f x = some N) : ∀ (ls : List (List UInt8)) (C : List CR) (i : Nat), ls.mapM f = some C → (ls.take i ++ x :: ls.drop i).mapM f = some (insC C i N)
  | ls, C, 0, h => by
    show (x :: ls).mapM f = some (N :: C)
    rw [mapM_cons', hx, h]
  | [], C, i + 1, h => by
    simp at h; subst h
    show ([x]).mapM f = _
    rw [mapM_cons', hx]; rfl
  | l :: ls, C, i + 1, h => by
    rw [mapM_cons'] at h
    cases hl : f l with
    | none => rw [hl] at h; cases h
    | some c =>
      rw [hl] at h
      cases hm : ls.mapM f with
      | none => rw [hm] at h; cases h
      | some D =>
        rw [hm] at h
        cases h
        rw [List.take_succ_cons, List.drop_succ_cons, List.cons_append, mapM_cons', hl, mapM_ins hx ls D i hm]
        rfl
theorem treeGo_cons {c : CR} {r : List CR} {i : Nat} {da : Int} (hi : 1 ≤ i) : treeGo (c :: r) i da = 0 ↔ followOk c.d da = true ∧ i < 16 ∧ treeGo r (i + 1) c.d = 0 := by
  rw [treeGo]
  have : (i == 0) = false := by simp; omega
  rw [this]
  simp only [Bool.false_eq_true, if_false]
  by_cases h : (!(followOk (c.d : Int) da) || decide (16 ≤ i)) = true
  · rw [if_pos h]
    constructor
    · intro h2; omega
    · rintro ⟨h1, h2, _⟩
      rw [h1] at h
      simp at h
      omega
  · rw [if_neg h]
    have h' : followOk (c.d : Int) da = true ∧ i < 16 := by
      cases hf : followOk (c.d : Int) da
      · rw [hf] at h; simp at h
      · rw [hf] at h; simp at h; exact ⟨rfl, by omega⟩
    exact ⟨fun h2 => ⟨h'.1, h'.2, h2⟩, fun h2 => h2.2.2⟩
theorem treeGo_shift : ∀ (r : List CR) (i i' : Nat) (da : Int), 1 ≤ i → 1 ≤ i' → i' + r.length ≤ 16 → treeGo r i da = 0 → treeGo r i' da = 0
  | [], i, i', da, _, _, _, _ => rfl
  | c :: r, i, i', da, h1, h2, h3, h => by
    obtain ⟨a, b, d⟩ := (treeGo_cons h1).1 h
    rw [List.length_cons] at h3
    exact (treeGo_cons h2).2 ⟨a, by omega, treeGo_shift r (i + 1) (i' + 1) c.d (by omega) (by omega) (by omega) d⟩
theorem treeGo_ins (N : CR) (hN1 : 1 ≤ N.d) (hN5 : N.d ≤ 5) : ∀ (l : List CR) (k i : Nat) (da : Nat), 1 ≤ i → k ≤ l.length → i + l.length + 1 ≤ 16 → (∀ c, l[k]? = some c → N.d = c.d) → (k = l.length → N.d = 1) → treeGo l i da = 0 → treeGo (l.take k ++ N :: l.drop k) i da = 0
  | l, 0, i, da, hi, _, hl, hc, he, h => by
    show treeGo (N :: l) i da = 0
    cases l with
    | nil =>
      refine (treeGo_cons hi).2 ⟨?_, by simp at hl; omega, rfl⟩
      have := he rfl
      unfold followOk
      simp
      omega
    | cons c r =>
      obtain ⟨a, b, d⟩ := (treeGo_cons hi).1 h
      have hcd := hc c rfl
      rw [List.length_cons] at hl
      refine (treeGo_cons hi).2 ⟨by rw [hcd]; exact a, by omega, (treeGo_cons (by omega)).2 ⟨?_, by omega, treeGo_shift r (i + 1) (i + 1 + 1) c.d (by omega) (by omega) (by omega) d⟩⟩
      rw [hcd]
      unfold followOk
      simp
      omega
  | [], k + 1, i, da, _, hk, _, _, _, _ => by simp at hk
  | c :: r, k + 1, i, da, hi, hk, hl, hc, he, h => by
    obtain ⟨a, b, d⟩ := (treeGo_cons hi).1 h
    rw [List.length_cons] at hl hk
    rw [List.take_succ_cons, List.drop_succ_cons, List.cons_append]
    exact (treeGo_cons hi).2 ⟨a, b, treeGo_ins N hN1 hN5 r k (i + 1) c.d (by omega) (by omega) (by omega) (fun c' h' => hc c' (by simpa using h')) (fun h' => he (by rw [List.length_cons, h'])) d⟩
theorem nameGo_zero {L : List (List UInt8)} : ∀ (C : List CR) (i : Nat), (∀ c ∈ C, c.rc = [45] ∨ c.rc ∈ L) → nameGo L C i = 0
  | [], i, _ => rfl
  | c :: r, i, h => by
    rw [nameGo, if_neg]
    · exact nameGo_zero r (i + 1) (fun x hx => h x (by simp [hx]))
    · rcases h c (by simp) with e | e
      · rw [e]; simp
      · simp; intro _; exact e
theorem xF_zero {re : List UInt8 → Nat} : ∀ (C : List CR) (i : Nat), xF re C i = (0, 0) ↔ ∀ c ∈ C, mF re c.ifs = 0
  | [], i => by simp [xF]
  | c :: r, i => by
    rw [xF]
    by_cases h : mF re c.ifs = 0
    · rw [if_neg (by simp [h]), xF_zero r (i + 1)]
      simp [h]
    · rw [if_pos (by simpa using h)]
      constructor
      · intro h2; simp at h2
      · intro h2; exact absurd (h2 c (by simp)) h
theorem cRes_some {t : List UInt8} {L : List (List UInt8)} {C : List CR} (h : cRead t = .ok (L, C)) (re : List UInt8 → Nat) : cRes re t = xF re C 0 := by
  unfold cRes; rw [h]
theorem mem_insC {C : List CR} {i : Nat} {N c : CR} (h : c ∈ insC C i N) : c = N ∨ c ∈ C := by
  unfold insC at h
  rcases List.mem_append.1 h with h | h
  · exact .inr (List.mem_of_mem_take h)
  · rcases List.mem_cons.1 h with h | h
    · exact .inl h
    · exact .inr (List.mem_of_mem_drop h)
theorem cRead_put {t : List UInt8} {L : List (List UInt8)} {C : List CR} (ht : t.length ≤ 1048576) (h : cRead t = .ok (L, C)) {i : Nat} {y : List UInt8} {N : CR} (hy : (10 : UInt8) ∉ y) (hN : sRoute y = some N) (hp : Put C i N) (he : i = C.length → N.d = 1) (h5 : N.d ≤ 5) (hrc : N.rc = [45] ∨ N.rc ∈ L) (hC : C.length + 1 ≤ 16) (hl : (wthL (lnsK t) (i + 1) (y ++ [10])).flatten.length ≤ 1200) :
    cRead (wthL (lnsK t) (i + 1) (y ++ [10])).flatten = .ok (L, insC C i N) := by
  obtain ⟨c1, c2, c3, c4⟩ := cRead_tree h
  obtain ⟨f1, l0, ls, e1, e2, e3⟩ := (cRead1_lines t L C).1 c1
  have hst := hp.st
  have hN1 : 1 ≤ N.d := by
    by_cases hi : i < C.length
    · rw [hp.d C[i] (List.getElem?_eq_getElem hi)]
      obtain ⟨k, rfl⟩ : ∃ k, i = k + 1 := ⟨i - 1, by have := hp.i1; omega⟩
      exact (hst.2 k C[k] C[k + 1] (List.getElem?_eq_getElem (by omega)) (List.getElem?_eq_getElem hi)).1
    · rw [he (by have := hp.il; omega)]; exact Nat.le_refl _
  have hw : wthL (lnsK t) (i + 1) (y ++ [10]) = l0 :: (ls.take i ++ (y ++ [10]) :: ls.drop i) := by unfold wthL; rw [e1]; rfl
  have hlk : lnsK (wthL (lnsK t) (i + 1) (y ++ [10])).flatten = wthL (lnsK t) (i + 1) (y ++ [10]) := by
    refine lns_flat _ (fun l hm => ?_)
    unfold wthL at hm
    have hall := lns_none t [] (by simp)
    rcases List.mem_append.1 hm with hm | hm
    · exact hall l (List.mem_of_mem_take hm)
    · rcases List.mem_cons.1 hm with rfl | hm
      · exact ⟨y, rfl, hy⟩
      · exact hall l (List.mem_of_mem_drop hm)
  have hr1 : cRead1 (wthL (lnsK t) (i + 1) (y ++ [10])).flatten = .ok (L, insC C i N) := by
    refine (cRead1_lines _ _ _).2 ⟨by rw [hlk], l0, ls.take i ++ (y ++ [10]) :: ls.drop i, by rw [hlk, hw], e2, ?_⟩
    refine mapM_ins ?_ ls C i e3
    unfold rtL; rw [List.dropLast_concat]; exact hN
  -- the tree and the names
  have htree : treeF C = 0 := by
    unfold cRead at h
    rw [c1] at h
    split at h
    · cases h
    · simp only at h
      split at h
      · cases h
      · omega
  have hname : nameF L C = 0 := cRead_names h
  have ht2 : treeF (insC C i N) = 0 := by
    cases C with
    | nil => simp at c2
    | cons c0 r =>
      have hi1 := hp.i1
      obtain ⟨k, rfl⟩ : ∃ k, i = k + 1 := ⟨i - 1, by omega⟩
      have e : insC (c0 :: r) (k + 1) N = c0 :: (r.take k ++ N :: r.drop k) := rfl
      rw [e]
      unfold treeF at htree ⊢
      simp only [List.isEmpty_cons, Bool.false_eq_true, if_false] at htree ⊢
      rw [treeGo] at htree ⊢
      simp only [beq_self_eq_true, if_true] at htree ⊢
      split at htree
      · omega
      · rename_i hr
        rw [if_neg hr]
        rw [List.length_cons] at hC
        have hil := hp.il
        rw [List.length_cons] at hil
        exact treeGo_ins N hN1 h5 r k 1 c0.d (by omega) (by omega) (by omega) (fun c hc => hp.d c (by simpa using hc)) (fun hk => he (by rw [List.length_cons, hk])) htree
  have hn2 : nameF L (insC C i N) = 0 := by
    unfold nameF at hname ⊢
    split at hname
    · cases hname
    · rename_i hd
      rw [if_neg hd]
      refine nameGo_zero _ 0 (fun c hc => ?_)
      rcases mem_insC hc with rfl | hc
      · exact hrc
      · exact nameGo_ok C 0 hname c hc
  unfold cRead
  rw [if_neg (by omega), hr1]
  simp only
  rw [ht2, hn2]
  simp
theorem cRes_put {L : List (List UInt8)} {C : List CR} {i : Nat} {N : CR} {t tn : List UInt8} (h : cRead t = .ok (L, C)) (h0 : cRes reC t = (0, 0)) (hn : cRead tn = .ok (L, insC C i N)) (hm : mF reC N.ifs = 0) : cRes reC tn = (0, 0) := by
  rw [cRes_some hn, xF_zero]
  rw [cRes_some h, xF_zero] at h0
  intro c hc
  rcases mem_insC hc with rfl | hc
  · exact hm
  · exact h0 c hc
end Go.Proofs.YtmlajbdodmleiaaGreat

namespace Go.Proofs.YtmlajbdodmleiaaGreat
open Go.RowKit

def nvB : List UInt8 := [114, 111, 117, 116, 101, 32, 45, 32, 105, 102, 32, 110, 111, 112, 101, 33, 61, 34, 120, 34, 32, 105, 102, 32, 110, 111, 112, 101, 61, 34, 120, 34, 32, 99, 111, 110, 116, 105, 110, 117, 101]
def nvL (d : Nat) : List UInt8 := List.replicate d 32 ++ nvB
def nvN (d : Nat) : CR := ⟨d, [45], false, [], -1, -1, -1, [([110, 111, 112, 101], 1, [120]), ([110, 111, 112, 101], 0, [120])], true⟩
theorem sDepth_rep (b : List UInt8) (hb : ∀ c r, b = c :: r → c ≠ 32) (h0 : b ≠ []) : ∀ d, sDepth (List.replicate d 32 ++ b) = (d, b)
  | 0 => by
    cases b with
    | nil => exact absurd rfl h0
    | cons c r =>
      have := hb c r rfl
      simp [sDepth, this]
  | d + 1 => by
    rw [List.replicate_succ, List.cons_append, sDepth, sDepth_rep b hb h0 d]
    simp
theorem nv0 : sRoute nvB = some (nvN 0) := by kernel_rfl
theorem never_line (d : Nat) : sRoute (nvL d) = some (nvN d) := by
  have hd : sDepth (nvL d) = (d, nvB) := sDepth_rep nvB (fun c r h => by cases h; decide) (by decide) d
  have h0 : sDepth nvB = (0, nvB) := rfl
  have hA : srA (nvL d) = srA nvB := by unfold srA; rw [hd, h0]
  have hB : srB (nvL d) = srB nvB := by unfold srB; rw [hA]
  have hC : srC (nvL d) = srC nvB := by unfold srC; rw [hB]
  have hM : srM (nvL d) = srM nvB := by unfold srM; rw [hC]
  obtain ⟨h1, h2, h3, h4, h5, h6, h7⟩ := sRoute_some _ _ nv0
  rw [h0] at h1 h7
  rw [sRoute_eq, hA, hB, hC, hM, hd]
  simp only at h1 h7 ⊢
  rw [h1, h2, h3, h4, h5, h6]
  simp only [if_true]
  unfold nvN at h7 ⊢
  simp only [CR.mk.injEq] at h7 ⊢
  simp only [Option.some.injEq, CR.mk.injEq]
  exact ⟨trivial, h7.2⟩
theorem never_holds (d : Nat) (V : List UInt8 → List UInt8) : (nvN d).ifs.all (mHolds autC V) = false := by
  show (mHolds autC V ([110, 111, 112, 101], 1, [120]) && (mHolds autC V ([110, 111, 112, 101], 0, [120]) && true)) = false
  unfold mHolds
  simp
end Go.Proofs.YtmlajbdodmleiaaGreat

namespace Go.Proofs.YtmlajbdodmleiaaGreat
open Go.RowKit

set_option maxRecDepth 100000 in
set_option maxHeartbeats 4000000 in
theorem ksame_eq (w : World) (p1 p2 : Nat) (V1 V2 : V6) (m1 m2 : Mach) (h1 : PR [] w p1 V1 m1) (h2 : PR [] w p2 V2 m2) (ok1 : MOK m1) (ok2 : MOK m2) (a : Option Addr) (k cap : Nat) (L : List LBL) (hL : LR w (.slice a k cap) L) (hv : LV L) (hcap : L.length ≤ cap)
    (he : hitsA m1 L = hitsA m2 L) (hlen : (hitsA m1 L).length ≤ 1000) (hbl : ∀ x ∈ hitsA m1 L, x.bl.length ≤ 1000) :
    Calls Tryz.prog 21 #[.pointer (some ⟨p1, 0, none⟩), .pointer (some ⟨p2, 0, none⟩), .slice a k cap] w fun e w' => e = .returned (.bool true) ∧ Frm [] w w' := by
  have N1 := hide (route_any w p1 V1 m1 h1 ok1 a k cap L hL hv hcap)
  have N2 : Hid (∀ W, Frm [] w W → Calls Tryz.prog 23 #[.pointer (some ⟨p2, 0, none⟩), .slice a k cap] W (ROQ m2 L W)) := fun W f => route_any W p2 V2 m2 (h2.frm f (by simp)) ok2 a k cap L (hL.frm f (by simp)) hv hcap
  have HE := hide he
  have HBL := hide hbl
  have HLN := hide hlen
  clear h1 h2 ok1 ok2 hL hv he hbl hlen
  go_enter Tryz.func21, Tryz.ntmps21
  go_wp2_with fail
  refine (N1.out).mono ?_
  clear N1
  rintro e w1 ⟨hF, ⟨hl, rfl⟩ | ⟨hl, vh, rfl, hH⟩⟩
  · have F := hide hF
    have N3 : Hid (Calls Tryz.prog 23 #[.pointer (some ⟨p2, 0, none⟩), .slice a k cap] w1 fun e w' => Frm [] w1 w' ∧ e = .returned (.tuple #[.slice none 0 0, .int .i64 8])) := by
      refine (N2.out w1 hF).mono ?_
      rintro e w2 ⟨hF2, ⟨_, rfl⟩ | ⟨h, _⟩⟩
      · exact ⟨hF2, rfl⟩
      · rw [hl] at h; cases h
    clear hF hl N2
    go_wp2_with fail
    refine (N3.out).mono ?_
    clear N3
    rintro e w2 ⟨hF2, rfl⟩
    have F2 := hide (F.out.trans hF2)
    have N4 := hide (ksameHits_eq w2 _ _ [] (HRS.nil _) (HRS.nil _) (by simp) (by simp))
    clear hF2
    go_wp2_with fail
    refine (N4.out).mono ?_
    clear N4
    rintro e w3 ⟨rfl, q, rfl⟩
    go_wp2
    go_ret
    exact ⟨rfl, F2.out.drewN q⟩
  · have F := hide hF
    have HH := hide hH
    have N3 : Hid (Calls Tryz.prog 23 #[.pointer (some ⟨p2, 0, none⟩), .slice a k cap] w1 fun e w' => Frm [] w1 w' ∧ ∃ v, e = .returned (.tuple #[v, .int .i64 0]) ∧ HRS w' v (hitsA m1 L)) := by
      refine (N2.out w1 hF).mono ?_
      rintro e w2 ⟨hF2, ⟨h, _⟩ | ⟨_, v2, rfl, hH2⟩⟩
      · rw [hl] at h; cases h
      · exact ⟨hF2, v2, rfl, by rw [HE.out]; exact hH2⟩
    obtain ⟨ah, ch, rfl, _, _⟩ := hH
    clear hF hl N2
    go_wp2_with fail
    refine (N3.out).mono ?_
    clear N3
    rintro e w2 ⟨hF2, v2, rfl, hH2⟩
    have F2 := hide (F.out.trans hF2)
    have N4 := hide (ksameHits_eq w2 _ _ _ (HH.out.frm hF2) hH2 HLN.out HBL.out)
    obtain ⟨ah2, ch2, rfl, _, _⟩ := hH2
    clear hF2
    go_wp2_with fail
    refine (N4.out).mono ?_
    clear N4
    rintro e w3 ⟨rfl, q, rfl⟩
    go_wp2
    go_ret
    exact ⟨rfl, F2.out.drewN q⟩
end Go.Proofs.YtmlajbdodmleiaaGreat

namespace Go.Proofs.YtmlajbdodmleiaaGreat
open Go.RowKit

theorem hitsC_good {t : List UInt8} {L : List (List UInt8)} {C : List CR} (ht : t.length ≤ 1048576) (h : cRead t = .ok (L, C)) (V : List UInt8 → List UInt8) : hitsC C V ≠ [] ∧ (hitsC C V).length ≤ C.length ∧ ∀ x ∈ hitsC C V, HitG L x ∧ HitOK x := by
  obtain ⟨h1, h2, h3, h4⟩ := cRead_tree h
  have hg := (cRead1_good t L C ht h1).2.2
  have hst := cRead_steps h
  have hnm := cRead_names h
  obtain ⟨_, l0, ls, e1, e2, e3⟩ := (cRead1_lines t L C).1 h1
  have hn : ∀ c ∈ C, c.rc = [45] ∨ c.rc ∈ L := by
    unfold nameF at hnm
    split at hnm
    · cases hnm
    · exact nameGo_ok C 0 hnm
  have ha : ∀ c ∈ C, Asc c.bys := fun c hc => by
    obtain ⟨a, _, ha⟩ := mapM_mem rtL ls C e3 c hc
    exact rtL_asc ha
  refine ⟨?_, ?_, ?_⟩
  · intro e
    exact sentH_some h4 6 0 C[0] (List.getElem?_eq_getElem h2) (by omega) (List.map_eq_nil_iff.1 e)
  · unfold hitsC
    rw [List.length_map]
    exact sentH_len 6 0 h2
  · intro x hx
    obtain ⟨i, hi, rfl⟩ := List.mem_map.1 hx
    have hil := ((sentH_below (H := hold autC V C) 6 0 h2).1 i hi).2
    have hm : (hitsN C C.length).getD i ⟨[], [], 0, 0, 0⟩ ∈ hitsN C C.length := by
      rw [List.getD_eq_getElem?_getD, List.getElem?_eq_getElem (by rw [hitsN_len]; exact hil)]
      exact List.getElem_mem _
    exact ⟨hitsN_g hst hn ha C.length (Nat.le_refl _) _ hm, hitsN_ok hst hg C.length (Nat.le_refl _) _ hm⟩
end Go.Proofs.YtmlajbdodmleiaaGreat

namespace Go.Proofs.YtmlajbdodmleiaaGreat
open Go.RowKit

theorem HRS.tail {w : World} {a : Option Addr} {n cap : Nat} {x : HitM} {hs : List HitM} (h : HRS w (.slice a n cap) (x :: hs)) : ∃ g o, a = some ⟨g, o, none⟩ ∧ n = hs.length + 1 ∧ HRS w (.slice (some ⟨g, o + 5, none⟩) hs.length (cap - 1)) hs := by
  obtain ⟨a', cap', e, hc, hr⟩ := h
  simp only [Value.slice.injEq] at e
  obtain ⟨rfl, rfl, rfl⟩ := e
  obtain ⟨g, o, vb, rfl, _⟩ := hr 0 (by simp)
  refine ⟨g, o, rfl, by simp, ⟨some ⟨g, o + 5, none⟩, cap - 1, rfl, by simp at hc; omega, fun j hj => ?_⟩⟩
  obtain ⟨g', o', vb', e, hr'⟩ := hr (j + 1) (by simpa using hj)
  simp only [Option.some.injEq, Addr.mk.injEq, and_true] at e
  obtain ⟨rfl, rfl⟩ := e
  refine ⟨g, o + 5, vb', rfl, ?_⟩
  rw [show o + 5 + j * 5 = o + (j + 1) * 5 by omega]
  simpa using hr'
theorem HRS.head {w : World} {a : Option Addr} {n cap : Nat} {x : HitM} {hs : List HitM} (h : HRS w (.slice a n cap) (x :: hs)) : HRS w (.slice a 1 cap) [x] := by
  obtain ⟨a', cap', e, hc, hr⟩ := h
  simp only [Value.slice.injEq] at e
  obtain ⟨rfl, rfl, rfl⟩ := e
  refine ⟨a, cap, rfl, by simp at hc ⊢; omega, fun j hj => ?_⟩
  have hj0 : j = 0 := by simpa using hj
  subst hj0
  exact hr 0 (by simp)

theorem wth_len (ls : List (List UInt8)) (k : Nat) (x : List UInt8) : (wthL ls k x).flatten.length = ls.flatten.length + x.length := by
  unfold wthL
  rw [List.flatten_append, List.flatten_cons, List.length_append, List.length_append]
  have : (ls.take k).flatten.length + (ls.drop k).flatten.length = ls.flatten.length := by
    rw [← List.length_append, ← List.flatten_append, List.take_append_drop]
  omega
end Go.Proofs.YtmlajbdodmleiaaGreat

