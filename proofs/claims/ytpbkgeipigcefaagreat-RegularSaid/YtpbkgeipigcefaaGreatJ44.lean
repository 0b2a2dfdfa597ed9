import Derived.Test.YtpbkgeipigcefaaGreatJ43
import Derived.Test.YtpbkgeipigcefaaGreatJ2
import Derived.Test.YtpbkgeipigcefaaGreatJ42
import Derived.Test.YtpbkgeipigcefaaGreatJ41
set_option linter.unusedVariables false
set_option linter.unusedSimpArgs false
set_option linter.unnecessarySimpa false
namespace Go.Proofs.YtpbkgeipigcefaaGreat
open Go.RowKit

/-! A value in quotes, read. -/
theorem hexD_read : ∀ n, n < 16 → ∀ r, sHexD (hexD n :: r) = (UInt8.ofNat n, true, r) := by
  intro n hn r
  have h : ∀ n, n < 16 → (if dgB (hexD n) then ((hexD n - 48 : UInt8), true) else if 97 ≤ hexD n ∧ hexD n ≤ 102 then (hexD n - 97 + 10, true) else (0, false)) = (UInt8.ofNat n, true) := by decide +kernel
  have h1 := h n hn
  unfold sHexD
  simp only
  split at h1
  · rename_i h2
    rw [if_pos h2]
    simp only [Prod.mk.injEq] at h1 ⊢
    exact ⟨h1.1, trivial⟩
  · rename_i h2
    rw [if_neg h2]
    split at h1
    · rename_i h3
      rw [if_pos h3]
      simp only [Prod.mk.injEq] at h1 ⊢
      exact ⟨h1.1, trivial⟩
    · simp at h1
theorem hex_back (c : UInt8) : UInt8.ofNat (c.toNat / 16) * 16 + UInt8.ofNat (c.toNat % 16) = c := by
  have h : ∀ n, n < 256 → UInt8.ofNat (n / 16) * 16 + UInt8.ofNat (n % 16) = UInt8.ofNat n := by decide +kernel
  rw [h c.toNat c.toNat_lt, UInt8.ofNat_toNat]
theorem sVB_quote (c : UInt8) (r : List UInt8) : sVB (quoteB c ++ r) = (c, true, r) ∧ sTake [34] (quoteB c ++ r) = false := by
  unfold quoteB
  cases hp : plainB c.toNat
  · simp only [Bool.not_false, if_true]
    refine ⟨?_, rfl⟩
    have e : sVB ([92, 120, hexD (c.toNat / 16), hexD (c.toNat % 16)] ++ r) = sHexB (hexD (c.toNat / 16) :: hexD (c.toNat % 16) :: r) := rfl
    have hc := c.toNat_lt
    rw [e]
    unfold sHexB
    simp only
    rw [hexD_read (c.toNat / 16) (by omega), hexD_read (c.toNat % 16) (by omega)]
    simp only [Bool.and_self, hex_back]
  · simp only [Bool.not_true, Bool.false_eq_true, if_false]
    by_cases h34 : c = 34
    · subst h34; exact ⟨rfl, rfl⟩
    · by_cases h92 : c = 92
      · subst h92; exact ⟨rfl, rfl⟩
      · have h1 : (c == 34) = false := by simpa using h34
        have h2 : (c == 92) = false := by simpa using h92
        rw [h1, h2]
        simp only [Bool.or_self, Bool.false_eq_true, if_false]
        have n34 : (34 == c) = false := by rw [beq_eq_false_iff_ne]; exact fun h => h34 h.symm
        have n92 : (92 == c) = false := by rw [beq_eq_false_iff_ne]; exact fun h => h92 h.symm
        refine ⟨?_, by simp [sTake, List.isPrefixOf, n34]⟩
        unfold sVB sTake
        simp only [List.singleton_append, List.isPrefixOf, n92, Bool.false_and, Bool.false_eq_true, if_false, hp, h2, Bool.not_true, Bool.or_self]
theorem valL_quote : ∀ (v acc rest : List UInt8) (n : Nat), v.length < n → acc.length + v.length ≤ 40 → valL n acc (v.flatMap quoteB ++ 34 :: rest) = (acc ++ v, true, rest)
  | [], acc, rest, n, hn, _ => by
    obtain ⟨m, rfl⟩ : ∃ m, n = m + 1 := ⟨n - 1, by simp at hn; omega⟩
    rw [valL]
    have : sTake [34] ([].flatMap quoteB ++ 34 :: rest) = true := by simp [sTake, List.isPrefixOf]
    rw [this]
    simp [sRest, List.isPrefixOf]
  | c :: v, acc, rest, n, hn, hl => by
    rw [List.length_cons] at hn hl
    obtain ⟨m, rfl⟩ : ∃ m, n = m + 1 := ⟨n - 1, by omega⟩
    obtain ⟨h1, h2⟩ := sVB_quote c (v.flatMap quoteB ++ 34 :: rest)
    rw [valL, List.flatMap_cons, List.append_assoc, h2, h1]
    simp only [Bool.false_eq_true, if_false, Bool.not_true, Bool.false_or]
    rw [if_neg (by simp; omega), valL_quote v (acc ++ [c]) rest m (by omega) (by simp; omega)]
    simp
theorem valL_long : ∀ (v acc rest : List UInt8) (n : Nat), acc.length ≤ 40 → 40 < acc.length + v.length → (valL n acc (v.flatMap quoteB ++ 34 :: rest)).2.1 = false
  | [], acc, rest, n, ha, hl => by simp at hl; omega
  | c :: v, acc, rest, n, ha, hl => by
    rw [List.length_cons] at hl
    cases n with
    | zero => rfl
    | succ m =>
      obtain ⟨h1, h2⟩ := sVB_quote c (v.flatMap quoteB ++ 34 :: rest)
      rw [valL, List.flatMap_cons, List.append_assoc, h2, h1]
      simp only [Bool.false_eq_true, if_false, Bool.not_true, Bool.false_or]
      by_cases h40 : 40 ≤ acc.length
      · rw [if_pos (by simpa using h40)]
      · rw [if_neg (by simpa using h40)]
        exact valL_long v (acc ++ [c]) rest m (by simp; omega) (by simp; omega)
theorem sVal_quote (v rest : List UInt8) (h : v.length ≤ 40) : sVal (quoteV v ++ rest) = (v, true, rest) := by
  have e : quoteV v ++ rest = 34 :: (v.flatMap quoteB ++ 34 :: rest) := by unfold quoteV; simp
  have h1 : sTake [34] (quoteV v ++ rest) = true := by rw [e]; simp [sTake, List.isPrefixOf]
  have h2 : sRest [34] (quoteV v ++ rest) = v.flatMap quoteB ++ 34 :: rest := by rw [e]; simp [sRest, List.isPrefixOf]
  unfold sVal
  rw [h1, h2, if_pos rfl]
  have hq : ∀ v : List UInt8, v.length ≤ (v.flatMap quoteB).length := by
    intro v
    induction v with
    | nil => simp
    | cons c r ih =>
      rw [List.flatMap_cons, List.length_append, List.length_cons]
      have : 1 ≤ (quoteB c).length := by unfold quoteB; split; simp; split <;> simp
      omega
  have := hq v
  rw [valL_quote v [] rest _ (by rw [e]; simp only [List.length_cons, List.length_append]; omega) (by simpa using h)]
  rfl
theorem sVal_long (v rest : List UInt8) (h : 40 < v.length) : (sVal (quoteV v ++ rest)).2.1 = false := by
  have e : quoteV v ++ rest = 34 :: (v.flatMap quoteB ++ 34 :: rest) := by unfold quoteV; simp
  have h1 : sTake [34] (quoteV v ++ rest) = true := by rw [e]; simp [sTake, List.isPrefixOf]
  have h2 : sRest [34] (quoteV v ++ rest) = v.flatMap quoteB ++ 34 :: rest := by rw [e]; simp [sRest, List.isPrefixOf]
  unfold sVal
  rw [h1, h2, if_pos rfl]
  exact valL_long v [] rest _ (by simp) (by simpa using h)
/-! A fork, read. -/
def opK (k : Nat) : List UInt8 := if k = 0 then [61] else if k = 1 then [33, 61] else if k = 2 then [61, 126] else [33, 126]
theorem sKind_op {k : Nat} (hk : k ≤ 3) (v rest : List UInt8) : sKind (opK k ++ (quoteV v ++ rest)) = (k, true, quoteV v ++ rest) := by
  have e : quoteV v ++ rest = 34 :: (v.flatMap quoteB ++ 34 :: rest) := by unfold quoteV; simp
  rw [e]
  rcases (show k = 0 ∨ k = 1 ∨ k = 2 ∨ k = 3 by omega) with rfl | rfl | rfl | rfl <;> simp [sKind, opK, sTake, sRest, List.isPrefixOf]
theorem sMat_fork {k : Nat} (hk : k ≤ 3) (v : List UInt8) : sMat (108 :: (opK k ++ quoteV v)) = (([108], k, (sVal (quoteV v)).1), (sVal (quoteV v)).2.1, (sVal (quoteV v)).2.2) := by
  have hop : ∃ c r, opK k ++ quoteV v = c :: r ∧ nmB c = false := by
    rcases (show k = 0 ∨ k = 1 ∨ k = 2 ∨ k = 3 by omega) with rfl | rfl | rfl | rfl <;> exact ⟨_, _, rfl, by decide⟩
  obtain ⟨c, r, e, hc⟩ := hop
  have h1 := tw_app (p := nmB) [108] (opK k ++ quoteV v) (by decide) (fun c' r' h => by rw [e] at h; cases h; exact hc)
  simp only [List.singleton_append] at h1
  have h2 := sKind_op hk v []
  rw [List.append_nil] at h2
  unfold sMat
  rw [h1.1, h1.2]
  dsimp only
  rw [h2]
  simp only [show isNameL [108] = true by decide, Bool.and_self, Bool.true_and]
def fkP : List UInt8 := [32, 114, 111, 117, 116, 101, 32, 98, 32, 105, 102, 32]
def fkR : CR := ⟨0, [97], false, [], -1, -1, -1, [], false⟩
def fkB (k : Nat) (v : List UInt8) : CR := ⟨1, [98], false, [], -1, -1, -1, [([108], k, v)], false⟩
theorem fork_parts (x : List UInt8) : srA (fkP ++ x) = ([98], true, kIf ++ x) ∧ srB (fkP ++ x) = ⟨false, [], true, kIf ++ x⟩ ∧ srC (fkP ++ x) = ⟨-1, -1, -1, true, kIf ++ x⟩ ∧ srM (fkP ++ x) = sMats (kIf ++ x) := by
  have hA : srA (fkP ++ x) = ([98], true, kIf ++ x) := rfl
  have hB : srB (fkP ++ x) = ⟨false, [], true, kIf ++ x⟩ := by unfold srB; rw [hA]; rfl
  have hC : srC (fkP ++ x) = ⟨-1, -1, -1, true, kIf ++ x⟩ := by unfold srC; rw [hB]; rfl
  exact ⟨hA, hB, hC, by unfold srM; rw [hC]⟩
theorem sMats_one (x : List UInt8) : sMats (kIf ++ x) = if !(sMat x).2.1 then ([], false, (sMat x).2.2) else matL 5 [(sMat x).1] (sMat x).2.2 := by
  have h1 : sTake kIf (kIf ++ x) = true := rfl
  have h2 : sRest kIf (kIf ++ x) = x := rfl
  unfold sMats
  rw [matL, h1, h2]
  simp
theorem fork_route {k : Nat} (hk : k ≤ 3) {v : List UInt8} (hv : v.length ≤ 40) : sRoute (fkP ++ 108 :: (opK k ++ quoteV v)) = some (fkB k v) := by
  obtain ⟨hA, hB, hC, hM⟩ := fork_parts (108 :: (opK k ++ quoteV v))
  have hs := sVal_quote v [] hv
  rw [List.append_nil] at hs
  have hm := sMat_fork hk v
  rw [hs] at hm
  have hM2 : sMats (kIf ++ 108 :: (opK k ++ quoteV v)) = ([([108], k, v)], true, []) := by
    rw [sMats_one, hm]
    rfl
  rw [sRoute_eq, hA, hB, hC, hM, hM2]
  rfl
theorem fork_none {k : Nat} (hk : k ≤ 3) {v : List UInt8} (hv : 40 < v.length) : sRoute (fkP ++ 108 :: (opK k ++ quoteV v)) = none := by
  obtain ⟨hA, hB, hC, hM⟩ := fork_parts (108 :: (opK k ++ quoteV v))
  have hs := sVal_long v [] hv
  rw [List.append_nil] at hs
  have hm := sMat_fork hk v
  have hM2 : (sMats (kIf ++ 108 :: (opK k ++ quoteV v))).2.1 = false := by
    rw [sMats_one, hm]
    simp only [hs, Bool.not_false, if_true]
  rw [sRoute_eq, hA, hB, hC, hM, hM2]
  simp
theorem quoteB_no (c : UInt8) : (10 : UInt8) ∉ quoteB c := by
  have h : ∀ n, n < 256 → (10 : UInt8) ∉ quoteB (UInt8.ofNat n) := by decide +kernel
  have := h c.toNat c.toNat_lt
  rwa [UInt8.ofNat_toNat] at this
theorem quoteV_no (v : List UInt8) : (10 : UInt8) ∉ quoteV v := by
  unfold quoteV
  simp only [List.mem_append, List.mem_singleton, List.mem_flatMap, not_or, not_exists, not_and]
  exact ⟨⟨by decide, fun c _ => quoteB_no c⟩, by decide⟩
def fkl0 : List UInt8 := [114, 101, 99, 101, 105, 118, 101, 114, 115, 32, 97, 32, 98, 10]
def fkl1 : List UInt8 := [114, 111, 117, 116, 101, 32, 97, 10]
theorem fork_lines {k : Nat} (hk : k ≤ 3) (v : List UInt8) : lnsK (fkT (108 :: (opK k ++ quoteV v))) = [fkl0, fkl1, (fkP ++ 108 :: (opK k ++ quoteV v)) ++ [10]] ∧ (lnsK (fkT (108 :: (opK k ++ quoteV v)))).flatten = fkT (108 :: (opK k ++ quoteV v)) := by
  have hno : (10 : UInt8) ∉ fkP ++ 108 :: (opK k ++ quoteV v) := by
    intro hm
    rcases List.mem_append.1 hm with h | h
    · revert h; decide
    · rcases List.mem_cons.1 h with h | h
      · cases h
      · rcases List.mem_append.1 h with h | h
        · rcases (show k = 0 ∨ k = 1 ∨ k = 2 ∨ k = 3 by omega) with rfl | rfl | rfl | rfl <;> (revert h; decide)
        · exact quoteV_no v h
  have e : fkT (108 :: (opK k ++ quoteV v)) = [fkl0, fkl1, (fkP ++ 108 :: (opK k ++ quoteV v)) ++ [10]].flatten := by
    simp [fkT, fkA, fkl0, fkl1, fkP]
  have h := lns_flat [fkl0, fkl1, (fkP ++ 108 :: (opK k ++ quoteV v)) ++ [10]] (by
    intro l hl
    simp only [List.mem_cons, List.not_mem_nil, or_false] at hl
    rcases hl with rfl | rfl | rfl
    · exact ⟨[114, 101, 99, 101, 105, 118, 101, 114, 115, 32, 97, 32, 98], rfl, by decide⟩
    · exact ⟨[114, 111, 117, 116, 101, 32, 97], rfl, by decide⟩
    · exact ⟨_, rfl, hno⟩)
  rw [← e] at h
  exact ⟨h, by rw [h, ← e]⟩
theorem fork_len {k : Nat} (hk : k ≤ 3) {v : List UInt8} (hv : v.length ≤ 40) : (fkT (108 :: (opK k ++ quoteV v))).length ≤ 1200 := by
  have h1 := quoteL_len v
  have h2 : (opK k).length ≤ 2 := by
    rcases (show k = 0 ∨ k = 1 ∨ k = 2 ∨ k = 3 by omega) with rfl | rfl | rfl | rfl <;> decide
  unfold fkT quoteV
  simp only [List.length_append, List.length_cons, List.length_nil, show fkA.length = 34 from rfl]
  omega
theorem fork_read {k : Nat} (hk : k ≤ 3) {v : List UInt8} (hv : v.length ≤ 40) : cRead (fkT (108 :: (opK k ++ quoteV v))) = .ok ([[97], [98]], [fkR, fkB k v]) := by
  obtain ⟨h1, h2⟩ := fork_lines hk v
  have hr1 : cRead1 (fkT (108 :: (opK k ++ quoteV v))) = .ok ([[97], [98]], [fkR, fkB k v]) := by
    refine (cRead1_lines _ _ _).2 ⟨h2, fkl0, [fkl1, (fkP ++ 108 :: (opK k ++ quoteV v)) ++ [10]], h1, rfl, ?_⟩
    rw [mapM_cons', show rtL fkl1 = some fkR from rfl, mapM_cons']
    have : rtL ((fkP ++ 108 :: (opK k ++ quoteV v)) ++ [10]) = some (fkB k v) := by unfold rtL; rw [List.dropLast_concat]; exact fork_route hk hv
    rw [this]
    rfl
  have hl := fork_len hk hv
  unfold cRead
  rw [if_neg (by omega), hr1]
  rfl
theorem fork_bad {k : Nat} (hk : k ≤ 3) {v : List UInt8} (hv : 40 < v.length) (re : List UInt8 → Nat) : (cRes re (fkT (108 :: (opK k ++ quoteV v)))).1 ≠ 0 := by
  obtain ⟨h1, h2⟩ := fork_lines hk v
  have key : ∀ L C, cRead1 (fkT (108 :: (opK k ++ quoteV v))) ≠ .ok (L, C) := by
    intro L C h
    obtain ⟨_, l0, ls, e1, e2, e3⟩ := (cRead1_lines _ _ _).1 h
    rw [h1] at e1
    simp only [List.cons.injEq] at e1
    obtain ⟨rfl, rfl⟩ := e1
    have hn : rtL ((fkP ++ 108 :: (opK k ++ quoteV v)) ++ [10]) = none := by unfold rtL; rw [List.dropLast_concat]; exact fork_none hk hv
    rw [mapM_cons', show rtL fkl1 = some fkR from rfl, mapM_cons', hn] at e3
    cases e3
  unfold cRes cRead
  by_cases hl : 1200 < (fkT (108 :: (opK k ++ quoteV v))).length
  · rw [if_pos hl]; simp
  · rw [if_neg hl]
    cases hr : cRead1 (fkT (108 :: (opK k ++ quoteV v))) with
    | error n => simp
    | ok LC => obtain ⟨L, C⟩ := LC; exact absurd hr (key L C)
theorem fork_hits (k : Nat) (v : List UInt8) (V : List UInt8 → List UInt8) : hitsC [fkR, fkB k v] V = if mHolds autC V ([108], k, v) then [⟨[98], [], 30, 300, 14400⟩] else [⟨[97], [], 30, 300, 14400⟩] := by
  have hk0 : kids [fkR, fkB k v] 0 = [1] := rfl
  have hk1 : kids [fkR, fkB k v] 1 = [] := rfl
  have hh : hold autC V [fkR, fkB k v] 1 = mHolds autC V ([108], k, v) := by
    show ([([108], k, v)] : List CM).all (mHolds autC V) = _
    simp
  unfold hitsC
  rw [sentH, hk0]
  simp only [List.any_cons, List.any_nil, Bool.or_false, hh, walkH]
  cases mHolds autC V ([108], k, v)
  · rfl
  · rw [sentH, hk1]; rfl
end Go.Proofs.YtpbkgeipigcefaaGreat

namespace Go.Proofs.YtpbkgeipigcefaaGreat
open Go.RowKit

/-! A value with a backslash ahead of each byte. -/
def escK (v : List UInt8) : List UInt8 := v.flatMap fun c => [92, c]
def oneL (v : List UInt8) : List RX := v.map fun c => .one (2 ^ c.toNat)
theorem esc_atom (k nest : Nat) (c : UInt8) (r : List UInt8) : pAtom (k + 1) nest (92 :: c :: r) = some (.one (2 ^ c.toNat), r) := by
  simp [pAtom]
theorem esc_marks (v : List UInt8) (x : RX) (k : Nat) : pMarks (k + 1) x (escK v) = some (x, escK v) := by
  cases v with
  | nil => rfl
  | cons c r => rfl
theorem esc_seq : ∀ (v : List UInt8) (k nest : Nat) (acc : List RX), v.length + 2 ≤ k → pSeq k nest acc (escK v) = some (.seq (acc ++ oneL v), [])
  | [], k, nest, acc, hk => by
    obtain ⟨m, rfl⟩ : ∃ m, k = m + 1 := ⟨k - 1, by simp at hk; omega⟩
    simp [pSeq, escK, seqEndB, oneL]
  | c :: v, k, nest, acc, hk => by
    rw [List.length_cons] at hk
    obtain ⟨m, rfl⟩ : ∃ m, k = (m + 1) + 1 := ⟨k - 2, by omega⟩
    have e : escK (c :: v) = 92 :: c :: escK v := rfl
    rw [e, pSeq]
    have h1 : seqEndB (92 :: c :: escK v) = false := rfl
    rw [h1, esc_atom]
    simp only [Bool.false_eq_true, if_false]
    rw [esc_marks]
    simp only
    rw [esc_seq v (m + 1) nest (acc ++ [RX.one (2 ^ c.toNat)]) (by omega)]
    simp [oneL]
theorem esc_whole (v : List UInt8) : pWhole (escK v) = some (.alt [.seq (oneL v)]) := by
  have hl : (escK v).length = 2 * v.length := by
    unfold escK
    induction v with
    | nil => rfl
    | cons c r ih => rw [List.flatMap_cons, List.length_append, ih]; simp; omega
  unfold pWhole
  rw [hl]
  have h := esc_seq v (4 * (2 * v.length) + 3) 0 [] (by omega)
  rw [show 4 * (2 * v.length) + 4 = (4 * (2 * v.length) + 3) + 1 by omega, pAlt, h]
  rfl
theorem esc_plc (v : List UInt8) : plcG (.alt [.seq (oneL v)]) = v.length := by
  have : ∀ v : List UInt8, plcGL (oneL v) = v.length := by
    intro v
    induction v with
    | nil => rfl
    | cons c r ih =>
      show plcG (.one _) + plcGL (oneL r) = _
      rw [ih, List.length_cons]
      simp only [plcG]; omega
  simp only [plcG, plcGL, this]
  omega
theorem esc_rg (v : List UInt8) : Rg (.alt [.seq (oneL v)]) (v.map (·.toNat)) := by
  have : ∀ v : List UInt8, RgS (oneL v) (v.map (·.toNat)) := by
    intro v
    induction v with
    | nil => simp [oneL, RgS]
    | cons c r ih =>
      show ∃ u w, _ = u ++ w ∧ Rg (.one (2 ^ c.toNat)) u ∧ RgS (oneL r) w
      exact ⟨[c.toNat], r.map (·.toNat), rfl, ⟨c.toNat, rfl, Nat.testBit_two_pow_self⟩, ih⟩
  exact .inl (this v)
/-! Its forms. -/
def lit (v : List UInt8) : NF := nrmS (oneL v)
theorem two_pow_ne (n : Nat) : (2 : Nat) ^ n ≠ 0 := Nat.pos_iff_ne_zero.1 (Nat.two_pow_pos n)
theorem lit_cons (c : UInt8) (v : List UInt8) : lit (c :: v) = thenN (.set (2 ^ c.toNat)) (lit v) := by
  show thenN (nrm (.one (2 ^ c.toNat))) (nrmS (oneL v)) = _
  simp only [nrm, if_neg (two_pow_ne _)]
  rfl
theorem lit_shape : ∀ v : List UInt8, lit v = .one ∨ ∃ s, lit v = .set s ∨ ∃ b, lit v = .pair (.set s) b
  | [] => .inl rfl
  | c :: v => by
    right
    refine ⟨2 ^ c.toNat, ?_⟩
    rw [lit_cons]
    rcases lit_shape v with h | ⟨s, h | ⟨b, h⟩⟩ <;> rw [h] <;> simp [thenN]
theorem lit_left (c : Nat) (a : UInt8) (v : List UInt8) : left c (lit (a :: v)) = if c = a.toNat then lit v else .zero := by
  rw [lit_cons]
  have hb : (2 ^ a.toNat).testBit c = decide (a.toNat = c) := Nat.testBit_two_pow
  have key : left c (.set (2 ^ a.toNat)) = if c = a.toNat then .one else .zero := by
    rw [left, hb]
    by_cases h : c = a.toNat
    · rw [if_pos h]; simp [h]
    · rw [if_neg h]; simp [Ne.symm h]
  have hp : ∀ b, left c (.pair (.set (2 ^ a.toNat)) b) = thenN (left c (.set (2 ^ a.toNat))) b := by
    intro b
    simp only [left, nul, Bool.false_eq_true, if_false]
  rcases lit_shape v with h | ⟨s, h | ⟨b, h⟩⟩
  · rw [h]
    have : thenN (.set (2 ^ a.toNat)) .one = .set (2 ^ a.toNat) := by simp [thenN]
    rw [this, key]
  · rw [h]
    have : thenN (.set (2 ^ a.toNat)) (.set s) = .pair (.set (2 ^ a.toNat)) (.set s) := by simp [thenN]
    rw [this, hp, key]
    split <;> simp [thenN]
  · rw [h]
    have : thenN (.set (2 ^ a.toNat)) (.pair (.set s) b) = .pair (.set (2 ^ a.toNat)) (.pair (.set s) b) := by simp [thenN]
    rw [this, hp, key]
    split <;> simp [thenN]
theorem dW_zero (u : List Nat) : dW .zero u = .zero := by
  unfold dW
  induction u with
  | nil => rfl
  | cons c r ih => rw [List.foldl_cons]; simpa [left] using ih
def far : List UInt8 → List Nat → Nat
  | _, [] => 0
  | [], _ :: _ => 1
  | a :: v, c :: u => if c = a.toNat then far v u + 1 else v.length + 2
def litAt (v : List UInt8) (j : Nat) : NF := if j ≤ v.length then lit (v.drop j) else .zero
theorem far_le : ∀ (v : List UInt8) (u : List Nat), far v u ≤ v.length + 1
  | _, [] => by simp [far]
  | [], _ :: _ => by simp [far]
  | a :: v, c :: u => by
    rw [far, List.length_cons]
    split
    · have := far_le v u; omega
    · omega
theorem dW_lit : ∀ (v : List UInt8) (u : List Nat), dW (lit v) u = litAt v (far v u)
  | v, [] => by cases v <;> simp [far, litAt, dW]
  | [], c :: u => by
    show dW (left c (lit [])) u = _
    have : left c (lit []) = .zero := by show left c .one = .zero; simp [left]
    rw [this, dW_zero]
    rfl
  | a :: v, c :: u => by
    show dW (left c (lit (a :: v))) u = _
    rw [lit_left, far]
    by_cases h : c = a.toNat
    · rw [if_pos h, if_pos h, dW_lit v u]
      unfold litAt
      rw [List.length_cons, List.drop_succ_cons]
      by_cases h2 : far v u ≤ v.length
      · rw [if_pos h2, if_pos (by omega)]
      · rw [if_neg h2, if_neg (by omega)]
    · rw [if_neg h, if_neg h, dW_zero]
      unfold litAt
      rw [if_neg (by rw [List.length_cons]; omega)]
/-! Few states. -/
def Dst (v : List UInt8) (St : List (List Nat)) : Prop := (St.map (far v)).Nodup
theorem Dst.len {v : List UInt8} {St : List (List Nat)} (h : Dst v St) : St.length ≤ v.length + 2 := by
  have := nodup_le (v.length + 2) _ h (fun x hx => by
    obtain ⟨u, _, rfl⟩ := List.mem_map.1 hx
    have := far_le v u
    omega)
  simpa using this
theorem Dst.add {v : List UInt8} {St : List (List Nat)} (h : Dst v St) {x : List Nat} (hx : idW (lit v) St x = St.length) : Dst v (St ++ [x]) := by
  unfold Dst at h ⊢
  rw [List.map_append, List.nodup_append]
  refine ⟨h, by simp, ?_⟩
  intro a ha b hb e
  simp at hb
  subst hb
  obtain ⟨u, hu, rfl⟩ := List.mem_map.1 ha
  have hn : (name (dW (lit v) u) == name (dW (lit v) x)) = false := by
    have := List.findIdx_eq_length.1 hx u hu
    simpa using this
  rw [dW_lit, dW_lit, e] at hn
  simp at hn
theorem row_few {v : List UInt8} (hv : v.length ≤ 30) (w : List Nat) : ∀ (F : List Nat) (St : List (List Nat)) (nx : List Nat), Dst v St → (rowW (lit v) w F St nx).1 = true ∧ Dst v (rowW (lit v) w F St nx).2.1
  | [], St, nx, h => ⟨rfl, h⟩
  | c :: F, St, nx, h => by
    have hl := h.len
    have hi := idW_le (lit v) St (w ++ [c])
    rw [rowW, if_neg (by omega)]
    refine row_few hv w F _ _ ?_
    split
    · rename_i he; exact h.add he
    · exact h
theorem aut_few {v : List UInt8} (hv : v.length ≤ 30) (F : List Nat) : ∀ (k i : Nat) (St : List (List Nat)) (nx : List Nat), Dst v St → (autW (lit v) F k i St nx).1 = true
  | 0, i, St, nx, h => rfl
  | k + 1, i, St, nx, h => by
    rw [autW]
    cases hi : St[i]? with
    | none => rfl
    | some w =>
      obtain ⟨h1, h2⟩ := row_few hv w F St nx h
      simp only
      generalize rowW (lit v) w F St nx = x at *
      obtain ⟨b, St', nx'⟩ := x
      simp only at h1 h2
      subst h1
      exact aut_few hv F k (i + 1) St' nx' h2
theorem esc_okx (v : List UInt8) : okx (.seq (oneL v)) := by
  show okxL (oneL v)
  induction v with
  | nil => trivial
  | cons c r ih => exact ⟨Nat.pow_lt_pow_right (by omega) c.toNat_lt, ih⟩
theorem esc_nrm (v : List UInt8) : nrm (.alt [.seq (oneL v)]) = lit v := by
  have h := nrm_WC (esc_okx v)
  have hT : orL [nrm (.seq (oneL v))] = nrm (.seq (oneL v)) := can_T h.1 h.2
  show orL [nrm (.seq (oneL v))] = _
  rw [hT]; rfl
theorem esc_re {v : List UInt8} (hv : v.length ≤ 30) : reC (escK v) = 0 := by
  have h1 : (autE (.alt [.seq (oneL v)])).1 = true := by
    unfold autE autR
    rw [esc_nrm]
    exact aut_few hv _ 41 0 [[]] [] (by simp [Dst])
  unfold reC
  rw [esc_whole]
  simp only
  rw [esc_plc, if_neg (by omega), h1]
  rfl
theorem autT_tk {a : AutM} (ok : AutOK a) {B : List Bool} (hB : a.acc = B.map fun b => if b then 1 else 0) : ∀ (v : List UInt8) (s : Nat), s < a.acc.length → (a.acc.getD (autT a s v) 0 == 1) = tkP a.k a.cl B a.nx s v
  | [], s, hs => by
    rw [autT, tkP, hB]
    rw [hB, List.length_map] at hs
    simp only [List.getD_eq_getElem?_getD, List.getElem?_map, List.getElem?_eq_getElem hs, Option.map_some, Option.getD_some]
    cases B[s] <;> rfl
  | c :: v, s, hs => by
    obtain ⟨h1, h2⟩ := autT_next ok hs c
    rw [autT, tkP, if_pos h1]
    exact autT_tk ok hB v _ h2
theorem takes_rg {t : List UInt8} {e : RX} (he : pWhole t = some e) (h0 : reC t = 0) (v : List UInt8) : takesA (autC t) v = true ↔ Rg e (v.map (·.toNat)) := by
  obtain ⟨e', he', h1, _⟩ := reC_zero h0
  rw [he] at he'
  cases he'
  have ok := autC_ok t h0
  rw [← tk_takes (pWhole_good he).1 h1 v]
  have hv : autC t = ⟨(fstE e).length, clsE e, (autE e).2.1.map fun u => if nul (dW (nrm e) u) then 1 else 0, (autE e).2.2⟩ := by unfold autC; rw [he]
  have := autT_tk ok (B := (autE e).2.1.map fun u => nul (dW (nrm e) u)) (by rw [hv]; generalize (autE e).2.1 = S; simp) v 0 (by have := ok.s1; omega)
  unfold takesA
  rw [this, hv]
theorem esc_takes {v : List UInt8} (hv : v.length ≤ 30) : takesA (autC (escK v)) v = true := (takes_rg (esc_whole v) (esc_re hv) v).2 (esc_rg v)
end Go.Proofs.YtpbkgeipigcefaaGreat

namespace Go.Proofs.YtpbkgeipigcefaaGreat
open Go.RowKit

def goodK (k : Nat) (v : List UInt8) : Bool := decide (v.length ≤ 40) && (decide (k < 2) || reC v == 0)
def choK (k : Nat) (v x : List UInt8) : Bool := mHolds autC (fun _ => x) ([108], k, v)
def FKP (k : Nat) (v : List UInt8) (w : World) (pb : Nat) : Prop := ∃ V m, PR [] w pb V m ∧ MOK m ∧ ∀ x : List UInt8, x.length ≤ 40 → (labsOK [([108], x)] && oneB (hitsA m [([108], x)])) = choK k v x
theorem FKP.frm {k : Nat} {v : List UInt8} {w w' : World} {pb : Nat} (h : FKP k v w pb) (f : Frm [] w w') : FKP k v w' pb := by
  obtain ⟨V, m, h1, h2, h3⟩ := h
  exact ⟨V, m, h1.frm f (by simp), h2, h3⟩
def FKK (k : Nat) (v : List UInt8) (w : World) (e : Ending) (w' : World) : Prop :=
  Frm [] w w' ∧ ((goodK k v = false ∧ ∃ n : Nat, n ≠ 0 ∧ e = .returned (.tuple #[.pointer none, .int .i64 n])) ∨ (goodK k v = true ∧ ∃ pb, e = .returned (.tuple #[.pointer (some ⟨pb, 0, none⟩), .int .i64 0]) ∧ FKP k v w' pb))
theorem fork_xF {k : Nat} (hk : k ≤ 3) {v : List UInt8} (hv : v.length ≤ 40) : (xF reC [fkR, fkB k v] 0).1 = 0 ↔ goodK k v = true := by
  unfold goodK
  rw [decide_eq_true hv, Bool.true_and]
  have e : xF reC [fkR, fkB k v] 0 = if !((if (k == 2 || k == 3) && !(reC v == 0) then reC v else 0) == 0) then ((if (k == 2 || k == 3) && !(reC v == 0) then reC v else 0), 3) else (0, 0) := rfl
  rw [e]
  by_cases h0 : reC v = 0
  · simp [h0]
  · have h0' : (reC v == 0) = false := by simpa using h0
    by_cases h2 : k = 2 ∨ k = 3
    · rcases h2 with rfl | rfl <;> simp [h0', h0]
    · have hk2 : (k == 2) = false := by simp; omega
      have hk3 : (k == 3) = false := by simp; omega
      simp [hk2, hk3, h0]
      omega
theorem lbl_l (x : List UInt8) : lblV [([108], x)] [108] = x := by
  unfold lblV
  rfl
theorem labs_l {x : List UInt8} (hx : x.length ≤ 40) : labsOK [([108], x)] = true := by
  unfold labsOK labsB
  have h1 : isNameL [108] = true := by decide
  simp [h1, hx, labsB]
theorem forkK_any {k : Nat} (hk : k ≤ 3) (v : List UInt8) (hv : v.length ≤ 20000) (w : World) : Calls Tryz.prog 23 #[.string (bs (108 :: (opK k ++ quoteV v)))] w (FKK k v w) := by
  have hl : (108 :: (opK k ++ quoteV v)).length ≤ 1000000 := by
    have h1 := quoteL_len v
    have h2 : (opK k).length ≤ 2 := by
      rcases (show k = 0 ∨ k = 1 ∨ k = 2 ∨ k = 3 by omega) with rfl | rfl | rfl | rfl <;> decide
    unfold quoteV
    simp only [List.length_append, List.length_cons, List.length_nil]
    omega
  refine (fork_any _ w hl).mono ?_
  rintro e w' ⟨hF, ⟨h1, rfl⟩ | ⟨L, C, s, V, pb, h1, h2, h3, rfl, h4, h5, h6⟩⟩
  · refine ⟨hF, .inl ⟨?_, _, h1, rfl⟩⟩
    by_cases hv4 : v.length ≤ 40
    · rw [cRes_some (fork_read hk hv4)] at h1
      cases hg : goodK k v
      · rfl
      · exact absurd ((fork_xF hk hv4).2 hg) h1
    · unfold goodK; rw [decide_eq_false hv4]; rfl
  · by_cases hv4 : v.length ≤ 40
    · rw [cRes_some (fork_read hk hv4)] at h1
      have hg : goodK k v = true := (fork_xF hk hv4).1 (by rw [h1])
      have hq := fork_read hk hv4
      have hq2 := h2
      rw [hq] at h2
      cases h2
      refine ⟨hF, .inr ⟨hg, pb, rfl, V, _, h4, h5, fun x hx => ?_⟩⟩
      have hlen : (fkT (108 :: (opK k ++ quoteV v))).length ≤ 1048576 := by have := fork_len hk hv4; omega
      rw [labs_l hx, Bool.true_and, hitsA_comp (A := [([108], x)]) hlen hq h3, fork_hits]
      have e : mHolds autC (lblV [([108], x)]) ([108], k, v) = choK k v x := by
        unfold choK mHolds
        simp only [lbl_l]
      rw [e]
      cases choK k v x <;> rfl
    · exact absurd (by rw [h1]) (fork_bad hk (v := v) (by omega) reC)
set_option maxRecDepth 100000 in
set_option maxHeartbeats 2000000 in
theorem escaped_any (v : List UInt8) (w : World) (hv : v.length ≤ 20000) :
    Calls Tryz.prog 20 #[.string (bs v)] w fun e w' => e = .returned (.string (bs (escK v))) ∧ w = w' := by
  have hsz := bs_size
  have hap := bs_append
  have hx := bs_extract
  have k0 : ({ data := #[] } : ByteArray) = bs [] := rfl
  have k1 : ({ data := #[92] } : ByteArray) = bs [92] := rfl
  go_enter Tryz.func20, Tryz.ntmps20
  go_wp2_with fail
  go_loopg [3, 4] v.length (fun k vt vi wr => ∃ j : Nat, j + k = v.length ∧ vi = .int .i64 j ∧ vt = .string (bs (escK (v.take j))) ∧ wr = w)
  case atStart => exact ⟨0, by omega, rfl, by rw [k0]; rfl, rfl⟩
  case round =>
    obtain ⟨j, hjk, rfl, rfl, hw⟩ := hrel
    subst hw
    have hel : (escK (v.take j)).length ≤ 40000 := by
      have : ∀ u : List UInt8, (escK u).length = 2 * u.length := by
        intro u
        induction u with
        | nil => rfl
        | cons c r ih => show ([92, c] ++ escK r).length = _; rw [List.length_append, ih]; simp; omega
      rw [this]; simp; omega
    by_cases hlt : j < v.length
    · have hd1 : decide ((j : Int) < (v.length : Int)) = true := decide_eq_true (by omega)
      have HS : Hid (escK (v.take (j + 1)) = escK (v.take j) ++ [92, v[j]]) := by
        show _ = _; unfold escK; rw [List.take_succ_eq_append_getElem hlt, List.flatMap_append]; simp
      have he : List.drop j (List.take (j + 1) v) = [v[j]] := by
        rw [List.take_succ_eq_append_getElem hlt, List.drop_append_of_le_length (by simp; omega), List.drop_eq_nil_of_le (by simp; omega)]; rfl
      generalize v[j] = c at *
      generalize escK (v.take j) = T at *
      go_wp2
      go_roundg (gk - 1)
      case measure => omega
      case rel => exact ⟨j + 1, by omega, by go_num, by rw [HS.out], rfl⟩
    · have hd1 : decide ((j : Int) < (v.length : Int)) = false := decide_eq_false (by omega)
      have HE : Hid (v.take j = v) := List.take_of_length_le (by omega)
      rw [HE.out]
      go_wp2
      go_ret
      exact ⟨rfl, rfl⟩
end Go.Proofs.YtpbkgeipigcefaaGreat

namespace Go.Proofs.YtpbkgeipigcefaaGreat
open Go.RowKit

theorem chosenK_any {k : Nat} {v : List UInt8} {w : World} {pb : Nat} (h : FKP k v w pb) (x : List UInt8) (hx : x.length ≤ 40) :
    Calls Tryz.prog 24 #[.pointer (some ⟨pb, 0, none⟩), .string (bs x)] w fun e w' => e = .returned (.bool (choK k v x)) ∧ Frm [] w w' := by
  obtain ⟨V, m, h1, h2, h3⟩ := h
  refine (chosen_any w pb V m h1 h2 x (by omega)).mono ?_
  rintro e w' ⟨hF, rfl⟩
  exact ⟨by rw [h3 x hx], hF⟩
def takB (r v : List UInt8) : Bool := goodK 2 r && decide (v.length ≤ 40)
set_option maxRecDepth 100000 in
set_option maxHeartbeats 4000000 in
theorem takes_any' (r v : List UInt8) (w : World) (hr : r.length ≤ 20000) (hv : v.length ≤ 20000) :
    Calls Tryz.prog 21 #[.string (bs r), .string (bs v)] w fun e w' => e = .returned (.tuple #[.bool (takB r v && choK 2 r v), .bool (takB r v)]) ∧ Frm [] w w' := by
  have hsz := bs_size
  have hap := bs_append
  have k5 : ({ data := #[108, 61, 126] } : ByteArray) = bs [108, 61, 126] := rfl
  have N1 := hide (kquoted_any r w (by omega))
  have hql : (quoteV r).length ≤ 90000 := by
    have := quoteL_len r
    unfold quoteV
    rw [List.length_append, List.length_append]
    simp only [List.length_cons, List.length_nil]
    omega
  have N2 : Hid (∀ W, Calls Tryz.prog 23 #[.string (bs ([108, 61, 126] ++ quoteV r))] W (FKK 2 r W)) := fun W => forkK_any (k := 2) (by omega) r hr W
  go_enter Tryz.func21, Tryz.ntmps21
  go_wp2_with fail
  refine (N1.out).mono ?_
  clear N1
  rintro e w1 ⟨rfl, hF1⟩
  have F1 := hide hF1
  have N3 := hide (N2.out w1)
  clear hF1 N2
  generalize quoteV r = qr at *
  go_wp2_with fail
  refine (N3.out).mono ?_
  clear N3
  rintro e w2 ⟨hF2, ⟨hg, n, hn, rfl⟩ | ⟨hg, pb, rfl, hP⟩⟩
  · have F2 := hide (F1.out.trans hF2)
    have HV : Hid (takB r v = false) := by show _ = _; unfold takB; rw [hg]; rfl
    have hne : ((n : Int) != 0) = true := by rw [bne_iff_ne]; omega
    clear hF2 hg
    go_wp2
    go_ret2
    exact ⟨by rw [HV.out]; rfl, F2.out⟩
  · have F2 := hide (F1.out.trans hF2)
    by_cases hv4 : 40 < v.length
    · have HV : Hid (takB r v = false) := by show _ = _; unfold takB; rw [decide_eq_false (by omega)]; simp
      have hd : decide ((40 : Int) < (v.length : Int)) = true := decide_eq_true (by omega)
      have hd' : decide (40 < v.length) = true := decide_eq_true hv4
      clear hF2 hg hP
      go_wp2
      go_ret2
      exact ⟨by rw [HV.out]; rfl, F2.out⟩
    · have HV : Hid (takB r v = true) := by show _ = _; unfold takB; rw [hg, decide_eq_true (by omega)]; rfl
      have hd : decide ((40 : Int) < (v.length : Int)) = false := decide_eq_false (by omega)
      have hd' : decide (40 < v.length) = false := decide_eq_false hv4
      have N4 := hide (chosenK_any hP v (by omega))
      clear hF2 hg hP
      go_wp2_with fail
      refine (N4.out).mono ?_
      clear N4
      rintro e w3 ⟨rfl, hF3⟩
      have F3 := hide (F2.out.trans hF3)
      clear hF3
      generalize hc : choK 2 r v = b at *
      have HC := hide hc
      clear hc
      go_wp2
      go_ret2
      exact ⟨by rw [HV.out, HC.out]; rfl, F3.out⟩

theorem choK_esc {v : List UInt8} (h : v.length ≤ 20) : takB (escK v) v = true ∧ choK 2 (escK v) v = true := by
  have hl : (escK v).length = 2 * v.length := by
    unfold escK
    clear h
    induction v with
    | nil => rfl
    | cons c r ih => rw [List.flatMap_cons, List.length_append, ih]; simp; omega
  refine ⟨?_, ?_⟩
  · unfold takB goodK
    rw [esc_re (v := v) (by omega)]
    simp [hl]
    omega
  · unfold choK mHolds
    simpa using esc_takes (v := v) (by omega)

end Go.Proofs.YtpbkgeipigcefaaGreat

