import Derived.Test.YtjnaekffodgdcaaDoorW16
namespace Go.Proofs.YtjnaekffodgdcaaDoor
open Go.RowKit
set_option linter.unusedVariables false
set_option linter.unusedSimpArgs false
set_option linter.unnecessarySimpa false

structure GoodM (m : CM) : Prop where
  name : isNameL m.1 = true
  kind : m.2.1 ≤ 3
  val : m.2.2.length ≤ 40
structure GoodCR (c : CR) : Prop where
  d : c.d ≤ 1048576
  rc : c.rc = [45] ∨ isNameL c.rc = true
  bys : ∀ n ∈ c.bys, isNameL n = true
  byl : c.bys.length ≤ 4
  wt : -1 ≤ c.wt ∧ c.wt ≤ 99999
  ev : -1 ≤ c.ev ∧ c.ev ≤ 99999
  rp : -1 ≤ c.rp ∧ c.rp ≤ 99999
  ifs : ∀ m ∈ c.ifs, GoodM m
  ifl : c.ifs.length ≤ 4

theorem isNameL_len {n : List UInt8} (h : isNameL n = true) : n.length ≤ 8 := by
  unfold isNameL at h
  simp at h
  exact h.1.1.2

theorem valL_len : ∀ (k : Nat) (acc l : List UInt8), acc.length ≤ 40 → (valL k acc l).1.length ≤ 40
  | 0, acc, l, _ => by simp [valL]
  | k + 1, acc, l, h => by
    unfold valL
    split
    · exact h
    split
    · simp
    · rename_i h1
      simp at h1
      exact valL_len k _ _ (by simp; omega)
theorem sVal_len (l : List UInt8) : (sVal l).1.length ≤ 40 := by
  unfold sVal; split
  · exact valL_len _ _ _ (by simp)
  · simp
theorem sKind_le (l : List UInt8) : (sKind l).1 ≤ 3 := by
  unfold sKind
  split
  · simp
  split
  · simp
  split
  · simp
  · simp
theorem sMat_good (l : List UInt8) (h : (sMat l).2.1 = true) : GoodM (sMat l).1 := by
  unfold sMat at h ⊢
  simp only [Bool.and_eq_true] at h
  exact ⟨h.1.1, sKind_le _, sVal_len _⟩
theorem matL_good : ∀ (k : Nat) (acc : List CM) (l : List UInt8), (∀ m ∈ acc, GoodM m) → acc.length ≤ 4 → (∀ m ∈ (matL k acc l).1, GoodM m) ∧ (matL k acc l).1.length ≤ 4
  | 0, acc, l, h, h4 => ⟨h, h4⟩
  | k + 1, acc, l, h, h4 => by
    unfold matL
    split
    · dsimp only
      split
      · exact ⟨h, h4⟩
      · rename_i h1
        simp at h1
        refine matL_good k _ _ ?_ (by simp; omega)
        intro m hm
        rw [List.mem_append, List.mem_singleton] at hm
        rcases hm with hm | rfl
        · exact h m hm
        · exact sMat_good _ h1.1
    · exact ⟨h, h4⟩
theorem numL_le : ∀ (l : List UInt8) (n : Nat), n ≤ 99999 → (numL l n).1 ≤ 99999
  | [], n, h => h
  | c :: r, n, h => by
    unfold numL
    split
    · split
      · exact Nat.zero_le _
      · exact numL_le r _ (by omega)
    · exact h
theorem sNum_le (l : List UInt8) : (sNum l).1 ≤ 99999 := by
  unfold sNum; split
  · simp
  split
  · simp
  · exact numL_le _ _ (by omega)
theorem sTime_le (wd l : List UInt8) : -1 ≤ (sTime wd l).1 ∧ (sTime wd l).1 ≤ 99999 := by
  unfold sTime; split
  · have := sNum_le (sRest wd l); dsimp only; omega
  · dsimp only; omega
theorem labL_good : ∀ (k : Nat) (acc : List (List UInt8)) (l : List UInt8), (∀ m ∈ acc, isNameL m = true) → acc.length ≤ 4 → (∀ m ∈ (labL k acc l).1, isNameL m = true) ∧ (labL k acc l).1.length ≤ 4
  | 0, acc, l, h, h4 => by simp [labL]
  | k + 1, acc, l, h, h4 => by
    unfold labL
    split
    · exact ⟨h, h4⟩
    · dsimp only
      generalize (if acc.isEmpty = true then l else sRest [44] l) = l1
      split
      · simp
      · rename_i h1
        rw [Bool.or_eq_true, not_or] at h1
        simp only [Bool.not_eq_true, Bool.not_eq_false', decide_eq_false_iff_not] at h1
        refine labL_good k _ _ ?_ (by simp; omega)
        intro m hm
        rw [List.mem_append, List.mem_singleton] at hm
        rcases hm with hm | rfl
        · exact h m hm
        · exact h1.1

theorem wnGo_mem (n : List UInt8) (p : List UInt8 → Prop) (hn : p n) : ∀ (L : List (List UInt8)) (s : List (List UInt8) × Bool), (∀ x ∈ L, p x) → (∀ x ∈ s.1, p x) → ∀ x ∈ (wnGo n L s).1, p x
  | [], s, _, h2 => h2
  | y :: r, s, h1, h2 => by
    unfold wnGo
    refine wnGo_mem n p hn r _ (fun x hx => h1 x (by simp [hx])) ?_
    split
    · intro x hx; simp at hx; rcases hx with hx | rfl | rfl
      · exact h2 x hx
      · exact hn
      · exact h1 _ (by simp)
    · intro x hx; simp at hx; rcases hx with hx | rfl
      · exact h2 x hx
      · exact h1 _ (by simp)
theorem withN_mem (n : List UInt8) (p : List UInt8 → Prop) (hn : p n) (L : List (List UInt8)) (h : ∀ x ∈ L, p x) : ∀ x ∈ withN L n, p x := by
  have h1 := wnGo_mem n p hn L ([], false) h (by simp)
  unfold withN; split
  · exact h1
  · intro x hx; rw [List.mem_append, List.mem_singleton] at hx
    rcases hx with hx | rfl
    · exact h1 x hx
    · exact hn
theorem rise_good (p : List UInt8 → Prop) : ∀ (L acc : List (List UInt8)) , (∀ x ∈ L, p x) → (∀ x ∈ acc, p x) → (∀ x ∈ L.foldl rise1 acc, p x) ∧ (L.foldl rise1 acc).length ≤ acc.length + L.length
  | [], acc, _, h => ⟨h, by simp⟩
  | y :: r, acc, h1, h2 => by
    have h3 : ∀ x ∈ rise1 acc y, p x := by
      unfold rise1; split
      · exact h2
      · exact withN_mem y p (h1 y (by simp)) acc h2
    have := rise_good p r (rise1 acc y) (fun x hx => h1 x (by simp [hx])) h3
    have hl := rise1_len acc y
    refine ⟨this.1, ?_⟩
    have h4 := this.2
    simp only [List.foldl_cons, List.length_cons]; omega
theorem sBy_good (l : List UInt8) : (∀ m ∈ (sBy l).names, isNameL m = true) ∧ (sBy l).names.length ≤ 4 := by
  unfold sBy; split
  · dsimp only
    split
    · simp
    · have h := labL_good 6 [] (sRest [32, 98, 121, 32] l) (by simp) (by simp)
      have h2 := rise_good (fun m => isNameL m = true) (sLabs (sRest [32, 98, 121, 32] l)).1 [] h.1 (by simp)
      refine ⟨h2.1, ?_⟩
      have h3 := h2.2
      have h4 : (sLabs (sRest [32, 98, 121, 32] l)).1.length ≤ 4 := h.2
      simp at h3
      show (rise (sLabs (sRest [32, 98, 121, 32] l)).1).length ≤ 4
      unfold rise; omega
  · simp
theorem sRecv_good (l : List UInt8) (h : (sRecv l).2.1 = true) : (sRecv l).1 = [45] ∨ isNameL (sRecv l).1 = true := by
  unfold sRecv at h ⊢
  split
  · exact Or.inl rfl
  · rename_i h1; rw [if_neg h1] at h; exact Or.inr h
theorem sDepth_len : ∀ (t : List UInt8), (sDepth t).1 ≤ t.length
  | [] => by simp [sDepth]
  | c :: r => by
    unfold sDepth; have := sDepth_len r; split <;> simp <;> omega
def srA (t : List UInt8) := sRecv (sRest kRoute (sDepth t).2)
def srB (t : List UInt8) := sBy (srA t).2.2
def srC (t : List UInt8) := sTimes (srB t).rest
def srM (t : List UInt8) := sMats (srC t).rest
theorem sRoute_eq (t : List UInt8) : sRoute t = if sTake kRoute (sDepth t).2 then (if (srA t).2.1 then (if (srB t).ok then (if (srC t).ok then (if (srM t).2.1 then (if (sRest kCont (srM t).2.2).isEmpty then some ⟨(sDepth t).1, (srA t).1, (srB t).tells, (srB t).names, (srC t).wt, (srC t).ev, (srC t).rp, (srM t).1, sTake kCont (srM t).2.2⟩ else none) else none) else none) else none) else none) else none := rfl
theorem ite_some {α : Type} {b : Bool} {o : Option α} {c : α} (h : (if b then o else none) = some c) : b = true ∧ o = some c := by
  cases b
  · cases h
  · exact ⟨rfl, h⟩
theorem sRoute_some (t : List UInt8) (c : CR) (h : sRoute t = some c) : sTake kRoute (sDepth t).2 = true ∧ (srA t).2.1 = true ∧ (srB t).ok = true ∧ (srC t).ok = true ∧ (srM t).2.1 = true ∧ (sRest kCont (srM t).2.2).isEmpty = true ∧
    (⟨(sDepth t).1, (srA t).1, (srB t).tells, (srB t).names, (srC t).wt, (srC t).ev, (srC t).rp, (srM t).1, sTake kCont (srM t).2.2⟩ : CR) = c := by
  rw [sRoute_eq] at h
  obtain ⟨h1, h⟩ := ite_some h
  obtain ⟨h2, h⟩ := ite_some h
  obtain ⟨h3, h⟩ := ite_some h
  obtain ⟨h4, h⟩ := ite_some h
  obtain ⟨h5, h⟩ := ite_some h
  obtain ⟨h6, h⟩ := ite_some h
  exact ⟨h1, h2, h3, h4, h5, h6, Option.some.inj h⟩
theorem sRoute_good (t : List UInt8) (c : CR) (ht : t.length ≤ 1048576) (h : sRoute t = some c) : GoodCR c := by
  obtain ⟨h1, h2, h3, h4, h5, h6, rfl⟩ := sRoute_some t c h
  have hb := sBy_good (sRecv (sRest kRoute (sDepth t).2)).2.2
  have hm := matL_good 6 [] (sTimes (sBy (sRecv (sRest kRoute (sDepth t).2)).2.2).rest).rest (by simp) (by simp)
  exact ⟨Nat.le_trans (sDepth_len t) ht, sRecv_good _ h2, hb.1, hb.2, sTime_le _ _, sTime_le _ _, sTime_le _ _, hm.1, hm.2⟩
theorem recL_good : ∀ (k : Nat) (acc : List (List UInt8)) (l : List UInt8) (L : List (List UInt8)), (∀ m ∈ acc, isNameL m = true) → acc.length ≤ 8 → recL k acc l = some L → (∀ m ∈ L, isNameL m = true) ∧ L.length ≤ 8
  | 0, acc, l, L, _, _, h => by simp [recL] at h
  | k + 1, acc, l, L, h1, h8, h => by
    unfold recL at h
    split at h
    · dsimp only at h
      split at h
      · cases h
      · rename_i h2
        rw [Bool.or_eq_true, not_or] at h2
        simp only [Bool.not_eq_true, Bool.not_eq_false', decide_eq_false_iff_not] at h2
        refine recL_good k _ _ L ?_ (by simp; omega) h
        intro m hm
        rw [List.mem_append, List.mem_singleton] at hm
        rcases hm with hm | rfl
        · exact h1 m hm
        · exact h2.1
    · split at h
      · simp only [Option.some.injEq] at h; subst h; exact ⟨h1, h8⟩
      · cases h
theorem sRecvs_good (t : List UInt8) (L : List (List UInt8)) (h : sRecvs t = some L) : (∀ m ∈ L, isNameL m = true) ∧ L.length ≤ 8 := by
  unfold sRecvs at h
  split at h
  · exact recL_good 10 [] _ L (by simp) (by simp) h
  · cases h
theorem rlGo_good : ∀ (t : List UInt8) (ln : Nat) (cur : List UInt8) (L : List (List UInt8)) (C : List CR) (L' : List (List UInt8)) (C' : List CR), t.length + cur.length ≤ 1048576 → (∀ m ∈ L, isNameL m = true) → L.length ≤ 8 → (∀ c ∈ C, GoodCR c) → rlGo t ln cur L C = .ok (L', C') → (∀ m ∈ L', isNameL m = true) ∧ L'.length ≤ 8 ∧ (∀ c ∈ C', GoodCR c)
  | [], ln, cur, L, C, L', C', _, h1, h2, h3, h => by
    unfold rlGo at h
    split at h
    · cases h
    · simp only [Except.ok.injEq, Prod.mk.injEq] at h
      obtain ⟨rfl, rfl⟩ := h
      exact ⟨h1, h2, h3⟩
  | c :: r, ln, cur, L, C, L', C', hl, h1, h2, h3, h => by
    simp only [List.length_cons] at hl
    unfold rlGo at h
    split at h
    · split at h
      · split at h
        · cases h
        · rename_i R' hR
          have := sRecvs_good _ _ hR
          exact rlGo_good r 2 [] R' C L' C' (by simp; omega) this.1 this.2 h3 h
      · split at h
        · cases h
        · rename_i x hx
          have := sRoute_good _ _ (by omega) hx
          refine rlGo_good r (ln + 1) [] L (C ++ [x]) L' C' (by simp; omega) h1 h2 ?_ h
          intro c hc
          rw [List.mem_append, List.mem_singleton] at hc
          rcases hc with hc | rfl
          · exact h3 c hc
          · exact this
    · exact rlGo_good r ln (cur ++ [c]) L C L' C' (by simp; omega) h1 h2 h3 h
theorem cRead1_good (t : List UInt8) (L : List (List UInt8)) (C : List CR) (ht : t.length ≤ 1048576) (h : cRead1 t = .ok (L, C)) : (∀ m ∈ L, isNameL m = true) ∧ L.length ≤ 8 ∧ (∀ c ∈ C, GoodCR c) :=
  rlGo_good t 1 [] [] [] L C (by simpa using ht) (by simp) (by simp) (by simp) h

end Go.Proofs.YtjnaekffodgdcaaDoor
