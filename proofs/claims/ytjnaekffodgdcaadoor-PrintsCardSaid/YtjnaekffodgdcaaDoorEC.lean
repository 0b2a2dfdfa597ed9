import Derived.Test.YtjnaekffodgdcaaDoorEB
import Derived.Test.YtjnaekffodgdcaaDoorR14
import Derived.Test.YtjnaekffodgdcaaDoorW25
namespace Go.Proofs.YtjnaekffodgdcaaDoor
open Go.RowKit
set_option linter.unusedVariables false
set_option linter.unusedSimpArgs false
set_option linter.unnecessarySimpa false

theorem tm_step {α : Type} (p : List UInt8) (hp : clean p = true) (F : List UInt8 → Int → Option α) (G : List (List UInt8) → Int → Option α) (hF : ∀ l n, bd l = false → F l n = none) (hG : ∀ l n, bd l = true → F l n = G (tw l) n) (l : List UInt8) (hb : bd l = true) :
    (if (sTime (32 :: (p ++ [32])) l).2.1 then F (sTime (32 :: (p ++ [32])) l).2.2 (sTime (32 :: (p ++ [32])) l).1 else none) = (if kwB p (tw l) then (if decide (numR ((tw l).getD 1 []) < 0) then none else G ((tw l).drop 2) (numR ((tw l).getD 1 []))) else G (tw l) (-1)) := by
  rw [kw_eq p l hp hb]
  unfold sTime
  by_cases ht : sTake (32 :: (p ++ [32])) l = true
  · have hr := kw_rest p l hp ht
    have hn := num_st (sRest (32 :: (p ++ [32])) l)
    simp only [if_pos ht]
    rw [hr.1, hr.2]
    generalize sRest (32 :: (p ++ [32])) l = r at *
    generalize hN : sNum r = N at *
    obtain ⟨n, nok, nr⟩ := N
    dsimp only at *
    cases nok
    · have : numR (fw r) < 0 := by
        have := hn.1; simp at this; exact this
      simp [this]
    · cases hbr : bd nr
      · have : numR (fw r) < 0 := by
          have := hn.1; rw [hbr] at this; simp at this; exact this
        simp [this, hF nr _ hbr]
      · have h2 := hn.2 rfl hbr
        have : ¬ numR (fw r) < 0 := by rw [h2.1]; omega
        rw [decide_eq_false this, h2.1, h2.2]
        simp [hG nr _ hbr]
  · simp only [if_neg ht, if_true]
    exact hG l _ hb
theorem tm_nb {α : Type} (p : List UInt8) (F : List UInt8 → Int → Option α) (hF : ∀ l n, bd l = false → F l n = none) (l : List UInt8) (hb : bd l = false) :
    (if (sTime (32 :: p) l).2.1 then F (sTime (32 :: p) l).2.2 (sTime (32 :: p) l).1 else none) = none := by
  unfold sTime
  rw [nb_take p l hb]
  simp [hF l _ hb]

theorem by_step {α : Type} (F : List UInt8 → Bool → List (List UInt8) → Option α) (G : List (List UInt8) → Bool → List (List UInt8) → Option α) (hF : ∀ l t n, bd l = false → F l t n = none) (hG : ∀ l t n, bd l = true → F l t n = G (tw l) t n) (l : List UInt8) (hb : bd l = true) :
    (if (sBy l).ok then F (sBy l).rest (sBy l).tells (sBy l).names else none) = (match byStep (tw l) with | none => none | some (told, names, W) => G W told names) := by
  have hk := kw_eq wBy l (by decide) hb
  have hk' : kwB wBy (tw l) = sTake [32, 98, 121, 32] l := hk
  unfold byStep
  unfold kwB at hk'
  rw [hk']
  unfold sBy
  by_cases ht : sTake [32, 98, 121, 32] l = true
  · have hr := kw_rest wBy l (by decide) ht
    have hr1 : (tw l).getD 1 [] = fw (sRest [32, 98, 121, 32] l) := hr.1
    have hr2 : (tw l).drop 2 = tw (rw_ (sRest [32, 98, 121, 32] l)) := hr.2
    simp only [if_pos ht]
    rw [hr1, hr2]
    generalize sRest [32, 98, 121, 32] l = r at *
    by_cases h45 : sTake [45] r = true
    · simp only [if_pos h45]
      have e := prefix_app _ _ h45
      generalize sRest [45] r = s at *
      subst e
      have f := fw_clean [45] s (by decide)
      rw [f.1, f.2]
      cases hbs : bd s
      · obtain ⟨x, s', rfl, _⟩ := nb_cons hbs
        obtain ⟨h', e'⟩ := fw_nb x s' hbs
        rw [e']
        simp only [if_true]
        rw [hF _ _ _ hbs]
        have h1 : ([45] ++ x :: h' == [45]) = false := by simp
        rw [h1]
        have h2 : (cutL false 44 ([45] ++ x :: h')).all isNameL = false := by
          rw [cutL_eq]
          have := C0_app [45] (x :: h') (by simp)
          unfold C0 at this
          rw [this]
          cases hz : cut1 false 44 (x :: h') false false with
          | nil => exact (cut1_ne _ _ _ _ _ hz).elim
          | cons y Y =>
            have := not_name [] 45 y (by decide)
            simp only [glue, List.all_cons]
            rw [List.nil_append] at this
            rw [List.singleton_append, this]; rfl
        rw [h2]
        simp
      · rw [(fw_bd s hbs).1, (fw_bd s hbs).2]
        simp [hG s _ _ hbs]
    · simp only [if_neg h45]
      have h1 : (fw r == [45]) = false := by
        rw [beq_eq_false_iff_ne]
        intro e
        apply h45
        have := fw_app r
        rw [e] at this
        rw [this]; exact (take_app [45] _).1
      rw [h1]
      have hs := labs_st r
      have hc : cutL false 44 (fw r) = C0 (fw r) := cutL_eq _ _ _
      rw [hc, hs.1]
      generalize sLabs r = z at *
      obtain ⟨z1, zok, zr⟩ := z
      dsimp only at *
      cases zok
      · simp
      · cases hbz : bd zr
        · simp [hF zr _ _ hbz]
        · have h2 := hs.2 rfl hbz
          rw [h2.1, h2.2, rise_eq]
          simp [hG zr _ _ hbz]
  · simp only [if_neg ht, if_true]
    exact hG l _ _ hb

def toRR (c : CR) : RR := ⟨c.rc, c.tb, c.bys, c.wt, c.ev, c.rp, c.ifs.map toRM, c.co, c.d⟩
def F0 (d : Nat) (rc : List UInt8) (told : Bool) (names : List (List UInt8)) (t0 t1 t2 : Int) (l : List UInt8) : Option RR := (S4 l).map fun x => ⟨rc, told, names, t0, t1, t2, x.1.map toRM, x.2, d⟩
def G0 (d : Nat) (rc : List UInt8) (told : Bool) (names : List (List UInt8)) (t0 t1 t2 : Int) (W : List (List UInt8)) : Option RR := (R4 W).map fun x => ⟨rc, told, names, t0, t1, t2, x.1, x.2, d⟩
theorem F0_nb (d : Nat) (rc : List UInt8) (told : Bool) (names : List (List UInt8)) (t0 t1 t2 : Int) (l : List UInt8) (h : bd l = false) : F0 d rc told names t0 t1 t2 l = none := by
  unfold F0; rw [S4_nb l h]; rfl
theorem F0_eq (d : Nat) (rc : List UInt8) (told : Bool) (names : List (List UInt8)) (t0 t1 t2 : Int) (l : List UInt8) (h : bd l = true) : F0 d rc told names t0 t1 t2 l = G0 d rc told names t0 t1 t2 (tw l) := by
  unfold F0 G0; rw [← S4_eq l h]; cases S4 l <;> rfl
def F1 (d : Nat) (rc : List UInt8) (told : Bool) (names : List (List UInt8)) (t0 t1 : Int) (l : List UInt8) : Option RR := if (sTime kRepeat l).2.1 then F0 d rc told names t0 t1 (sTime kRepeat l).1 (sTime kRepeat l).2.2 else none
def F2 (d : Nat) (rc : List UInt8) (told : Bool) (names : List (List UInt8)) (t0 : Int) (l : List UInt8) : Option RR := if (sTime kEvery l).2.1 then F1 d rc told names t0 (sTime kEvery l).1 (sTime kEvery l).2.2 else none
def F3 (d : Nat) (rc : List UInt8) (told : Bool) (names : List (List UInt8)) (l : List UInt8) : Option RR := if (sTime kWait l).2.1 then F2 d rc told names (sTime kWait l).1 (sTime kWait l).2.2 else none
def Gt (d : Nat) (rc : List UInt8) (told : Bool) (names : List (List UInt8)) (k : Nat) (ts : Int × Int × Int) (W : List (List UInt8)) : Option RR := match tmR k ts W with | none => none | some (ts, W2) => G0 d rc told names ts.1 ts.2.1 ts.2.2 W2
theorem F1_nb (d : Nat) (rc : List UInt8) (told : Bool) (names : List (List UInt8)) (t0 t1 : Int) (l : List UInt8) (h : bd l = false) : F1 d rc told names t0 t1 l = none := by
  have := tm_nb (wRepeat ++ [32]) (fun l n => F0 d rc told names t0 t1 n l) (fun l n h => F0_nb _ _ _ _ _ _ _ l h) l h
  exact this
theorem F2_nb (d : Nat) (rc : List UInt8) (told : Bool) (names : List (List UInt8)) (t0 : Int) (l : List UInt8) (h : bd l = false) : F2 d rc told names t0 l = none := by
  have := tm_nb (wEvery ++ [32]) (fun l n => F1 d rc told names t0 n l) (fun l n h => F1_nb _ _ _ _ _ _ l h) l h
  exact this
theorem F3_nb (d : Nat) (rc : List UInt8) (told : Bool) (names : List (List UInt8)) (l : List UInt8) (h : bd l = false) : F3 d rc told names l = none := by
  have := tm_nb (wWait ++ [32]) (fun l n => F2 d rc told names n l) (fun l n h => F2_nb _ _ _ _ _ l h) l h
  exact this
theorem Gt_step (d : Nat) (rc : List UInt8) (told : Bool) (names : List (List UInt8)) (k : Nat) (ts : Int × Int × Int) (W : List (List UInt8)) : Gt d rc told names (k + 1) ts W = if kwB (wdOf k) W then (if decide (numR (W.getD 1 []) < 0) then none else Gt d rc told names k (updT k ts (numR (W.getD 1 []))) (W.drop 2)) else Gt d rc told names k ts W := by
  unfold Gt
  have e : tmR (k + 1) ts W = if kwB (wdOf k) W then (if decide (numR (W.getD 1 []) < 0) then none else tmR k (updT k ts (numR (W.getD 1 []))) (W.drop 2)) else tmR k ts W := by
    conv => lhs; unfold tmR
    rfl
  rw [e]
  by_cases h1 : kwB (wdOf k) W = true
  · simp only [if_pos h1]
    by_cases h2 : decide (numR (W.getD 1 []) < 0) = true
    · simp only [if_pos h2]
    · simp only [if_neg h2]
  · simp only [if_neg h1]
theorem F1_eq (d : Nat) (rc : List UInt8) (told : Bool) (names : List (List UInt8)) (t0 t1 : Int) (l : List UInt8) (h : bd l = true) : F1 d rc told names t0 t1 l = Gt d rc told names 1 (t0, t1, -1) (tw l) := by
  have := tm_step wRepeat (by decide) (fun l n => F0 d rc told names t0 t1 n l) (fun W n => Gt d rc told names 0 (t0, t1, n) W) (fun l n h => F0_nb _ _ _ _ _ _ _ l h) (fun l n h => F0_eq _ _ _ _ _ _ _ l h) l h
  rw [Gt_step]
  exact this
theorem F2_eq (d : Nat) (rc : List UInt8) (told : Bool) (names : List (List UInt8)) (t0 : Int) (l : List UInt8) (h : bd l = true) : F2 d rc told names t0 l = Gt d rc told names 2 (t0, -1, -1) (tw l) := by
  have := tm_step wEvery (by decide) (fun l n => F1 d rc told names t0 n l) (fun W n => Gt d rc told names 1 (t0, n, -1) W) (fun l n h => F1_nb _ _ _ _ _ _ l h) (fun l n h => F1_eq _ _ _ _ _ _ l h) l h
  rw [Gt_step]
  exact this
theorem F3_eq (d : Nat) (rc : List UInt8) (told : Bool) (names : List (List UInt8)) (l : List UInt8) (h : bd l = true) : F3 d rc told names l = Gt d rc told names 3 (-1, -1, -1) (tw l) := by
  have := tm_step wWait (by decide) (fun l n => F2 d rc told names n l) (fun W n => Gt d rc told names 2 (n, -1, -1) W) (fun l n h => F2_nb _ _ _ _ _ l h) (fun l n h => F2_eq _ _ _ _ _ l h) l h
  rw [Gt_step]
  exact this
def F4 (d : Nat) (rc : List UInt8) (l : List UInt8) : Option RR := if (sBy l).ok then F3 d rc (sBy l).tells (sBy l).names (sBy l).rest else none
theorem F4_nb (d : Nat) (rc : List UInt8) (l : List UInt8) (h : bd l = false) : F4 d rc l = none := by
  unfold F4 sBy
  rw [nb_take [98, 121, 32] l h]
  simp [F3_nb _ _ _ _ l h]
def G4 (d : Nat) (rc : List UInt8) (W : List (List UInt8)) : Option RR := match byStep W with | none => none | some (told, names, W1) => Gt d rc told names 3 (-1, -1, -1) W1
theorem F4_eq (d : Nat) (rc : List UInt8) (l : List UInt8) (h : bd l = true) : F4 d rc l = G4 d rc (tw l) :=
  by_step (fun l t n => F3 d rc t n l) (fun W t n => Gt d rc t n 3 (-1, -1, -1) W) (fun l t n h => F3_nb _ _ _ _ l h) (fun l t n h => F3_eq _ _ _ _ l h) l h
def F5 (d : Nat) (l : List UInt8) : Option RR := if (sRecv l).2.1 then F4 d (sRecv l).1 (sRecv l).2.2 else none
theorem F5_eq (d : Nat) (r : List UInt8) : F5 d r = if isNameL (fw r) || (fw r == [45]) then G4 d (fw r) (tw (rw_ r)) else none := by
  have h := recv_st r
  rw [h.1]
  unfold F5
  generalize sRecv r = z at *
  obtain ⟨z1, zok, zr⟩ := z
  dsimp only at *
  cases zok
  · simp
  · cases hb : bd zr
    · simp [F4_nb _ _ _ hb]
    · have h2 := h.2 rfl hb
      rw [h2.1, h2.2, ← F4_eq _ _ _ hb]; simp
theorem sRoute_F (t : List UInt8) : (sRoute t).map toRR = if sTake kRoute (sDepth t).2 then F5 (sDepth t).1 (sRest kRoute (sDepth t).2) else none := by
  rw [sRoute_eq]
  unfold F5 F4 F3 F2 F1 F0 S4 S4g
  have ea : srA t = sRecv (sRest kRoute (sDepth t).2) := rfl
  have eb : srB t = sBy (srA t).2.2 := rfl
  have ec : srC t = sTimes (srB t).rest := rfl
  have em : srM t = matL 6 [] (srC t).rest := rfl
  by_cases h0 : sTake kRoute (sDepth t).2 = true
  · rw [if_pos h0, if_pos h0, ← ea]
    by_cases h1 : (srA t).2.1 = true
    · rw [if_pos h1, if_pos h1, ← eb]
      by_cases h2 : (srB t).ok = true
      · rw [if_pos h2, if_pos h2]
        generalize hc : srC t = c at *
        unfold sTimes at ec
        dsimp only at ec
        subst ec
        dsimp only at *
        generalize sTime kWait (srB t).rest = a at *
        generalize sTime kEvery a.2.2 = b at *
        generalize sTime kRepeat b.2.2 = c at *
        by_cases h3 : a.2.1 = true
        · by_cases h4 : b.2.1 = true
          · by_cases h5 : c.2.1 = true
            · rw [if_pos (by simp [h3, h4, h5]), if_pos h3, if_pos h4, if_pos h5, ← em]
              by_cases h6 : (srM t).2.1 = true
              · rw [if_pos h6, if_pos h6]
                unfold S5
                by_cases h7 : (sRest kCont (srM t).2.2).isEmpty = true
                · rw [if_pos h7, if_pos h7]; rfl
                · rw [if_neg h7, if_neg h7]; rfl
              · rw [if_neg h6, if_neg h6]; rfl
            · rw [if_neg (by simp [h5]), if_pos h3, if_pos h4, if_neg h5]; rfl
          · rw [if_neg (by simp [h4]), if_pos h3, if_neg h4]; rfl
        · rw [if_neg (by simp [h3]), if_neg h3]; rfl
      · rw [if_neg h2, if_neg h2]; rfl
    · rw [if_neg h1, if_neg h1]; rfl
  · rw [if_neg h0, if_neg h0]; rfl
theorem rtW_G (d : Nat) (W : List (List UInt8)) : rtW d W = if decide (W.length < 2) || !(W.getD 0 [] == wRoute) then none else if isNameL (W.getD 1 []) || (W.getD 1 [] == [45]) then G4 d (W.getD 1 []) (W.drop 2) else none := by
  unfold rtW
  by_cases h0 : (decide (W.length < 2) || !(W.getD 0 [] == wRoute)) = true
  · rw [if_pos h0, if_pos h0]
  · rw [if_neg h0, if_neg h0]
    by_cases h1 : (isNameL (W.getD 1 []) || (W.getD 1 [] == [45])) = true
    · rw [if_pos h1, if_neg (by
        intro h
        simp only [Bool.and_eq_true, Bool.not_eq_true'] at h
        rw [h.1, h.2] at h1; simp at h1)]
      unfold G4
      cases byStep (W.drop 2) with
      | none => rfl
      | some x =>
        obtain ⟨told, names, W1⟩ := x
        dsimp only
        unfold Gt
        cases tmR 3 (-1, -1, -1) W1 with
        | none => rfl
        | some y =>
          obtain ⟨ts, W2⟩ := y
          dsimp only
          unfold G0 R4 R4g
          by_cases h2 : (restGo (W2.length + 1) W2 []).2.2 = true
          · rw [if_pos h2, if_pos h2]; rfl
          · rw [if_neg h2, if_neg h2]; rfl
    · rw [if_neg h1, if_pos (by
        simp only [Bool.or_eq_true, not_or, Bool.not_eq_true] at h1
        rw [h1.1, h1.2]; rfl)]
theorem route_eq (t : List UInt8) : rtR t = (sRoute t).map toRR := by
  rw [sRoute_F]
  unfold rtR
  rw [rtW_G, cutL_eq]
  generalize (sDepth t).2 = l
  generalize (sDepth t).1 = d
  have hW : cut1 true 32 l false false = fw l :: tw (rw_ l) := W0_eq l
  rw [hW]
  by_cases h : sTake kRoute l = true
  · rw [if_pos h]
    have e := prefix_app _ _ h
    generalize sRest kRoute l = r at *
    have e' : l = wRoute ++ 32 :: r := e
    subst e'
    have f := fw_clean wRoute (32 :: r) (by decide)
    have b := fw_bd (32 :: r) rfl
    rw [f.1, f.2, b.1, b.2, tw_cons, W0_eq, F5_eq]
    simp
    intro h; omega
  · rw [if_neg h, if_pos]
    simp only [Bool.or_eq_true, decide_eq_true_eq, List.length_cons, Bool.not_eq_true', List.getD_cons_zero]
    by_cases h1 : fw l = wRoute
    · left
      by_cases h2 : rw_ l = []
      · rw [h2, tw_nil]; simp
      · exfalso
        obtain ⟨r, e⟩ := bd_cons (rw_bd l) h2
        apply h
        have := fw_app l
        rw [h1, e] at this
        rw [this]
        exact (take_app kRoute r).1
    · right; simpa using h1

/-! The first line. -/
def D0 (c : UInt8) (l : List UInt8) : List (List UInt8) := cut1 false c l false false
theorem D0_nil (c : UInt8) : D0 c [] = [[]] := rfl
theorem D0_at (c : UInt8) (r : List UInt8) : D0 c (c :: r) = [] :: D0 c r := by
  unfold D0; conv => lhs; unfold cut1
  simp
theorem D0_cons (c x : UInt8) (r : List UInt8) (h : x ≠ c) : D0 c (x :: r) = glue [x] (D0 c r) := by
  unfold D0; conv => lhs; unfold cut1
  simp [h]
theorem D0_ne (c : UInt8) (l : List UInt8) : D0 c l ≠ [] := cut1_ne _ _ _ _ _
theorem D0_app (c : UInt8) : ∀ (p s : List UInt8), (∀ x ∈ p, x ≠ c) → D0 c (p ++ s) = glue p (D0 c s)
  | [], s, _ => by
    cases h : D0 c s with
    | nil => exact (D0_ne c s h).elim
    | cons => simp [h, glue]
  | x :: p, s, h => by
    rw [List.cons_append, D0_cons c x _ (h x (by simp)), D0_app c p s (fun y hy => h y (by simp [hy])), glue_glue]; rfl
theorem cutD (c : UInt8) (l : List UInt8) : cutL false c l = D0 c l := cutL_eq _ _ _
theorem D0_head (c : UInt8) (l : List UInt8) : ∃ h W, D0 c l = h :: W ∧ (∀ x r, l = x :: r → x ≠ c → ∃ h', h = x :: h') := by
  cases l with
  | nil => exact ⟨[], [], rfl, by simp⟩
  | cons x r =>
    by_cases hx : x = c
    · subst hx; exact ⟨[], D0 x r, D0_at _ _, fun y r' e hy => by simp at e; exact (hy e.1.symm).elim⟩
    · cases hz : D0 c r with
      | nil => exact (D0_ne c r hz).elim
      | cons y Y => exact ⟨x :: y, Y, by rw [D0_cons c x r hx, hz]; rfl, fun z r' e _ => by simp at e; exact ⟨y, by rw [e.1]⟩⟩
/-- The words behind the first, one by one. -/
theorem recL_st : ∀ (k : Nat) (acc : List (List UInt8)) (l : List UInt8), 9 ≤ k + acc.length → acc.length ≤ 8 →
    recL (k + 1) acc l = (match l with
      | [] => if 0 < acc.length then some acc else none
      | x :: r => if x = 32 ∧ (D0 32 r).all isNameL ∧ acc.length + (D0 32 r).length ≤ 8 then some (acc ++ D0 32 r) else none) := by
  intro k
  induction k with
  | zero => intro acc l h1 h2; omega
  | succ k ih =>
  intro acc l h1 h2
  unfold recL
  cases l with
  | nil =>
    have : sTake [32] [] = false := rfl
    rw [this]
    by_cases h0 : 0 < acc.length <;> simp [h0]
  | cons x r =>
    by_cases hx : x = 32
    · subst hx
      have ht := take_app [32] r
      rw [List.singleton_append] at ht
      rw [if_pos ht.1]
      dsimp only
      rw [ht.2]
      have e : r.takeWhile nmB ++ r.dropWhile nmB = r := List.takeWhile_append_dropWhile
      have h32 : ∀ x ∈ r.takeWhile nmB, x ≠ 32 := fun x hx => (nm_ne (List.all_eq_true.1 (takeWhile_all nmB r) x hx)).1
      have hdd := dropWhile_hd nmB r
      have eD : D0 32 r = glue (r.takeWhile nmB) (D0 32 (r.dropWhile nmB)) := by rw [← D0_app 32 _ _ h32, e]
      rw [eD]
      generalize r.takeWhile nmB = n at *
      generalize r.dropWhile nmB = s at *
      obtain ⟨h, W, hW, hh⟩ := D0_head 32 s
      rw [hW]
      simp only [glue, List.all_cons, List.length_cons]
      have hname : isNameL (n ++ h) = true → isNameL n = true ∧ (s = [] ∨ ∃ r', s = 32 :: r') := by
        intro hn
        cases s with
        | nil => rw [D0_nil] at hW; simp at hW; obtain ⟨rfl, _⟩ := hW; rw [List.append_nil] at hn; exact ⟨hn, .inl rfl⟩
        | cons y s' =>
          by_cases hy : y = 32
          · subst hy
            rw [D0_at] at hW; simp at hW; obtain ⟨rfl, _⟩ := hW
            rw [List.append_nil] at hn; exact ⟨hn, .inr ⟨s', rfl⟩⟩
          · obtain ⟨h', rfl⟩ := hh y s' rfl hy
            rw [not_name n y h' (hdd y s' rfl)] at hn; cases hn
      by_cases hc : (!(isNameL n) || decide (8 ≤ acc.length)) = true
      · rw [if_pos hc, if_neg]
        intro ⟨_, ha, hl⟩
        rw [Bool.or_eq_true] at hc
        rw [Bool.and_eq_true] at ha
        rcases hc with hc | hc
        · rw [(hname ha.1).1] at hc; cases hc
        · have : 8 ≤ acc.length := by simpa using hc
          omega
      · rw [if_neg hc]
        simp only [Bool.or_eq_true, not_or, Bool.not_eq_true', Bool.not_eq_false, decide_eq_true_eq] at hc
        rw [ih (acc ++ [n]) s (by simp; omega) (by simp; omega)]
        cases s with
        | nil =>
          rw [D0_nil] at hW; simp at hW; obtain ⟨rfl, rfl⟩ := hW
          simp [hc.1]; omega
        | cons y s' =>
          dsimp only
          by_cases hy : y = 32
          · subst hy
            rw [D0_at] at hW; simp at hW; obtain ⟨rfl, rfl⟩ := hW
            rw [List.append_nil]
            by_cases hcc : (D0 32 s').all isNameL = true ∧ (acc ++ [n]).length + (D0 32 s').length ≤ 8
            · rw [if_pos ⟨rfl, hcc.1, hcc.2⟩, if_pos ⟨trivial, by rw [hc.1, hcc.1]; rfl, by have := hcc.2; simp at this; omega⟩]; simp
            · rw [if_neg (fun h => hcc ⟨h.2.1, h.2.2⟩), if_neg]
              intro ⟨_, ha, hl⟩
              rw [Bool.and_eq_true] at ha
              exact hcc ⟨ha.2, by simp; omega⟩
          · rw [if_neg (fun h => hy h.1), if_neg]
            intro ⟨_, ha, hl⟩
            rw [Bool.and_eq_true] at ha
            rcases (hname ha.1).2 with e | ⟨r', e⟩
            · cases e
            · simp at e; exact hy e.1
    · have ht : sTake [32] (x :: r) = false := by
        rw [take1]; simpa using fun e => hx e.symm
      rw [ht]
      simp [hx]
theorem recv_eq (t : List UInt8) : recR t = sRecvs t := by
  unfold recR sRecvs
  rw [cutD]
  by_cases ht : sTake kRecv t = true
  · rw [if_pos ht]
    have e := prefix_app _ _ ht
    generalize sRest kRecv t = l at *
    subst e
    rw [D0_app 32 kRecv l (by decide), recL_st 9 [] l (by simp) (by simp)]
    cases l with
    | nil => rfl
    | cons x r =>
      dsimp only
      by_cases hx : x = 32
      · subst hx
        rw [D0_at]
        have hp : 1 ≤ (D0 32 r).length := by
          cases h : D0 32 r with
          | nil => exact (D0_ne _ _ h).elim
          | cons => simp
        simp only [glue, List.append_nil, List.getD_cons_zero, List.length_cons, List.drop_succ_cons, List.drop_zero, List.length_nil, Nat.zero_add, List.nil_append, true_and]
        have e1 : (kRecv == kRecv) = true := by simp
        rw [e1, decide_eq_true (by omega : 1 < (D0 32 r).length + 1)]
        by_cases h1 : (D0 32 r).all isNameL = true
        · by_cases h2 : (D0 32 r).length ≤ 8
          · rw [if_pos (by rw [h1, decide_eq_true (by omega)]; rfl), if_pos ⟨h1, h2⟩]
          · rw [if_neg (by rw [decide_eq_false (by omega)]; simp), if_neg (fun h => h2 h.2)]
        · rw [if_neg (by simp only [Bool.not_eq_true] at h1; rw [h1]; simp), if_neg (fun h => h1 h.1)]
      · obtain ⟨h, W, hW, hh⟩ := D0_head 32 (x :: r)
        obtain ⟨h', rfl⟩ := hh x r rfl hx
        rw [hW, if_neg (by simp [glue]), if_neg (fun h => hx h.1)]
  · rw [if_neg ht, if_neg]
    intro hh
    apply ht
    simp only [Bool.and_eq_true, beq_iff_eq] at hh
    have h0 := hh.1.1.1
    have h1 : 1 < (D0 32 t).length := by simpa using hh.1.1.2
    -- the first word opens the text
    have key : ∀ (l : List UInt8) (h : List UInt8) (W : List (List UInt8)), D0 32 l = h :: W → ∃ s, l = h ++ s := by
      intro l
      induction l with
      | nil => intro h W e; rw [D0_nil] at e; simp at e; exact ⟨[], by rw [e.1]; rfl⟩
      | cons x r ih =>
        intro h W e
        by_cases hx : x = 32
        · subst hx; rw [D0_at] at e; simp at e; exact ⟨32 :: r, by rw [e.1]; rfl⟩
        · rw [D0_cons 32 x r hx] at e
          cases hz : D0 32 r with
          | nil => exact (D0_ne _ _ hz).elim
          | cons y Y =>
            rw [hz] at e
            simp [glue] at e
            obtain ⟨s, hs⟩ := ih y Y hz
            exact ⟨s, by rw [← e.1, hs]; rfl⟩
    cases hz : D0 32 t with
    | nil => exact (D0_ne _ _ hz).elim
    | cons h W =>
      rw [hz] at h0
      have : h = kRecv := by simpa using h0
      subst this
      obtain ⟨s, rfl⟩ := key t _ W hz
      exact (take_app kRecv s).1

/-! The lines. -/
def mapC (x : Except Nat (List (List UInt8) × List CR)) : Except Nat (List (List UInt8) × List RR) := match x with | .error n => .error n | .ok (L, C) => .ok (L, C.map toRR)
theorem rd_ne (x : List UInt8) (W : List (List UInt8)) (hW : W ≠ []) (i : Nat) (L : List (List UInt8)) (R : List RR) : rdGo (x :: W) i L R = if i == 0 then (match recR x with | none => .error 1 | some L' => rdGo W 1 L' R) else (match rtR x with | none => .error (i + 1) | some r => rdGo W (i + 1) L (R ++ [r])) := by
  cases W with
  | nil => exact (hW rfl).elim
  | cons y W => conv => lhs; unfold rdGo
                rfl
theorem lines_eq : ∀ (l : List UInt8) (i : Nat) (cur : List UInt8) (L : List (List UInt8)) (C : List CR), rdGo (glue cur (D0 10 l)) i L (C.map toRR) = mapC (rlGo l (i + 1) cur L C)
  | [], i, cur, L, C => by
    rw [D0_nil]
    simp only [glue, List.append_nil]
    unfold rdGo rlGo
    by_cases h1 : cur.isEmpty = true
    · by_cases h2 : i = 0
      · subst h2; simp [h1, mapC]
      · have : (i == 0) = false := by simpa using h2
        have h3 : (i + 1 == 1) = false := by simpa using h2
        rw [h1, this, h3]; rfl
    · have : cur.isEmpty = false := by simpa using h1
      rw [this]; rfl
  | c :: r, i, cur, L, C => by
    unfold rlGo
    by_cases hc : c = 10
    · subst hc
      rw [D0_at]
      simp only [glue, List.append_nil]
      have h10 : ((10 : UInt8) == 10) = true := rfl
      rw [rd_ne _ _ (D0_ne _ _), h10, recv_eq, route_eq]
      simp only [if_true]
      have hg : D0 10 r = glue [] (D0 10 r) := by
        cases h : D0 10 r with
        | nil => exact (D0_ne _ _ h).elim
        | cons => rfl
      by_cases hi : i = 0
      · subst hi
        rw [if_pos (by rfl), if_pos (by rfl)]
        cases hs : sRecvs cur with
        | none => rfl
        | some L' =>
          dsimp only
          rw [hg]
          exact lines_eq r 1 [] L' C
      · have h0 : (i == 0) = false := by simpa using hi
        have h3 : (i + 1 == 1) = false := by simpa using hi
        rw [h0, h3]
        simp only [Bool.false_eq_true, if_false]
        cases hs : sRoute cur with
        | none => rfl
        | some x =>
          simp only [Option.map_some]
          rw [hg]
          have := lines_eq r (i + 1) [] L (C ++ [x])
          rw [List.map_append] at this
          exact this
    · rw [D0_cons 10 c r hc, glue_glue, if_neg (by simpa using hc)]
      exact lines_eq r i (cur ++ [c]) L C
theorem lines1_eq (t : List UInt8) : rdGo (cutL false 10 t) 0 [] [] = mapC (cRead1 t) := by
  have := lines_eq t 0 [] [] []
  have hg : glue [] (D0 10 t) = D0 10 t := by
    cases h : D0 10 t with
    | nil => exact (D0_ne _ _ h).elim
    | cons => rfl
  rw [hg] at this
  rw [cutD]; exact this

/-! Tree and names. -/
theorem grow_eq : ∀ (C : List CR) (i : Nat) (da : Nat), 0 < i → growGo (C.map toRR) i (da + 1) = treeGo C i da
  | [], i, da, _ => rfl
  | c :: C, i, da, hi => by
    rw [List.map_cons]
    unfold growGo treeGo
    have h0 : (i == 0) = false := by rw [beq_eq_false_iff_ne]; omega
    have hr : rootR i (toRR c) = false := by unfold rootR; rw [h0]; rfl
    rw [hr, h0]
    have hd : (toRR c).d = c.d := rfl
    simp only [Bool.false_eq_true, if_false]
    have e : ((!false && !(belowR i (da + 1) (toRR c))) || decide (5 < (toRR c).d) || decide (16 ≤ i)) = (!(followOk (c.d : Int) (da : Int)) || decide (16 ≤ i)) := by
      unfold belowR followOk
      rw [hd, decide_eq_true hi]
      rw [Bool.eq_iff_iff]
      simp
      omega
    rw [e, hd, grow_eq C (i + 1) c.d (by omega)]
theorem grow0_eq (C : List CR) : growGo (C.map toRR) 0 0 = treeGo C 0 0 := by
  cases C with
  | nil => rfl
  | cons c C =>
    rw [List.map_cons]
    unfold growGo treeGo
    have hr : rootR 0 (toRR c) = rootOk c := by
      unfold rootR rootOk toRR
      dsimp only
      rw [Bool.eq_iff_iff]; simp
    have hb : belowR 0 0 (toRR c) = false := by unfold belowR; rfl
    have hd : (toRR c).d = c.d := rfl
    rw [hr, hb, hd]
    have e : ((!(rootOk c) && !false) || decide (5 < c.d) || decide (16 ≤ 0)) = (!(if (0 == 0) = true then rootOk c else followOk (c.d : Int) 0) || decide (16 ≤ 0)) := by
      have : rootOk c = true → c.d = 0 := by
        intro h; unfold rootOk at h; simp at h; exact h.1.1.1
      cases h : rootOk c
      · simp
      · simp [this h]
    rw [e, grow_eq C 1 c.d (by omega)]
theorem treeF_eq (C : List CR) : treeFR (C.map toRR) = treeF C := by
  unfold treeFR treeF
  rw [grow0_eq]
  cases C <;> rfl
theorem name_eq (L : List (List UInt8)) : ∀ (C : List CR) (i : Nat), nameGoR L (C.map toRR) i = nameGo L C i
  | [], i => rfl
  | c :: C, i => by
    rw [List.map_cons]
    unfold nameGoR nameGo
    rw [name_eq L C (i + 1)]; rfl
def mapE (x : Except (Nat × Nat) (List (List UInt8) × List CR)) : Except (Nat × Nat) (List (List UInt8) × List RR) := match x with | .error n => .error n | .ok (L, C) => .ok (L, C.map toRR)
theorem read_eq (t : List UInt8) : rRead t = mapE (cRead t) := by
  unfold rRead cRead
  by_cases hl : 1200 < t.length
  · rw [if_pos hl, if_pos hl]; rfl
  · rw [if_neg hl, if_neg hl, lines1_eq]
    cases cRead1 t with
    | error n => rfl
    | ok x =>
      obtain ⟨L, C⟩ := x
      simp only [mapC]
      have e : grF L (C.map toRR) = if 0 < treeF C then (3, treeF C) else if 0 < nameF L C then (4, nameF L C) else (0, 0) := by
        unfold grF nameF
        rw [treeF_eq, name_eq]
        by_cases h1 : 0 < treeF C
        · rw [if_pos h1, if_pos (by omega)]
        · rw [if_neg h1, if_neg (by omega)]
          by_cases h2 : dupGo [] L = true
          · simp [h2]
          · simp only [Bool.not_eq_true] at h2
            rw [h2]
            by_cases h3 : 0 < nameGo L C 0
            · simp [h3, Nat.pos_iff_ne_zero.1 h3]
            · have : nameGo L C 0 = 0 := by omega
              simp [this]
      rw [e]
      by_cases h1 : 0 < treeF C
      · simp only [if_pos h1]; rfl
      · simp only [if_neg h1]
        by_cases h2 : 0 < nameF L C
        · simp only [if_pos h2]; rfl
        · simp only [if_neg h2]; rfl

/-! The texts. -/
theorem byT_eq (c : CR) : byRT (byW c.tb c.bys) (byW c.tb c.bys).length = byT c := by
  unfold byT byRT byW
  cases c.tb
  · simp
  · simp only [if_true]
    cases h : c.bys with
    | nil => simp [labT]
    | cons x L => simp [labT]
theorem tmT_eq (wd : List UInt8) (n : Int) (h : -1 ≤ n) : tmT wd n = timeT wd n := by
  unfold tmT timeT
  by_cases h0 : 0 ≤ n
  · rw [if_pos h0, if_neg (by omega)]
    unfold Lib.itoa
    rw [if_neg (by omega)]
  · rw [if_neg h0, if_pos (by omega)]
theorem ifT_eq (M : List CM) : ifRT (M.map toRM) = ifsT M := by
  unfold ifRT ifsT
  rw [List.flatMap_map]
  rfl
theorem rt_eq (c : CR) (h : GoodCR c) : rrT (toRR c) = rtT c ++ [10] := by
  unfold rrT rtT toRR
  dsimp only
  rw [byT_eq, tmT_eq _ _ h.wt.1, tmT_eq _ _ h.ev.1, tmT_eq _ _ h.rp.1, ifT_eq]
theorem rts_eq : ∀ (C : List CR), (∀ c ∈ C, GoodCR c) → (C.map toRR).flatMap rrT = rtsT C
  | [], _ => rfl
  | c :: C, h => by
    rw [List.map_cons, List.flatMap_cons, rt_eq c (h c (by simp)), rts_eq C (fun x hx => h x (by simp [hx]))]
    unfold rtsT
    rw [List.flatMap_cons]
theorem txt_eq (L : List (List UInt8)) (C : List CR) (h : ∀ c ∈ C, GoodCR c) : txR L (C.map toRR) = cfgT L C := by
  unfold txR cfgT; rw [rts_eq C h]
theorem tree_d : ∀ (C : List CR) (i : Nat) (da : Int), treeGo C i da = 0 → ∀ c ∈ C, c.d ≤ 5
  | [], _, _, _ => by simp
  | c :: C, i, da, h => by
    unfold treeGo at h
    by_cases hc : (!(if (i == 0) = true then rootOk c else followOk (c.d : Int) da) || decide (16 ≤ i)) = true
    · rw [if_pos hc] at h; omega
    · rw [if_neg hc] at h
      intro x hx
      rw [List.mem_cons] at hx
      rcases hx with rfl | hx
      · simp only [Bool.or_eq_true, not_or, Bool.not_eq_true', Bool.not_eq_false] at hc
        have h1 := hc.1
        split at h1
        · unfold rootOk at h1; simp at h1; omega
        · unfold followOk at h1; simp at h1; omega
      · exact tree_d C (i + 1) _ h x hx
theorem tree_len : ∀ (C : List CR) (i : Nat) (da : Int), treeGo C i da = 0 → C.length ≤ 16 - i
  | [], _, _, _ => by simp
  | c :: C, i, da, h => by
    unfold treeGo at h
    by_cases hc : (!(if (i == 0) = true then rootOk c else followOk (c.d : Int) da) || decide (16 ≤ i)) = true
    · rw [if_pos hc] at h; omega
    · rw [if_neg hc] at h
      have := tree_len C (i + 1) _ h
      simp only [Bool.or_eq_true, not_or, decide_eq_true_eq] at hc
      simp only [List.length_cons]; omega
theorem goodRR (c : CR) (h : GoodCR c) (hd : c.d ≤ 5) : GoodRR (toRR c) := by
  refine ⟨by show c.d ≤ 9000; omega, ?_, h.byl, fun n hn => isNameL_len (h.bys n hn), h.wt, h.ev, h.rp, by show (c.ifs.map toRM).length ≤ 4; rw [List.length_map]; exact h.ifl, fun m hm => ?_⟩
  · rcases h.rc with e | e
    · show c.rc.length ≤ 8; rw [e]; simp
    · exact isNameL_len e
  · have hm' : m ∈ c.ifs.map toRM := hm
    rw [List.mem_map] at hm'
    obtain ⟨x, hx, rfl⟩ := hm'
    have g := h.ifs x hx
    exact ⟨isNameL_len g.name, by show (kindT x.2.1).length ≤ 2; unfold kindT; split <;> (try split) <;> (try split) <;> simp, g.val⟩
/-- What the reference reads, is what Print writes. -/
theorem both (t : List UInt8) (ht : t.length ≤ 1048576) : match rRead t with
    | .error (n, l) => pRes t = ([], n, l) ∧ 1 ≤ n
    | .ok (L, R) => pRes t = (txR L R, 0, 0) ∧ (∀ n ∈ L, n.length ≤ 8) ∧ L.length ≤ 8 ∧ (∀ r ∈ R, GoodRR r) ∧ R.length ≤ 9000 := by
  rw [read_eq]
  unfold pRes
  cases h : cRead t with
  | error x =>
    obtain ⟨n, l⟩ := x
    refine ⟨rfl, ?_⟩
    unfold cRead at h
    split at h
    · simp at h; omega
    · split at h
      · simp at h; omega
      · split at h
        · simp at h; omega
        · split at h
          · simp at h; omega
          · cases h
  | ok x =>
    obtain ⟨L, C⟩ := x
    have hg := cRead1_good t L C ht (cRead_ok t L C h)
    have hT : treeF C = 0 := by
      unfold cRead at h
      split at h
      · cases h
      · split at h
        · cases h
        · split at h
          · cases h
          · split at h
            · cases h
            · rename_i h1 _ _; simp only [Except.ok.injEq, Prod.mk.injEq] at h; rw [← h.2]; omega
    have hT2 : treeGo C 0 0 = 0 := by
      unfold treeF at hT
      cases C with
      | nil => rfl
      | cons c C => exact hT
    have hl16 : C.length ≤ 16 := tree_len C 0 0 hT2
    refine ⟨by show (cfgT L C, 0, 0) = _; rw [txt_eq L C hg.2.2], fun n hn => isNameL_len (hg.1 n hn), hg.2.1, fun r hr => ?_, by show (C.map toRR).length ≤ _; rw [List.length_map]; omega⟩
    have hr' : r ∈ C.map toRR := hr
    rw [List.mem_map] at hr'
    obtain ⟨c, hc, rfl⟩ := hr'
    exact goodRR c (hg.2.2 c hc) (tree_d C 0 0 hT2 c hc)

end Go.Proofs.YtjnaekffodgdcaaDoor
