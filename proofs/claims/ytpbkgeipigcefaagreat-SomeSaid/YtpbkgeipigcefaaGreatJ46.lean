import Derived.Test.YtpbkgeipigcefaaGreatJ43
import Derived.Test.YtpbkgeipigcefaaGreatJ42
import Derived.Test.YtpbkgeipigcefaaGreatJ45
import Derived.Test.YtpbkgeipigcefaaGreatRows
import Derived.ProofKit
import Derived.OpenShut
import Derived.DataShut
import Derived.SizedLaws
import Derived.Carry
import Derived.Deep.SlicePairs
set_option linter.unusedVariables false
set_option linter.unusedSimpArgs false
set_option linter.unnecessarySimpa false
namespace Go.Proofs.YtpbkgeipigcefaaGreat
open Go.RowKit

/-! Lines: a text that is read, line by line. -/
theorem mapM_cons' {α β : Type} (f : α → Option β) (a : α) (l : List α) : (a :: l).mapM f = match f a with | none => none | some b => match l.mapM f with | none => none | some bs => some (b :: bs) := by
  rw [List.mapM_cons]
  cases f a with
  | none => rfl
  | some b => cases l.mapM f <;> rfl
def rtL (l : List UInt8) : Option CR := sRoute l.dropLast
theorem rl2 : ∀ (t : List UInt8) (ln : Nat) (cur : List UInt8) (R : List (List UInt8)) (C : List CR) (R' : List (List UInt8)) (C' : List CR), 2 ≤ ln →
    (rlGo t ln cur R C = .ok (R', C') ↔ R' = R ∧ (lnsGo t cur).flatten = cur ++ t ∧ ∃ Cs, (lnsGo t cur).mapM rtL = some Cs ∧ C' = C ++ Cs)
  | [], ln, cur, R, C, R', C', h => by
    rw [rlGo, lnsGo]
    have : (ln == 1) = false := by simp; omega
    rw [this, Bool.or_false]
    cases cur with
    | nil =>
      simp
      constructor
      · rintro ⟨rfl, rfl⟩; exact ⟨rfl, rfl⟩
      · rintro ⟨rfl, rfl⟩; exact ⟨rfl, rfl⟩
    | cons c r => simp
  | c :: r, ln, cur, R, C, R', C', h => by
    rw [rlGo, lnsGo]
    by_cases hc : c = 10
    · subst hc
      have : (ln == 1) = false := by simp; omega
      simp only [beq_self_eq_true, if_true, this, Bool.false_eq_true, if_false]
      rw [mapM_cons']
      have hrt : rtL (cur ++ [10]) = sRoute cur := by unfold rtL; rw [List.dropLast_concat]
      rw [hrt]
      cases hs : sRoute cur with
      | none => simp
      | some x =>
        simp only
        rw [rl2 r (ln + 1) [] R (C ++ [x]) R' C' (by omega)]
        simp only [List.flatten_cons, List.append_assoc, List.nil_append, List.append_cancel_left_eq]
        constructor
        · rintro ⟨h1, h2, Cs, h3, h4⟩
          refine ⟨h1, by rw [h2]; rfl, x :: Cs, by rw [h3], by rw [h4]; rfl⟩
        · rintro ⟨h1, h2, Cs, h3, h4⟩
          refine ⟨h1, by simpa using h2, ?_⟩
          cases hm : (lnsGo r []).mapM rtL with
          | none => rw [hm] at h3; cases h3
          | some Ds => rw [hm] at h3; cases h3; exact ⟨Ds, rfl, h4⟩
    · have hc' : (c == 10) = false := by simpa using hc
      rw [hc']
      simp only [Bool.false_eq_true, if_false]
      rw [rl2 r ln (cur ++ [c]) R C R' C' h]
      simp
theorem rl1 : ∀ (t cur : List UInt8) (R : List (List UInt8)) (C : List CR) (R' : List (List UInt8)) (C' : List CR),
    (rlGo t 1 cur R C = .ok (R', C') ↔ (lnsGo t cur).flatten = cur ++ t ∧ ∃ l0 ls Cs, lnsGo t cur = l0 :: ls ∧ sRecvs l0.dropLast = some R' ∧ ls.mapM rtL = some Cs ∧ C' = C ++ Cs)
  | [], cur, R, C, R', C' => by
    rw [rlGo, lnsGo]
    simp
  | c :: r, cur, R, C, R', C' => by
    rw [rlGo, lnsGo]
    by_cases hc : c = 10
    · subst hc
      simp only [beq_self_eq_true, if_true]
      constructor
      · intro h
        cases hs : sRecvs cur with
        | none => rw [hs] at h; cases h
        | some R1 =>
          rw [hs] at h
          obtain ⟨h1, h2, Cs, h3, h4⟩ := (rl2 r 2 [] R1 C R' C' (by omega)).1 h
          refine ⟨by simp [h2], cur ++ [10], lnsGo r [], Cs, rfl, by rw [List.dropLast_concat, hs, h1], h3, h4⟩
      · rintro ⟨h1, l0, ls, Cs, h2, h3, h4, h5⟩
        cases h2
        rw [List.dropLast_concat] at h3
        rw [h3]
        exact (rl2 r 2 [] R' C R' C' (by omega)).2 ⟨rfl, by simpa using h1, Cs, h4, h5⟩
    · have hc' : (c == 10) = false := by simpa using hc
      rw [hc']
      simp only [Bool.false_eq_true, if_false]
      rw [rl1 r (cur ++ [c]) R C R' C']
      simp
theorem cRead1_lines (t : List UInt8) (L : List (List UInt8)) (C : List CR) : cRead1 t = .ok (L, C) ↔ (lnsK t).flatten = t ∧ ∃ l0 ls, lnsK t = l0 :: ls ∧ sRecvs l0.dropLast = some L ∧ ls.mapM rtL = some C := by
  unfold cRead1 lnsK
  rw [rl1]
  simp only [List.nil_append]
  constructor
  · rintro ⟨h1, l0, ls, Cs, h2, h3, h4, rfl⟩; exact ⟨h1, l0, ls, h2, h3, h4⟩
  · rintro ⟨h1, l0, ls, h2, h3, h4⟩; exact ⟨h1, l0, ls, C, h2, h3, h4, rfl⟩
theorem mapM_len {α β : Type} (f : α → Option β) : ∀ (l : List α) (m : List β), l.mapM f = some m → m.length = l.length
  | [], m, h => by simp at h; subst h; rfl
  | a :: l, m, h => by
    rw [mapM_cons'] at h
    split at h
    · cases h
    · split at h
      · cases h
      · rename_i bs hb
        cases h
        simp [mapM_len f l bs hb]
theorem lns_end : ∀ (t cur : List UInt8), ∀ l ∈ lnsGo t cur, ∃ x, l = x ++ [10]
  | [], cur, l, h => by simp [lnsGo] at h
  | c :: r, cur, l, h => by
    rw [lnsGo] at h
    split at h
    · rcases List.mem_cons.1 h with rfl | h
      · exact ⟨cur, rfl⟩
      · exact lns_end r [] l h
    · exact lns_end r _ l h
/-! The first line: the receivers. -/
theorem take_drop_while (p : UInt8 → Bool) (l : List UInt8) : l.takeWhile p ++ l.dropWhile p = l := List.takeWhile_append_dropWhile
theorem recL_text : ∀ (k : Nat) (acc : List (List UInt8)) (l : List UInt8) (L : List (List UInt8)), recL k acc l = some L → ∃ M, L = acc ++ M ∧ l = M.flatMap fun n => 32 :: n
  | 0, acc, l, L, h => by simp [recL] at h
  | k + 1, acc, l, L, h => by
    unfold recL at h
    split at h
    · rename_i h1
      dsimp only at h
      split at h
      · cases h
      · obtain ⟨M, e1, e2⟩ := recL_text k _ _ L h
        refine ⟨(sRest [32] l).takeWhile nmB :: M, by rw [e1]; simp, ?_⟩
        have hl : l = 32 :: sRest [32] l := by
          cases l with
          | nil => simp [sTake] at h1
          | cons c r =>
            simp [sTake] at h1
            subst h1
            simp [sRest]
        rw [List.flatMap_cons, ← e2, List.cons_append, take_drop_while]
        exact hl
    · split at h
      · rename_i h2
        cases h
        simp at h2
        exact ⟨[], by simp, by simp [h2.2]⟩
      · cases h
theorem sRecvs_text {l : List UInt8} {L : List (List UInt8)} (h : sRecvs l = some L) : l = kRecv ++ L.flatMap fun n => 32 :: n := by
  unfold sRecvs at h
  split at h
  · rename_i h1
    obtain ⟨M, e1, e2⟩ := recL_text _ _ _ _ h
    rw [List.nil_append] at e1
    subst e1
    unfold sTake at h1
    unfold sRest at e2
    rw [if_pos h1] at e2
    rw [← e2]
    obtain ⟨r, hr⟩ := List.isPrefixOf_iff_prefix.1 h1
    rw [← hr]; simp
  · cases h
theorem DAt_app {P Q R n : List UInt8} {c : UInt8} (h : c = 32 ∨ c = 10) : ∀ f, f = P ++ 32 :: (n ++ c :: R) → DAt f n P.length := by
  rintro f rfl
  refine ⟨by simp; omega, ?_, ?_, ?_⟩
  · simp
  · rw [show P ++ 32 :: (n ++ c :: R) = (P ++ [32] ++ n) ++ (c :: R) by simp, List.take_append_of_le_length (by simp; omega), List.take_of_length_le (by simp; omega), List.drop_append_of_le_length (by simp), List.drop_of_length_le (by simp)]
    rfl
  · have : (P ++ 32 :: (n ++ c :: R))[P.length + 1 + n.length]'(by simp; omega) = c := by
      have e : P ++ 32 :: (n ++ c :: R) = (P ++ [32] ++ n) ++ (c :: R) := by simp
      have e2 : (P ++ 32 :: (n ++ c :: R))[P.length + 1 + n.length]? = some c := by
        rw [e, List.getElem?_append_right (by simp; omega), show P.length + 1 + n.length - (P ++ [(32 : UInt8)] ++ n).length = 0 by simp; omega]
        rfl
      exact (List.getElem?_eq_some_iff.1 e2).2
    rw [this]; exact h
theorem declared_at : ∀ (L : List (List UInt8)) (P : List UInt8) (n : List UInt8), n ∈ L → ∃ i, DAt (P ++ (L.flatMap fun n => 32 :: n) ++ [10]) n i
  | [], P, n, h => by simp at h
  | m :: L, P, n, h => by
    rcases List.mem_cons.1 h with rfl | h
    · cases L with
      | nil => exact ⟨P.length, DAt_app (Q := []) (c := 10) (R := []) (.inr rfl) _ (by simp)⟩
      | cons y L => exact ⟨P.length, DAt_app (Q := []) (c := 32) (R := y ++ (L.flatMap fun n => 32 :: n) ++ [10]) (.inl rfl) _ (by simp)⟩
    · obtain ⟨i, hi⟩ := declared_at L (P ++ 32 :: m) n h
      refine ⟨i, ?_⟩
      rw [List.flatMap_cons]
      have e : P ++ ((32 :: m) ++ L.flatMap fun n => 32 :: n) ++ [10] = P ++ 32 :: m ++ (L.flatMap fun n => 32 :: n) ++ [10] := by simp
      rw [e]; exact hi
/-! What routes tell: receivers that are declared, labels that rise. -/
theorem nameGo_ok {L : List (List UInt8)} : ∀ (C : List CR) (i : Nat), nameGo L C i = 0 → ∀ c ∈ C, c.rc = [45] ∨ c.rc ∈ L
  | [], i, _, c, h => by simp at h
  | x :: r, i, h, c, hc => by
    rw [nameGo] at h
    split at h
    · cases h
    · rename_i h1
      rcases List.mem_cons.1 hc with rfl | hc
      · by_cases e : c.rc = [45]
        · exact .inl e
        · right
          have e' : (c.rc == [45]) = false := by simpa using e
          rw [e'] at h1
          simpa using h1
      · exact nameGo_ok r (i + 1) h c hc
theorem cRead_names {t : List UInt8} {L : List (List UInt8)} {C : List CR} (h : cRead t = .ok (L, C)) : nameF L C = 0 := by
  unfold cRead at h
  split at h
  · cases h
  · split at h
    · cases h
    · split at h
      · cases h
      · split at h
        · cases h
        · rename_i h1
          cases h
          omega
theorem sBy_asc (l : List UInt8) : Asc (sBy l).names := by
  unfold sBy
  split
  · dsimp only
    split
    · exact List.Pairwise.nil
    · exact rise_asc _ [] List.Pairwise.nil
  · exact List.Pairwise.nil
theorem rtL_asc {l : List UInt8} {c : CR} (h : rtL l = some c) : Asc c.bys := by
  obtain ⟨_, _, _, _, _, _, rfl⟩ := sRoute_some _ _ h
  exact sBy_asc _
theorem mapM_mem {α β : Type} (f : α → Option β) : ∀ (l : List α) (m : List β), l.mapM f = some m → ∀ b ∈ m, ∃ a ∈ l, f a = some b
  | [], m, h, b, hb => by simp at h; subst h; simp at hb
  | a :: l, m, h, b, hb => by
    rw [mapM_cons'] at h
    split at h
    · cases h
    · rename_i x hx
      split at h
      · cases h
      · rename_i bs hbs
        cases h
        rcases List.mem_cons.1 hb with rfl | hb
        · exact ⟨a, by simp, hx⟩
        · obtain ⟨y, hy, hf⟩ := mapM_mem f l bs hbs b hb
          exact ⟨y, by simp [hy], hf⟩
structure HitG (L : List (List UInt8)) (h : HitM) : Prop where
  rc : h.rc ∈ L
  bl : Asc h.bl
theorem hitsN_g {L : List (List UInt8)} {C : List CR} (hs : Steps C) (hn : ∀ c ∈ C, c.rc = [45] ∨ c.rc ∈ L) (ha : ∀ c ∈ C, Asc c.bys) : ∀ i, i ≤ C.length → ∀ h ∈ hitsN C i, HitG L h
  | 0, _ => by simp [hitsN]
  | i + 1, hi => by
    intro h hh
    rw [hitsN] at hh
    have ih := hitsN_g hs hn ha i (by omega)
    rcases List.mem_append.1 hh with e | e
    · exact ih h e
    · rw [List.getElem?_eq_getElem (by omega)] at e
      have e := List.mem_singleton.1 e
      subst e
      have hc := hn C[i] (List.getElem_mem _)
      have hb := ha C[i] (List.getElem_mem _)
      have key : ∀ ab : HitM, (C[i].rc = [45] → ab.rc ∈ L) → Asc ab.bl → HitG L (hitB ab C[i]) := by
        intro ab h1 h2
        refine ⟨?_, ?_⟩
        · show (if C[i].rc == [45] then ab.rc else C[i].rc) ∈ L
          by_cases e : C[i].rc = [45]
          · rw [if_pos (by simp [e])]; exact h1 e
          · rw [if_neg (by simp [e])]; exact hc.resolve_left e
        · show Asc (if C[i].tb then C[i].bys else ab.bl)
          split
          · exact hb
          · exact h2
      cases i with
      | zero =>
        have h0 := (hs.1 C[0] (List.getElem?_eq_getElem (by omega))).2
        refine key _ (fun e => absurd e h0) ?_
        unfold aboveH
        have : par C 0 = none := by
          cases hp : par C 0 with
          | none => rfl
          | some p => exact absurd (par_lt hp) (by omega)
        rw [this]
        exact List.Pairwise.nil
      | succ i =>
        obtain ⟨p, hp⟩ := par_of hs i (by omega)
        have hpl := par_lt hp
        have hm : aboveH C (hitsN C (i + 1)) (i + 1) ∈ hitsN C (i + 1) := by
          unfold aboveH
          rw [hp]
          simp only
          rw [List.getD_eq_getElem?_getD, List.getElem?_eq_getElem (by rw [hitsN_len]; exact hpl)]
          exact List.getElem_mem _
        have ho := ih _ hm
        exact key _ (fun _ => ho.rc) ho.bl
end Go.Proofs.YtpbkgeipigcefaaGreat

namespace Go.Proofs.YtpbkgeipigcefaaGreat
open Go.RowKit

/-! What a route sends: some, each once. -/
theorem walkH_ne {H : Nat → Bool} {C : List CR} {S : Nat → List Nat} : ∀ K : List Nat, K.any H = true → (∀ c ∈ K, S c ≠ []) → walkH H C S K ≠ []
  | [], h, _ => by simp at h
  | c :: r, h, hS => by
    rw [walkH]
    cases hc : H c
    · simp only [Bool.false_eq_true, if_false]
      exact walkH_ne r (by simpa [hc] using h) (fun x hx => hS x (by simp [hx]))
    · simp only [if_true]
      intro e
      exact hS c (by simp) (List.append_eq_nil_iff.1 e).1
inductive Below' (C : List CR) (r : Nat) : Nat → Prop
  | self : Below' C r r
  | step {j p : Nat} : par C j = some p → Below' C r p → Below' C r j
theorem Below'.ge {C : List CR} {r j : Nat} (h : Below' C r j) : r ≤ j := by
  induction h with
  | self => exact Nat.le_refl _
  | step hp _ ih => have := par_lt hp; omega
theorem Below'.up {C : List CR} {c r j : Nat} (hc : par C c = some r) (h : Below' C c j) : Below' C r j := by
  induction h with
  | self => exact .step hc .self
  | step hp _ ih => exact .step hp ih
theorem Below'.one {C : List CR} {r a b j : Nat} (ha : par C a = some r) (hb : par C b = some r) (h1 : Below' C a j) (h2 : Below' C b j) : a = b := by
  induction h1 with
  | self =>
    cases h2 with
    | self => rfl
    | step hp h3 =>
      rw [ha] at hp
      cases hp
      have h4 := h3.ge
      have h5 := par_lt hb
      omega
  | step hp h3 ih =>
    cases h2 with
    | self =>
      rw [hb] at hp
      cases hp
      have h4 := h3.ge
      have h5 := par_lt ha
      omega
    | step hp2 h4 =>
      rw [hp] at hp2
      cases hp2
      exact ih h4
theorem walkH_mem {H : Nat → Bool} {C : List CR} {S : Nat → List Nat} : ∀ K : List Nat, ∀ x ∈ walkH H C S K, ∃ c ∈ K, x ∈ S c
  | [], x, h => by simp [walkH] at h
  | c :: r, x, h => by
    rw [walkH] at h
    split at h
    · rcases List.mem_append.1 h with h | h
      · exact ⟨c, by simp, h⟩
      · split at h
        · obtain ⟨d, hd, hx⟩ := walkH_mem r x h
          exact ⟨d, by simp [hd], hx⟩
        · simp at h
    · obtain ⟨d, hd, hx⟩ := walkH_mem r x h
      exact ⟨d, by simp [hd], hx⟩
theorem walkH_nodup {H : Nat → Bool} {C : List CR} {S : Nat → List Nat} : ∀ K : List Nat, K.Nodup → (∀ c ∈ K, (S c).Nodup) → (∀ c ∈ K, ∀ d ∈ K, ∀ x, x ∈ S c → x ∈ S d → c = d) → (walkH H C S K).Nodup
  | [], _, _, _ => by simp [walkH]
  | c :: r, hK, hS, hD => by
    have hr := walkH_nodup (H := H) (C := C) r (List.nodup_cons.1 hK).2 (fun d hd => hS d (by simp [hd])) (fun a ha b hb => hD a (by simp [ha]) b (by simp [hb]))
    rw [walkH]
    split
    · rw [List.nodup_append]
      refine ⟨hS c (by simp), ?_, ?_⟩
      · split
        · exact hr
        · exact List.nodup_nil
      · intro x hx y hy e
        subst e
        split at hy
        · obtain ⟨d, hd, hxd⟩ := walkH_mem r x hy
          have := hD c (by simp) d (by simp [hd]) x hx hxd
          subst this
          exact (List.nodup_cons.1 hK).1 hd
        · simp at hy
    · exact hr
theorem sentH_below {H : Nat → Bool} {C : List CR} : ∀ f r, r < C.length → (∀ x ∈ sentH H C f r, Below' C r x ∧ x < C.length) ∧ (sentH H C f r).Nodup
  | 0, r, _ => ⟨by simp [sentH], by simp [sentH]⟩
  | f + 1, r, hr => by
    rw [sentH]
    split
    · have hk : ∀ c ∈ kids C r, (∀ x ∈ sentH H C f c, Below' C c x ∧ x < C.length) ∧ (sentH H C f c).Nodup := fun c hc => sentH_below f c (mem_kids' hc).1
      refine ⟨fun x hx => ?_, walkH_nodup _ (kids_nodup C r) (fun c hc => (hk c hc).2) (fun c hc d hd x hx hy => ?_)⟩
      · obtain ⟨c, hc, hxc⟩ := walkH_mem _ x hx
        have := (hk c hc).1 x hxc
        exact ⟨this.1.up (mem_kids' hc).2, this.2⟩
      · exact Below'.one (mem_kids' hc).2 (mem_kids' hd).2 ((hk c hc).1 x hx).1 ((hk d hd).1 x hy).1
    · exact ⟨fun x hx => by rw [List.mem_singleton.1 hx]; exact ⟨.self, hr⟩, by simp⟩
theorem kid_depth {C : List CR} {r c : Nat} (h : c ∈ kids C r) {x y : CR} (hx : C[r]? = some x) (hy : C[c]? = some y) : y.d = x.d + 1 := by
  have hp := (mem_kids' h).2
  unfold par at hp
  rw [hy] at hp
  have go : ∀ (d i p : Nat), parGo C d i = some p → (C[p]?.map fun c => c.d + 1) = some d := by
    intro d i
    induction i with
    | zero => intro p h; simp [parGo] at h
    | succ i ih =>
      intro p h
      rw [parGo] at h
      split at h
      · rename_i h1; cases h; exact h1
      · exact ih p h
  have := go _ _ _ hp
  rw [hx] at this
  simp at this
  omega
theorem sentH_some {H : Nat → Bool} {C : List CR} (hd : ∀ c ∈ C, c.d ≤ 5) : ∀ f r x, C[r]? = some x → 6 ≤ f + x.d → sentH H C f r ≠ []
  | 0, r, x, hx, h => by
    have := hd x (List.mem_of_getElem? hx)
    omega
  | f + 1, r, x, hx, h => by
    rw [sentH]
    split
    · rename_i ha
      refine walkH_ne _ ha (fun c hc => ?_)
      have hcl := (mem_kids' hc).1
      have := kid_depth hc hx (List.getElem?_eq_getElem hcl)
      exact sentH_some hd f c C[c] (List.getElem?_eq_getElem hcl) (by omega)
    · simp
theorem sentH_len {H : Nat → Bool} {C : List CR} (f r : Nat) (hr : r < C.length) : (sentH H C f r).length ≤ C.length := by
  obtain ⟨h1, h2⟩ := sentH_below (H := H) f r hr
  exact nodup_le _ _ h2 (fun x hx => (h1 x hx).2)
end Go.Proofs.YtpbkgeipigcefaaGreat

namespace Go.Proofs.YtpbkgeipigcefaaGreat
open Go.RowKit

theorem hitsC_good {t : List UInt8} {L : List (List UInt8)} {C : List CR} (ht : t.length ≤ 1048576) (h : cRead t = .ok (L, C)) (V : List UInt8 → List UInt8) : hitsC C V ≠ [] ∧ (hitsC C V).length ≤ C.length ∧ ∀ x ∈ hitsC C V, HitG L x ∧ HitOK x := by
  obtain ⟨h1, h2, h3, h4⟩ := cRead_tree h
  have hg := (cRead1_good t L C ht h1).2.2
  have hst := cRead_steps h
  have hnm := cRead_names h
  obtain ⟨_, l0, ls, e1, e2, e3⟩ := (cRead1_lines t L C).1 h1
  have hn : ∀ c ∈ C, c.rc = [45] ∨ c.rc ∈ L := by
    unfold nameF at hnm
    split at hnm
    · cases hnm
    · exact nameGo_ok C 0 hnm
  have ha : ∀ c ∈ C, Asc c.bys := fun c hc => by
    obtain ⟨a, _, ha⟩ := mapM_mem rtL ls C e3 c hc
    exact rtL_asc ha
  refine ⟨?_, ?_, ?_⟩
  · intro e
    exact sentH_some h4 6 0 C[0] (List.getElem?_eq_getElem h2) (by omega) (List.map_eq_nil_iff.1 e)
  · unfold hitsC
    rw [List.length_map]
    exact sentH_len 6 0 h2
  · intro x hx
    obtain ⟨i, hi, rfl⟩ := List.mem_map.1 hx
    have hil := ((sentH_below (H := hold autC V C) 6 0 h2).1 i hi).2
    have hm : (hitsN C C.length).getD i ⟨[], [], 0, 0, 0⟩ ∈ hitsN C C.length := by
      rw [List.getD_eq_getElem?_getD, List.getElem?_eq_getElem (by rw [hitsN_len]; exact hil)]
      exact List.getElem_mem _
    exact ⟨hitsN_g hst hn ha C.length (Nat.le_refl _) _ hm, hitsN_ok hst hg C.length (Nat.le_refl _) _ hm⟩
theorem asc_at {B : List (List UInt8)} (h : Asc B) (k : Nat) (hk : k + 1 < B.length) : Op.bytesLess B[k] B[k + 1] = true := by
  rw [bl_lt]
  exact decide_eq_true (List.pairwise_iff_getElem.1 h k (k + 1) (by omega) hk (by omega))

set_option maxRecDepth 100000 in
set_option maxHeartbeats 8000000 in
theorem ksome_any {w0 w : World} {db : Nat} {t : List UInt8} {a : Option Addr} {cap : Nat} {L : List LBL} {Ln : List (List UInt8)} {C : List CR} {s : CS} {V : V6} {pb : Nat} (h : DK w0 w db t a cap L Ln C s V pb) :
    Calls Tryz.prog 15 #[.pointer (some ⟨db, 0, none⟩)] w fun e w' => e = .returned (.bool true) ∧ Frm [] w w' := by
  have D := hide h
  have r0 : w.cell? ⟨db, 0, none⟩ = some (.string (bs t)) := by simp [World.cell?, h.row]
  have r1 : w.cell? ⟨db, 1, none⟩ = some (.pointer (some ⟨pb, 0, none⟩)) := by simp [World.cell?, h.row]
  have r2 : w.cell? ⟨db, 2, none⟩ = some (.slice a L.length cap) := by simp [World.cell?, h.row]
  have hdb : db < w.heap.size := (Array.getElem?_eq_some_iff.1 h.row).1
  have htl := h.tl
  have R0 := hide r0
  obtain ⟨_, l0, ls, e1, e2, e3⟩ := (cRead1_lines t Ln C).1 (cRead_tree h.rd).1
  obtain ⟨g1, g2, g3⟩ := hitsC_good (by have := h.tl; omega) h.rd (lblV L)
  have hA := hitsA_comp (A := L) (by have := h.tl; omega) h.rd h.pr
  have hCl : (lnsK t).length = C.length + 1 := by rw [e1, List.length_cons, mapM_len rtL ls C e3]
  obtain ⟨x0, hx0⟩ := lns_end t [] l0 (by show l0 ∈ lnsK t; rw [e1]; simp)
  have hrt := sRecvs_text e2
  rw [hx0, List.dropLast_concat] at hrt
  have HDC : Hid (∀ n ∈ Ln, ∃ i, DAt l0 n i) := by
    intro n hn
    have := declared_at Ln kRecv n hn
    rw [← hrt, ← hx0] at this
    exact this
  have HF0 : Hid ((lnsK t)[0]? = some l0) := by show _ = _; rw [e1]; rfl
  have hl0 : l0.length ≤ 100000 := by
    have h1 : l0.length ≤ (lnsK t).flatten.length := by rw [e1]; simp
    have h2 := ((cRead1_lines t Ln C).1 (cRead_tree h.rd).1).1
    rw [h2] at h1
    omega
  have hC16 := (cRead_tree h.rd).2.2.1
  have NR := hide (fun (W : World) (hW : Frm [] w W) => route_any W pb V _ (h.pg.frm hW (by simp)) h.ok a L.length cap L ((h.lr.frm hW).lr cap (by have := h.ll; omega)) (fun x hx => by have := h.ls x hx; exact ⟨by omega, by omega⟩) h.cap)
  have G3 := hide g3
  have HNe := hide g1
  have HLe := hide g2
  clear h e1 e2 e3 hx0 hrt g1 g2 g3
  generalize hitsC C (lblV L) = hs at *
  generalize compM C s = m at *
  have HA := hide hA
  clear hA
  cases hlb : labsOK L
  · have NR0 : Hid (∀ W, Frm [] w W → Calls Tryz.prog 28 #[.pointer (some ⟨pb, 0, none⟩), .slice a L.length cap] W fun e w' => Frm [] W w' ∧ e = .returned (.tuple #[.slice none 0 0, .int .i64 8])) := by
      intro W hW
      refine (NR.out W hW).mono ?_
      rintro e w1 ⟨hF1, ⟨_, rfl⟩ | ⟨h1, _⟩⟩
      · exact ⟨hF1, rfl⟩
      · rw [hlb] at h1; cases h1
    clear NR
    have FN : Hid (Frm [] w w.drew) := (Frm.refl [] w).drew
    go_enter Tryz.func15, Tryz.ntmps15
    go_wp2_with fail
    go_region_with (go_at_call 28; refine (NR0.out _ FN.out).mono ?_; rintro e w1 ⟨hF1, rfl⟩)
    all_goals
      have F1 := hide (FN.out.trans hF1)
      have hnn : ∀ u : World, (binOp BinOp.eql 52 (.slice none 0 0) (.slice none 0 0)).run Tryz.prog u = .ok (.bool true) u := fun u => (run_eql_nil_slice u 52 57 none 0 0 0 0 Tryz.underlying52).trans (by simp)
      clear hF1
      go_wp2
      go_ret
      exact ⟨rfl, F1.out⟩
  · have NR0 : Hid (∀ W, Frm [] w W → Calls Tryz.prog 28 #[.pointer (some ⟨pb, 0, none⟩), .slice a L.length cap] W fun e w' => ∃ vh, Frm [] W w' ∧ e = .returned (.tuple #[vh, .int .i64 0]) ∧ HRS w' vh hs) := by
      intro W hW
      refine (NR.out W hW).mono ?_
      rintro e w1 ⟨hF1, ⟨h1, _⟩ | ⟨_, vh, rfl, hH⟩⟩
      · rw [hlb] at h1; cases h1
      · exact ⟨vh, hF1, rfl, by rw [HA.out] at hH; exact hH⟩
    clear NR
    have FN : Hid (Frm [] w w.drew) := (Frm.refl [] w).drew
    go_enter Tryz.func15, Tryz.ntmps15
    go_wp2_with fail
    go_region_with (go_at_call 28; refine (NR0.out _ FN.out).mono ?_; rintro e w1 ⟨vh, hF1, rfl, hH⟩)
    all_goals
      have F1 := hide (FN.out.trans hF1)
      have H1 := hide hH
      obtain ⟨ah, ch, rfl, hch, _⟩ := hH
      have N2 := hide (lines_any t w1 (by omega))
      have r01 := F1.out.at (p := ⟨db, 0, none⟩) hdb R0.out
      clear hF1 r0 r1 r2
      go_wp2_with fail
      refine (N2.out).mono ?_
      clear N2
      rintro e w2 ⟨vl, rfl, hF2, hR2⟩
      obtain ⟨al, cl, rfl, _⟩ := hR2.str
      have F2 := hide (F1.out.trans hF2)
      have H2 := hide (H1.out.frm hF2)
      have hle := HLe.out
      have hne : 0 < hs.length := List.length_pos_iff.2 HNe.out
      have hq1 : ((hs.length : Int) == 0) = false := by rw [beq_eq_false_iff_ne]; omega
      have hq2 : decide (((lnsK t).length : Int) - 1 < (hs.length : Int)) = false := decide_eq_false (by omega)
      have hq3 : decide (C.length < hs.length) = false := decide_eq_false (by omega)
      have hq4 : decide ((C.length : Int) < (hs.length : Int)) = false := decide_eq_false (by omega)
      clear hF2 hR2 H1
      go_wp2_with fail
      go_loopg [6] hs.length (fun k vi wr => ∃ j : Nat, j + k = hs.length ∧ vi = .int .i64 j ∧ Frm [] w2 wr)
      case atStart => exact ⟨0, by omega, rfl, Frm.refl _ _⟩
      case round =>
        obtain ⟨j, hjk, rfl, hFr⟩ := hrel
        obtain ⟨K0, hK0⟩ : ∃ K0, K0 = gk := ⟨_, rfl⟩
        have FR := hide hFr
        have F3 := hide (F2.out.trans hFr)
        have hzr := F3.out.size
        clear hFr
        by_cases hlt : j < hs.length
        · have hd1 : decide ((j : Int) < (hs.length : Int)) = true := decide_eq_true (by omega)
          have hG := G3.out hs[j] (List.getElem_mem hlt)
          have HR3 := H2.out.frm FR.out
          obtain ⟨a3, c3, e3, _, hc3⟩ := HR3
          obtain ⟨g, o, vb, ea, hr⟩ := hc3 j hlt
          simp only [Value.slice.injEq] at e3
          obtain ⟨rfl, _, rfl⟩ := e3
          subst ea
          obtain ⟨i0, hi0⟩ := HDC.out hs[j].rc hG.1.rc
          have ND : Hid (∀ W : World, Calls Tryz.prog 30 #[.string (bs t), .string (bs hs[j].rc)] W fun e w' => e = .returned (.bool true) ∧ Frm [] W w') := fun W => declared_any t hs[j].rc l0 W (by omega) HF0.out (by have := hG.2.rc.1; omega) hl0 i0 hi0
          have HRH := hide hr
          have HAS := hide hG.1.bl
          have hwt := hG.2.wt
          have hbl := hG.2.b1
          have q0 := hr.c0
          have r03 := F3.out.at (p := ⟨db, 0, none⟩) hdb R0.out
          clear hc3 hr hG
          generalize hs[j] = hx at *
          have FN3 : Hid (Frm [] wr wr.drew) := (Frm.refl [] wr).drew
          go_wp2_with fail
          go_region_with (go_at_call 30; refine (ND.out _).mono ?_; rintro e w4 ⟨rfl, hF4⟩)
          all_goals
            have F4 := hide (FN3.out.trans hF4)
            clear hF4
            have hr4 := HRH.out.frm F4.out
            have p1 := hr4.c1
            have p2 := hr4.c2
            have hd5 : decide ((99999 : Int) < (hx.wt : Int)) = false := decide_eq_false (by omega)
            have hd6 : decide ((hx.wt : Int) < 0) = false := decide_eq_false (by omega)
            obtain ⟨ab, cb, rfl, hb⟩ := hr4.r.str
            have HB := hide hb
            clear q0 hr4 hb
            go_wp2_with fail
            go_loopg [8] hx.bl.length (fun k vk wk => ∃ i q : Nat, i + k = hx.bl.length + 1 ∧ vk = .int .i64 i ∧ 1 ≤ i ∧ wk = w4.drewN q)
            case atStart => exact ⟨1, 0, by omega, rfl, Nat.le_refl _, rfl⟩
            case round =>
              obtain ⟨i, q, hik, rfl, hi1, hwk⟩ := hrel
              subst hwk
              by_cases hil : i < hx.bl.length
              · obtain ⟨m', rfl⟩ : ∃ m', i = m' + 1 := ⟨i - 1, by omega⟩
                have hd7 : decide (((m' + 1 : Nat) : Int) < (hx.bl.length : Int)) = true := decide_eq_true (by omega)
                have hd7' : decide ((m' : Int) + 1 < (hx.bl.length : Int)) = true := decide_eq_true (by omega)
                obtain ⟨gb, ob, rfl, hgb, u0⟩ := HB.out m' (by omega)
                obtain ⟨gb', ob', eg, _, u1⟩ := HB.out (m' + 1) hil
                simp only [Option.some.injEq, Addr.mk.injEq, and_true] at eg
                obtain ⟨rfl, rfl⟩ := eg
                have hasc := asc_at HAS.out m' hil
                have hl := bs_toList
                generalize hx.bl[m'] = b1 at *
                generalize hx.bl[m' + 1] = b2 at *
                go_wp2_with fail
                go_quiet (fail)
                go_wp2
                go_roundg (gk - 1)
                case measure => omega
                case rel => exact ⟨m' + 1 + 1, _, by omega, by go_num, by omega, rfl⟩
              · have hd7 : decide ((i : Int) < (hx.bl.length : Int)) = false := decide_eq_false (by omega)
                go_wp2
                go_roundg (K0 - 1)
                case measure => omega
                case rel => exact ⟨j + 1, by omega, by go_num, FR.out.trans (F4.out.drewN _)⟩
        · have hd1 : decide ((j : Int) < (hs.length : Int)) = false := decide_eq_false (by omega)
          go_wp2
          go_ret
          exact ⟨rfl, F3.out⟩
end Go.Proofs.YtpbkgeipigcefaaGreat

namespace Go.Proofs.YtpbkgeipigcefaaGreat
open Go.RowKit

set_option maxRecDepth 100000 in
set_option maxHeartbeats 4000000 in
theorem someLaw_any (w : World) (a : Option Addr) (cap : Nat) (L : List LBL) (h : LQ w a L) (hN : L.length ≤ 4398046511104) (hs : ∀ x ∈ L, x.1.length ≤ 140737488355328 ∧ x.2.length ≤ 140737488355328) (hcap : L.length ≤ cap) (r : List UInt8) (hr : r.length ≤ 140737488355328) :
    Calls Tryz.prog 5 #[.string (bs r), .slice a L.length cap] w fun e w' => e = .returned (.bool true) ∧ Frm [] w w' := by
  have N1 := hide (kat_any w a cap L h hN hs hcap r hr)
  have N2 : Hid (∀ W : World, Calls Tryz.prog 14 #[.int .i64 (r.length : Nat)] W fun e w' => e = .returned (.bool true) ∧ Frm [] W w') := fun W => stands_any _ W (by omega) (by omega)
  have hsz := bs_size
  clear h hs
  go_enter Tryz.func5, Tryz.ntmps5
  go_wp2_with fail
  refine (N1.out).mono ?_
  clear N1
  rintro e w1 ⟨hF, rfl | ⟨db, Ln, C, s, V, pb, rfl, hD⟩⟩
  · have F := hide hF
    clear hF
    go_wp2_with fail
    refine (N2.out _).mono ?_
    clear N2
    rintro e w2 ⟨rfl, hF2⟩
    have F2 := hide (F.out.trans hF2)
    clear hF2
    go_wp2
    go_ret
    exact ⟨rfl, F2.out⟩
  · have F := hide hF
    have N3 := hide (ksome_any hD)
    clear hF N2 hD
    go_wp2_with fail
    refine (N3.out).mono ?_
    clear N3
    rintro e w2 ⟨rfl, hF2⟩
    have F2 := hide (F.out.trans hF2)
    clear hF2
    go_wp2
    go_ret
    exact ⟨rfl, F2.out⟩
end Go.Proofs.YtpbkgeipigcefaaGreat

namespace Go.Proofs.YtpbkgeipigcefaaGreat
open Go.ChangeShapes Go.WideShapes Go.ChangeAt Go.RowKit
open Go.ChangeMaps (open_string shut_string)

def strL : Value → List UInt8
  | .string s => s.data.toList
  | _ => []
theorem weightsAll_mem {H : Type} {P : Program} {e : TypeId} {d : DataW H} {n : Nat} : ∀ {l : List (DataW H)}, d ∈ l → n ∈ d.weights P e → n ∈ DataW.weightsAll P e l
  | [], hd, _ => by simp at hd
  | x :: r, hd, hn => by
    simp only [DataW.weightsAll, List.mem_append]
    rcases List.mem_cons.1 hd with rfl | hd
    · exact .inl hn
    · exact .inr (weightsAll_mem hd hn)
theorem cellsLab : Tryz.prog.cellsOf 32 = 2 := by kernel_rfl
theorem cellsStr : Tryz.prog.cellsOf 9 = 1 := by kernel_rfl
theorem bytesLab : Tryz.prog.bytesOf 32 = 32 := by kernel_rfl

set_option maxRecDepth 100000 in
theorem labels_open {H : Type} {enc : TypeId × Value → H} {W : World} {a : Option Addr} {len cap : Nat} {d : DataW H} {ps : List MemPlace} (h : DataW.Trod enc Tryz.prog W 0 (fun _ => true) true 23 (.slice a len cap) d ps)
    (hw : ∀ n ∈ d.weights Tryz.prog 23, n ≤ reachBytes) :
    ∃ L : List LBL, L.length = len ∧ LQ W a L ∧ L.length ≤ 4398046511104 ∧ ∀ x ∈ L, x.1.length ≤ 140737488355328 ∧ x.2.length ≤ 140737488355328 := by
  obtain ⟨fuel, h⟩ := h
  have hcs : (Value.slice a len cap).cells.toList = [.slice a len cap] := rfl
  rw [hcs] at h
  rcases Deep.open_slice_pairs Tryz.underlying23 Tryz.underlying32 cellsLab rfl rfl cellsStr cellsStr h with ⟨hc, _⟩ | ⟨ad, len', cap', m, n, V0, V1, D0, D1, P0, P1, hc, _, hl, hm, hmm, hx, hall⟩
  · simp only [List.cons.injEq, and_true, Value.slice.injEq] at hc
    obtain ⟨rfl, rfl, rfl⟩ := hc
    exact ⟨[], rfl, fun j hj => absurd hj (by simp), by simp, by simp⟩
  · simp only [List.cons.injEq, and_true, Value.slice.injEq] at hc
    obtain ⟨rfl, rfl, rfl⟩ := hc
    simp only [if_true] at hmm
    subst hmm
    simp only [Prod.mk.injEq] at hx
    obtain ⟨rfl, rfl⟩ := hx
    have hrb : reachBytes ≤ 140737488355328 := Nat.le_of_lt reachBytes_lt
    have hS : ∀ i, i < m → ∃ s0 s1 : ByteArray, V0 i = .string s0 ∧ V1 i = .string s1 ∧ D0 i = .lit (.string s0.data.toList) ∧ D1 i = .lit (.string s1.data.toList) := by
      intro i hi
      obtain ⟨_, _, h1, h2⟩ := hall i hi
      obtain ⟨s0, e0, f0, _⟩ := DataW.trod_string Tryz.underlying9 h1
      obtain ⟨s1, e1, f1, _⟩ := DataW.trod_string Tryz.underlying9 h2
      simp only [List.cons.injEq, and_true] at e0 e1
      simp only [Prod.mk.injEq] at f0 f1
      exact ⟨s0, s1, e0, e1, f0.1, f1.1⟩
    have hlen : len * 32 ≤ reachBytes := by
      have := hw ((len + (m - len)) * 32) (by simp [DataW.weights, Tryz.underlying23, bytesLab])
      omega
    refine ⟨(List.range len).map fun i => (strL (V0 i), strL (V1 i)), by simp, ?_, by simp; omega, ?_⟩
    · intro j hj
      simp only [List.length_map, List.length_range] at hj
      obtain ⟨b, off, spot⟩ := ad
      obtain ⟨c0, c1, _, _⟩ := hall j (by omega)
      obtain ⟨s0, s1, e0, e1, _, _⟩ := hS j (by omega)
      have hspot : spot = none := by
        have := World.cell?_spot (hall 0 (by omega)).1
        simpa [Addr.add] using this
      subst hspot
      rw [add_plain] at c0 c1
      refine ⟨b, off, rfl, World.block_lt_of_cell? W _ c0, ?_, ?_⟩
      · rw [c0, e0]; simp [strL, e0, bs_of]
      · rw [← Nat.add_assoc] at c1
        rw [c1, e1]; simp [strL, e1, bs_of]
    · intro x hx
      obtain ⟨i, hi, rfl⟩ := List.mem_map.1 hx
      rw [List.mem_range] at hi
      obtain ⟨s0, s1, e0, e1, f0, f1⟩ := hS i (by omega)
      have hwt : ∀ k, k = s0.data.toList.length ∨ k = s1.data.toList.length → k ≤ reachBytes := by
        intro k hk
        apply hw
        have hmem : k ∈ DataW.weightsAll Tryz.prog 32 ((List.range len).map fun i => DataW.agg [D0 i, D1 i]) := by
          refine weightsAll_mem (d := .agg [D0 i, D1 i]) (List.mem_map.2 ⟨i, List.mem_range.2 hi, rfl⟩) ?_
          rw [f0, f1]
          simp only [DataW.weights, Tryz.underlying32]
          rcases hk with rfl | rfl <;> simp [DataW.weightsEach, DataW.weights]
        simp only [DataW.weights, Tryz.underlying23, List.mem_cons, List.mem_append]
        exact .inr (.inl hmem)
      have h1 := hwt _ (.inl rfl)
      have h2 := hwt _ (.inr rfl)
      simp only [e0, e1, strL]
      omega
end Go.Proofs.YtpbkgeipigcefaaGreat

namespace Go.Proofs.YtpbkgeipigcefaaGreat
open Go.ChangeShapes Go.WideShapes Go.ChangeAt Go.RowKit

theorem labels_cap {H : Type} {enc : TypeId × Value → H} {W : World} {a : Option Addr} {len cap : Nat} {d : DataW H} {ps : List MemPlace} (h : DataW.Trod enc Tryz.prog W 0 (fun _ => true) true 23 (.slice a len cap) d ps) : len ≤ cap := by
  obtain ⟨fuel, h⟩ := h
  have hcs : (Value.slice a len cap).cells.toList = [.slice a len cap] := rfl
  rw [hcs] at h
  rcases Deep.open_slice_pairs Tryz.underlying23 Tryz.underlying32 cellsLab rfl rfl cellsStr cellsStr h with ⟨hc, _⟩ | ⟨ad, len', cap', m, n, V0, V1, D0, D1, P0, P1, hc, _, hl, hm, hmm, hx, hall⟩
  · simp only [List.cons.injEq, and_true, Value.slice.injEq] at hc
    omega
  · simp only [List.cons.injEq, and_true, Value.slice.injEq] at hc
    obtain ⟨rfl, rfl, rfl⟩ := hc
    exact hl
end Go.Proofs.YtpbkgeipigcefaaGreat

