import Derived.Test.YtndalncdkgbnoaaGreatJ42
import Derived.Test.YtndalncdkgbnoaaGreatJ39
import Derived.Test.YtndalncdkgbnoaaGreatJ1
set_option linter.unusedVariables false
set_option linter.unusedSimpArgs false
set_option linter.unnecessarySimpa false
namespace Go.Proofs.YtndalncdkgbnoaaGreat
open Go.RowKit

/-! Lines: a text that is read, line by line. -/
theorem mapM_cons' {α β : Type} (f : α → Option β) (a : α) (l : List α) : (a :: l).mapM f = match f a with | none => none | some b => match l.mapM f with | none => none | some bs => some (b :: bs) := by
  rw [List.mapM_cons]
  cases f a with
  | none => rfl
  | some b => cases l.mapM f <;> rfl
def rtL (l : List UInt8) : Option CR := sRoute l.dropLast
theorem rl2 : ∀ (t : List UInt8) (ln : Nat) (cur : List UInt8) (R : List (List UInt8)) (C : List CR) (R' : List (List UInt8)) (C' : List CR), 2 ≤ ln →
    (rlGo t ln cur R C = .ok (R', C') ↔ R' = R ∧ (lnsGo t cur).flatten = cur ++ t ∧ ∃ Cs, (lnsGo t cur).mapM rtL = some Cs ∧ C' = C ++ Cs)
  | [], ln, cur, R, C, R', C', h => by
    rw [rlGo, lnsGo]
    have : (ln == 1) = false := by simp; omega
    rw [this, Bool.or_false]
    cases cur with
    | nil =>
      simp
      constructor
      · rintro ⟨rfl, rfl⟩; exact ⟨rfl, rfl⟩
      · rintro ⟨rfl, rfl⟩; exact ⟨rfl, rfl⟩
    | cons c r => simp
  | c :: r, ln, cur, R, C, R', C', h => by
    rw [rlGo, lnsGo]
    by_cases hc : c = 10
    · subst hc
      have : (ln == 1) = false := by simp; omega
      simp only [beq_self_eq_true, if_true, this, Bool.false_eq_true, if_false]
      rw [mapM_cons']
      have hrt : rtL (cur ++ [10]) = sRoute cur := by unfold rtL; rw [List.dropLast_concat]
      rw [hrt]
      cases hs : sRoute cur with
      | none => simp
      | some x =>
        simp only
        rw [rl2 r (ln + 1) [] R (C ++ [x]) R' C' (by omega)]
        simp only [List.flatten_cons, List.append_assoc, List.nil_append, List.append_cancel_left_eq]
        constructor
        · rintro ⟨h1, h2, Cs, h3, h4⟩
          refine ⟨h1, by rw [h2]; rfl, x :: Cs, by rw [h3], by rw [h4]; rfl⟩
        · rintro ⟨h1, h2, Cs, h3, h4⟩
          refine ⟨h1, by simpa using h2, ?_⟩
          cases hm : (lnsGo r []).mapM rtL with
          | none => rw [hm] at h3; cases h3
          | some Ds => rw [hm] at h3; cases h3; exact ⟨Ds, rfl, h4⟩
    · have hc' : (c == 10) = false := by simpa using hc
      rw [hc']
      simp only [Bool.false_eq_true, if_false]
      rw [rl2 r ln (cur ++ [c]) R C R' C' h]
      simp
theorem rl1 : ∀ (t cur : List UInt8) (R : List (List UInt8)) (C : List CR) (R' : List (List UInt8)) (C' : List CR),
    (rlGo t 1 cur R C = .ok (R', C') ↔ (lnsGo t cur).flatten = cur ++ t ∧ ∃ l0 ls Cs, lnsGo t cur = l0 :: ls ∧ sRecvs l0.dropLast = some R' ∧ ls.mapM rtL = some Cs ∧ C' = C ++ Cs)
  | [], cur, R, C, R', C' => by
    rw [rlGo, lnsGo]
    simp
  | c :: r, cur, R, C, R', C' => by
    rw [rlGo, lnsGo]
    by_cases hc : c = 10
    · subst hc
      simp only [beq_self_eq_true, if_true]
      constructor
      · intro h
        cases hs : sRecvs cur with
        | none => rw [hs] at h; cases h
        | some R1 =>
          rw [hs] at h
          obtain ⟨h1, h2, Cs, h3, h4⟩ := (rl2 r 2 [] R1 C R' C' (by omega)).1 h
          refine ⟨by simp [h2], cur ++ [10], lnsGo r [], Cs, rfl, by rw [List.dropLast_concat, hs, h1], h3, h4⟩
      · rintro ⟨h1, l0, ls, Cs, h2, h3, h4, h5⟩
        cases h2
        rw [List.dropLast_concat] at h3
        rw [h3]
        exact (rl2 r 2 [] R' C R' C' (by omega)).2 ⟨rfl, by simpa using h1, Cs, h4, h5⟩
    · have hc' : (c == 10) = false := by simpa using hc
      rw [hc']
      simp only [Bool.false_eq_true, if_false]
      rw [rl1 r (cur ++ [c]) R C R' C']
      simp
theorem cRead1_lines (t : List UInt8) (L : List (List UInt8)) (C : List CR) : cRead1 t = .ok (L, C) ↔ (lnsK t).flatten = t ∧ ∃ l0 ls, lnsK t = l0 :: ls ∧ sRecvs l0.dropLast = some L ∧ ls.mapM rtL = some C := by
  unfold cRead1 lnsK
  rw [rl1]
  simp only [List.nil_append]
  constructor
  · rintro ⟨h1, l0, ls, Cs, h2, h3, h4, rfl⟩; exact ⟨h1, l0, ls, h2, h3, h4⟩
  · rintro ⟨h1, l0, ls, h2, h3, h4⟩; exact ⟨h1, l0, ls, C, h2, h3, h4, rfl⟩
theorem nameGo_ok {L : List (List UInt8)} : ∀ (C : List CR) (i : Nat), nameGo L C i = 0 → ∀ c ∈ C, c.rc = [45] ∨ c.rc ∈ L
  | [], i, _, c, h => by simp at h
  | x :: r, i, h, c, hc => by
    rw [nameGo] at h
    split at h
    · cases h
    · rename_i h1
      rcases List.mem_cons.1 hc with rfl | hc
      · by_cases e : c.rc = [45]
        · exact .inl e
        · right
          have e' : (c.rc == [45]) = false := by simpa using e
          rw [e'] at h1
          simpa using h1
      · exact nameGo_ok r (i + 1) h c hc
theorem cRead_names {t : List UInt8} {L : List (List UInt8)} {C : List CR} (h : cRead t = .ok (L, C)) : nameF L C = 0 := by
  unfold cRead at h
  split at h
  · cases h
  · split at h
    · cases h
    · split at h
      · cases h
      · split at h
        · cases h
        · rename_i h1
          cases h
          omega
theorem sBy_asc (l : List UInt8) : Asc (sBy l).names := by
  unfold sBy
  split
  · dsimp only
    split
    · exact List.Pairwise.nil
    · exact rise_asc _ [] List.Pairwise.nil
  · exact List.Pairwise.nil
theorem rtL_asc {l : List UInt8} {c : CR} (h : rtL l = some c) : Asc c.bys := by
  obtain ⟨_, _, _, _, _, _, rfl⟩ := sRoute_some _ _ h
  exact sBy_asc _
theorem mapM_mem {α β : Type} (f : α → Option β) : ∀ (l : List α) (m : List β), l.mapM f = some m → ∀ b ∈ m, ∃ a ∈ l, f a = some b
  | [], m, h, b, hb => by simp at h; subst h; simp at hb
  | a :: l, m, h, b, hb => by
    rw [mapM_cons'] at h
    split at h
    · cases h
    · rename_i x hx
      split at h
      · cases h
      · rename_i bs hbs
        cases h
        rcases List.mem_cons.1 hb with rfl | hb
        · exact ⟨a, by simp, hx⟩
        · obtain ⟨y, hy, hf⟩ := mapM_mem f l bs hbs b hb
          exact ⟨y, by simp [hy], hf⟩
structure HitG (L : List (List UInt8)) (h : HitM) : Prop where
  rc : h.rc ∈ L
  bl : Asc h.bl
theorem hitsN_g {L : List (List UInt8)} {C : List CR} (hs : Steps C) (hn : ∀ c ∈ C, c.rc = [45] ∨ c.rc ∈ L) (ha : ∀ c ∈ C, Asc c.bys) : ∀ i, i ≤ C.length → ∀ h ∈ hitsN C i, HitG L h
  | 0, _ => by simp [hitsN]
  | i + 1, hi => by
    intro h hh
    rw [hitsN] at hh
    have ih := hitsN_g hs hn ha i (by omega)
    rcases List.mem_append.1 hh with e | e
    · exact ih h e
    · rw [List.getElem?_eq_getElem (by omega)] at e
      have e := List.mem_singleton.1 e
      subst e
      have hc := hn C[i] (List.getElem_mem _)
      have hb := ha C[i] (List.getElem_mem _)
      have key : ∀ ab : HitM, (C[i].rc = [45] → ab.rc ∈ L) → Asc ab.bl → HitG L (hitB ab C[i]) := by
        intro ab h1 h2
        refine ⟨?_, ?_⟩
        · show (if C[i].rc == [45] then ab.rc else C[i].rc) ∈ L
          by_cases e : C[i].rc = [45]
          · rw [if_pos (by simp [e])]; exact h1 e
          · rw [if_neg (by simp [e])]; exact hc.resolve_left e
        · show Asc (if C[i].tb then C[i].bys else ab.bl)
          split
          · exact hb
          · exact h2
      cases i with
      | zero =>
        have h0 := (hs.1 C[0] (List.getElem?_eq_getElem (by omega))).2
        refine key _ (fun e => absurd e h0) ?_
        unfold aboveH
        have : par C 0 = none := by
          cases hp : par C 0 with
          | none => rfl
          | some p => exact absurd (par_lt hp) (by omega)
        rw [this]
        exact List.Pairwise.nil
      | succ i =>
        obtain ⟨p, hp⟩ := par_of hs i (by omega)
        have hpl := par_lt hp
        have hm : aboveH C (hitsN C (i + 1)) (i + 1) ∈ hitsN C (i + 1) := by
          unfold aboveH
          rw [hp]
          simp only
          rw [List.getD_eq_getElem?_getD, List.getElem?_eq_getElem (by rw [hitsN_len]; exact hpl)]
          exact List.getElem_mem _
        have ho := ih _ hm
        exact key _ (fun _ => ho.rc) ho.bl
end Go.Proofs.YtndalncdkgbnoaaGreat

namespace Go.Proofs.YtndalncdkgbnoaaGreat
open Go.RowKit

/-! What a route sends: some, each once. -/
theorem walkH_ne {H : Nat → Bool} {C : List CR} {S : Nat → List Nat} : ∀ K : List Nat, K.any H = true → (∀ c ∈ K, S c ≠ []) → walkH H C S K ≠ []
  | [], h, _ => by simp at h
  | c :: r, h, hS => by
    rw [walkH]
    cases hc : H c
    · simp only [Bool.false_eq_true, if_false]
      exact walkH_ne r (by simpa [hc] using h) (fun x hx => hS x (by simp [hx]))
    · simp only [if_true]
      intro e
      exact hS c (by simp) (List.append_eq_nil_iff.1 e).1
inductive Below' (C : List CR) (r : Nat) : Nat → Prop
  | self : Below' C r r
  | step {j p : Nat} : par C j = some p → Below' C r p → Below' C r j
theorem Below'.ge {C : List CR} {r j : Nat} (h : Below' C r j) : r ≤ j := by
  induction h with
  | self => exact Nat.le_refl _
  | step hp _ ih => have := par_lt hp; omega
theorem Below'.up {C : List CR} {c r j : Nat} (hc : par C c = some r) (h : Below' C c j) : Below' C r j := by
  induction h with
  | self => exact .step hc .self
  | step hp _ ih => exact .step hp ih
theorem Below'.one {C : List CR} {r a b j : Nat} (ha : par C a = some r) (hb : par C b = some r) (h1 : Below' C a j) (h2 : Below' C b j) : a = b := by
  induction h1 with
  | self =>
    cases h2 with
    | self => rfl
    | step hp h3 =>
      rw [ha] at hp
      cases hp
      have h4 := h3.ge
      have h5 := par_lt hb
      omega
  | step hp h3 ih =>
    cases h2 with
    | self =>
      rw [hb] at hp
      cases hp
      have h4 := h3.ge
      have h5 := par_lt ha
      omega
    | step hp2 h4 =>
      rw [hp] at hp2
      cases hp2
      exact ih h4
theorem walkH_mem {H : Nat → Bool} {C : List CR} {S : Nat → List Nat} : ∀ K : List Nat, ∀ x ∈ walkH H C S K, ∃ c ∈ K, x ∈ S c
  | [], x, h => by simp [walkH] at h
  | c :: r, x, h => by
    rw [walkH] at h
    split at h
    · rcases List.mem_append.1 h with h | h
      · exact ⟨c, by simp, h⟩
      · split at h
        · obtain ⟨d, hd, hx⟩ := walkH_mem r x h
          exact ⟨d, by simp [hd], hx⟩
        · simp at h
    · obtain ⟨d, hd, hx⟩ := walkH_mem r x h
      exact ⟨d, by simp [hd], hx⟩
theorem walkH_nodup {H : Nat → Bool} {C : List CR} {S : Nat → List Nat} : ∀ K : List Nat, K.Nodup → (∀ c ∈ K, (S c).Nodup) → (∀ c ∈ K, ∀ d ∈ K, ∀ x, x ∈ S c → x ∈ S d → c = d) → (walkH H C S K).Nodup
  | [], _, _, _ => by simp [walkH]
  | c :: r, hK, hS, hD => by
    have hr := walkH_nodup (H := H) (C := C) r (List.nodup_cons.1 hK).2 (fun d hd => hS d (by simp [hd])) (fun a ha b hb => hD a (by simp [ha]) b (by simp [hb]))
    rw [walkH]
    split
    · rw [List.nodup_append]
      refine ⟨hS c (by simp), ?_, ?_⟩
      · split
        · exact hr
        · exact List.nodup_nil
      · intro x hx y hy e
        subst e
        split at hy
        · obtain ⟨d, hd, hxd⟩ := walkH_mem r x hy
          have := hD c (by simp) d (by simp [hd]) x hx hxd
          subst this
          exact (List.nodup_cons.1 hK).1 hd
        · simp at hy
    · exact hr
theorem sentH_below {H : Nat → Bool} {C : List CR} : ∀ f r, r < C.length → (∀ x ∈ sentH H C f r, Below' C r x ∧ x < C.length) ∧ (sentH H C f r).Nodup
  | 0, r, _ => ⟨by simp [sentH], by simp [sentH]⟩
  | f + 1, r, hr => by
    rw [sentH]
    split
    · have hk : ∀ c ∈ kids C r, (∀ x ∈ sentH H C f c, Below' C c x ∧ x < C.length) ∧ (sentH H C f c).Nodup := fun c hc => sentH_below f c (mem_kids' hc).1
      refine ⟨fun x hx => ?_, walkH_nodup _ (kids_nodup C r) (fun c hc => (hk c hc).2) (fun c hc d hd x hx hy => ?_)⟩
      · obtain ⟨c, hc, hxc⟩ := walkH_mem _ x hx
        have := (hk c hc).1 x hxc
        exact ⟨this.1.up (mem_kids' hc).2, this.2⟩
      · exact Below'.one (mem_kids' hc).2 (mem_kids' hd).2 ((hk c hc).1 x hx).1 ((hk d hd).1 x hy).1
    · exact ⟨fun x hx => by rw [List.mem_singleton.1 hx]; exact ⟨.self, hr⟩, by simp⟩
theorem kid_depth {C : List CR} {r c : Nat} (h : c ∈ kids C r) {x y : CR} (hx : C[r]? = some x) (hy : C[c]? = some y) : y.d = x.d + 1 := by
  have hp := (mem_kids' h).2
  unfold par at hp
  rw [hy] at hp
  have go : ∀ (d i p : Nat), parGo C d i = some p → (C[p]?.map fun c => c.d + 1) = some d := by
    intro d i
    induction i with
    | zero => intro p h; simp [parGo] at h
    | succ i ih =>
      intro p h
      rw [parGo] at h
      split at h
      · rename_i h1; cases h; exact h1
      · exact ih p h
  have := go _ _ _ hp
  rw [hx] at this
  simp at this
  omega
theorem sentH_some {H : Nat → Bool} {C : List CR} (hd : ∀ c ∈ C, c.d ≤ 5) : ∀ f r x, C[r]? = some x → 6 ≤ f + x.d → sentH H C f r ≠ []
  | 0, r, x, hx, h => by
    have := hd x (List.mem_of_getElem? hx)
    omega
  | f + 1, r, x, hx, h => by
    rw [sentH]
    split
    · rename_i ha
      refine walkH_ne _ ha (fun c hc => ?_)
      have hcl := (mem_kids' hc).1
      have := kid_depth hc hx (List.getElem?_eq_getElem hcl)
      exact sentH_some hd f c C[c] (List.getElem?_eq_getElem hcl) (by omega)
    · simp
theorem sentH_len {H : Nat → Bool} {C : List CR} (f r : Nat) (hr : r < C.length) : (sentH H C f r).length ≤ C.length := by
  obtain ⟨h1, h2⟩ := sentH_below (H := H) f r hr
  exact nodup_le _ _ h2 (fun x hx => (h1 x hx).2)
end Go.Proofs.YtndalncdkgbnoaaGreat

namespace Go.Proofs.YtndalncdkgbnoaaGreat
open Go.RowKit

theorem hitsC_good {t : List UInt8} {L : List (List UInt8)} {C : List CR} (ht : t.length ≤ 1048576) (h : cRead t = .ok (L, C)) (V : List UInt8 → List UInt8) : hitsC C V ≠ [] ∧ (hitsC C V).length ≤ C.length ∧ ∀ x ∈ hitsC C V, HitG L x ∧ HitOK x := by
  obtain ⟨h1, h2, h3, h4⟩ := cRead_tree h
  have hg := (cRead1_good t L C ht h1).2.2
  have hst := cRead_steps h
  have hnm := cRead_names h
  obtain ⟨_, l0, ls, e1, e2, e3⟩ := (cRead1_lines t L C).1 h1
  have hn : ∀ c ∈ C, c.rc = [45] ∨ c.rc ∈ L := by
    unfold nameF at hnm
    split at hnm
    · cases hnm
    · exact nameGo_ok C 0 hnm
  have ha : ∀ c ∈ C, Asc c.bys := fun c hc => by
    obtain ⟨a, _, ha⟩ := mapM_mem rtL ls C e3 c hc
    exact rtL_asc ha
  refine ⟨?_, ?_, ?_⟩
  · intro e
    exact sentH_some h4 6 0 C[0] (List.getElem?_eq_getElem h2) (by omega) (List.map_eq_nil_iff.1 e)
  · unfold hitsC
    rw [List.length_map]
    exact sentH_len 6 0 h2
  · intro x hx
    obtain ⟨i, hi, rfl⟩ := List.mem_map.1 hx
    have hil := ((sentH_below (H := hold autC V C) 6 0 h2).1 i hi).2
    have hm : (hitsN C C.length).getD i ⟨[], [], 0, 0, 0⟩ ∈ hitsN C C.length := by
      rw [List.getD_eq_getElem?_getD, List.getElem?_eq_getElem (by rw [hitsN_len]; exact hil)]
      exact List.getElem_mem _
    exact ⟨hitsN_g hst hn ha C.length (Nat.le_refl _) _ hm, hitsN_ok hst hg C.length (Nat.le_refl _) _ hm⟩
end Go.Proofs.YtndalncdkgbnoaaGreat

namespace Go.Proofs.YtndalncdkgbnoaaGreat
open Go.RowKit

def ftD : List (List UInt8 × Nat × Nat) := [
  ([], 2, 1),
  ([114, 101, 99, 101, 105, 118, 101, 114, 115, 32, 97, 10], 3, 2),
  ([114, 101, 99, 101, 105, 118, 101, 114, 115, 32, 97, 10, 114, 111, 117, 116, 101, 32, 97], 2, 2),
  ([114, 101, 99, 101, 105, 118, 101, 114, 115, 10, 114, 111, 117, 116, 101, 32, 97, 10], 2, 1),
  ([114, 101, 99, 101, 105, 118, 101, 114, 115, 32, 97, 32, 57, 10, 114, 111, 117, 116, 101, 32, 97, 10], 2, 1),
  ([114, 101, 99, 101, 105, 118, 101, 114, 115, 32, 97, 32, 97, 10, 114, 111, 117, 116, 101, 32, 97, 10], 4, 1),
  ([114, 101, 99, 101, 105, 118, 101, 114, 115, 32, 97, 10, 114, 111, 117, 116, 101, 32, 98, 10], 4, 2),
  ([114, 101, 99, 101, 105, 118, 101, 114, 115, 32, 97, 10, 32, 114, 111, 117, 116, 101, 32, 97, 10], 3, 2),
  ([114, 101, 99, 101, 105, 118, 101, 114, 115, 32, 97, 10, 114, 111, 117, 116, 101, 32, 45, 10], 3, 2),
  ([114, 101, 99, 101, 105, 118, 101, 114, 115, 32, 97, 10, 114, 111, 117, 116, 101, 32, 97, 32, 99, 111, 110, 116, 105, 110, 117, 101, 10], 3, 2),
  ([114, 101, 99, 101, 105, 118, 101, 114, 115, 32, 97, 32, 98, 10, 114, 111, 117, 116, 101, 32, 97, 10, 114, 111, 117, 116, 101, 32, 98, 10], 3, 3),
  ([114, 101, 99, 101, 105, 118, 101, 114, 115, 32, 97, 32, 98, 10, 114, 111, 117, 116, 101, 32, 97, 10, 32, 32, 114, 111, 117, 116, 101, 32, 98, 10], 3, 3),
  ([114, 101, 99, 101, 105, 118, 101, 114, 115, 32, 97, 32, 98, 10, 114, 111, 117, 116, 101, 32, 97, 10, 32, 114, 111, 117, 116, 101, 32, 98, 32, 32, 99, 111, 110, 116, 105, 110, 117, 101, 10], 2, 3),
  ([114, 101, 99, 101, 105, 118, 101, 114, 115, 32, 97, 32, 98, 10, 114, 111, 117, 116, 101, 32, 97, 10, 32, 114, 111, 117, 116, 101, 32, 98, 32, 105, 102, 32, 120, 61, 49, 10], 2, 3),
  ([114, 101, 99, 101, 105, 118, 101, 114, 115, 32, 97, 32, 98, 10, 114, 111, 117, 116, 101, 32, 97, 10, 32, 114, 111, 117, 116, 101, 32, 98, 32, 105, 102, 32, 120, 61, 34, 92, 120, 49, 34, 10], 2, 3),
  ([114, 101, 99, 101, 105, 118, 101, 114, 115, 32, 97, 32, 98, 10, 114, 111, 117, 116, 101, 32, 97, 10, 32, 114, 111, 117, 116, 101, 32, 98, 32, 119, 97, 105, 116, 32, 49, 48, 48, 48, 48, 48, 10], 2, 3),
  ([114, 101, 99, 101, 105, 118, 101, 114, 115, 32, 97, 32, 98, 10, 114, 111, 117, 116, 101, 32, 97, 10, 32, 114, 111, 117, 116, 101, 32, 98, 32, 119, 97, 105, 116, 32, 48, 49, 10], 2, 3),
  ([114, 101, 99, 101, 105, 118, 101, 114, 115, 32, 97, 32, 98, 10, 114, 111, 117, 116, 101, 32, 97, 10, 32, 114, 111, 117, 116, 101, 32, 98, 32, 101, 118, 101, 114, 121, 32, 49, 32, 119, 97, 105, 116, 32, 49, 10], 2, 3),
  ([114, 101, 99, 101, 105, 118, 101, 114, 115, 32, 97, 32, 98, 10, 114, 111, 117, 116, 101, 32, 97, 10, 32, 114, 111, 117, 116, 101, 32, 98, 32, 98, 121, 10], 2, 3),
  ([114, 101, 99, 101, 105, 118, 101, 114, 115, 32, 97, 32, 98, 10, 114, 111, 117, 116, 101, 32, 97, 10, 32, 114, 111, 117, 116, 101, 32, 99, 10, 32, 114, 111, 117, 116, 101, 32, 98, 32, 105, 102, 32, 120, 61, 126, 34, 40, 34, 10], 4, 3),
  ([114, 101, 99, 101, 105, 118, 101, 114, 115, 32, 97, 32, 98, 10, 114, 111, 117, 116, 101, 32, 97, 10, 32, 114, 111, 117, 116, 101, 32, 98, 32, 105, 102, 32, 120, 61, 126, 34, 40, 34, 10], 5, 3),
  ([114, 101, 99, 101, 105, 118, 101, 114, 115, 32, 97, 32, 98, 10, 114, 111, 117, 116, 101, 32, 97, 10, 32, 114, 111, 117, 116, 101, 32, 98, 32, 105, 102, 32, 120, 61, 126, 34, 97, 123, 50, 44, 49, 125, 34, 10], 5, 3),
  ([114, 101, 99, 101, 105, 118, 101, 114, 115, 32, 97, 32, 98, 10, 114, 111, 117, 116, 101, 32, 97, 10, 32, 114, 111, 117, 116, 101, 32, 98, 32, 105, 102, 32, 120, 61, 126, 34, 42, 34, 10], 5, 3),
  ([114, 101, 99, 101, 105, 118, 101, 114, 115, 32, 97, 32, 98, 10, 114, 111, 117, 116, 101, 32, 97, 10, 32, 114, 111, 117, 116, 101, 32, 98, 32, 105, 102, 32, 120, 61, 126, 34, 91, 98, 45, 97, 93, 34, 10], 5, 3),
  ([114, 101, 99, 101, 105, 118, 101, 114, 115, 32, 97, 32, 98, 10, 114, 111, 117, 116, 101, 32, 97, 10, 32, 114, 111, 117, 116, 101, 32, 98, 32, 105, 102, 32, 120, 61, 126, 34, 91, 93, 34, 10], 5, 3),
  ([114, 101, 99, 101, 105, 118, 101, 114, 115, 32, 97, 32, 98, 10, 114, 111, 117, 116, 101, 32, 97, 10, 32, 114, 111, 117, 116, 101, 32, 98, 32, 105, 102, 32, 120, 61, 126, 34, 40, 40, 40, 40, 40, 40, 97, 41, 41, 41, 41, 41, 41, 34, 10], 5, 3),
  ([114, 101, 99, 101, 105, 118, 101, 114, 115, 32, 97, 32, 98, 10, 114, 111, 117, 116, 101, 32, 97, 10, 32, 114, 111, 117, 116, 101, 32, 98, 32, 105, 102, 32, 120, 61, 126, 34, 40, 97, 123, 57, 125, 41, 123, 53, 125, 34, 10], 6, 3),
  ([114, 101, 99, 101, 105, 118, 101, 114, 115, 32, 97, 32, 98, 10, 114, 111, 117, 116, 101, 32, 97, 10, 32, 114, 111, 117, 116, 101, 32, 98, 32, 105, 102, 32, 120, 61, 126, 34, 40, 97, 123, 57, 125, 41, 123, 53, 125, 123, 48, 125, 34, 10], 6, 3),
  ([114, 101, 99, 101, 105, 118, 101, 114, 115, 32, 97, 32, 98, 10, 114, 111, 117, 116, 101, 32, 97, 10, 32, 114, 111, 117, 116, 101, 32, 98, 32, 105, 102, 32, 120, 61, 126, 34, 40, 97, 124, 98, 41, 42, 97, 40, 97, 124, 98, 41, 40, 97, 124, 98, 41, 40, 97, 124, 98, 41, 40, 97, 124, 98, 41, 40, 97, 124, 98, 41, 34, 10], 7, 3),
  ([114, 101, 99, 101, 105, 118, 101, 114, 115, 32, 97, 32, 98, 10, 114, 111, 117, 116, 101, 32, 97, 10, 32, 114, 111, 117, 116, 101, 32, 98, 32, 105, 102, 32, 120, 61, 126, 34, 40, 97, 124, 98, 41, 42, 97, 40, 97, 124, 98, 41, 40, 97, 124, 98, 41, 34, 10], 0, 0),
  ([114, 101, 99, 101, 105, 118, 101, 114, 115, 32, 97, 32, 98, 10, 114, 111, 117, 116, 101, 32, 97, 10, 32, 114, 111, 117, 116, 101, 32, 98, 32, 105, 102, 32, 120, 61, 126, 34, 40, 40, 40, 40, 40, 97, 41, 41, 41, 41, 41, 34, 10], 0, 0),
  ([114, 101, 99, 101, 105, 118, 101, 114, 115, 32, 97, 32, 98, 10, 114, 111, 117, 116, 101, 32, 97, 10, 32, 114, 111, 117, 116, 101, 32, 98, 32, 105, 102, 32, 120, 61, 126, 34, 97, 123, 57, 125, 123, 52, 125, 34, 10], 0, 0)]
def ftC : Array Value := #[.string (bs []), .int .i64 2, .int .i64 1, .string (bs [114, 101, 99, 101, 105, 118, 101, 114, 115, 32, 97, 10]), .int .i64 3, .int .i64 2, .string (bs [114, 101, 99, 101, 105, 118, 101, 114, 115, 32, 97, 10, 114, 111, 117, 116, 101, 32, 97]), .int .i64 2, .int .i64 2, .string (bs [114, 101, 99, 101, 105, 118, 101, 114, 115, 10, 114, 111, 117, 116, 101, 32, 97, 10]), .int .i64 2, .int .i64 1, .string (bs [114, 101, 99, 101, 105, 118, 101, 114, 115, 32, 97, 32, 57, 10, 114, 111, 117, 116, 101, 32, 97, 10]), .int .i64 2, .int .i64 1, .string (bs [114, 101, 99, 101, 105, 118, 101, 114, 115, 32, 97, 32, 97, 10, 114, 111, 117, 116, 101, 32, 97, 10]), .int .i64 4, .int .i64 1, .string (bs [114, 101, 99, 101, 105, 118, 101, 114, 115, 32, 97, 10, 114, 111, 117, 116, 101, 32, 98, 10]), .int .i64 4, .int .i64 2, .string (bs [114, 101, 99, 101, 105, 118, 101, 114, 115, 32, 97, 10, 32, 114, 111, 117, 116, 101, 32, 97, 10]), .int .i64 3, .int .i64 2, .string (bs [114, 101, 99, 101, 105, 118, 101, 114, 115, 32, 97, 10, 114, 111, 117, 116, 101, 32, 45, 10]), .int .i64 3, .int .i64 2, .string (bs [114, 101, 99, 101, 105, 118, 101, 114, 115, 32, 97, 10, 114, 111, 117, 116, 101, 32, 97, 32, 99, 111, 110, 116, 105, 110, 117, 101, 10]), .int .i64 3, .int .i64 2, .string (bs [114, 101, 99, 101, 105, 118, 101, 114, 115, 32, 97, 32, 98, 10, 114, 111, 117, 116, 101, 32, 97, 10, 114, 111, 117, 116, 101, 32, 98, 10]), .int .i64 3, .int .i64 3, .string (bs [114, 101, 99, 101, 105, 118, 101, 114, 115, 32, 97, 32, 98, 10, 114, 111, 117, 116, 101, 32, 97, 10, 32, 32, 114, 111, 117, 116, 101, 32, 98, 10]), .int .i64 3, .int .i64 3, .string (bs [114, 101, 99, 101, 105, 118, 101, 114, 115, 32, 97, 32, 98, 10, 114, 111, 117, 116, 101, 32, 97, 10, 32, 114, 111, 117, 116, 101, 32, 98, 32, 32, 99, 111, 110, 116, 105, 110, 117, 101, 10]), .int .i64 2, .int .i64 3, .string (bs [114, 101, 99, 101, 105, 118, 101, 114, 115, 32, 97, 32, 98, 10, 114, 111, 117, 116, 101, 32, 97, 10, 32, 114, 111, 117, 116, 101, 32, 98, 32, 105, 102, 32, 120, 61, 49, 10]), .int .i64 2, .int .i64 3, .string (bs [114, 101, 99, 101, 105, 118, 101, 114, 115, 32, 97, 32, 98, 10, 114, 111, 117, 116, 101, 32, 97, 10, 32, 114, 111, 117, 116, 101, 32, 98, 32, 105, 102, 32, 120, 61, 34, 92, 120, 49, 34, 10]), .int .i64 2, .int .i64 3, .string (bs [114, 101, 99, 101, 105, 118, 101, 114, 115, 32, 97, 32, 98, 10, 114, 111, 117, 116, 101, 32, 97, 10, 32, 114, 111, 117, 116, 101, 32, 98, 32, 119, 97, 105, 116, 32, 49, 48, 48, 48, 48, 48, 10]), .int .i64 2, .int .i64 3, .string (bs [114, 101, 99, 101, 105, 118, 101, 114, 115, 32, 97, 32, 98, 10, 114, 111, 117, 116, 101, 32, 97, 10, 32, 114, 111, 117, 116, 101, 32, 98, 32, 119, 97, 105, 116, 32, 48, 49, 10]), .int .i64 2, .int .i64 3, .string (bs [114, 101, 99, 101, 105, 118, 101, 114, 115, 32, 97, 32, 98, 10, 114, 111, 117, 116, 101, 32, 97, 10, 32, 114, 111, 117, 116, 101, 32, 98, 32, 101, 118, 101, 114, 121, 32, 49, 32, 119, 97, 105, 116, 32, 49, 10]), .int .i64 2, .int .i64 3, .string (bs [114, 101, 99, 101, 105, 118, 101, 114, 115, 32, 97, 32, 98, 10, 114, 111, 117, 116, 101, 32, 97, 10, 32, 114, 111, 117, 116, 101, 32, 98, 32, 98, 121, 10]), .int .i64 2, .int .i64 3, .string (bs [114, 101, 99, 101, 105, 118, 101, 114, 115, 32, 97, 32, 98, 10, 114, 111, 117, 116, 101, 32, 97, 10, 32, 114, 111, 117, 116, 101, 32, 99, 10, 32, 114, 111, 117, 116, 101, 32, 98, 32, 105, 102, 32, 120, 61, 126, 34, 40, 34, 10]), .int .i64 4, .int .i64 3, .string (bs [114, 101, 99, 101, 105, 118, 101, 114, 115, 32, 97, 32, 98, 10, 114, 111, 117, 116, 101, 32, 97, 10, 32, 114, 111, 117, 116, 101, 32, 98, 32, 105, 102, 32, 120, 61, 126, 34, 40, 34, 10]), .int .i64 5, .int .i64 3, .string (bs [114, 101, 99, 101, 105, 118, 101, 114, 115, 32, 97, 32, 98, 10, 114, 111, 117, 116, 101, 32, 97, 10, 32, 114, 111, 117, 116, 101, 32, 98, 32, 105, 102, 32, 120, 61, 126, 34, 97, 123, 50, 44, 49, 125, 34, 10]), .int .i64 5, .int .i64 3, .string (bs [114, 101, 99, 101, 105, 118, 101, 114, 115, 32, 97, 32, 98, 10, 114, 111, 117, 116, 101, 32, 97, 10, 32, 114, 111, 117, 116, 101, 32, 98, 32, 105, 102, 32, 120, 61, 126, 34, 42, 34, 10]), .int .i64 5, .int .i64 3, .string (bs [114, 101, 99, 101, 105, 118, 101, 114, 115, 32, 97, 32, 98, 10, 114, 111, 117, 116, 101, 32, 97, 10, 32, 114, 111, 117, 116, 101, 32, 98, 32, 105, 102, 32, 120, 61, 126, 34, 91, 98, 45, 97, 93, 34, 10]), .int .i64 5, .int .i64 3, .string (bs [114, 101, 99, 101, 105, 118, 101, 114, 115, 32, 97, 32, 98, 10, 114, 111, 117, 116, 101, 32, 97, 10, 32, 114, 111, 117, 116, 101, 32, 98, 32, 105, 102, 32, 120, 61, 126, 34, 91, 93, 34, 10]), .int .i64 5, .int .i64 3, .string (bs [114, 101, 99, 101, 105, 118, 101, 114, 115, 32, 97, 32, 98, 10, 114, 111, 117, 116, 101, 32, 97, 10, 32, 114, 111, 117, 116, 101, 32, 98, 32, 105, 102, 32, 120, 61, 126, 34, 40, 40, 40, 40, 40, 40, 97, 41, 41, 41, 41, 41, 41, 34, 10]), .int .i64 5, .int .i64 3, .string (bs [114, 101, 99, 101, 105, 118, 101, 114, 115, 32, 97, 32, 98, 10, 114, 111, 117, 116, 101, 32, 97, 10, 32, 114, 111, 117, 116, 101, 32, 98, 32, 105, 102, 32, 120, 61, 126, 34, 40, 97, 123, 57, 125, 41, 123, 53, 125, 34, 10]), .int .i64 6, .int .i64 3, .string (bs [114, 101, 99, 101, 105, 118, 101, 114, 115, 32, 97, 32, 98, 10, 114, 111, 117, 116, 101, 32, 97, 10, 32, 114, 111, 117, 116, 101, 32, 98, 32, 105, 102, 32, 120, 61, 126, 34, 40, 97, 123, 57, 125, 41, 123, 53, 125, 123, 48, 125, 34, 10]), .int .i64 6, .int .i64 3, .string (bs [114, 101, 99, 101, 105, 118, 101, 114, 115, 32, 97, 32, 98, 10, 114, 111, 117, 116, 101, 32, 97, 10, 32, 114, 111, 117, 116, 101, 32, 98, 32, 105, 102, 32, 120, 61, 126, 34, 40, 97, 124, 98, 41, 42, 97, 40, 97, 124, 98, 41, 40, 97, 124, 98, 41, 40, 97, 124, 98, 41, 40, 97, 124, 98, 41, 40, 97, 124, 98, 41, 34, 10]), .int .i64 7, .int .i64 3, .string (bs [114, 101, 99, 101, 105, 118, 101, 114, 115, 32, 97, 32, 98, 10, 114, 111, 117, 116, 101, 32, 97, 10, 32, 114, 111, 117, 116, 101, 32, 98, 32, 105, 102, 32, 120, 61, 126, 34, 40, 97, 124, 98, 41, 42, 97, 40, 97, 124, 98, 41, 40, 97, 124, 98, 41, 34, 10]), .int .i64 0, .int .i64 0, .string (bs [114, 101, 99, 101, 105, 118, 101, 114, 115, 32, 97, 32, 98, 10, 114, 111, 117, 116, 101, 32, 97, 10, 32, 114, 111, 117, 116, 101, 32, 98, 32, 105, 102, 32, 120, 61, 126, 34, 40, 40, 40, 40, 40, 97, 41, 41, 41, 41, 41, 34, 10]), .int .i64 0, .int .i64 0, .string (bs [114, 101, 99, 101, 105, 118, 101, 114, 115, 32, 97, 32, 98, 10, 114, 111, 117, 116, 101, 32, 97, 10, 32, 114, 111, 117, 116, 101, 32, 98, 32, 105, 102, 32, 120, 61, 126, 34, 97, 123, 57, 125, 123, 52, 125, 34, 10]), .int .i64 0, .int .i64 0]
set_option maxRecDepth 100000 in
theorem ftC_eq : ftC.toList = ftD.flatMap fun x => [.string (bs x.1), .int .i64 (x.2.1 : Nat), .int .i64 (x.2.2 : Nat)] := rfl

set_option maxRecDepth 100000 in
set_option maxHeartbeats 8000000 in
theorem faults_raw (w : World) :
    Calls Tryz.prog 6 #[] w fun e w' => w' = w.alloc (Obj.cells ftC 40) ∧ e = .returned (.slice (some ⟨w.heap.size, 0, none⟩) 32 32) := by
  go_enter Tryz.func6, Tryz.ntmps6
  go_wp2
  go_ret
  exact ⟨rfl, rfl⟩
theorem flat3 (x : Nat) : ∀ (L : List (List UInt8 × Nat × Nat)) (k : Nat) (y : List UInt8 × Nat × Nat), L[k]? = some y → (L.flatMap fun x => [Value.string (bs x.1), .int .i64 (x.2.1 : Nat), .int .i64 (x.2.2 : Nat)])[k * 3]? = some (.string (bs y.1)) ∧ (L.flatMap fun x => [Value.string (bs x.1), .int .i64 (x.2.1 : Nat), .int .i64 (x.2.2 : Nat)])[k * 3 + 1]? = some (.int .i64 (y.2.1 : Nat)) ∧ (L.flatMap fun x => [Value.string (bs x.1), .int .i64 (x.2.1 : Nat), .int .i64 (x.2.2 : Nat)])[k * 3 + 2]? = some (.int .i64 (y.2.2 : Nat))
  | [], k, y, h => by simp at h
  | a :: L, 0, y, h => by simp at h; subst h; exact ⟨rfl, rfl, rfl⟩
  | a :: L, k + 1, y, h => by
    have := flat3 x L k y (by simpa using h)
    rw [show (k + 1) * 3 = k * 3 + 1 + 1 + 1 by omega]
    simpa using this
def FTD (w : World) (g : Nat) : Prop := g < w.heap.size ∧ ∀ k x, ftD[k]? = some x → w.cell? ⟨g, k * 3, none⟩ = some (.string (bs x.1)) ∧ w.cell? ⟨g, k * 3 + 1, none⟩ = some (.int .i64 (x.2.1 : Nat)) ∧ w.cell? ⟨g, k * 3 + 2, none⟩ = some (.int .i64 (x.2.2 : Nat))
theorem faults_any (w : World) :
    Calls Tryz.prog 6 #[] w fun e w' => Frm [] w w' ∧ ∃ g, e = .returned (.slice (some ⟨g, 0, none⟩) 32 32) ∧ FTD w' g := by
  refine (faults_raw w).mono ?_
  rintro e w' ⟨rfl, rfl⟩
  have hb := heap_alloc_new w (Obj.cells ftC 40)
  refine ⟨(Frm.refl [] w).alloc _, _, rfl, by simp, fun k x hk => ?_⟩
  generalize w.alloc (Obj.cells ftC 40) = W at *
  obtain ⟨h1, h2, h3⟩ := flat3 0 ftD k x hk
  rw [← ftC_eq] at h1 h2 h3
  generalize ftC = cs at *
  simp only [Array.getElem?_toList] at h1 h2 h3
  simp [World.cell?, hb, h1, h2, h3]
end Go.Proofs.YtndalncdkgbnoaaGreat

