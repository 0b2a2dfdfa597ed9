import Derived.Test.YtmlajbdodmleiaaGreatJ7
import Derived.Test.YtmlajbdodmleiaaGreatJ2
import Derived.Test.YtmlajbdodmleiaaGreatJ1
import Derived.Test.YtmlajbdodmleiaaGreatJ3
import Derived.Test.YtmlajbdodmleiaaGreatJ18
import Derived.Test.YtmlajbdodmleiaaGreatJ19
import Derived.Test.YtmlajbdodmleiaaGreatJ5
set_option linter.unusedVariables false
set_option linter.unusedSimpArgs false
set_option linter.unnecessarySimpa false
namespace Go.Proofs.YtmlajbdodmleiaaGreat
open Go.RowKit

def lnsGo : List UInt8 → List UInt8 → List (List UInt8)
  | [], _ => []
  | c :: r, cur => if c == 10 then (cur ++ [10]) :: lnsGo r [] else lnsGo r (cur ++ [c])
def lnsK (t : List UInt8) : List (List UInt8) := lnsGo t []
theorem lnsGo_len : ∀ (t cur : List UInt8), (lnsGo t cur).length ≤ t.length
  | [], _ => Nat.le_refl _
  | c :: r, cur => by
    rw [lnsGo]
    split
    · have := lnsGo_len r []; simp; omega
    · have := lnsGo_len r (cur ++ [c]); simp; omega
theorem take_drop_snoc (t : List UInt8) (a j : Nat) (ha : a ≤ j) (hj : j < t.length) : (t.take (j + 1)).drop a = (t.take j).drop a ++ [t[j]] := by
  rw [List.take_succ_eq_append_getElem hj, List.drop_append_of_le_length (by simp; omega)]

set_option maxRecDepth 100000 in
set_option maxHeartbeats 4000000 in
theorem lines_any (t : List UInt8) (w : World) (ht : t.length ≤ 100000) :
    Calls Tryz.prog 19 #[.string (bs t)] w fun e w' => ∃ v, e = .returned v ∧ Frm [] w w' ∧ RW [] 1 w' v (sc (lnsK t)) := by
  have hsz := bs_size
  have hx := bs_extract
  go_enter Tryz.func19, Tryz.ntmps19
  go_wp2_with fail
  go_loopg [3, 4, 5] t.length (fun k vo vf vi wr => ∃ (j f : Nat) (acc : List (List UInt8)), j + k = t.length ∧ vi = .int .i64 j ∧ vf = .int .i64 f ∧ f ≤ j ∧ OW 9 1 w.heap.size wr vo (sc acc) ∧ Frm [] w wr ∧ acc.length ≤ j ∧ Hid (acc ++ lnsGo (t.drop j) ((t.take j).drop f) = lnsK t))
  case atStart => exact ⟨0, 0, [], by omega, rfl, rfl, Nat.le_refl _, OW.nil _ _ _ _, Frm.refl _ _, by simp, by show _ = _; simp [lnsK]⟩
  case round =>
    obtain ⟨j, f, acc, hjk, rfl, rfl, hfj, hO, hF, hacc, HI⟩ := hrel
    obtain ⟨ao, co, he⟩ := hO.shape
    rw [sc_len] at he
    subst he
    have F := hide hF
    have O := hide hO
    have hz := hF.size
    clear hF hO
    by_cases hlt : j < t.length
    · have hd1 : decide ((j : Int) < (t.length : Int)) = true := decide_eq_true (by omega)
      have hbg2 : (bs t)[j]'(by rw [hsz]; omega) = t[j] := rfl
      have hsn := take_drop_snoc t f j hfj hlt
      have hI := HI.out
      rw [List.drop_eq_getElem_cons hlt, lnsGo] at hI
      clear HI
      cases hc : (t[j] == 10)
      · have HI2 : Hid (acc ++ lnsGo (t.drop (j + 1)) ((t.take (j + 1)).drop f) = lnsK t) := by
          show _ = _
          rw [hsn]
          rw [hc] at hI
          exact hI
        have hcd : ((t[j].toNat : Int) == 10) = false := by
          rw [beq_eq_false_iff_ne] at hc ⊢
          intro h
          exact hc (UInt8.toNat_inj.1 (by show t[j].toNat = 10; omega))
        clear hI hsn
        generalize t[j] = c at *
        go_wp2
        go_roundg (gk - 1)
        case measure => omega
        case rel => exact ⟨j + 1, f, acc, by omega, by go_num, rfl, by omega, O.out, F.out, by omega, HI2⟩
      · have hcv : t[j] = 10 := by simpa using hc
        have HI2 : Hid ((acc ++ [(t.take (j + 1)).drop f]) ++ lnsGo (t.drop (j + 1)) ((t.take (j + 1)).drop (j + 1)) = lnsK t) := by
          show _ = _
          rw [hsn, hcv, show List.drop (j + 1) (List.take (j + 1) t) = [] from List.drop_eq_nil_of_le (by simp; omega)]
          rw [hc] at hI
          simpa using hI
        have hcd : ((t[j].toNat : Int) == 10) = true := by rw [hcv]; rfl
        clear hI hsn hcv hc
        generalize t[j] = c at *
        generalize hy : (t.take (j + 1)).drop f = y at *
        go_wp2_with (first | (at_builtin; refine wp_appSc _ rfl _ _ rfl w.heap.size (.slice ao acc.length co) acc wr.heap.size y rfl (O.out.frm (S := []) ((Frm.refl [] _).alloc _) (by simp)) rfl (by simp) (by omega) (by simp; omega) ?_; intro g2 cap2 w3 hs3 hg3 hor3 hlt3; have O3 := hide hs3; have G3 := hide hg3; clear hs3 hg3 hor3))
        go_roundg (gk - 1)
        case measure => omega
        case rel =>
          have hob : ∀ r, Value.ownBlock (.slice ao acc.length co) = some r → w.heap.size ≤ r := fun r hr => (O.out.lt hr).1
          exact ⟨j + 1, j + 1, acc ++ [y], by omega, by go_num, by go_num, Nat.le_refl _, O3.out, (F.out.alloc _).grown G3.out (fun r hr => .inr (hob r hr)), by simp; omega, HI2⟩
    · have hd1 : decide ((j : Int) < (t.length : Int)) = false := decide_eq_false (by omega)
      have HE : Hid (lnsK t = acc) := by
        show _ = _
        rw [← HI.out, List.drop_eq_nil_of_le (by omega)]
        simp [lnsGo]
      clear HI
      go_wp2
      go_ret
      refine ⟨_, rfl, F.out, ?_⟩
      rw [HE.out]
      exact O.out.rw (by simp)
end Go.Proofs.YtmlajbdodmleiaaGreat

namespace Go.Proofs.YtmlajbdodmleiaaGreat
open Go.RowKit

end Go.Proofs.YtmlajbdodmleiaaGreat

namespace Go.Proofs.YtmlajbdodmleiaaGreat
open Go.RowKit

end Go.Proofs.YtmlajbdodmleiaaGreat

namespace Go.Proofs.YtmlajbdodmleiaaGreat
open Go.RowKit

theorem bl_lt : ∀ (x y : List UInt8), Op.bytesLess x y = decide (x < y) := by
  intro x
  induction x with
  | nil => intro y; cases y <;> simp [Op.bytesLess]
  | cons a x ih =>
    intro y
    cases y with
    | nil => simp [Op.bytesLess]
    | cons b y =>
      rw [Op.bytesLess, ih y, Bool.eq_iff_iff]
      simp only [List.cons_lt_cons_iff, Bool.or_eq_true, Bool.and_eq_true, decide_eq_true_eq, beq_iff_eq]
def ins (n : List UInt8) : List (List UInt8) → List (List UInt8)
  | [] => [n]
  | x :: L => if n < x then n :: x :: L else x :: ins n L
theorem ins_mem (n : List UInt8) : ∀ (A : List (List UInt8)) (x : List UInt8), x ∈ ins n A → x = n ∨ x ∈ A
  | [], x, h => by simp [ins] at h; exact .inl h
  | y :: A, x, h => by
    unfold ins at h
    by_cases hy : n < y
    · rw [if_pos hy] at h
      rw [List.mem_cons] at h; exact h
    · rw [if_neg hy] at h
      rw [List.mem_cons] at h
      rcases h with h | h
      · exact .inr (by simp [h])
      · rcases ins_mem n A x h with h | h
        · exact .inl h
        · exact .inr (by simp [h])
def Asc (A : List (List UInt8)) : Prop := A.Pairwise (fun x y => x < y)
theorem tri (x y : List UInt8) (h1 : ¬ x < y) (h2 : x ≠ y) : y < x := by
  have h3 : y ≤ x := List.not_lt.1 h1
  apply Classical.byContradiction
  intro h4
  exact h2 (List.le_antisymm (List.not_lt.1 h4) h3)
theorem ins_asc (n : List UInt8) : ∀ (A : List (List UInt8)), Asc A → n ∉ A → Asc (ins n A)
  | [], _, _ => by simp [ins, Asc]
  | x :: A, h, hn => by
    unfold Asc at h
    rw [List.pairwise_cons] at h
    unfold ins
    by_cases hx : n < x
    · rw [if_pos hx]
      refine List.pairwise_cons.2 ⟨fun y hy => ?_, List.pairwise_cons.2 h⟩
      rw [List.mem_cons] at hy
      rcases hy with rfl | hy
      · exact hx
      · exact List.lt_trans hx (h.1 y hy)
    · rw [if_neg hx]
      refine List.pairwise_cons.2 ⟨fun y hy => ?_, ins_asc n A h.2 (fun hm => hn (by simp [hm]))⟩
      rcases ins_mem n A y hy with rfl | hy
      · exact tri _ _ hx (fun e => hn (by simp [e]))
      · exact h.1 y hy
end Go.Proofs.YtmlajbdodmleiaaGreat

namespace Go.Proofs.YtmlajbdodmleiaaGreat
open Go.RowKit

theorem wnGo_true (n : List UInt8) : ∀ (L a : List (List UInt8)), wnGo n L (a, true) = (a ++ L, true)
  | [], a => by simp [wnGo]
  | x :: L, a => by unfold wnGo; simp only [Bool.not_true, Bool.false_and]; rw [if_neg (by simp), wnGo_true n L]; simp
theorem wnGo_false (n : List UInt8) : ∀ (L a : List (List UInt8)), (if (wnGo n L (a, false)).2 then (wnGo n L (a, false)).1 else (wnGo n L (a, false)).1 ++ [n]) = a ++ ins n L
  | [], a => by simp [wnGo, ins]
  | x :: L, a => by
    have e : wnGo n (x :: L) (a, false) = wnGo n L (if n < x then (a ++ [n] ++ [x], true) else (a ++ [x], false)) := by
      conv => lhs; unfold wnGo
      rw [bl_lt]; simp
    rw [e]
    unfold ins
    by_cases h : n < x
    · simp only [if_pos h]; rw [wnGo_true]; simp
    · simp only [if_neg h]
      have := wnGo_false n L (a ++ [x])
      rw [this]; simp
theorem withN_ins (L : List (List UInt8)) (n : List UInt8) : withN L n = ins n L := by
  have := wnGo_false n L []
  unfold withN; rw [this]; rfl
theorem rise_asc : ∀ (L acc : List (List UInt8)), Asc acc → Asc (L.foldl rise1 acc)
  | [], acc, h => h
  | n :: L, acc, h => by
    simp only [List.foldl_cons]
    refine rise_asc L _ ?_
    unfold rise1
    by_cases hc : acc.contains n = true
    · rw [if_pos hc]; exact h
    · rw [if_neg hc, withN_ins]
      exact ins_asc n acc h (fun hm => hc (by simpa using hm))
end Go.Proofs.YtmlajbdodmleiaaGreat

namespace Go.Proofs.YtmlajbdodmleiaaGreat
open Go.RowKit

/-! Lines: a text that is read, line by line. -/
theorem mapM_cons' {α β : Type} (f : α → Option β) (a : α) (l : List α) : (a :: l).mapM f = match f a with | none => none | some b => match l.mapM f with | none => none | some bs => some (b :: bs) := by
  rw [List.mapM_cons]
  cases f a with
  | none => rfl
  | some b => cases l.mapM f <;> rfl
def rtL (l : List UInt8) : Option CR := sRoute l.dropLast
theorem rl2 : ∀ (t : List UInt8) (ln : Nat) (cur : List UInt8) (R : List (List UInt8)) (C : List CR) (R' : List (List UInt8)) (C' : List CR), 2 ≤ ln →
    (rlGo t ln cur R C = .ok (R', C') ↔ R' = R ∧ (lnsGo t cur).flatten = cur ++ t ∧ ∃ Cs, (lnsGo t cur).mapM rtL = some Cs ∧ C' = C ++ Cs)
  | [], ln, cur, R, C, R', C', h => by
    rw [rlGo, lnsGo]
    have : (ln == 1) = false := by simp; omega
    rw [this, Bool.or_false]
    cases cur with
    | nil =>
      simp
      constructor
      · rintro ⟨rfl, rfl⟩; exact ⟨rfl, rfl⟩
      · rintro ⟨rfl, rfl⟩; exact ⟨rfl, rfl⟩
    | cons c r => simp
  | c :: r, ln, cur, R, C, R', C', h => by
    rw [rlGo, lnsGo]
    by_cases hc : c = 10
    · subst hc
      have : (ln == 1) = false := by simp; omega
      simp only [beq_self_eq_true, if_true, this, Bool.false_eq_true, if_false]
      rw [mapM_cons']
      have hrt : rtL (cur ++ [10]) = sRoute cur := by unfold rtL; rw [List.dropLast_concat]
      rw [hrt]
      cases hs : sRoute cur with
      | none => simp
      | some x =>
        simp only
        rw [rl2 r (ln + 1) [] R (C ++ [x]) R' C' (by omega)]
        simp only [List.flatten_cons, List.append_assoc, List.nil_append, List.append_cancel_left_eq]
        constructor
        · rintro ⟨h1, h2, Cs, h3, h4⟩
          refine ⟨h1, by rw [h2]; rfl, x :: Cs, by rw [h3], by rw [h4]; rfl⟩
        · rintro ⟨h1, h2, Cs, h3, h4⟩
          refine ⟨h1, by simpa using h2, ?_⟩
          cases hm : (lnsGo r []).mapM rtL with
          | none => rw [hm] at h3; cases h3
          | some Ds => rw [hm] at h3; cases h3; exact ⟨Ds, rfl, h4⟩
    · have hc' : (c == 10) = false := by simpa using hc
      rw [hc']
      simp only [Bool.false_eq_true, if_false]
      rw [rl2 r ln (cur ++ [c]) R C R' C' h]
      simp
theorem rl1 : ∀ (t cur : List UInt8) (R : List (List UInt8)) (C : List CR) (R' : List (List UInt8)) (C' : List CR),
    (rlGo t 1 cur R C = .ok (R', C') ↔ (lnsGo t cur).flatten = cur ++ t ∧ ∃ l0 ls Cs, lnsGo t cur = l0 :: ls ∧ sRecvs l0.dropLast = some R' ∧ ls.mapM rtL = some Cs ∧ C' = C ++ Cs)
  | [], cur, R, C, R', C' => by
    rw [rlGo, lnsGo]
    simp
  | c :: r, cur, R, C, R', C' => by
    rw [rlGo, lnsGo]
    by_cases hc : c = 10
    · subst hc
      simp only [beq_self_eq_true, if_true]
      constructor
      · intro h
        cases hs : sRecvs cur with
        | none => rw [hs] at h; cases h
        | some R1 =>
          rw [hs] at h
          obtain ⟨h1, h2, Cs, h3, h4⟩ := (rl2 r 2 [] R1 C R' C' (by omega)).1 h
          refine ⟨by simp [h2], cur ++ [10], lnsGo r [], Cs, rfl, by rw [List.dropLast_concat, hs, h1], h3, h4⟩
      · rintro ⟨h1, l0, ls, Cs, h2, h3, h4, h5⟩
        cases h2
        rw [List.dropLast_concat] at h3
        rw [h3]
        exact (rl2 r 2 [] R' C R' C' (by omega)).2 ⟨rfl, by simpa using h1, Cs, h4, h5⟩
    · have hc' : (c == 10) = false := by simpa using hc
      rw [hc']
      simp only [Bool.false_eq_true, if_false]
      rw [rl1 r (cur ++ [c]) R C R' C']
      simp
theorem cRead1_lines (t : List UInt8) (L : List (List UInt8)) (C : List CR) : cRead1 t = .ok (L, C) ↔ (lnsK t).flatten = t ∧ ∃ l0 ls, lnsK t = l0 :: ls ∧ sRecvs l0.dropLast = some L ∧ ls.mapM rtL = some C := by
  unfold cRead1 lnsK
  rw [rl1]
  simp only [List.nil_append]
  constructor
  · rintro ⟨h1, l0, ls, Cs, h2, h3, h4, rfl⟩; exact ⟨h1, l0, ls, h2, h3, h4⟩
  · rintro ⟨h1, l0, ls, h2, h3, h4⟩; exact ⟨h1, l0, ls, C, h2, h3, h4, rfl⟩
theorem mapM_len {α β : Type} (f : α → Option β) : ∀ (l : List α) (m : List β), l.mapM f = some m → m.length = l.length
  | [], m, h => by simp at h; subst h; rfl
  | a :: l, m, h => by
    rw [mapM_cons'] at h
    split at h
    · cases h
    · split at h
      · cases h
      · rename_i bs hb
        cases h
        simp [mapM_len f l bs hb]
theorem lns_end : ∀ (t cur : List UInt8), ∀ l ∈ lnsGo t cur, ∃ x, l = x ++ [10]
  | [], cur, l, h => by simp [lnsGo] at h
  | c :: r, cur, l, h => by
    rw [lnsGo] at h
    split at h
    · rcases List.mem_cons.1 h with rfl | h
      · exact ⟨cur, rfl⟩
      · exact lns_end r [] l h
    · exact lns_end r _ l h
/-! The first line: the receivers. -/
theorem nameGo_ok {L : List (List UInt8)} : ∀ (C : List CR) (i : Nat), nameGo L C i = 0 → ∀ c ∈ C, c.rc = [45] ∨ c.rc ∈ L
  | [], i, _, c, h => by simp at h
  | x :: r, i, h, c, hc => by
    rw [nameGo] at h
    split at h
    · cases h
    · rename_i h1
      rcases List.mem_cons.1 hc with rfl | hc
      · by_cases e : c.rc = [45]
        · exact .inl e
        · right
          have e' : (c.rc == [45]) = false := by simpa using e
          rw [e'] at h1
          simpa using h1
      · exact nameGo_ok r (i + 1) h c hc
theorem cRead_names {t : List UInt8} {L : List (List UInt8)} {C : List CR} (h : cRead t = .ok (L, C)) : nameF L C = 0 := by
  unfold cRead at h
  split at h
  · cases h
  · split at h
    · cases h
    · split at h
      · cases h
      · split at h
        · cases h
        · rename_i h1
          cases h
          omega
theorem sBy_asc (l : List UInt8) : Asc (sBy l).names := by
  unfold sBy
  split
  · dsimp only
    split
    · exact List.Pairwise.nil
    · exact rise_asc _ [] List.Pairwise.nil
  · exact List.Pairwise.nil
theorem rtL_asc {l : List UInt8} {c : CR} (h : rtL l = some c) : Asc c.bys := by
  obtain ⟨_, _, _, _, _, _, rfl⟩ := sRoute_some _ _ h
  exact sBy_asc _
theorem mapM_mem {α β : Type} (f : α → Option β) : ∀ (l : List α) (m : List β), l.mapM f = some m → ∀ b ∈ m, ∃ a ∈ l, f a = some b
  | [], m, h, b, hb => by simp at h; subst h; simp at hb
  | a :: l, m, h, b, hb => by
    rw [mapM_cons'] at h
    split at h
    · cases h
    · rename_i x hx
      split at h
      · cases h
      · rename_i bs hbs
        cases h
        rcases List.mem_cons.1 hb with rfl | hb
        · exact ⟨a, by simp, hx⟩
        · obtain ⟨y, hy, hf⟩ := mapM_mem f l bs hbs b hb
          exact ⟨y, by simp [hy], hf⟩
structure HitG (L : List (List UInt8)) (h : HitM) : Prop where
  rc : h.rc ∈ L
  bl : Asc h.bl
theorem hitsN_g {L : List (List UInt8)} {C : List CR} (hs : Steps C) (hn : ∀ c ∈ C, c.rc = [45] ∨ c.rc ∈ L) (ha : ∀ c ∈ C, Asc c.bys) : ∀ i, i ≤ C.length → ∀ h ∈ hitsN C i, HitG L h
  | 0, _ => by simp [hitsN]
  | i + 1, hi => by
    intro h hh
    rw [hitsN] at hh
    have ih := hitsN_g hs hn ha i (by omega)
    rcases List.mem_append.1 hh with e | e
    · exact ih h e
    · rw [List.getElem?_eq_getElem (by omega)] at e
      have e := List.mem_singleton.1 e
      subst e
      have hc := hn C[i] (List.getElem_mem _)
      have hb := ha C[i] (List.getElem_mem _)
      have key : ∀ ab : HitM, (C[i].rc = [45] → ab.rc ∈ L) → Asc ab.bl → HitG L (hitB ab C[i]) := by
        intro ab h1 h2
        refine ⟨?_, ?_⟩
        · show (if C[i].rc == [45] then ab.rc else C[i].rc) ∈ L
          by_cases e : C[i].rc = [45]
          · rw [if_pos (by simp [e])]; exact h1 e
          · rw [if_neg (by simp [e])]; exact hc.resolve_left e
        · show Asc (if C[i].tb then C[i].bys else ab.bl)
          split
          · exact hb
          · exact h2
      cases i with
      | zero =>
        have h0 := (hs.1 C[0] (List.getElem?_eq_getElem (by omega))).2
        refine key _ (fun e => absurd e h0) ?_
        unfold aboveH
        have : par C 0 = none := by
          cases hp : par C 0 with
          | none => rfl
          | some p => exact absurd (par_lt hp) (by omega)
        rw [this]
        exact List.Pairwise.nil
      | succ i =>
        obtain ⟨p, hp⟩ := par_of hs i (by omega)
        have hpl := par_lt hp
        have hm : aboveH C (hitsN C (i + 1)) (i + 1) ∈ hitsN C (i + 1) := by
          unfold aboveH
          rw [hp]
          simp only
          rw [List.getD_eq_getElem?_getD, List.getElem?_eq_getElem (by rw [hitsN_len]; exact hpl)]
          exact List.getElem_mem _
        have ho := ih _ hm
        exact key _ (fun _ => ho.rc) ho.bl
end Go.Proofs.YtmlajbdodmleiaaGreat

namespace Go.Proofs.YtmlajbdodmleiaaGreat
open Go.RowKit

/-! A route put in. -/
def sh (i j : Nat) : Nat := if j < i then j else j + 1
def insC (C : List CR) (i : Nat) (N : CR) : List CR := C.take i ++ N :: C.drop i
theorem sh_ne (i j : Nat) : sh i j ≠ i := by unfold sh; split <;> omega
theorem sh_lt {i a b : Nat} : sh i a < sh i b ↔ a < b := by unfold sh; split <;> split <;> omega
theorem sh_inj {i a b : Nat} (h : sh i a = sh i b) : a = b := by unfold sh at h; split at h <;> split at h <;> omega
theorem sh_of {i k : Nat} (h : k ≠ i) : ∃ j, k = sh i j := by
  by_cases h1 : k < i
  · exact ⟨k, by unfold sh; rw [if_pos h1]⟩
  · exact ⟨k - 1, by unfold sh; rw [if_neg (by omega)]; omega⟩
theorem insC_len {C : List CR} {i : Nat} (N : CR) (hi : i ≤ C.length) : (insC C i N).length = C.length + 1 := by unfold insC; simp; omega
theorem insC_at {C : List CR} {i : Nat} (N : CR) (hi : i ≤ C.length) : (insC C i N)[i]? = some N := by
  unfold insC
  rw [List.getElem?_append_right (by simp; omega)]
  simp [show i - min i C.length = 0 by omega]
theorem insC_sh {C : List CR} {i : Nat} (N : CR) (hi : i ≤ C.length) (j : Nat) : (insC C i N)[sh i j]? = C[j]? := by
  unfold insC sh
  by_cases h : j < i
  · rw [if_pos h, List.getElem?_append_left (by simp; omega), List.getElem?_take_of_lt h]
  · rw [if_neg h, List.getElem?_append_right (by simp; omega), List.length_take, show j + 1 - min i C.length = (j - i) + 1 by omega, List.getElem?_cons_succ, List.getElem?_drop, show i + (j - i) = j by omega]
theorem parGo_spec {C : List CR} {d : Nat} : ∀ (i p : Nat), parGo C d i = some p ↔ p < i ∧ (∃ x, C[p]? = some x ∧ x.d + 1 = d) ∧ ∀ q x, p < q → q < i → C[q]? = some x → x.d + 1 ≠ d
  | 0, p => by simp [parGo]
  | i + 1, p => by
    rw [parGo]
    by_cases e : (C[i]?.map fun c => c.d + 1) = some d
    · rw [if_pos e]
      rw [Option.map_eq_some_iff] at e
      obtain ⟨x, hx, hd⟩ := e
      constructor
      · intro h
        cases h
        exact ⟨by omega, ⟨x, hx, hd⟩, fun q y h1 h2 => by omega⟩
      · rintro ⟨h1, ⟨y, hy, hyd⟩, h3⟩
        rcases Nat.lt_or_ge p i with h4 | h4
        · exact absurd hd (h3 i x h4 (by omega) hx)
        · congr 1; omega
    · rw [if_neg e, parGo_spec i p]
      constructor
      · rintro ⟨h1, h2, h3⟩
        refine ⟨by omega, h2, fun q y h4 h5 hy => ?_⟩
        rcases Nat.lt_or_ge q i with h6 | h6
        · exact h3 q y h4 h6 hy
        · have : q = i := by omega
          subst this
          intro h7
          exact e (by rw [hy]; simp [h7])
      · rintro ⟨h1, ⟨y, hy, hyd⟩, h3⟩
        refine ⟨?_, ⟨y, hy, hyd⟩, fun q z h4 h5 hz => h3 q z h4 (by omega) hz⟩
        rcases Nat.lt_or_ge p i with h6 | h6
        · exact h6
        · have : p = i := by omega
          subst this
          exact absurd (by rw [hy]; simp [hyd]) e
theorem par_spec {C : List CR} {j p : Nat} {c : CR} (hc : C[j]? = some c) : par C j = some p ↔ p < j ∧ (∃ x, C[p]? = some x ∧ x.d + 1 = c.d) ∧ ∀ q x, p < q → q < j → C[q]? = some x → x.d + 1 ≠ c.d := by
  unfold par
  rw [hc]
  exact parGo_spec j p
structure Put (C : List CR) (i : Nat) (N : CR) : Prop where
  st : Steps C
  i1 : 1 ≤ i
  il : i ≤ C.length
  d : ∀ c, C[i]? = some c → N.d = c.d
theorem Put.parS {C : List CR} {i : Nat} {N : CR} (h : Put C i N) {j p : Nat} (hp : par C j = some p) : par (insC C i N) (sh i j) = some (sh i p) := by
  have hjl : j < C.length := by
    rcases Nat.lt_or_ge j C.length with h1 | h1
    · exact h1
    · unfold par at hp; rw [List.getElem?_eq_none h1] at hp; cases hp
  have hc : C[j]? = some C[j] := List.getElem?_eq_getElem hjl
  obtain ⟨h1, ⟨x, hx, hd⟩, h3⟩ := (par_spec hc).1 hp
  refine (par_spec (by rw [insC_sh N h.il]; exact hc)).2 ⟨sh_lt.2 h1, ⟨x, by rw [insC_sh N h.il]; exact hx, hd⟩, fun q y h4 h5 hy => ?_⟩
  by_cases hq : q = i
  · subst hq
    rw [insC_at N h.il] at hy
    cases hy
    have hpi : p < q := by unfold sh at h4; split at h4 <;> omega
    have hij : q ≤ j := by unfold sh at h5; split at h5 <;> omega
    have hil : q < C.length := by omega
    have hN := h.d C[q] (List.getElem?_eq_getElem hil)
    rcases Nat.lt_or_ge q j with h6 | h6
    · rw [hN]
      exact h3 q C[q] hpi h6 (List.getElem?_eq_getElem hil)
    · have : q = j := by omega
      subst this
      omega
  · obtain ⟨q', rfl⟩ := sh_of hq
    rw [insC_sh N h.il] at hy
    exact h3 q' y (sh_lt.1 h4) (sh_lt.1 h5) hy
theorem Put.par0 {C : List CR} {i : Nat} {N : CR} (h : Put C i N) : ∀ j, j < C.length → par (insC C i N) (sh i j) = (par C j).map (sh i)
  | 0, hj => by
    have h0 : sh i 0 = 0 := by unfold sh; rw [if_pos (by have := h.i1; omega)]
    have e : ∀ D : List CR, par D 0 = none := fun D => by
      cases hp : par D 0 with
      | none => rfl
      | some p => exact absurd (par_lt hp) (by omega)
    rw [h0, e, e]; rfl
  | j + 1, hj => by
    obtain ⟨p, hp⟩ := par_of h.st j hj
    rw [hp, h.parS hp]; rfl
theorem Put.notkid {C : List CR} {i : Nat} {N : CR} (h : Put C i N) (j' : Nat) (hj : j' < C.length + 1) (hp : par (insC C i N) j' = some i) : False := by
  have h1 := par_lt hp
  obtain ⟨j, rfl⟩ := sh_of (show j' ≠ i by omega)
  have hjl : j < C.length := by
    have hil := h.il
    unfold sh at hj h1
    by_cases h2 : j < i
    · omega
    · rw [if_neg h2] at hj; omega
  rw [h.par0 j hjl] at hp
  cases hq : par C j with
  | none => rw [hq] at hp; cases hp
  | some p => rw [hq] at hp; simp at hp; exact sh_ne i p hp
theorem kids_iff {C : List CR} {r c : Nat} : c ∈ kids C r ↔ c < C.length ∧ par C c = some r := by
  constructor
  · exact mem_kids'
  · rintro ⟨h1, h2⟩
    unfold kids
    rw [List.mem_filter, List.mem_range]
    refine ⟨h1, ?_⟩
    have := par_lt h2
    simp [h2, this]
theorem kids_sorted (C : List CR) (r : Nat) : (kids C r).Pairwise (· < ·) := by
  unfold kids
  exact List.Pairwise.filter _ List.pairwise_lt_range
theorem sorted_ext : ∀ (l l' : List Nat), l.Pairwise (· < ·) → l'.Pairwise (· < ·) → (∀ x, x ∈ l ↔ x ∈ l') → l = l'
  | [], [], _, _, _ => rfl
  | [], b :: r, _, _, h => by have := (h b).2 (by simp); simp at this
  | a :: l, [], _, _, h => by have := (h a).1 (by simp); simp at this
  | a :: l, b :: r, h1, h2, h => by
    have ha : ∀ {x}, x ∈ l → a < x := fun hx => List.rel_of_pairwise_cons h1 hx
    have hb : ∀ {x}, x ∈ r → b < x := fun hx => List.rel_of_pairwise_cons h2 hx
    have e : a = b := by
      rcases List.mem_cons.1 ((h a).1 (by simp)) with e | e
      · exact e
      · rcases List.mem_cons.1 ((h b).2 (by simp)) with e2 | e2
        · exact e2.symm
        · have h3 := hb e
          have h4 := ha e2
          omega
    subst e
    rw [sorted_ext l r (List.Pairwise.of_cons h1) (List.Pairwise.of_cons h2) (fun x => ?_)]
    constructor
    · intro hx
      rcases List.mem_cons.1 ((h x).1 (by simp [hx])) with e | e
      · subst e; exact absurd (ha hx) (by omega)
      · exact e
    · intro hx
      rcases List.mem_cons.1 ((h x).2 (by simp [hx])) with e | e
      · subst e; exact absurd (hb hx) (by omega)
      · exact e
theorem map_sorted (i : Nat) : ∀ (l : List Nat), l.Pairwise (· < ·) → (l.map (sh i)).Pairwise (· < ·) := fun l h => by
  rw [List.pairwise_map]
  exact h.imp (fun hab => sh_lt.2 hab)
theorem Put.kidsS {C : List CR} {i : Nat} {N : CR} (h : Put C i N) (r : Nat) : (kids (insC C i N) (sh i r)).filter (fun x => decide (x ≠ i)) = (kids C r).map (sh i) := by
  refine sorted_ext _ _ (List.Pairwise.filter _ (kids_sorted _ _)) (map_sorted i _ (kids_sorted _ _)) (fun x => ?_)
  rw [List.mem_filter, List.mem_map, kids_iff, insC_len N h.il]
  constructor
  · rintro ⟨⟨h1, h2⟩, h3⟩
    have h3 : x ≠ i := by simpa using h3
    obtain ⟨j, rfl⟩ := sh_of h3
    have hjl : j < C.length := by have := h.il; unfold sh at h1; split at h1 <;> omega
    rw [h.par0 j hjl] at h2
    cases hq : par C j with
    | none => rw [hq] at h2; cases h2
    | some p =>
      rw [hq] at h2
      simp at h2
      have := sh_inj h2
      subst this
      exact ⟨j, kids_iff.2 ⟨hjl, hq⟩, rfl⟩
  · rintro ⟨j, hj, rfl⟩
    obtain ⟨h1, h2⟩ := kids_iff.1 hj
    refine ⟨⟨by have := h.il; unfold sh; split <;> omega, by rw [h.par0 j h1, h2]; rfl⟩, by simpa using sh_ne i j⟩
theorem Put.kidsN {C : List CR} {i : Nat} {N : CR} (h : Put C i N) : kids (insC C i N) i = [] := by
  cases hk : kids (insC C i N) i with
  | nil => rfl
  | cons c r =>
    have hc : c ∈ kids (insC C i N) i := by rw [hk]; simp
    obtain ⟨h1, h2⟩ := kids_iff.1 hc
    rw [insC_len N h.il] at h1
    exact (h.notkid c h1 h2).elim
theorem walkH_filter {H : Nat → Bool} {C : List CR} {S : Nat → List Nat} {i : Nat} : ∀ K : List Nat, (H i = false ∨ i ∉ K) → walkH H C S K = walkH H C S (K.filter fun x => decide (x ≠ i))
  | [], _ => rfl
  | c :: r, h => by
    have hr : H i = false ∨ i ∉ r := h.imp id (fun h hm => h (by simp [hm]))
    by_cases e : c = i
    · subst e
      have hc : H c = false := h.resolve_right (by simp)
      rw [walkH, hc, List.filter_cons]
      simp only [Bool.false_eq_true, if_false, ne_eq, not_true_eq_false, decide_false]
      exact walkH_filter r hr
    · rw [List.filter_cons, if_pos (by simpa using e), walkH, walkH, walkH_filter r hr]
theorem any_filter' {H : Nat → Bool} {i : Nat} : ∀ K : List Nat, (H i = false ∨ i ∉ K) → K.any H = (K.filter fun x => decide (x ≠ i)).any H
  | [], _ => rfl
  | c :: r, h => by
    have hr : H i = false ∨ i ∉ r := h.imp id (fun h hm => h (by simp [hm]))
    by_cases e : c = i
    · subst e
      have hc : H c = false := h.resolve_right (by simp)
      rw [List.any_cons, hc, List.filter_cons]
      simp only [Bool.false_or, ne_eq, not_true_eq_false, decide_false, Bool.false_eq_true, if_false]
      exact any_filter' r hr
    · rw [List.filter_cons, if_pos (by simpa using e), List.any_cons, List.any_cons, any_filter' r hr]
theorem walkH_map {H H' : Nat → Bool} {C C' : List CR} {S S' : Nat → List Nat} {i : Nat} : ∀ K : List Nat, (∀ c ∈ K, H' (sh i c) = H c ∧ (C'[sh i c]?.map (·.co)) = (C[c]?.map (·.co)) ∧ S' (sh i c) = (S c).map (sh i)) → walkH H' C' S' (K.map (sh i)) = (walkH H C S K).map (sh i)
  | [], _ => rfl
  | c :: r, h => by
    obtain ⟨h1, h2, h3⟩ := h c (by simp)
    rw [List.map_cons, walkH, walkH, h1, h2, h3, walkH_map r (fun x hx => h x (by simp [hx]))]
    split
    · rw [List.map_append]
      congr 1
      split <;> rfl
    · rfl
theorem any_map {H H' : Nat → Bool} {i : Nat} : ∀ K : List Nat, (∀ c ∈ K, H' (sh i c) = H c) → (K.map (sh i)).any H' = K.any H
  | [], _ => rfl
  | c :: r, h => by rw [List.map_cons, List.any_cons, List.any_cons, h c (by simp), any_map r (fun x hx => h x (by simp [hx]))]
theorem Put.step {C : List CR} {i : Nat} {N : CR} (h : Put C i N) {H H' : Nat → Bool} (hH : ∀ c, c < C.length → H' (sh i c) = H c) {f r : Nat} (hr : H' i = false ∨ i ∉ kids (insC C i N) (sh i r)) (ih : ∀ c ∈ kids C r, sentH H' (insC C i N) f (sh i c) = (sentH H C f c).map (sh i)) :
    sentH H' (insC C i N) (f + 1) (sh i r) = (sentH H C (f + 1) r).map (sh i) := by
  rw [sentH, sentH, any_filter' _ hr, walkH_filter _ hr, h.kidsS r]
  have hk : ∀ c ∈ kids C r, H' (sh i c) = H c := fun c hc => hH c (kids_iff.1 hc).1
  rw [any_map _ hk, walkH_map _ (fun c hc => ⟨hk c hc, by rw [insC_sh N h.il], ih c hc⟩)]
  split
  · rfl
  · rfl
theorem Put.never {C : List CR} {i : Nat} {N : CR} (h : Put C i N) {H H' : Nat → Bool} (hH : ∀ c, c < C.length → H' (sh i c) = H c) (h0 : H' i = false) : ∀ f r, sentH H' (insC C i N) f (sh i r) = (sentH H C f r).map (sh i)
  | 0, r => rfl
  | f + 1, r => h.step hH (.inl h0) (fun c _ => h.never hH h0 f c)
theorem Put.beside {C : List CR} {N : CR} (h : Put C 1 N) (hN : N.d = 1) {H H' : Nat → Bool} (hH : ∀ c, c < C.length → H' (sh 1 c) = H c) : ∀ f r, 1 ≤ r → sentH H' (insC C 1 N) f (sh 1 r) = (sentH H C f r).map (sh 1)
  | 0, r, _ => rfl
  | f + 1, r, hr => h.step hH (.inr (fun hm => by
      have := (kids_iff.1 hm).2
      have h2 := par_lt this
      unfold sh at h2
      rw [if_neg (by omega)] at h2
      omega)) (fun c hc => h.beside hN hH f c (by have := par_lt (kids_iff.1 hc).2; omega))
theorem Put.first {C : List CR} {N : CR} (h : Put C 1 N) (hN : N.d = 1) (h0 : 0 < C.length) : par (insC C 1 N) 1 = some 0 := by
  refine (par_spec (insC_at N h.il)).2 ⟨by omega, ⟨C[0], ?_, ?_⟩, fun q x h1 h2 => by omega⟩
  · have := insC_sh N h.il 0
    rw [show sh 1 0 = 0 from rfl] at this
    rw [this]; exact List.getElem?_eq_getElem h0
  · have := (h.st.1 C[0] (List.getElem?_eq_getElem h0)).1
    omega
theorem Put.ahead {C : List CR} {N : CR} (h : Put C 1 N) (hN : N.d = 1) (h0 : 0 < C.length) {H H' : Nat → Bool} (hH : ∀ c, c < C.length → H' (sh 1 c) = H c) (h1 : H' 1 = true) (f : Nat) :
    sentH H' (insC C 1 N) (f + 2) 0 = 1 :: (if N.co then (if (kids C 0).any H then (sentH H C (f + 2) 0).map (sh 1) else []) else []) := by
  have hp := h.first hN h0
  have hk : kids (insC C 1 N) 0 = 1 :: (kids C 0).map (sh 1) := by
    refine sorted_ext _ _ (kids_sorted _ _) ?_ (fun x => ?_)
    · rw [List.pairwise_cons]
      refine ⟨fun y hy => ?_, map_sorted 1 _ (kids_sorted _ _)⟩
      obtain ⟨c, hc, rfl⟩ := List.mem_map.1 hy
      have := par_lt (kids_iff.1 hc).2
      unfold sh; rw [if_neg (by omega)]; omega
    · have hs := h.kidsS 0
      rw [show sh 1 0 = 0 from rfl] at hs
      rw [← hs, List.mem_cons, List.mem_filter]
      constructor
      · intro hx
        by_cases e : x = 1
        · exact .inl e
        · exact .inr ⟨hx, by simpa using e⟩
      · rintro (rfl | hx)
        · exact kids_iff.2 ⟨by rw [insC_len N h.il]; omega, hp⟩
        · exact hx.1
  have hs1 : sentH H' (insC C 1 N) (f + 1) 1 = [1] := by rw [sentH, h.kidsN]; rfl
  have hco : ((insC C 1 N)[1]?.map (·.co)) = some N.co := by rw [insC_at N h.il]; rfl
  have hkk : ∀ c ∈ kids C 0, H' (sh 1 c) = H c := fun c hc => hH c (kids_iff.1 hc).1
  have hw : walkH H' (insC C 1 N) (sentH H' (insC C 1 N) (f + 1)) ((kids C 0).map (sh 1)) = (walkH H C (sentH H C (f + 1)) (kids C 0)).map (sh 1) :=
    walkH_map _ (fun c hc => ⟨hkk c hc, by rw [insC_sh N h.il], h.beside hN hH (f + 1) c (by have := par_lt (kids_iff.1 hc).2; omega)⟩)
  rw [sentH, hk, List.any_cons, h1, Bool.true_or, if_pos rfl, walkH, h1, if_pos rfl, hs1, hco, hw, sentH]
  have none_holds : (kids C 0).any H = false → walkH H C (sentH H C (f + 1)) (kids C 0) = [] := by
    intro hf
    have : ∀ K : List Nat, K.any H = false → walkH H C (sentH H C (f + 1)) K = [] := by
      intro K
      induction K with
      | nil => intro _; rfl
      | cons c r ih =>
        intro hK
        rw [List.any_cons, Bool.or_eq_false_iff] at hK
        rw [walkH, hK.1]
        simp only [Bool.false_eq_true, if_false]
        exact ih hK.2
    exact this _ hf
  cases hco2 : N.co
  · simp
  · cases ha : (kids C 0).any H
    · rw [none_holds ha]; simp
    · simp
end Go.Proofs.YtmlajbdodmleiaaGreat

namespace Go.Proofs.YtmlajbdodmleiaaGreat
open Go.RowKit

def hitsM (m : Mach) (l : List Nat) : List HitM := l.map fun i => m.routes.getD i ⟨[], [], 0, 0, 0⟩
theorem hitsM_snoc (m : Mach) (l : List Nat) (i : Nat) (hi : i < m.routes.length) : hitsM m (l ++ [i]) = hitsM m l ++ [m.routes[i]] := by simp [hitsM, List.getD, hi]
theorem ins_cases {m : Mach} (ok : MOK m) (V : List UInt8 → List UInt8) {k : Nat} (hk : k < m.code.length) (n : Nat) :
    (m.code[k].op = 0 ∧ runM m V (n + 1) k = []) ∨
    (m.code[k].op = 1 ∧ m.code[k].x < m.routes.length ∧ k < m.code[k].a ∧ m.code[k].a < m.code.length ∧ runM m V (n + 1) k = m.code[k].x :: runM m V n m.code[k].a) ∨
    (m.code[k].op = 2 ∧ k < m.code[k].a ∧ m.code[k].a < m.code.length ∧ k < m.code[k].b ∧ m.code[k].b < m.code.length ∧ ∃ hx : m.code[k].x < m.tests.length, TstOK m.names.length m.consts.length m.autos.length m.tests[m.code[k].x] ∧
      runM m V (n + 1) k = runM m V n (if tstM m (V (m.names.getD m.tests[m.code[k].x].n [])) m.tests[m.code[k].x] then m.code[k].a else m.code[k].b)) := by
  have h := ok.code.2.2 k hk
  have hs := h.s
  have ho := h.op
  have hc : m.code[k]? = some m.code[k] := List.getElem?_eq_getElem hk
  generalize m.code[k] = c at *
  obtain ⟨op, x, a, b⟩ := c
  simp only at ho ⊢
  match op, ho with
  | 0, _ => exact .inl ⟨rfl, by rw [runM, hc]; rfl⟩
  | 1, _ =>
    simp [stands] at hs
    exact .inr (.inl ⟨rfl, hs.1.1, hs.1.2.1, hs.1.2.2, by rw [runM, hc]; rfl⟩)
  | 2, _ =>
    simp [stands] at hs
    refine .inr (.inr ⟨rfl, hs.1.2.1, hs.1.2.2, hs.2.1, hs.2.2, hs.1.1, ok.tests.2 _ (List.getElem_mem _), ?_⟩)
    rw [runM, hc]
    simp only [List.getElem?_eq_getElem hs.1.1]
end Go.Proofs.YtmlajbdodmleiaaGreat

namespace Go.Proofs.YtmlajbdodmleiaaGreat
open Go.RowKit

abbrev LBL : Type := List UInt8 × List UInt8
def LR (w : World) (v : Value) (L : List LBL) : Prop :=
  ∃ a cap, v = .slice a L.length cap ∧ L.length ≤ 1048576 ∧ ∀ (j : Nat) (h : j < L.length), ∃ g off, a = some ⟨g, off, none⟩ ∧ g < w.heap.size ∧ w.cell? ⟨g, off + j * 2, none⟩ = some (.string (bs L[j].1)) ∧ w.cell? ⟨g, off + j * 2 + 1, none⟩ = some (.string (bs L[j].2))
theorem LR.frm {S : List Nat} {w w' : World} {v : Value} {L : List LBL} (h : LR w v L) (f : Frm S w w') (hS : ∀ a n c, v = .slice (some a) n c → a.block ∉ S) : LR w' v L := by
  obtain ⟨a, cap, rfl, h0, h1⟩ := h
  refine ⟨a, cap, rfl, h0, ?_⟩
  intro j hj
  obtain ⟨g, off, rfl, h2, h3, h4⟩ := h1 j hj
  have hg := hS ⟨g, off, none⟩ _ _ rfl
  exact ⟨g, off, rfl, Nat.lt_of_lt_of_le h2 f.size, (f.cell (p := ⟨g, off + j * 2, none⟩) h2 hg).trans h3, (f.cell (p := ⟨g, off + j * 2 + 1, none⟩) h2 hg).trans h4⟩
def lblV (L : List LBL) (n : List UInt8) : List UInt8 := match L.find? (fun x => x.1 == n) with | some x => x.2 | none => []
def labsB : List LBL → List LBL → Bool
  | _, [] => true
  | P, x :: r => isNameL x.1 && decide (x.2.length ≤ 40) && !(P.any fun y => y.1 == x.1) && labsB (P ++ [x]) r
def labsOK (L : List LBL) : Bool := decide (L.length ≤ 12) && labsB [] L
theorem labsB_at (L : List LBL) (j : Nat) (hj : j < L.length) : labsB (L.take j) (L.drop j) = (isNameL L[j].1 && decide (L[j].2.length ≤ 40) && !((L.take j).any fun y => y.1 == L[j].1) && labsB (L.take (j + 1)) (L.drop (j + 1))) := by
  have e : L.take (j + 1) = L.take j ++ [L[j]] := by rw [List.take_add_one, List.getElem?_eq_getElem hj]; rfl
  rw [List.drop_eq_getElem_cons hj, labsB, e]
end Go.Proofs.YtmlajbdodmleiaaGreat

