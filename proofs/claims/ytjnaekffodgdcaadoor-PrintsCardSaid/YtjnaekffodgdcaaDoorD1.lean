import Derived.Test.YtjnaekffodgdcaaDoorR9
import Derived.Test.YtjnaekffodgdcaaDoorW24
import Derived.Deep.DeepCutAuto
namespace Go.Proofs.YtjnaekffodgdcaaDoor
open Go.RowKit
set_option linter.unusedVariables false
set_option linter.unusedSimpArgs false
set_option linter.unnecessarySimpa false

theorem cutGo_bd (q : Bool) (c : UInt8) (N : Nat) : ∀ (k : Nat) (l : List UInt8) (i : Bool) (t : List UInt8) (out : List (List UInt8)), t.length + l.length ≤ N → (∀ x ∈ out, x.length ≤ N) → (∀ x ∈ cutGo q c k l i t out, x.length ≤ N) ∧ (cutGo q c k l i t out).length ≤ out.length + l.length + 1 ∧ out.length + 1 ≤ (cutGo q c k l i t out).length
  | 0, l, i, t, out, h1, h2 => by
    unfold cutGo
    refine ⟨fun x hx => ?_, by simp, by simp⟩
    rw [List.mem_append, List.mem_singleton] at hx
    rcases hx with hx | rfl
    · exact h2 x hx
    · omega
  | k + 1, [], i, t, out, h1, h2 => by
    unfold cutGo
    refine ⟨fun x hx => ?_, by simp, by simp⟩
    rw [List.mem_append, List.mem_singleton] at hx
    rcases hx with hx | rfl
    · exact h2 x hx
    · simp at h1; omega
  | k + 1, y :: r, i, t, out, h1, h2 => by
    simp only [List.length_cons] at h1
    unfold cutGo
    dsimp only
    generalize (if (q && y == 34) = true then !i else i) = i1
    by_cases hA : (i1 && y == 92 && !(r.isEmpty)) = true
    · rw [if_pos hA]
      have hr : r ≠ [] := by
        intro e; subst e; simp at hA
      have hrl : 0 < r.length := List.length_pos_iff.2 hr
      have := cutGo_bd q c N k (r.drop 1) i1 (t ++ ([y] ++ r.take 1)) out (by simp; omega) h2
      refine ⟨this.1, ?_, this.2.2⟩
      have h3 := this.2.1
      simp only [List.length_drop, List.length_cons] at h3 ⊢; omega
    · rw [if_neg hA]
      by_cases hB : (y == c && !i1) = true
      · rw [if_pos hB]
        have := cutGo_bd q c N k r i1 [] (out ++ [t]) (by simp; omega) (fun x hx => by
          rw [List.mem_append, List.mem_singleton] at hx
          rcases hx with hx | rfl
          · exact h2 x hx
          · omega)
        refine ⟨this.1, ?_, ?_⟩
        · have h3 := this.2.1; simp at h3 ⊢; omega
        · have h3 := this.2.2; simp at h3; omega
      · rw [if_neg hB]
        have := cutGo_bd q c N k r i1 (t ++ [y]) out (by simp; omega) h2
        refine ⟨this.1, ?_, this.2.2⟩
        have h3 := this.2.1; simp at h3 ⊢; omega
theorem cutL_bd (q : Bool) (c : UInt8) (l : List UInt8) : (∀ x ∈ cutL q c l, x.length ≤ l.length) ∧ (cutL q c l).length ≤ l.length + 1 ∧ 1 ≤ (cutL q c l).length := by
  have := cutGo_bd q c l.length (l.length + 1) l false [] [] (by simp) (by simp)
  unfold cutL
  refine ⟨this.1, by have := this.2.1; simp at this; omega, by have := this.2.2; simp at this; omega⟩

theorem srt1_pos (out : List (List UInt8)) (n : List UInt8) : 1 ≤ (srt1 out n).length := by
  unfold srt1; split
  · rename_i h
    cases out with
    | nil => simp at h
    | cons => simp
  · rw [down_len]; simp
theorem srt_fold : ∀ (L out : List (List UInt8)), out.length ≤ (L.foldl srt1 out).length ∧ (L.foldl srt1 out).length ≤ out.length + L.length ∧ (1 ≤ L.length → 1 ≤ (L.foldl srt1 out).length)
  | [], out => by simp
  | x :: L, out => by
    have h := srt_fold L (srt1 out x)
    have h1 := srt1_len out x
    have h2 := srt1_pos out x
    have h3 : out.length ≤ (srt1 out x).length := by
      unfold srt1; split
      · omega
      · rw [down_len]; simp
    simp only [List.foldl_cons, List.length_cons]
    exact ⟨by omega, by omega, fun _ => by omega⟩
theorem srt_len (L : List (List UInt8)) : (srt L).length ≤ L.length ∧ (1 ≤ L.length → 1 ≤ (srt L).length) := by
  have := srt_fold L []
  unfold srt; simp at this ⊢; exact ⟨this.1, this.2⟩

/-- 'l = append(l, m...)' of texts. -/
theorem wp_appSL {ops : Array Oper} {rest : List Oper} {o : Oper} {a : Act} {Q : Exit → Act → World → Prop} (w : World) (hgd : o.guard = none) (s x : Operand)
    (ho : o.op = .call { callee := .builtin .append, args := #[s, x], argTypes := #[32, 32] })
    (base base2 : Nat) (v : Value) (L M : List (List UInt8)) (g2 c2 : Nat) (hs : a.eval s = v) (hown : SL base w v L) (hx : a.eval x = .slice (some ⟨g2, 0, none⟩) M.length c2)
    (hM : SL base2 w (.slice (some ⟨g2, 0, none⟩) M.length c2) M) (hm : 0 < M.length) (hlen : L.length + M.length ≤ 1048576) (hbase : base ≤ w.heap.size)
    (h : ∀ g cap w', SL base w' (.slice (some ⟨g, 0, none⟩) (L.length + M.length) cap) (L ++ M) → w.grownBy w' v.ownBlock → base ≤ g → wpList Tryd.prog ops Q rest (a.put o.dst (.slice (some ⟨g, 0, none⟩) (L.length + M.length) cap)) w') :
    wpList Tryd.prog ops Q (o :: rest) a w := by
  obtain ⟨i0, hi, hz0, hz1, hz2⟩ := info_parts infoStr
  refine wpList_append_own w hgd s x 32 ho base 9 i0 (.string ByteArray.empty) 1 16 Tryd.underlying32 hi hz0 hz1 hz2 rfl (by decide) v L.length (sv L) hs hown ⟨g2, 0, none⟩ M.length c2 (sv M) hx (by simp [sv]) ?_ (fun x hx => by simp [sv] at hx; obtain ⟨c, _, rfl⟩ := hx; rfl) (by unfold maxLen; omega) (by omega) hbase ?_
  · intro j u hj
    exact hM.cells rfl j u hj
  · intro v' w' h1 h2 h3
    obtain ⟨g, cap, rfl⟩ := own_some h1 (fun e => by have := (h3.1 e).2; omega)
    have h1' : SL base w' (.slice (some ⟨g, 0, none⟩) (L.length + M.length) cap) (L ++ M) := by
      unfold SL; simpa [sv] using h1
    exact h g cap w' h1' h2 (h1.lt g rfl).1

def wRoute : List UInt8 := [114, 111, 117, 116, 101]
def wBy : List UInt8 := [98, 121]
def wWait : List UInt8 := [119, 97, 105, 116]
def wEvery : List UInt8 := [101, 118, 101, 114, 121]
def wRepeat : List UInt8 := [114, 101, 112, 101, 97, 116]

/-- A route as the reference reads it. -/
structure RR where
  rc : List UInt8
  told : Bool
  names : List (List UInt8)
  t0 : Int
  t1 : Int
  t2 : Int
  ifs : List RM
  on : Bool
  d : Nat

def byStep (W : List (List UInt8)) : Option (Bool × List (List UInt8) × List (List UInt8)) :=
  if decide (1 < W.length) && (W.getD 0 [] == wBy) then
    (if W.getD 1 [] == [45] then some (true, [], W.drop 2)
     else if (cutL false 44 (W.getD 1 [])).all isNameL && decide ((cutL false 44 (W.getD 1 [])).length ≤ 4) then some (true, srt (cutL false 44 (W.getD 1 [])), W.drop 2) else none)
  else some (false, [], W)
def wdOf : Nat → List UInt8
  | 2 => wWait
  | 1 => wEvery
  | _ => wRepeat
def updT (r : Nat) (ts : Int × Int × Int) (n : Int) : Int × Int × Int :=
  match r with
  | 2 => (n, ts.2.1, ts.2.2)
  | 1 => (ts.1, n, ts.2.2)
  | _ => (ts.1, ts.2.1, n)
def tmR : Nat → Int × Int × Int → List (List UInt8) → Option ((Int × Int × Int) × List (List UInt8))
  | 0, ts, W => some (ts, W)
  | r + 1, ts, W =>
    if decide (1 < W.length) && (W.getD 0 [] == wdOf r) then
      (if decide (numR (W.getD 1 []) < 0) then none else tmR r (updT r ts (numR (W.getD 1 []))) (W.drop 2))
    else tmR r ts W
def rtW (d : Nat) (W : List (List UInt8)) : Option RR :=
  if decide (W.length < 2) || !(W.getD 0 [] == wRoute) then none
  else if !(isNameL (W.getD 1 [])) && !(W.getD 1 [] == [45]) then none
  else match byStep (W.drop 2) with
    | none => none
    | some (told, names, W1) => match tmR 3 (-1, -1, -1) W1 with
      | none => none
      | some (ts, W2) => if (restGo (W2.length + 1) W2 []).2.2 then some ⟨W.getD 1 [], told, names, ts.1, ts.2.1, ts.2.2, (restGo (W2.length + 1) W2 []).1, (restGo (W2.length + 1) W2 []).2.1, d⟩ else none
def rtR (l : List UInt8) : Option RR := rtW (sDepth l).1 (cutL true 32 (sDepth l).2)

def byW (told : Bool) (names : List (List UInt8)) : List (List UInt8) := if told then [58] :: names else []

/-- The route at b, in memory. -/
structure RRep (base : Nat) (w : World) (b : Nat) (v : RRV) (r : RR) : Prop where
  at_ : RB w b v
  rc : v.rc = r.rc
  by_ : SL base w v.vby (byW r.told r.names)
  t0 : v.t0 = r.t0
  t1 : v.t1 = r.t1
  t2 : v.t2 = r.t2
  ifs : IL base w v.vif r.ifs
  on : v.on = r.on
  vk : v.vk = .slice none 0 0
  d : v.d = r.d
  row : v.row = 0

def RPost (w : World) (e : Ending) (w' : World) : Option RR → Prop
  | none => ∃ p, e = .returned (.tuple #[.pointer p, .bool false])
  | some r => ∃ b v, w.heap.size ≤ b ∧ e = .returned (.tuple #[.pointer (some ⟨b, 0, none⟩), .bool true]) ∧ RRep w.heap.size w' b v r


def PT (b : Nat) : Value := .pointer (some ⟨b, 0, none⟩)
def LP (base : Nat) (w : World) (v : Value) (B : List Nat) : Prop := w.ownsRow base 40 1 v B.length (B.map PT)
theorem LP.cell {base : Nat} {w : World} {g n cap : Nat} {B : List Nat} (h : LP base w (.slice (some ⟨g, 0, none⟩) n cap) B) (j : Nat) (hj : j < B.length) : w.cell? ⟨g, j, none⟩ = some (PT B[j]) := by
  have := World.ownsRow.cells h (g := g) rfl j (PT B[j]) (by simp [hj])
  rw [add0] at this; exact this

/-- The reference's configuration. -/
def CBR (w : World) (cb : Nat) (vr vt vl : Value) : Prop := w.heap[cb]? = some (.cells #[vr, vt, vl] 43 (0, 0))
theorem CBR.lt {w : World} {b : Nat} {x y z : Value} (h : CBR w b x y z) : b < w.heap.size := (Array.getElem?_eq_some_iff.1 h).1
theorem CBR.cell {w : World} {b : Nat} {x y z : Value} (h : CBR w b x y z) (o : Nat) : w.cell? ⟨b, o, none⟩ = (#[x, y, z] : Array Value)[o]? := by
  unfold CBR at h; simp [World.cell?, h]
theorem CBR.fz {w : World} {b : Nat} {x y z : Value} (h : CBR w b x y z) (o : Nat) : w.frozen? ⟨b, o, none⟩ = false := by
  unfold CBR at h; simp [World.frozen?, h]
theorem CBR.frm {S : List Nat} {w w' : World} {b : Nat} {x y z : Value} (h : CBR w b x y z) (f : Frm S w w') (hS : b ∉ S) : CBR w' b x y z := (f.block b h.lt hS).trans h

structure RQ (base : Nat) (w : World) (b : Nat) (v : RRV) (r : RR) : Prop where
  at_ : RB w b v
  rc : v.rc = r.rc
  by_ : SL base w v.vby (byW r.told r.names)
  t0 : v.t0 = r.t0
  t1 : v.t1 = r.t1
  t2 : v.t2 = r.t2
  ifs : IL base w v.vif r.ifs
  on : v.on = r.on
  d : v.d = r.d
theorem RQ.frm {S : List Nat} {base : Nat} {w w' : World} {b : Nat} {v : RRV} {r : RR} (h : RQ base w b v r) (f : Frm S w w') (hS : b ∉ S) (h2 : ∀ k ∈ S, k < base) : RQ base w' b v r :=
  ⟨h.at_.frm f hS, h.rc, h.by_.frm f h2, h.t0, h.t1, h.t2, h.ifs.frm f h2, h.on, h.d⟩

structure GoodRR (r : RR) : Prop where
  d : r.d ≤ 9000
  rc : r.rc.length ≤ 8
  names : r.names.length ≤ 4
  nm : ∀ n ∈ r.names, n.length ≤ 8
  t0 : -1 ≤ r.t0 ∧ r.t0 ≤ 99999
  t1 : -1 ≤ r.t1 ∧ r.t1 ≤ 99999
  t2 : -1 ≤ r.t2 ∧ r.t2 ≤ 99999
  ifs : r.ifs.length ≤ 4
  im : ∀ m ∈ r.ifs, m.1.length ≤ 8 ∧ m.2.1.length ≤ 2 ∧ m.2.2.length ≤ 40

def tmT (wd : List UInt8) (n : Int) : List UInt8 := if 0 ≤ n then wd ++ Lib.decDigits n.toNat else []
def ifRT (M : List RM) : List UInt8 := M.flatMap fun m => kIf ++ (m.1 ++ m.2.1 ++ quoteV m.2.2)
def byRT (B : List (List UInt8)) (k : Nat) : List UInt8 :=
  if k = 0 then [] else if B.length = 1 then kBy ++ [45] else if k = 1 then [] else kBy ++ labJ ((B.drop 1).take (k - 1))
def rrT (r : RR) : List UInt8 := List.replicate r.d 32 ++ (kRoute ++ r.rc) ++ byRT (byW r.told r.names) (byW r.told r.names).length ++ tmT kWait r.t0 ++ tmT kEvery r.t1 ++ tmT kRepeat r.t2 ++ ifRT r.ifs ++ (if r.on then kCont else []) ++ [10]
def txR (L : List (List UInt8)) (R : List RR) : List UInt8 := kRecv ++ recT L ++ [10] ++ R.flatMap rrT

theorem recT_len8 : ∀ (L : List (List UInt8)), (∀ n ∈ L, n.length ≤ 8) → (recT L).length ≤ 9 * L.length
  | [], _ => by simp [recT]
  | n :: L, h => by
    have h1 := recT_len8 L (fun x hx => h x (by simp [hx]))
    have h2 := h n (by simp)
    unfold recT at h1 ⊢
    simp only [List.flatMap_cons, List.length_append, List.length_cons] at h1 ⊢; omega
theorem ifRT_len : ∀ (M : List RM), (∀ m ∈ M, m.1.length ≤ 8 ∧ m.2.1.length ≤ 2 ∧ m.2.2.length ≤ 40) → (ifRT M).length ≤ 176 * M.length
  | [], _ => by simp [ifRT]
  | m :: M, h => by
    have h1 := ifRT_len M (fun x hx => h x (by simp [hx]))
    have h2 := h m (by simp)
    have h3 := quoteV_len m.2.2
    have h4 : kIf.length = 4 := rfl
    unfold ifRT at h1 ⊢
    simp only [List.flatMap_cons, List.length_append, List.length_cons] at h1 ⊢; omega
theorem tmT_len (wd : List UInt8) (n : Int) (h : n ≤ 99999) (hw : wd.length ≤ 8) : (tmT wd n).length ≤ 14 := by
  unfold tmT; split
  · have := dec_len' 4 n.toNat (by omega)
    simp only [List.length_append]; omega
  · simp
theorem byW_len (told : Bool) (N : List (List UInt8)) : (byW told N).length ≤ N.length + 1 := by
  cases told <;> simp [byW]
theorem labJ_len8 : ∀ (L : List (List UInt8)), (∀ n ∈ L, n.length ≤ 8) → (labJ L).length ≤ 9 * L.length
  | [], _ => by simp [labJ]
  | [x], h => by have := h x (by simp); simp [labJ]; omega
  | x :: y :: r, h => by
    have h1 := labJ_len8 (y :: r) (fun z hz => h z (by simp at hz ⊢; exact Or.inr hz))
    have := h x (by simp)
    simp only [labJ, List.length_append, List.length_cons, List.length_nil] at h1 ⊢; omega
theorem byRT_len (told : Bool) (N : List (List UInt8)) (h : ∀ n ∈ N, n.length ≤ 8) (hN : N.length ≤ 4) (k : Nat) : (byRT (byW told N) k).length ≤ 100 := by
  unfold byRT
  split
  · simp
  split
  · simp [kBy]
  split
  · simp
  · have h1 : ((byW told N).drop 1).take (k - 1) = (if told then N else []).take (k - 1) := by cases told <;> rfl
    rw [h1]
    have h2 := labJ_len8 ((if told then N else []).take (k - 1)) (fun n hn => by
      have := List.mem_of_mem_take hn
      cases told
      · simp at this
      · exact h n (by simpa using this))
    have h3 : ((if told then N else []).take (k - 1)).length ≤ 4 := by
      rw [List.length_take]; cases told <;> simp <;> omega
    have h4 : kBy.length = 4 := rfl
    simp only [List.length_append]; omega
theorem rrT_len (r : RR) (h : GoodRR r) : (rrT r).length ≤ 20000 := by
  have h1 := h.d; have h2 := h.rc; have h3 := byRT_len r.told r.names h.nm h.names (byW r.told r.names).length
  have h4 := tmT_len kWait r.t0 h.t0.2 (by decide); have h5 := tmT_len kEvery r.t1 h.t1.2 (by decide); have h6 := tmT_len kRepeat r.t2 h.t2.2 (by decide)
  have h7 := ifRT_len r.ifs h.im; have h8 := h.ifs
  have h9 : kRoute.length = 6 := rfl
  have h10 : (if r.on then kCont else []).length ≤ 9 := by cases r.on <;> simp [kCont]
  unfold rrT
  simp only [List.length_append, List.length_replicate, List.length_cons, List.length_nil]; omega
theorem rrs_len : ∀ (R : List RR), (∀ r ∈ R, GoodRR r) → (R.flatMap rrT).length ≤ 20000 * R.length
  | [], _ => by simp
  | r :: R, h => by
    have h1 := rrs_len R (fun x hx => h x (by simp [hx]))
    have h2 := rrT_len r (h r (by simp))
    simp only [List.flatMap_cons, List.length_append, List.length_cons] at h1 ⊢; omega

theorem byRT_one (B : List (List UInt8)) (h : B.length = 1) : byRT B 1 = kBy ++ [45] := by unfold byRT; simp [h]
theorem byRT_none (B : List (List UInt8)) (h : B.length ≠ 1) : byRT B 1 = [] := by unfold byRT; simp [h]
theorem byRT_two (B : List (List UInt8)) (h : 1 < B.length) : byRT B 2 = kBy ++ B[1] := by
  unfold byRT
  rw [if_neg (by omega), if_neg (by omega), if_neg (by omega)]
  have : (B.drop 1).take (2 - 1) = [B[1]] := by
    rw [List.drop_eq_getElem_cons h]; rfl
  rw [this]; rfl
theorem byRT_next (B : List (List UInt8)) (j : Nat) (h2 : 2 ≤ j) (h : j < B.length) : byRT B (j + 1) = byRT B j ++ ([44] ++ B[j]) := by
  unfold byRT
  rw [if_neg (by omega), if_neg (by omega), if_neg (by omega), if_neg (by omega), if_neg (by omega), if_neg (by omega)]
  obtain ⟨i, rfl⟩ : ∃ i, j = i + 1 := ⟨j - 1, by omega⟩
  have e : (B.drop 1).take (i + 1 + 1 - 1) = (B.drop 1).take (i + 1 - 1) ++ [B[i + 1]] := by
    have hl : i < (B.drop 1).length := by simp; omega
    rw [show i + 1 + 1 - 1 = i + 1 by omega, show i + 1 - 1 = i by omega, List.take_succ_eq_append_getElem hl]
    simp [Nat.add_comm]
  rw [e, labJ_snoc _ _ (by
    intro e0
    have : ((B.drop 1).take (i + 1 - 1)).length = 0 := by rw [e0]; rfl
    simp at this; omega)]
  simp only [List.append_assoc]
theorem IL.cell {base : Nat} {w : World} {M : List RM} {g n cap : Nat} (h : IL base w (.slice (some ⟨g, 0, none⟩) n cap) M) {j : Nat} {m : RM} (hj : M[j]? = some m) (k : Nat) (hk : k < 4) : w.cell? ⟨g, j * 4 + k, none⟩ = (icells m)[k]? := by
  have h1 := flat_get icells 4 (fun a => rfl) M j k m hj hk
  have h3 := World.ownsRow.cells h (g := g) rfl (j * 4 + k)
  have hlt : k < (icells m).length := hk
  rw [List.getElem?_eq_getElem hlt] at h1 ⊢
  have := h3 _ h1
  rw [add0] at this; exact this
def tmP (r : RR) : Nat → List UInt8
  | 3 => tmT kWait r.t0 ++ (tmT kEvery r.t1 ++ tmT kRepeat r.t2)
  | 2 => tmT kEvery r.t1 ++ tmT kRepeat r.t2
  | 1 => tmT kRepeat r.t2
  | _ => []


end Go.Proofs.YtjnaekffodgdcaaDoor
