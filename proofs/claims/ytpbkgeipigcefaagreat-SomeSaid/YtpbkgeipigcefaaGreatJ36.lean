import Derived.Test.YtpbkgeipigcefaaGreatJ35
import Derived.Laws.MakeOwn
set_option linter.unusedVariables false
set_option linter.unusedSimpArgs false
set_option linter.unnecessarySimpa false
namespace Go.Proofs.YtpbkgeipigcefaaGreat
open Go.RowKit

def QR (A : List Nat) (w : World) (v : Value) (q : List (List (Nat × Bool))) : Prop := ∃ cq, RW A 1 w v (lst cq) ∧ RowI conI A w cq q
theorem QR.frm {A S : List Nat} {w w' : World} {v : Value} {q : List (List (Nat × Bool))} (h : QR A w v q) (f : Frm S w w') (hS : ∀ g ∈ S, g ∈ A) : QR A w' v q := by
  obtain ⟨css, h1, h2⟩ := h
  exact ⟨css, h1.frm f hS, h2.frm f hS⟩
theorem RW.con {A : List Nat} {w : World} {v : Value} {L : List (Nat × Bool)} (h : RW A 2 w v (cc L)) : ∃ a cap, v = .slice a L.length cap ∧ ∀ (j : Nat) (hj : j < L.length), ∃ g off, a = some ⟨g, off, none⟩ ∧ g ∉ A ∧ g < w.heap.size ∧ w.cell? ⟨g, off + j * 2, none⟩ = some (.int .i64 (L[j].1 : Nat)) ∧ w.cell? ⟨g, off + j * 2 + 1, none⟩ = some (.bool L[j].2) := by
  obtain ⟨a, cap, e, h1, h2⟩ := h
  rw [cc_len] at e
  refine ⟨a, cap, e, fun j hj => ?_⟩
  obtain ⟨g, off, e2, h3, h4, h5⟩ := h2 j (by rw [cc_len]; exact hj)
  exact ⟨g, off, e2, h3, h4, h5 0 _ (by simp [cc]), h5 1 _ (by simp [cc])⟩

set_option maxRecDepth 100000 in
set_option maxHeartbeats 4000000 in
theorem layChecks_any (w0 : World) (kb : Nat) (w : World) (V : V6) (U : V4) (l : List InM) (h : LY w0 kb w V U l) (q : List (List (Nat × Bool))) (hq : QR [kb] w0 U.q q) (hqb : ∀ x ∈ q, x.length ≤ 1000) (r y n : Nat) (hr : r < q.length) (hql : q.length ≤ 1000) (hl : l.length ≤ 900000000) :
    Calls Tryz.prog 75 #[.pointer (some ⟨kb, 0, none⟩), .int .i64 r, .int .i64 y, .int .i64 n] w fun e w' => e = .returned (.int .i64 ((layChk q[r] y n l).1 : Nat)) ∧ ∃ v, LY w0 kb w' V (U.lay v) (layChk q[r] y n l).2 ∧ LF kb w U.l w' v := by
  obtain ⟨rt, xx, vq, vl⟩ := U
  obtain ⟨cq, h1, h2⟩ := hq
  obtain ⟨aq, capq, e, rq⟩ := row_at h1 h2
  simp only at e
  subst e
  obtain ⟨gq, oq, cs, rfl, hgq, hgk, ⟨vb, rfl, hvb⟩, k1⟩ := rq r hr
  obtain ⟨ab, capb, rfl, rb⟩ := hvb.con
  have p0 := (h.fr.cell (p := ⟨gq, oq + r * 1 + 0, none⟩) hgq hgk).trans (k1 0 _ rfl)
  rw [Nat.mul_one, Nat.add_zero] at p0
  have c8 := h.row.c 8
  simp at c8
  have hQ := hqb q[r] (List.getElem_mem hr)
  have L0 := hide h
  have RB := hide rb
  have hd0 : decide ((r : Int) < (q.length : Int)) = true := decide_eq_true (by omega)
  clear h1 h2 rq k1 hvb rb h hqb
  generalize q[r] = Q at *
  go_enter Tryz.func75, Tryz.ntmps75
  go_wp2_with fail
  go_loopg [2, 10] Q.length (fun k v2 v10 wr => ∃ (j y1 : Nat) (x : Int) (l1 : List InM) (v : Value), j ≤ Q.length ∧ k = j ∧ v10 = .int .i64 x ∧ x = (j : Int) - 1 ∧ v2 = .int .i64 y1 ∧ Hid (l1.length = l.length + (Q.length - j)) ∧ Hid (layChk (Q.drop j) y n l = (y1, l1)) ∧ Hid (LY w0 kb wr V ⟨rt, xx, .slice (some ⟨gq, oq, none⟩) q.length capq, v⟩ l1) ∧ Hid (LF kb w vl wr v))
  case atStart => exact ⟨Q.length, y, _, l, vl, Nat.le_refl _, rfl, rfl, by omega, rfl, by show _ = _; omega, by show _ = _; simp [layChk], L0.out, LF.refl _ _ _⟩
  case round =>
    obtain ⟨j, y1, x, l1, v, hj, rfl, rfl, hx, rfl, HLL, HV, L1, LF1⟩ := hrel
    rcases gk with _ | m
    · obtain rfl : x = -1 := by omega
      clear hx
      go_wp2
      go_ret
      have := HV.out
      rw [List.drop_zero] at this
      rw [this]
      exact ⟨rfl, v, L1.out, LF1.out⟩
    · obtain rfl : x = (m : Int) := by omega
      clear hx
      obtain ⟨gc, oc, rfl, hgc, hgc2, q0, q1⟩ := RB.out m (by omega)
      have s0 := (L1.out.fr.cell (p := ⟨gc, oc + m * 2, none⟩) hgc2 hgc).trans q0
      have s1 := (L1.out.fr.cell (p := ⟨gc, oc + m * 2 + 1, none⟩) hgc2 hgc).trans q1
      have hgc3 := Nat.lt_of_lt_of_le hgc2 L1.out.fr.size
      have hlk : layChk (Q.drop m) y n l = (l1.length, l1 ++ [if Q[m].2 then ⟨2, Q[m].1, y1, n⟩ else ⟨2, Q[m].1, n, y1⟩]) := by
        rw [List.drop_eq_getElem_cons (by omega), layChk, HV.out]
      have hd1 : decide ((m : Int) < (Q.length : Int)) = true := decide_eq_true (by omega)
      generalize Q[m] = c at *
      obtain ⟨ct, ch⟩ := c
      simp only at s0 s1 hlk
      clear q0 q1 HV
      cases ch with
      | true =>
        have HV2 : Hid (layChk (Q.drop m) y n l = (l1.length, l1 ++ [⟨2, ct, y1, n⟩])) := hlk
        have N1 := hide (lay_any w0 kb (wr.alloc (Obj.cells #[.int .i64 2, .int .i64 ct, .int .i64 y1, .int .i64 n] 104)) V _ l1 (L1.out.frm ((Frm.refl [] _).alloc _)) ⟨2, ct, y1, n⟩ (by rw [HLL.out]; omega))
        simp only [icell] at N1
        clear hlk
        go_wp2_with fail
        refine (N1.out).mono ?_
        rintro e w2 ⟨rfl, v2, hL2, hLF2⟩
        have L2 := hide hL2
        have LF2 : Hid (LF kb w vl w2 v2) := LF1.out.trans (hLF2.pre ((Frm.refl [] _).alloc _))
        clear N1 hL2 hLF2 LF1
        go_wp2
        go_roundg m
        case measure => omega
        case rel => exact ⟨m, l1.length, _, _, v2, by omega, rfl, rfl, by omega, rfl, by show _ = _; simp [HLL.out]; omega, HV2, L2, LF2⟩
      | false =>
        have HV2 : Hid (layChk (Q.drop m) y n l = (l1.length, l1 ++ [⟨2, ct, n, y1⟩])) := hlk
        have N1 := hide (lay_any w0 kb (wr.alloc (Obj.cells #[.int .i64 2, .int .i64 ct, .int .i64 n, .int .i64 y1] 104)) V _ l1 (L1.out.frm ((Frm.refl [] _).alloc _)) ⟨2, ct, n, y1⟩ (by rw [HLL.out]; omega))
        simp only [icell] at N1
        clear hlk
        go_wp2_with fail
        refine (N1.out).mono ?_
        rintro e w2 ⟨rfl, v2, hL2, hLF2⟩
        have L2 := hide hL2
        have LF2 : Hid (LF kb w vl w2 v2) := LF1.out.trans (hLF2.pre ((Frm.refl [] _).alloc _))
        clear N1 hL2 hLF2 LF1
        go_wp2
        go_roundg m
        case measure => omega
        case rel => exact ⟨m, l1.length, _, _, v2, by omega, rfl, rfl, by omega, rfl, by show _ = _; simp [HLL.out]; omega, HV2, L2, LF2⟩
end Go.Proofs.YtpbkgeipigcefaaGreat

namespace Go.Proofs.YtpbkgeipigcefaaGreat
open Go.RowKit

theorem cell_new_d (wr : World) (q : Nat) (v : Value) (t : TypeId) : ((wr.drewN q).alloc (Obj.cells #[v] t)).cell? ⟨wr.heap.size, 0, none⟩ = some v := by
  have h : ((wr.drewN q).alloc (Obj.cells #[v] t)).heap[wr.heap.size]? = some (Obj.cells #[v] t) := heap1 (wr.drewN q) _
  unfold World.cell?
  simp only [h]
  rfl
def kidB (C : List CR) (r j : Nat) : Bool := decide (r < j) && (par C j == some r)
theorem kids_eq (C : List CR) (r : Nat) : kids C r = (List.range C.length).filter (kidB C r) := rfl
theorem kids_start (C : List CR) (r : Nat) : (List.range (r + 1)).filter (kidB C r) = [] := by
  rw [List.filter_eq_nil_iff]
  intro j hj
  rw [List.mem_range] at hj
  simp [kidB]; omega
theorem kids_step (C : List CR) (r j : Nat) (h : r < j) : (List.range (j + 1)).filter (kidB C r) = (List.range j).filter (kidB C r) ++ (if (par C j == some r) = true then [j] else []) := by
  rw [List.range_succ, List.filter_append]
  congr 1
  cases hp : (par C j == some r) <;> simp [kidB, h, hp]
theorem parI_eq (C : List CR) (j r : Nat) : (parI C j == (r : Int)) = (par C j == some r) := by
  unfold parI
  cases par C j with
  | none => simp
  | some p => rw [Bool.eq_iff_iff]; simp; omega

set_option maxRecDepth 100000 in
set_option maxHeartbeats 4000000 in
theorem childrenOf_any (kb : Nat) (w : World) (V : V6) (U : V4) (hk : KR w kb V U) (C : List CR) (hrt : RTS [kb] w U.rt C) (hC : C.length ≤ 1000) (hd : ∀ c ∈ C, c.d ≤ 1048576) (r : Nat) (hr : r < C.length) :
    Calls Tryz.prog 74 #[.pointer (some ⟨kb, 0, none⟩), .int .i64 r] w fun e w' => ∃ v, e = .returned v ∧ Frm [] w w' ∧ OW 3 1 w.heap.size w' v (ic (kids C r)) := by
  obtain ⟨rt, xx, vq, vl⟩ := U
  have H := hide hk
  have HRT := hide hrt
  have HD := hide hd
  obtain ⟨art, capt, ert⟩ : ∃ a cap, rt = .slice a C.length cap := by
    obtain ⟨css, h1, h2⟩ := hrt
    obtain ⟨a, cap, e, _⟩ := row_at h1 h2
    exact ⟨a, cap, e⟩
  subst ert
  have hkl := hk.lt
  clear hk hrt hd
  go_enter Tryz.func74, Tryz.ntmps74
  go_wp2_with fail
  go_loopg [5, 6] (C.length - (r + 1)) (fun k v5 v6 wr => ∃ (j : Nat) (acc : List Nat), r < j ∧ j + k = C.length ∧ v6 = .int .i64 j ∧ Hid (acc = (List.range j).filter (kidB C r)) ∧ acc.length ≤ j ∧ Frm [] w wr ∧ OW 3 1 w.heap.size wr v5 (ic acc))
  case atStart => exact ⟨r + 1, [], by omega, by omega, by go_num, by show _ = _; exact (kids_start C r).symm, by simp, (Frm.refl _ _).alloc _, OW.empty _ _ _ _ (Nat.le_refl _)⟩
  case round =>
    obtain ⟨j, acc, hrj, hjk, rfl, HA, hal, hF, hO⟩ := hrel
    obtain ⟨ao, co, he⟩ := hO.shape
    rw [ic_len] at he
    subst he
    have F := hide hF
    have O := hide hO
    have hz := hF.size
    have c6 := (H.out.frm hF (by simp)).c 6
    simp at c6
    by_cases hlt : j < C.length
    · have hd1 : decide ((j : Int) < (C.length : Int)) = true := decide_eq_true (by omega)
      have N1 := hide (parentOf_any wr _ [kb] C (HRT.out.frm hF (by simp)) (by omega) HD.out j hlt)
      have hpe := parI_eq C j r
      have hst := kids_step C r j hrj
      clear hF hO
      generalize parI C j = pj at *
      cases hb : (par C j == some r)
      · have HA2 : Hid (acc = (List.range (j + 1)).filter (kidB C r)) := by show _ = _; rw [hst, hb, HA.out]; simp
        rw [hb] at hpe
        clear hst HA hb
        go_wp2_with fail
        refine (N1.out).mono ?_
        rintro e w2 ⟨rfl, qn, rfl⟩
        clear N1
        go_wp2
        go_roundg (gk - 1)
        case measure => omega
        case rel => exact ⟨j + 1, acc, by omega, by omega, by go_num, HA2, by omega, F.out.drewN _, O.out.frm ((Frm.refl [] _).drewN _) (by simp)⟩
      · have HA2 : Hid (acc ++ [j] = (List.range (j + 1)).filter (kidB C r)) := by show _ = _; rw [hst, hb, HA.out]; simp
        rw [hb] at hpe
        clear hst HA hb
        go_wp2_with fail
        refine (N1.out).mono ?_
        rintro e w2 ⟨rfl, qn, rfl⟩
        clear N1
        go_wp2_with (at_builtin; refine wp_appIc _ rfl _ _ rfl w.heap.size (.slice ao acc.length co) acc wr.heap.size j rfl (O.out.frm (S := []) (((Frm.refl [] _).drewN qn).alloc _) (by simp)) rfl (cell_new_d _ _ _ _) (by omega) (by simp; omega) ?_; intro g2 cap2 w3 hs3 hg3 hor3 hlt3; have O3 := hide hs3; have G3 := hide hg3; clear hs3 hg3 hor3)
        go_roundg (gk - 1)
        case measure => omega
        case rel => exact ⟨j + 1, acc ++ [j], by omega, by omega, by go_num, HA2, by simp; omega, ((F.out.drewN _).alloc _).grown G3.out (fun r hr => .inr (O.out.lt hr).1), O3.out⟩
    · have hd1 : decide ((j : Int) < (C.length : Int)) = false := decide_eq_false (by omega)
      have hj : j = C.length := by omega
      have HV : Hid (acc = kids C r) := by show _ = _; rw [HA.out, hj, kids_eq]
      clear HA hF hO
      go_wp2
      go_ret
      rw [← HV.out]
      exact ⟨_, rfl, F.out, O.out⟩
end Go.Proofs.YtpbkgeipigcefaaGreat

namespace Go.Proofs.YtpbkgeipigcefaaGreat
open Go.RowKit

theorem layChk_len (y n : Nat) (l : List InM) : ∀ q : List (Nat × Bool), (layChk q y n l).2.length = l.length + q.length
  | [] => rfl
  | c :: r => by simp [layChk, layChk_len y n l r]; omega
def bnd : Nat → Nat
  | 0 => 0
  | f + 1 => 16 * (bnd f + 8) + 1
theorem getD_short {q : List (List (Nat × Bool))} (hq : ∀ x ∈ q, x.length ≤ 4) (c : Nat) : (q.getD c []).length ≤ 4 := by
  by_cases h : c < q.length
  · simp [List.getD, h]; exact hq _ (List.getElem_mem h)
  · simp [List.getD, h]
theorem lay1_bnd {rec : Nat → Nat → List InM → Nat × List InM} {R : Nat} (hr : ∀ c d l, (rec c d l).2.length ≤ l.length + R) (C : List CR) {q : List (List (Nat × Bool))} (hq : ∀ x ∈ q, x.length ≤ 4) (d : Nat) (l : List InM) : ∀ K : List Nat, (lay1 rec C q d l K).2.2.length ≤ l.length + K.length * (R + 4)
  | [] => by simp [lay1]
  | c :: r => by
    have h1 := lay1_bnd hr C hq d l r
    rw [lay1]
    generalize lay1 rec C q d l r = x at *
    have h2 := hr c (if (C[c]?.map (·.co)) = some true then x.1 else d) x.2.2
    generalize rec c (if (C[c]?.map (·.co)) = some true then x.1 else d) x.2.2 = b at *
    have h3 := layChk_len b.1 x.1 b.2 (q.getD c [])
    have h4 := getD_short hq c
    show (layChk _ _ _ _).2.length ≤ _
    rw [List.length_cons, Nat.add_mul]
    omega
theorem lay2_bnd {q : List (List (Nat × Bool))} (hq : ∀ x ∈ q, x.length ≤ 4) (first : Nat) (l : List InM) : ∀ Z : List (Nat × Nat), (lay2 q first l Z).2.length ≤ l.length + Z.length * 4
  | [] => by simp [lay2]
  | z :: r => by
    have h1 := lay2_bnd hq first l r
    rw [lay2]
    have h3 := layChk_len z.2 (lay2 q first l r).1 (lay2 q first l r).2 (q.getD z.1 [])
    have h4 := getD_short hq z.1
    rw [List.length_cons, Nat.add_mul]
    omega
theorem kids_len (C : List CR) (r : Nat) : (kids C r).length ≤ C.length := by
  rw [kids_eq]
  exact Nat.le_trans (List.length_filter_le _ _) (by simp)
theorem layR_bnd {C : List CR} (hC : C.length ≤ 16) {q : List (List (Nat × Bool))} (hq : ∀ x ∈ q, x.length ≤ 4) : ∀ f r d l, (layR C q f r d l).2.length ≤ l.length + bnd f
  | 0, _, _, l => by simp [layR]
  | f + 1, r, d, l => by
    have h1 := lay1_bnd (layR_bnd hC hq f) C hq d l (kids C r)
    rw [layR]
    generalize lay1 (layR C q f) C q d l (kids C r) = x at *
    have h2 := lay2_bnd hq x.2.2.length (x.2.2 ++ [⟨1, r, d, 0⟩]) ((kids C r).zip x.2.1)
    have h3 := kids_len C r
    have h4 : ((kids C r).zip x.2.1).length ≤ (kids C r).length := by rw [List.length_zip]; exact Nat.min_le_left _ _
    have h5 : (kids C r).length * (bnd f + 4) ≤ 16 * (bnd f + 4) := Nat.mul_le_mul_right _ (by omega)
    simp at h2
    rw [bnd]
    show (lay2 _ _ _ _).2.length ≤ _
    omega
theorem parGo_some {C : List CR} {d : Nat} : ∀ {i p : Nat}, parGo C d i = some p → p < i ∧ ∃ c, C[p]? = some c ∧ c.d + 1 = d
  | 0, p, h => by simp [parGo] at h
  | j + 1, p, h => by
    rw [parGo] at h
    split at h
    · rename_i e
      cases h
      obtain ⟨c, hc, he⟩ := Option.map_eq_some_iff.1 e
      exact ⟨by omega, c, hc, he⟩
    · obtain ⟨h1, h2⟩ := parGo_some h
      exact ⟨by omega, h2⟩
theorem mem_kids {C : List CR} {r c : Nat} (h : c ∈ kids C r) (hr : r < C.length) : ∃ hc : c < C.length, r < c ∧ C[r].d + 1 = C[c].d := by
  rw [kids_eq, List.mem_filter, List.mem_range] at h
  obtain ⟨hc, hk⟩ := h
  simp [kidB] at hk
  refine ⟨hc, hk.1, ?_⟩
  have := hk.2
  unfold par at this
  rw [List.getElem?_eq_getElem hc] at this
  obtain ⟨_, c', h1, h2⟩ := parGo_some this
  rw [List.getElem?_eq_getElem hr] at h1
  cases h1
  exact h2
structure LC (w0 : World) (kb : Nat) (rt vq : Value) (C : List CR) (q : List (List (Nat × Bool))) : Prop where
  hrt : RTS [kb] w0 rt C
  hq : QR [kb] w0 vq q
  ql : q.length = C.length
  qb : ∀ x ∈ q, x.length ≤ 4
  cl : C.length ≤ 16
  d : ∀ c ∈ C, c.d ≤ 5
def BG (w : World) (gb : Nat) (L : List Nat) : Prop := w.heap[gb]? = some (.cells (nv .i64 L).toArray 3 (0, 0))
theorem BG.cell {w : World} {gb : Nat} {L : List Nat} (h : BG w gb L) (i : Nat) (hi : i < L.length) : w.cell? ⟨gb, i, none⟩ = some (.int .i64 (L[i] : Nat)) := by
  unfold BG at h
  simp [World.cell?, h, nv, hi]
theorem BG.fz {w : World} {gb : Nat} {L : List Nat} (h : BG w gb L) (i : Nat) : w.frozen? ⟨gb, i, none⟩ = false := by
  unfold BG at h
  simp [World.frozen?, h]
theorem BG.lt {w : World} {gb : Nat} {L : List Nat} (h : BG w gb L) : gb < w.heap.size := (Array.getElem?_eq_some_iff.1 h).1
theorem BG.frm {S : List Nat} {w w' : World} {gb : Nat} {L : List Nat} (h : BG w gb L) (f : Frm S w w') (hS : gb ∉ S) : BG w' gb L := (f.block gb h.lt hS).trans h
theorem BG.set {w : World} {gb : Nat} {L : List Nat} (h : BG w gb L) (i y : Nat) : BG (w.setCell ⟨gb, i, none⟩ (.int .i64 y)) gb (L.set i y) := by
  unfold BG at h ⊢
  simp [World.setCell, Array.getElem?_modify, h, nv, List.map_set]
theorem infoInt1 : (Tryz.prog.info? 3).map (fun i => (i.zero, i.size, i.bytes)) = some (some (.int .i64 0), 1, 8) := by kernel_rfl
theorem made_ints (n : Nat) : madeCells #[.int .i64 0] n = (nv .i64 (List.replicate n 0)).toArray := by
  apply Array.ext
  · simp [size_madeCells, nv]
  · intro i h1 h2
    simp [madeCells, nv, Nat.mod_one]
theorem run_ints (n : Nat) (hn : n ≤ 1000000) (u : World) : (Instr.makeSlice 131 (.int .i64 (n : Int)) (.int .i64 (n : Int))).run Tryz.prog u = .ok (.slice (some ⟨u.heap.size, 0, none⟩) n n) (u.alloc (.cells (nv .i64 (List.replicate n 0)).toArray 3)) := by
  obtain ⟨i0, hi, hz0, hz1, hz2⟩ := info_parts2 infoInt1
  have := run_make (P := Tryz.prog) u 131 3 i0 _ Tryz.underlying131 hi hz0 .i64 .i64 (n : Int) (n : Int) (by omega) (Int.le_refl _) (by rw [hz2]; omega) (by omega)
  rw [hz1, Int.toNat_natCast, Nat.mul_one] at this
  rw [this]
  have e : (Value.int .i64 0).cells = #[.int .i64 0] := rfl
  rw [e, made_ints]
end Go.Proofs.YtpbkgeipigcefaaGreat

namespace Go.Proofs.YtpbkgeipigcefaaGreat
open Go.RowKit

theorem RTS.co {A : List Nat} {w : World} {v : Value} {C : List CR} (h : RTS A w v C) : ∃ a cap, v = .slice a C.length cap ∧ ∀ (j : Nat) (hj : j < C.length), ∃ g off, a = some ⟨g, off, none⟩ ∧ g ∉ A ∧ g < w.heap.size ∧ w.cell? ⟨g, off + j * 9 + 8, none⟩ = some (.bool C[j].co) := by
  obtain ⟨css, h1, h2⟩ := h
  obtain ⟨a, cap, e, r⟩ := row_at h1 h2
  refine ⟨a, cap, e, fun j hj => ?_⟩
  obtain ⟨g, off, cs, e2, h3, h4, ⟨vby, vif, rfl, _⟩, k1⟩ := r j hj
  exact ⟨g, off, e2, h4, h3, k1 8 _ rfl⟩
theorem OW.nums {base : Nat} {w : World} {v : Value} {L : List Nat} (h : OW 3 1 base w v (ic L)) : ∃ a cap, v = .slice a L.length cap ∧ ∀ (j : Nat) (hj : j < L.length), ∃ g, a = some ⟨g, 0, none⟩ ∧ v.ownBlock = some g ∧ g < w.heap.size ∧ w.cell? ⟨g, j, none⟩ = some (.int .i64 (L[j] : Nat)) := by
  obtain ⟨a, cap, e⟩ := h.shape
  rw [ic_len] at e
  subst e
  refine ⟨a, cap, rfl, fun j hj => ?_⟩
  obtain ⟨a', cap', e', hr⟩ := (h.rw (A := []) (by simp)).num
  simp only [Value.slice.injEq, true_and] at e'
  obtain ⟨rfl, rfl⟩ := e'
  obtain ⟨g, off, rfl, hg, hc⟩ := hr j hj
  have hsh := h.1.2
  rcases hsh with hn | ⟨g', cap', cur, e', _⟩
  · rw [ic_len] at hn
    have := hn.2
    omega
  · simp only [Value.slice.injEq, Option.some.injEq, Addr.mk.injEq] at e'
    obtain ⟨⟨rfl, rfl, _⟩, _⟩ := e'
    rw [Nat.zero_add] at hc
    exact ⟨_, rfl, rfl, hg, hc⟩
end Go.Proofs.YtpbkgeipigcefaaGreat

