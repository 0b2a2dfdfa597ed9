import Derived.Test.YtjnaekffodgdcaaDoorR12
namespace Go.Proofs.YtjnaekffodgdcaaDoor
open Go.RowKit
set_option linter.unusedVariables false
set_option linter.unusedSimpArgs false
set_option linter.unnecessarySimpa false

theorem infoPR : (Tryd.prog.info? 40).map (fun i => (i.zero, i.size, i.bytes)) = some (some (.pointer none), 1, 8) := by kernel_rfl

/-- 'way = append(way, r)'. -/
theorem wp_appP {ops : Array Oper} {rest : List Oper} {o : Oper} {a : Act} {Q : Exit → Act → World → Prop} (w : World) (hgd : o.guard = none) (s x : Operand)
    (ho : o.op = .call { callee := .builtin .append, args := #[s, x], argTypes := #[41, 41] })
    (base : Nat) (v : Value) (B : List Nat) (b b1 : Nat) (hs : a.eval s = v) (hown : LP base w v B) (hx : a.eval x = .slice (some ⟨b1, 0, none⟩) 1 1)
    (hc : w.cell? ⟨b1, 0, none⟩ = some (PT b)) (hlen : B.length ≤ 1048576) (hbase : base ≤ w.heap.size)
    (h : ∀ g cap w', LP base w' (.slice (some ⟨g, 0, none⟩) (B.length + 1) cap) (B ++ [b]) → w.grownBy w' v.ownBlock → (v.ownBlock = some g ∨ g = w.heap.size) → wpList Tryd.prog ops Q rest (a.put o.dst (.slice (some ⟨g, 0, none⟩) (B.length + 1) cap)) w') :
    wpList Tryd.prog ops Q (o :: rest) a w := by
  obtain ⟨i0, hi, hz0, hz1, hz2⟩ := info_parts infoPR
  refine wpList_append_lies w hgd s x 41 ho base 40 i0 (.pointer none) 1 8 Tryd.underlying41 hi hz0 hz1 hz2 rfl (by decide) v B.length (B.map PT) hs hown ⟨b1, 0, none⟩ 1 1 [PT b] hx rfl ?_ (fun x hx => by simp at hx; subst hx; rfl) (by decide) (by unfold maxLen; omega) (by omega) hbase w.heap.size rfl ?_
  · intro j u hj
    have : j = 0 := by
      cases j with
      | zero => rfl
      | succ j => simp at hj
    subst this
    rw [add0]
    simp at hj
    rw [← hj]; exact hc
  · intro g cap w' h1 h2 h3 h4
    exact h g cap w' (by unfold LP; simpa using h1) h2 h3

def grE (cb : Nat) (f : Nat × Nat) : Ending := .returned (.tuple #[if f.1 = 0 then PT cb else .pointer none, .int .i64 f.1, .int .i64 f.2])

theorem grF_tree (L : List (List UInt8)) (R : List RR) (n : Nat) (h : treeFR R = n) (hn : n ≠ 0) : grF L R = (3, n) := by
  unfold grF; rw [h, if_pos hn]
theorem grF_dup (L : List (List UInt8)) (R : List RR) (h : treeFR R = 0) (hd : dupGo [] L = true) : grF L R = (4, 1) := by
  unfold grF; rw [h, if_neg (by simp), if_pos hd]
theorem grF_name (L : List (List UInt8)) (R : List RR) (n : Nat) (h : treeFR R = 0) (hd : dupGo [] L = false) (hn : nameGoR L R 0 = n) (h0 : n ≠ 0) : grF L R = (4, n) := by
  unfold grF; rw [h, if_neg (by simp), hd, hn, if_pos h0]; rfl
theorem grF_ok (L : List (List UInt8)) (R : List RR) (h : treeFR R = 0) (hd : dupGo [] L = false) (hn : nameGoR L R 0 = 0) : grF L R = (0, 0) := by
  unfold grF; rw [h, if_neg (by simp), hd, hn]; rfl
theorem treeFR_go (R : List RR) (h : 0 < R.length) : treeFR R = growGo R 0 0 := by
  unfold treeFR
  cases R with
  | nil => simp at h
  | cons => rfl
def RBs (w : World) (X : List (Nat × RRV × RR)) : Prop := ∃ K : Nat → Value, ∀ x ∈ X, RB w x.1 { x.2.1 with vk := K x.1 }
theorem RBs.mk {w : World} {X : List (Nat × RRV × RR)} {K : Nat → Value} (h : ∀ x ∈ X, RB w x.1 { x.2.1 with vk := K x.1 }) : RBs w X := ⟨K, h⟩
theorem RBs.frm {w w' : World} {X : List (Nat × RRV × RR)} (h : RBs w X) (f : Frm [] w w') : RBs w' X := by
  obtain ⟨K, h⟩ := h
  exact ⟨K, fun x hx => (h x hx).frm f (by simp)⟩
theorem idx_lt : ∀ (L : List (List UInt8)) (x : List UInt8) (j : Nat), (∃ k, L.findIdx? (· == x) = some k ∧ k < j) ↔ x ∈ L.take j
  | [], x, j => by simp
  | y :: L, x, 0 => by simp
  | y :: L, x, j + 1 => by
    rw [List.findIdx?_cons, List.take_succ_cons]
    by_cases h : (y == x) = true
    · rw [if_pos h]
      have : y = x := by simpa using h
      subst this
      simp
    · rw [if_neg h]
      have hn : x ≠ y := fun e => h (by simp [e])
      rw [List.mem_cons, ← idx_lt L x j]
      constructor
      · rintro ⟨k, hk, hl⟩
        cases hh : L.findIdx? (· == x) with
        | none => simp [hh] at hk
        | some k' => simp [hh] at hk; exact .inr ⟨k', rfl, by omega⟩
      · rintro (e | ⟨k, hk, hl⟩)
        · exact (hn e).elim
        · exact ⟨k + 1, by simp [hk], by omega⟩
theorem find_dup (L : List (List UInt8)) (j : Nat) (x : List UInt8) (hx : x ∈ L) : decide (findI L x < (j : Int)) = (L.take j).contains x := by
  have h := idx_lt L x j
  rw [Bool.eq_iff_iff, decide_eq_true_iff, List.contains_iff_mem, ← h]
  unfold findI
  cases hh : L.findIdx? (· == x) with
  | none =>
    have := List.findIdx?_eq_none_iff.1 hh x hx
    simp at this
  | some k => simp
theorem find_neg (L : List (List UInt8)) (x : List UInt8) : decide (findI L x < 0) = !(L.contains x) := by
  have h := idx_lt L x L.length
  rw [List.take_length] at h
  unfold findI
  cases hh : L.findIdx? (· == x) with
  | none =>
    have : x ∉ L := fun hx => by obtain ⟨k, hk, _⟩ := h.2 hx; rw [hh] at hk; simp at hk
    simp [this]
  | some k =>
    have hk : k < L.length := by have := (List.findIdx?_eq_some_iff_findIdx_eq.1 hh).1; exact this
    have : x ∈ L := h.1 ⟨k, hh, hk⟩
    simp [this]
/-- 'append(up.Kids, r)'. -/
theorem wp_appK {ops : Array Oper} {rest : List Oper} {o : Oper} {a : Act} {Q : Exit → Act → World → Prop} (w : World) (hgd : o.guard = none) (s x : Operand)
    (ho : o.op = .call { callee := .builtin .append, args := #[s, x], argTypes := #[41, 41] })
    (base : Nat) (v : Value) (n : Nat) (xs : List Value) (b b1 : Nat) (hs : a.eval s = v) (hown : w.ownsRow base 40 1 v n xs) (hx : a.eval x = .slice (some ⟨b1, 0, none⟩) 1 1)
    (hc : w.cell? ⟨b1, 0, none⟩ = some (PT b)) (hlen : n ≤ 1048576) (hbase : base ≤ w.heap.size)
    (h : ∀ g cap w', w'.ownsRow base 40 1 (.slice (some ⟨g, 0, none⟩) (n + 1) cap) (n + 1) (xs ++ [PT b]) → w.grownBy w' v.ownBlock → (v.ownBlock = some g ∨ g = w.heap.size) → wpList Tryd.prog ops Q rest (a.put o.dst (.slice (some ⟨g, 0, none⟩) (n + 1) cap)) w') :
    wpList Tryd.prog ops Q (o :: rest) a w := by
  obtain ⟨i0, hi, hz0, hz1, hz2⟩ := info_parts infoPR
  refine wpList_append_lies w hgd s x 41 ho base 40 i0 (.pointer none) 1 8 Tryd.underlying41 hi hz0 hz1 hz2 rfl (by decide) v n xs hs hown ⟨b1, 0, none⟩ 1 1 [PT b] hx rfl ?_ (fun x hx => by simp at hx; subst hx; rfl) (by decide) (by unfold maxLen; omega) (by omega) hbase w.heap.size rfl ?_
  · intro j u hj
    have : j = 0 := by
      cases j with
      | zero => rfl
      | succ j => simp at hj
    subst this
    rw [add0]
    simp at hj
    rw [← hj]; exact hc
  · intro g cap w' h1 h2 h3 h4
    exact h g cap w' h1 h2 h3
theorem cell_new1 (w : World) (v : Value) (t : TypeId) (n : Nat) (h : w.heap.size = n) : (w.alloc (.cells #[v] t)).cell? ⟨n, 0, none⟩ = some v := by subst h; simp
theorem set_size (w : World) (a : Addr) (v : Value) : (w.setCell a v).heap.size = w.heap.size := by simp [World.setCell]
theorem CBR.set1 {w : World} {b : Nat} {x y z : Value} (h : CBR w b x y z) (v : Value) : CBR (w.setCell ⟨b, 1, none⟩ v) b x v z := by
  unfold CBR at *; simp [World.setCell, Array.getElem?_modify, h]
theorem LP.some {base : Nat} {w : World} {a : Option Addr} {n cap : Nat} {B : List Nat} (h : LP base w (.slice a n cap) B) (h0 : 0 < B.length) : ∃ g, a = some ⟨g, 0, none⟩ ∧ n = B.length ∧ B.length ≤ cap := by
  rcases h.2 with ⟨_, e⟩ | ⟨g, c, cur, e, _, _, h3, _⟩
  · omega
  · simp at e
    obtain ⟨rfl, rfl, rfl⟩ := e
    exact ⟨g, rfl, rfl, h3⟩

set_option maxRecDepth 100000 in
set_option maxHeartbeats 8000000 in
theorem grown_any (cb base : Nat) (vr vl : Value) (L : List (List UInt8)) (X : List (Nat × RRV × RR)) (w : World) (hc : CBR w cb vr (.pointer none) vl)
    (hs : ∀ w', Frm (cb :: X.map (·.1)) w w' → RS 0 w' vr L ∧ LP base w' vl (X.map (·.1)))
    (hx : ∀ x ∈ X, RQ base w x.1 x.2.1 x.2.2 ∧ x.2.1.vk = .slice none 0 0) (hrow : ∀ (i : Nat) x, X[i]? = some x → x.2.1.row = (i : Int) + 2) (hcx : ∀ x ∈ X, x.1 ≠ cb) (hnd : (X.map (·.1)).Nodup) (hL : L.length ≤ 9000) (hX : X.length ≤ 9000) (hdd : ∀ x ∈ X, x.2.2.d ≤ 9000) :
    Calls Tryd.prog 13 #[PT cb] w fun e w' => e = grE cb (grF L (X.map (·.2.2))) ∧ (∃ vt, CBR w' cb vr vt vl) ∧ RBs w' X ∧ Frm (cb :: X.map (·.1)) w w' := by
  have htl := bs_toList
  have k45 : ({ data := #[45] } : ByteArray).toList = [45] := bs_toList _
  have Hc := hide hc
  have Hs := hide hs
  have Hx := hide hx
  have Hrow := hide hrow
  have Hcx := hide hcx
  have Hdd := hide hdd
  have hcl := hc.lt
  have G0 : GI w w cb X (fun _ => .slice none 0 0) [] (.slice none 0 0) 0 := by
    refine ⟨fun x hx => (Hx.out x hx).1.at_.lt, fun x hx => ?_, fun x hx => ⟨0, [], Nat.le_refl _, World.ownsRow_nil _ _ _ _⟩, by simp [Value.ownBlock], by simp [Value.ownBlock], World.ownsRow_nil _ _ _ _, by simp, Frm.refl _ _⟩
    have h1 := (Hx.out x hx).1.at_
    have h2 := (Hx.out x hx).2
    rw [show ({ x.2.1 with vk := .slice none 0 0 } : RRV) = x.2.1 by rw [← h2]]
    exact h1
  have HG0 := hide G0
  obtain ⟨⟨ar, cr, hvr, -, hrc, -⟩, hl0⟩ := hs w (Frm.refl _ _)
  obtain ⟨al, cl, hvl⟩ := own_shape hl0
  rw [List.length_map] at hvl
  subst hvr hvl
  clear hc hs hx hrow hcx hdd G0 hl0 hnd
  show Calls Tryd.prog 13 #[.pointer (some ⟨cb, 0, none⟩)] w _
  go_enter Tryd.func13, Tryd.ntmps13
  go_wp2_with fail
  go_loopg [5, 6] X.length (fun k vw vi wr => ∃ (j : Nat) (K : Nat → Value) (B : List Nat) (vt : Value), j + k = X.length ∧ vi = .int .i64 j ∧ (∃ aw cw, vw = .slice aw B.length cw) ∧ GI w wr cb X K B vw j ∧ CBR wr cb (.slice ar L.length cr) vt (.slice al X.length cl) ∧ (j = 0 → vt = .pointer none ∧ vw = .slice none 0 0) ∧ (0 < j → ∃ p, vt = .pointer (some p)) ∧ growGo ((X.map (·.2.2)).drop j) j B.length = growGo (X.map (·.2.2)) 0 0)
  case atStart => exact ⟨0, _, [], _, by omega, rfl, ⟨_, _, rfl⟩, HG0.out, Hc.out, fun _ => ⟨rfl, rfl⟩, fun h => by omega, by simp⟩
  case round =>
  obtain ⟨j, K, B, vt, hjk, hvi, ⟨aw, cw, hvw⟩, hgi, hcb, h0, h1, hgo⟩ := hrel
  subst hvi hvw
  clear HG0 Hc
  have Hgi := hide hgi
  have Hcb := hide hcb
  have H0 := hide h0
  have H1 := hide h1
  have Hgo := hide hgo
  have hzr := hgi.frm.size
  have hcw := hcb.lt
  have hlr := (Hs.out _ hgi.frm).2
  have c0 : wr.cell? ⟨cb, 0, none⟩ = some (.slice ar L.length cr) := hcb.cell 0
  have c1 : wr.cell? ⟨cb, 1, none⟩ = some vt := hcb.cell 1
  have c2 : wr.cell? ⟨cb, 2, none⟩ = some (.slice al X.length cl) := hcb.cell 2
  have f1 := hcb.fz 1
  by_cases hlt : j < X.length
  · obtain ⟨m, rfl⟩ : ∃ m, gk = m + 1 := ⟨gk - 1, by omega⟩
    have hd1 : decide ((j : Int) < (X.length : Int)) = true := decide_eq_true (by omega)
    obtain ⟨gl, hal, -, hlc⟩ := hlr.some (by simp; omega)
    subst hal
    rw [List.length_map] at hlc
    have cj : wr.cell? ⟨gl, j, none⟩ = some (PT X[j].1) := by
      have := hlr.cell j (by simpa using hlt); simpa using this
    have hxm : X[j] ∈ X := List.getElem_mem hlt
    have hq := (Hx.out _ hxm).1
    have hrow := Hrow.out j _ (List.getElem?_eq_getElem hlt)
    have hrb := hgi.rb _ hxm
    have hgd := Hdd.out _ hxm
    have Hst : Hid (growGo (X.map (·.2.2)) 0 0 = if (!(rootR j X[j].2.2) && !(belowR j B.length X[j].2.2)) || decide (5 < X[j].2.2.d) || decide (16 ≤ j) then j + 2 else growGo ((X.map (·.2.2)).drop (j + 1)) (j + 1) (X[j].2.2.d + 1)) := by
      show _ = _
      have e : (X.map (·.2.2)).drop j = X[j].2.2 :: (X.map (·.2.2)).drop (j + 1) := by
        rw [List.drop_eq_getElem_cons (by simpa using hlt)]; simp
      rw [← Hgo.out, e]
      conv => lhs; unfold growGo
    have hTF : Hid (treeFR (X.map (·.2.2)) = growGo (X.map (·.2.2)) 0 0) := treeFR_go _ (by simp; omega)
    generalize hXj : X[j] = x at *
    have HXj := hide hXj
    clear hgi hcb h0 h1 hgo hlr hXj
    obtain ⟨b, ⟨vrc, vby, vt0, vt1, vt2, vif, von, vk, vd, vrow⟩, ⟨rc, told, names, t0, t1, t2, ifs, on, dn⟩⟩ := x
    obtain ⟨-, e1, -, -, -, -, hil, e2, e3⟩ := hq
    simp only at e1 e2 e3 hrow hrb hil hgd
    subst e1 e2 e3 hrow
    obtain ⟨ai, ci, hvif⟩ := own_shape hil
    subst hvif
    clear hil
    have Hrb := hide hrb
    have hbl : b < w.heap.size := Hgi.out.lt _ hxm
    have d0 : wr.cell? ⟨b, 0, none⟩ = some (.string (bs vrc)) := hrb.cell 0
    have d5 : wr.cell? ⟨b, 5, none⟩ = some (.slice ai ifs.length ci) := hrb.cell 5
    have d6 : wr.cell? ⟨b, 6, none⟩ = some (.bool von) := hrb.cell 6
    have d8 : wr.cell? ⟨b, 8, none⟩ = some (.int .i64 (dn : Int)) := hrb.cell 8
    have d9 : wr.cell? ⟨b, 9, none⟩ = some (.int .i64 ((j : Int) + 2)) := hrb.cell 9
    unfold PT at cj
    clear hrb
    have HF : Hid ((((!(rootR j ⟨vrc, told, names, t0, t1, t2, ifs, von, dn⟩) && !(belowR j B.length ⟨vrc, told, names, t0, t1, t2, ifs, von, dn⟩)) || decide (5 < dn) || decide (16 ≤ j)) = true) → grF L (X.map (·.2.2)) = (3, j + 2)) := by
      intro hh
      refine grF_tree _ _ _ ?_ (by omega)
      rw [hTF.out, Hst.out]; exact if_pos hh
    have HN : Hid ((((!(rootR j ⟨vrc, told, names, t0, t1, t2, ifs, von, dn⟩) && !(belowR j B.length ⟨vrc, told, names, t0, t1, t2, ifs, von, dn⟩)) || decide (5 < dn) || decide (16 ≤ j)) = false) → growGo ((X.map (·.2.2)).drop (j + 1)) (j + 1) (dn + 1) = growGo (X.map (·.2.2)) 0 0) := by
      intro hh
      rw [Hst.out]; exact (if_neg (by simp only [hh]; simp)).symm
    clear Hst hTF
    by_cases hj0 : j = 0
    · have j1 : ((j : Int) == 0) = true := by simp [hj0]
      have j2 : decide ((0 : Int) < (j : Int)) = false := decide_eq_false (by omega)
      have j3 : decide ((16 : Int) ≤ (j : Int)) = false := decide_eq_false (by omega)
      have Hj0 := hide hj0
      have j4 : j ≤ 0 := by omega
      clear hj0
      cases g1 : ((dn : Int) == 0)
      · have n1 : (dn == 0) = false := beq_eq_false_iff_ne.2 (by intro e; subst e; simp at g1)
        have Hn1 := hide n1
        clear n1
        go_wp2_with fail
        go_quiet (fail)
        go_wp2
        go_ret3
        refine ⟨?_, ⟨vt, Hcb.out⟩, RBs.mk Hgi.out.rb, Hgi.out.frm.drewN _⟩
        rw [HF.out (by simp [rootR, belowR, Hj0.out, Hn1.out])]; simp [grE]
      have dn0 : dn = 0 := by simpa using g1
      subst dn0
      clear g1
      cases g2 : ((ifs.length : Int) == 0)
      · have n1 : Hid (ifs.isEmpty = false) := by
          show _ = _
          cases ifs with
          | nil => simp at g2
          | cons => rfl
        go_wp2_with fail
        go_quiet (fail)
        go_wp2
        go_ret3
        refine ⟨?_, ⟨vt, Hcb.out⟩, RBs.mk Hgi.out.rb, Hgi.out.frm.drewN _⟩
        rw [HF.out (by simp [rootR, belowR, Hj0.out, n1.out])]; simp [grE]
      have n2 : Hid (ifs.isEmpty = true) := by
          show _ = _
          cases ifs with
          | nil => rfl
          | cons => simp at g2; omega
      cases von
      case true =>
        go_wp2_with fail
        go_quiet (fail)
        go_wp2
        go_ret3
        refine ⟨?_, ⟨vt, Hcb.out⟩, RBs.mk Hgi.out.rb, Hgi.out.frm.drewN _⟩
        rw [HF.out (by simp [rootR, belowR, Hj0.out])]; simp [grE]
      cases g4 : (vrc == [45])
      case true =>
        go_wp2_with fail
        go_quiet (fail)
        go_wp2
        go_ret3
        refine ⟨?_, ⟨vt, Hcb.out⟩, RBs.mk Hgi.out.rb, Hgi.out.frm.drewN _⟩
        rw [HF.out (by simp [rootR, belowR, Hj0.out, g4])]; simp [grE]
      -- the root
      obtain ⟨hvt, hvw⟩ := H0.out Hj0.out
      simp only [Value.slice.injEq] at hvw
      obtain ⟨haw, hB0, hcw0⟩ := hvw
      subst haw hcw0 hvt
      have hBn : B = [] := List.eq_nil_of_length_eq_zero hB0
      subst hBn
      have Hx2 := HN.out (by simp [rootR, Hj0.out, n2.out, g4])
      have HX2 := hide Hx2
      clear Hx2
      have hbr : b < wr.heap.size := by omega
      have hne : cb ≠ b := fun e => (Hcx.out _ hxm) e.symm
      go_wp2_with (first | (at_builtin; refine wp_appP _ rfl _ _ rfl w.heap.size (.slice none 0 0) [] b wr.heap.size rfl (World.ownsRow_nil _ _ _ _) rfl (cell_new1 _ _ _ _ (set_size _ _ _)) (by simp) (by simp; omega) ?_; intro g2 cap2 w2 hs2 hg2 hb2))
      go_roundg m
      case measure => omega
      case rel =>
        have G1 := ((Hgi.out.root hcl Hcx.out (.pointer (some ⟨b, 0, none⟩))).frm0 ((Frm.refl _ _).alloc (Obj.cells #[.pointer (some ⟨b, 0, none⟩)] 40))).wayStep ⟨_, hxm, rfl⟩ hg2 hs2 hb2
        exact ⟨j + 1, K, [b], .pointer (some ⟨b, 0, none⟩), by omega, by go_num, ⟨_, _, rfl⟩, G1.up, ((Hcb.out.set1 _).frm (S := []) ((Frm.refl _ _).alloc _) (by simp)).frm (S := []) (Frm.of_grow hg2) (by simp), fun h => by omega, fun _ => ⟨_, rfl⟩, HX2.out⟩
    · have j1 : ((j : Int) == 0) = false := beq_eq_false_iff_ne.2 (by omega)
      have j2 : decide ((0 : Int) < (j : Int)) = true := decide_eq_true (by omega)
      by_cases g1 : 0 < dn
      case neg =>
        have g1' : decide ((0 : Int) < (dn : Int)) = false := decide_eq_false (by omega)
        go_wp2_with fail
        go_quiet (fail)
        go_wp2
        go_ret3
        refine ⟨?_, ⟨vt, Hcb.out⟩, RBs.mk Hgi.out.rb, Hgi.out.frm.drewN _⟩
        rw [HF.out (by simp [rootR, belowR, hj0, g1])]; simp [grE]
      have g1' : decide ((0 : Int) < (dn : Int)) = true := decide_eq_true (by omega)
      by_cases g2 : dn ≤ B.length
      case neg =>
        have g2' : decide ((dn : Int) ≤ (B.length : Int)) = false := decide_eq_false (by omega)
        go_wp2_with fail
        go_quiet (fail)
        go_wp2
        go_ret3
        refine ⟨?_, ⟨vt, Hcb.out⟩, RBs.mk Hgi.out.rb, Hgi.out.frm.drewN _⟩
        rw [HF.out (by simp [rootR, belowR, hj0, g2])]; simp [grE]
      have g2' : decide ((dn : Int) ≤ (B.length : Int)) = true := decide_eq_true (by omega)
      by_cases g3 : 5 < dn
      case pos =>
        have g3' : decide ((5 : Int) < (dn : Int)) = true := decide_eq_true (by omega)
        go_wp2_with fail
        go_quiet (fail)
        go_wp2
        go_ret3
        refine ⟨?_, ⟨vt, Hcb.out⟩, RBs.mk Hgi.out.rb, Hgi.out.frm.drewN _⟩
        rw [HF.out (by simp [g3])]; simp [grE]
      have g3' : decide ((5 : Int) < (dn : Int)) = false := decide_eq_false (by omega)
      by_cases g4 : 16 ≤ j
      case pos =>
        have g4' : decide ((16 : Int) ≤ (j : Int)) = true := decide_eq_true (by omega)
        go_wp2_with fail
        go_quiet (fail)
        go_wp2
        go_ret3
        refine ⟨?_, ⟨vt, Hcb.out⟩, RBs.mk Hgi.out.rb, Hgi.out.frm.drewN _⟩
        rw [HF.out (by simp [g4])]; simp [grE]
      have g4' : decide ((16 : Int) ≤ (j : Int)) = false := decide_eq_false (by omega)
      -- below
      obtain ⟨gw, haw, -, hBc⟩ := Hgi.out.way.some (by omega)
      subst haw
      obtain ⟨d1, hd1n⟩ : ∃ d1, dn = d1 + 1 := ⟨dn - 1, by omega⟩
      subst hd1n
      have hB1 : d1 < B.length := by omega
      have cu : wr.cell? ⟨gw, d1, none⟩ = some (PT B[d1]) := LP.cell Hgi.out.way d1 hB1
      obtain ⟨⟨bu, vu, ru⟩, hym, hyb⟩ := Hgi.out.wayX _ (List.getElem_mem hB1)
      simp only at hyb
      generalize B[d1] = bu' at *
      subst hyb
      have HGc := hide (Hgi.out.cut (d1 + 1) g2)
      have hB' : (B.take (d1 + 1)).length = d1 + 1 := by rw [List.length_take]; omega
      obtain ⟨nk, xk, hnk, hok⟩ := Hgi.out.kid _ hym
      simp only at hok
      obtain ⟨ak, ck, hvk⟩ := own_shape hok
      have hru := Hgi.out.rb _ hym
      have e7 : wr.cell? ⟨bu, 7, none⟩ = some (.slice ak nk ck) := (hru.cell 7).trans (by rw [← hvk]; rfl)
      have z7 : wr.frozen? ⟨bu, 7, none⟩ = false := hru.fz 7
      have hbu : bu < w.heap.size := Hgi.out.lt _ hym
      have Hok : Hid (wr.ownsRow w.heap.size 40 1 (.slice ak nk ck) nk xk) := by
        show World.ownsRow _ _ _ _ _ _ _
        rw [← hvk]; exact hok
      have Hvk := hide hvk
      have hdm : ((d1 + 1 : Nat) : Int) - 1 = (d1 : Int) := by omega
      have Hgw : Hid (w.heap.size ≤ gw) := (Hgi.out.way.lt gw rfl).1
      have hbr : b < wr.heap.size := by omega
      have Hne : Hid (cb ≠ bu) := fun e => (Hcx.out _ hym) e.symm
      have Hx2 := HN.out (by simp [rootR, belowR, hj0, g2, g3, g4, j2]; omega)
      have HX2 := hide Hx2
      clear Hx2 hvk hru hok
      generalize B.take (d1 + 1) = B' at *
      unfold PT at cu
      have ag : Value.ownBlock (.slice ak nk ck) ≠ some bu := fun e => by have := Hok.out.lt _ e; omega
      go_wp2_with (first | (at_builtin; refine wp_appK _ rfl _ _ rfl w.heap.size (.slice ak nk ck) nk xk b wr.heap.size rfl (Hok.out.alloc _) rfl (cell_new1 _ _ _ _ rfl) (by omega) (by simp; omega) ?_; intro gg cap2 w4 hown4 hgrow hat; have e8 : w4.cell? ⟨bu, 7, none⟩ = some (.slice ak nk ck) := (hgrow.cell_far ⟨bu, 7, none⟩ (by simp; omega) (Ne.symm ag)).trans ((((Frm.refl [] wr).alloc _).cell (p := ⟨bu, 7, none⟩) (by simp; omega) (by simp)).trans e7); have z8 := (hgrow.frozen_far ⟨bu, 7, none⟩ (by simp; omega) (Ne.symm ag)).trans (((Frm.refl [] wr).alloc _).frozen (p := ⟨bu, 7, none⟩) (by simp; omega) (by simp)); rw [z7] at z8; have HO := hide hgrow; have HO4 := hide hown4; have Hat := hide hat; have hz4 := hgrow.size; simp at hz4; have HG4 := hide ((HGc.out.frm0 ((Frm.refl _ _).alloc _)).kidStep hym hnk (by rw [Hvk.out]; exact hgrow) hown4 (by rw [Hvk.out]; exact hat)); clear hgrow hown4 hat) | (at_builtin; refine wp_appP _ rfl _ _ rfl w.heap.size (.slice (some ⟨gw, 0, none⟩) (d1 + 1) cw) B' b w4.heap.size rfl ((HG4.out.frm0 ((Frm.refl _ _).alloc _)).way) rfl (cell_new1 _ _ _ _ (set_size _ _ _)) (by omega) (by simp; omega) ?_; intro g2 cap3 w5 hs5 hg5 hb5))
      go_roundg m
      case measure => omega
      case rel =>
        have G1 := (HG4.out.frm0 ((Frm.refl _ _).alloc (Obj.cells #[.pointer (some ⟨b, 0, none⟩)] 40))).wayStep ⟨_, hxm, rfl⟩ hg5 hs5 hb5
        obtain ⟨p, hp⟩ := H1.out (by omega)
        refine ⟨j + 1, _, B' ++ [b], vt, by omega, by go_num, ⟨some ⟨g2, 0, none⟩, cap3, by simp [hB']⟩, by rw [hB'] at G1; exact G1, ?_, fun h => by omega, fun _ => ⟨p, hp⟩, ?_⟩
        · have C4 : CBR w4 cb (.slice ar L.length cr) vt (.slice (some ⟨gl, 0, none⟩) X.length cl) := (Hcb.out.frm (S := []) ((Frm.refl _ _).alloc _) (by simp)).frm (Frm.of_grow HO.out) (by rw [Option.mem_toList]; intro e; have := Hok.out.lt _ e; omega)
          have C5 := C4.frm (S := [bu]) (((Frm.refl _ _).setCell (p := ⟨bu, 7, none⟩) (by simp) (.slice (some ⟨gg, 0, none⟩) (nk + 1) cap2)).alloc (Obj.cells #[.pointer (some ⟨b, 0, none⟩)] 40)) (by simpa using Hne.out)
          exact C5.frm (Frm.of_grow hg5) (by simp [Value.ownBlock]; have := Hgw.out; omega)
        · rw [List.length_append, hB']; exact HX2.out
  · have hd1 : decide ((j : Int) < (X.length : Int)) = false := decide_eq_false (by omega)
    have hjX : j = X.length := by omega
    have hg0 : growGo (X.map (·.2.2)) 0 0 = 0 := by
      rw [← Hgo.out, List.drop_eq_nil_of_le (by simp; omega)]; rfl
    clear hlr Hgo
    by_cases hX0 : X.length = 0
    · have hj0 : j = 0 := by omega
      obtain ⟨hvt, hvw⟩ := H0.out hj0
      subst hvt
      have HF : Hid (grF L (X.map (·.2.2)) = (3, 2)) := by
        refine grF_tree _ _ _ ?_ (by omega)
        have : X = [] := List.eq_nil_of_length_eq_zero hX0
        rw [this]; rfl
      clear hX0 hj0 hjX hvw hg0 hgi hcb h0 h1 hgo
      go_wp2
      go_ret3
      refine ⟨?_, ⟨_, Hcb.out⟩, RBs.mk Hgi.out.rb, Hgi.out.frm⟩
      rw [HF.out]; simp [grE]
    obtain ⟨p, hp⟩ := H1.out (by omega)
    subst hp
    have HT : Hid (treeFR (X.map (·.2.2)) = 0) := by
      show _ = _; rw [treeFR_go _ (by simp; omega)]; exact hg0
    clear hg0 hgi hcb h0 h1 hgo H0 H1
    obtain ⟨wl, hwl⟩ : ∃ wl, wl = wr := ⟨_, rfl⟩
    subst hwl
    go_wp2_with fail
    go_loopg [13] L.length (fun k vi wq => ∃ (i : Nat), i + k = L.length ∧ vi = .int .i64 i ∧ dupGo (L.take i) (L.drop i) = dupGo [] L ∧ Frm [] wl wq)
    case atStart => exact ⟨0, by omega, rfl, by simp, Frm.refl _ _⟩
    case round =>
    obtain ⟨i, hik, hvi, hgo, hfr⟩ := hrel
    subst hvi
    have Hgo := hide hgo
    have Hfr := hide hfr
    have Hcb2 := hide (Hcb.out.frm hfr (by simp))
    have c0' : wr.cell? ⟨cb, 0, none⟩ = some (.slice ar L.length cr) := Hcb2.out.cell 0
    have HRS := hide (Hs.out _ (Hgi.out.frm.trans hfr.nil)).1
    clear hgo hfr
    by_cases hil : i < L.length
    · obtain ⟨m, rfl⟩ : ∃ m, gk = m + 1 := ⟨gk - 1, by omega⟩
      have hd2 : decide ((i : Int) < (L.length : Int)) = true := decide_eq_true (by omega)
      obtain ⟨ga, oa, har, -, -, -, hcell⟩ := HRS.out.at' (by omega)
      subst har
      have ci : wr.cell? ⟨ga, oa + i, none⟩ = some (.string (bs L[i])) := by
        have := hcell i hil; rwa [List.getD_eq_getElem?_getD, List.getElem?_eq_getElem hil] at this
      have Hst : Hid (dupGo [] L = if decide (findI L L[i] < (i : Int)) then true else dupGo (L.take (i + 1)) (L.drop (i + 1))) := by
        show _ = _
        rw [← Hgo.out, List.drop_eq_getElem_cons hil, find_dup _ _ _ (List.getElem_mem hil)]
        conv => lhs; unfold dupGo
        rw [List.take_succ_eq_append_getElem hil]
      clear hcell Hgo
      generalize L[i] = n at *
      by_cases hk : findI L n < (i : Int)
      · have HF : Hid (grF L (X.map (·.2.2)) = (4, 1)) := grF_dup _ _ HT.out (by rw [Hst.out, decide_eq_true hk]; rfl)
        clear Hst
        go_wp2_with fail
        go_region_with (go_at_call 24; refine (find_any _ L n wr.drew (by exact HRS.out)).mono ?_; rintro e w' ⟨rfl, rfl⟩)
        all_goals
          go_wp2_with fail
          go_ret3
          refine ⟨?_, ⟨_, Hcb2.out⟩, (RBs.mk Hgi.out.rb).frm (Hfr.out.drew), Hgi.out.frm.trans (Hfr.out.drew).nil⟩
          rw [HF.out]; simp [grE]
      · have Hn : Hid (dupGo (L.take (i + 1)) (L.drop (i + 1)) = dupGo [] L) := by show _ = _; rw [Hst.out, decide_eq_false hk]; rfl
        clear Hst
        go_wp2_with fail
        go_region_with (go_at_call 24; refine (find_any _ L n wr.drew (by exact HRS.out)).mono ?_; rintro e w' ⟨rfl, rfl⟩)
        all_goals
          go_wp2_with fail
          go_roundg m
          case measure => omega
          case rel => exact ⟨i + 1, by omega, by go_num, Hn.out, Hfr.out.drew⟩
    have hd2 : decide ((i : Int) < (L.length : Int)) = false := decide_eq_false (by omega)
    have HD : Hid (dupGo [] L = false) := by
      show _ = _; rw [← Hgo.out, List.drop_eq_nil_of_le (by omega)]; unfold dupGo; rfl
    have Hcb3 := Hcb2
    have Hgi3 := hide (Hgi.out.frm0 Hfr.out)
    clear Hgo Hcb2 HRS Hcb Hgi Hfr
    obtain ⟨wm, hwm⟩ : ∃ wm, wm = wr := ⟨_, rfl⟩
    subst hwm
    go_wp2_with fail
    go_loopg [15] X.length (fun k vi wq => ∃ (i : Nat), i + k = X.length ∧ vi = .int .i64 i ∧ nameGoR L ((X.map (·.2.2)).drop i) i = nameGoR L (X.map (·.2.2)) 0 ∧ Frm [] wm wq)
    case atStart => exact ⟨0, by omega, rfl, by simp, Frm.refl _ _⟩
    case round =>
    obtain ⟨i3, hik3, hvi, hgo, hfr⟩ := hrel
    subst hvi
    have Hgo := hide hgo
    have Hfr := hide hfr
    have Hcb2 := hide (Hcb3.out.frm hfr (by simp))
    have Hgi4 := hide (Hgi3.out.frm0 hfr)
    have c2' : wr.cell? ⟨cb, 2, none⟩ = some (.slice al X.length cl) := Hcb2.out.cell 2
    have c3' : wr.cell? ⟨cb, 0, none⟩ = some (.slice ar L.length cr) := Hcb2.out.cell 0
    have HRS := hide (Hs.out _ Hgi4.out.frm).1
    have hlr := (Hs.out _ Hgi4.out.frm).2
    clear hgo hfr
    by_cases hil3 : i3 < X.length
    · obtain ⟨m, rfl⟩ : ∃ m, gk = m + 1 := ⟨gk - 1, by omega⟩
      have hd3 : decide ((i3 : Int) < (X.length : Int)) = true := decide_eq_true (by omega)
      obtain ⟨gl, hal, -, hlc⟩ := hlr.some (by simp; omega)
      subst hal
      rw [List.length_map] at hlc
      have cj : wr.cell? ⟨gl, i3, none⟩ = some (PT X[i3].1) := by
        have := hlr.cell i3 (by simpa using hil3); simpa using this
      have hxm : X[i3] ∈ X := List.getElem_mem hil3
      have hq := (Hx.out _ hxm).1
      have hrow := Hrow.out i3 _ (List.getElem?_eq_getElem hil3)
      have hrb := Hgi4.out.rb _ hxm
      have Hst : Hid (nameGoR L (X.map (·.2.2)) 0 = if !(X[i3].2.2.rc == [45]) && !(L.contains X[i3].2.2.rc) then i3 + 2 else nameGoR L ((X.map (·.2.2)).drop (i3 + 1)) (i3 + 1)) := by
        show _ = _
        have e : (X.map (·.2.2)).drop i3 = X[i3].2.2 :: (X.map (·.2.2)).drop (i3 + 1) := by
          rw [List.drop_eq_getElem_cons (by simpa using hil3)]; simp
        rw [← Hgo.out, e]
        conv => lhs; unfold nameGoR
      generalize hXj : X[i3] = x at *
      clear hXj Hgo hlr
      obtain ⟨b, ⟨vrc, vby, vt0, vt1, vt2, vif, von, vk, vd, vrow⟩, ⟨rc, told, names, t0, t1, t2, ifs, on, dn⟩⟩ := x
      obtain ⟨-, e1, -, -, -, -, hil5, e2, e3⟩ := hq
      simp only at e1 e2 e3 hrow hrb
      subst e1 e2 e3 hrow
      simp only at Hst
      clear hil5
      have d0 : wr.cell? ⟨b, 0, none⟩ = some (.string (bs vrc)) := hrb.cell 0
      have d9 : wr.cell? ⟨b, 9, none⟩ = some (.int .i64 ((i3 : Int) + 2)) := hrb.cell 9
      unfold PT at cj
      clear hrb
      rw [← find_neg] at Hst
      cases g45 : (vrc == [45])
      · by_cases hk : findI L vrc < 0
        · have HF : Hid (grF L (X.map (·.2.2)) = (4, i3 + 2)) := grF_name _ _ _ HT.out HD.out (by rw [Hst.out, g45, decide_eq_true hk]; rfl) (by omega)
          clear Hst
          go_wp2_with fail
          go_region_with (go_at_call 24; refine (find_any _ L vrc wr.drew (by exact HRS.out)).mono ?_; rintro e w' ⟨rfl, rfl⟩)
          all_goals
            go_wp2_with fail
            go_quiet (fail)
            go_wp2
            go_ret3
            refine ⟨?_, ⟨_, Hcb2.out⟩, RBs.mk Hgi4.out.rb, Hgi4.out.frm.drew.drewN _⟩
            rw [HF.out]; simp [grE]
        · have Hn : Hid (nameGoR L ((X.map (·.2.2)).drop (i3 + 1)) (i3 + 1) = nameGoR L (X.map (·.2.2)) 0) := by show _ = _; rw [Hst.out, decide_eq_false hk]; simp
          clear Hst
          go_wp2_with fail
          go_region_with (go_at_call 24; refine (find_any _ L vrc wr.drew (by exact HRS.out)).mono ?_; rintro e w' ⟨rfl, rfl⟩)
          all_goals
            go_wp2_with fail
            go_roundg m
            case measure => omega
            case rel => exact ⟨i3 + 1, by omega, by go_num, Hn.out, Hfr.out.drew⟩
      · have Hn : Hid (nameGoR L ((X.map (·.2.2)).drop (i3 + 1)) (i3 + 1) = nameGoR L (X.map (·.2.2)) 0) := by show _ = _; rw [Hst.out, g45]; simp
        clear Hst
        go_wp2_with fail
        go_region_with (go_at_call 24; refine (find_any _ L vrc wr.drew (by exact HRS.out)).mono ?_; rintro e w' ⟨rfl, rfl⟩)
        all_goals
          go_wp2_with fail
          go_roundg m
          case measure => omega
          case rel => exact ⟨i3 + 1, by omega, by go_num, Hn.out, Hfr.out.drew⟩
    have hd3 : decide ((i3 : Int) < (X.length : Int)) = false := decide_eq_false (by omega)
    have HF : Hid (grF L (X.map (·.2.2)) = (0, 0)) := grF_ok _ _ HT.out HD.out (by rw [← Hgo.out, List.drop_eq_nil_of_le (by simp; omega)]; rfl)
    clear Hgo hlr HRS
    go_wp2
    go_ret3
    refine ⟨?_, ⟨_, Hcb2.out⟩, RBs.mk Hgi4.out.rb, Hgi4.out.frm⟩
    rw [HF.out]; simp [grE, PT]
end Go.Proofs.YtjnaekffodgdcaaDoor
