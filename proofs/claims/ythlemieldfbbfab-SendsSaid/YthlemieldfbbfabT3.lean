import Derived.Test.YthlemieldfbbfabT2
namespace Go.Proofs.Ythlemieldfbbfab
open Go.RowKit
set_option linter.unusedVariables false
set_option linter.unusedSimpArgs false
set_option linter.unnecessarySimpa false

theorem RW.rs {A : List Nat} {w : World} {v : Value} {L : List (List UInt8)} (h : RW A 1 w v (sc L)) (hL : L.length ≤ 1048576) : RS 0 w v L := by
  obtain ⟨a, cap, e, h1, h2⟩ := h
  rw [sc_len] at e h1
  refine ⟨a, cap, e, hL, h1, fun j hj => ?_⟩
  obtain ⟨g, off, e1, _, h4, h5⟩ := h2 j (by rw [sc_len]; exact hj)
  refine ⟨g, off, e1, Nat.zero_le _, ?_⟩
  have := h5 0 (.string (bs L[j])) (by simp [sc])
  rwa [Nat.mul_one, Nat.add_zero] at this
/-- Does a list read as another, as far as place j? -/
def chk (R B : List (List UInt8)) : Nat → Bool
  | 0 => true
  | j + 1 => chk R B j && (decide (j < R.length) && (R.getD j [] == B.getD j []))
theorem chk_iff (R B : List (List UInt8)) : ∀ j, j ≤ B.length → (chk R B j = true ↔ R.take j = B.take j)
  | 0, _ => by simp [chk]
  | j + 1, h => by
    rw [chk, Bool.and_eq_true, Bool.and_eq_true, chk_iff R B j (by omega), decide_eq_true_iff, beq_iff_eq]
    have hb : B.take (j + 1) = B.take j ++ [B.getD j []] := by
      rw [List.take_succ_eq_append_getElem (by omega)]; simp [List.getD, show j < B.length by omega]
    constructor
    · rintro ⟨h1, h2, h3⟩
      have hr : R.take (j + 1) = R.take j ++ [R.getD j []] := by
        rw [List.take_succ_eq_append_getElem h2]; simp [List.getD, h2]
      rw [hr, hb, h1, h3]
    · intro h1
      have hl := congrArg List.length h1
      rw [List.length_take, List.length_take] at hl
      have h2 : j < R.length := by omega
      have hr : R.take (j + 1) = R.take j ++ [R.getD j []] := by
        rw [List.take_succ_eq_append_getElem h2]; simp [List.getD, h2]
      rw [hr, hb] at h1
      have h3 := List.append_inj' h1 rfl
      exact ⟨h3.1, h2, by simpa using h3.2⟩
theorem rsrt_le : ∀ (L out : List (List UInt8)), (L.foldl rsrt1 out).length ≤ out.length + L.length
  | [], out => by simp
  | x :: L, out => by
    have h := rsrt_le L (rsrt1 out x)
    have h1 := rsrt1_len out x
    simp only [List.foldl_cons, List.length_cons]
    omega
theorem risB_asc : ∀ (L : List (List UInt8)), risB L = true ↔ Asc L
  | [] => by simp [risB, Asc]
  | [a] => by simp [risB, Asc]
  | a :: b :: l => by
    have ih := risB_asc (b :: l)
    rw [risB, Bool.and_eq_true, ih, bl_lt, decide_eq_true_iff]
    unfold Asc
    rw [List.pairwise_cons (a := a)]
    constructor
    · rintro ⟨h1, h2⟩
      refine ⟨fun y hy => ?_, h2⟩
      rw [List.mem_cons] at hy
      rcases hy with rfl | hy
      · exact h1
      · exact List.lt_trans h1 ((List.pairwise_cons.1 h2).1 y hy)
    · rintro ⟨h1, h2⟩
      exact ⟨h1 b (by simp), h2⟩
theorem chk_ris (B : List (List UInt8)) : chk (rsrt B) B B.length = risB B := by
  rw [Bool.eq_iff_iff, chk_iff _ _ _ (Nat.le_refl _), risB_asc, ← rsrt_iff, List.take_length]
  have hl := rsrt_le B []
  simp only [List.length_nil, Nat.zero_add] at hl
  unfold rsrt
  rw [List.take_of_length_le hl]
theorem hset1 {w : World} {g : Nat} {t : TypeId} {o0 o1 o2 o3 o4 : Value} (v : Value) (h : w.heap[g]? = some (.cells #[o0, o1, o2, o3, o4] t (0, 0))) : (w.setCell ⟨g, 1, none⟩ v).heap[g]? = some (.cells #[o0, v, o2, o3, o4] t (0, 0)) := by simp [World.setCell, Array.getElem?_modify, h]
theorem hset2 {w : World} {g : Nat} {t : TypeId} {o0 o1 o2 o3 o4 : Value} (v : Value) (h : w.heap[g]? = some (.cells #[o0, o1, o2, o3, o4] t (0, 0))) : (w.setCell ⟨g, 2, none⟩ v).heap[g]? = some (.cells #[o0, o1, v, o3, o4] t (0, 0)) := by simp [World.setCell, Array.getElem?_modify, h]
theorem hset3 {w : World} {g : Nat} {t : TypeId} {o0 o1 o2 o3 o4 : Value} (v : Value) (h : w.heap[g]? = some (.cells #[o0, o1, o2, o3, o4] t (0, 0))) : (w.setCell ⟨g, 3, none⟩ v).heap[g]? = some (.cells #[o0, o1, o2, v, o4] t (0, 0)) := by simp [World.setCell, Array.getElem?_modify, h]
theorem hset0 {w : World} {g : Nat} {t : TypeId} {o0 o1 o2 o3 o4 : Value} (v : Value) (h : w.heap[g]? = some (.cells #[o0, o1, o2, o3, o4] t (0, 0))) : (w.setCell ⟨g, 0, none⟩ v).heap[g]? = some (.cells #[v, o1, o2, o3, o4] t (0, 0)) := by simp [World.setCell, Array.getElem?_modify, h]

def RHitQ (w : World) (b : Nat) (s : List UInt8) (ok : Bool) (e : Ending) (w' : World) : Prop :=
  ∃ (x : HitM) (ab : Option Addr) (cb : Nat) (s' : List UInt8) (ok' : Bool), e = .returned (.agg (hcell x (.slice ab x.bl.length cb))) ∧ TK w' b s' ok' ∧ Frm [b] w w' ∧ TO ok pH s x ok' s' ∧ s'.length ≤ s.length ∧ OW 9 1 w.heap.size w' (.slice ab x.bl.length cb) (sc x.bl) ∧ x.bl.length < 5

set_option maxRecDepth 100000 in
set_option maxHeartbeats 4000000 in
theorem rhit_any (b : Nat) (s : List UInt8) (ok : Bool) (w : World) (h : TK w b s ok) :
    Calls Try.prog 27 #[.pointer (some ⟨b, 0, none⟩)] w (RHitQ w b s ok) := by
  have hb := h.lt
  obtain ⟨W1, hW1⟩ : ∃ W1, W1 = (w.alloc (Obj.cells hz 75)).alloc (Obj.cells hz 75) := ⟨_, rfl⟩
  have F0 : Hid (Frm [] w W1) := by rw [hW1]; exact ((Frm.refl [] w).alloc _).alloc _
  have hz0 : W1.heap.size = w.heap.size + 2 := by rw [hW1]; simp
  have RB0 : Hid (HZ W1 w.heap.size) := by
    show W1.heap[w.heap.size]? = _
    rw [hW1]; exact (((Frm.refl [] (w.alloc (Obj.cells hz 75))).alloc _).block w.heap.size (by simp) (by simp)).trans (heap1 _ _)
  have AB0 : Hid (HZ W1 (w.heap.size + 1)) := by
    show W1.heap[w.heap.size + 1]? = _
    rw [hW1]
    have := heap1 (w.alloc (Obj.cells hz 75)) (Obj.cells hz 75)
    rw [show (w.alloc (Obj.cells hz 75)).heap.size = w.heap.size + 1 by simp] at this
    exact this
  have N1 := hide (rname_any b s ok W1 (h.frm F0.out (by simp)))
  clear h
  go_enter Try.func27, Try.ntmps27
  have N1' := N1.out
  rw [hW1] at N1'
  go_wp2_with fail
  refine N1'.mono ?_
  clear N1' N1
  rintro e w2 ⟨x, s2, ok2, rfl, hT2, hF2', hO2, hs2, hx⟩
  have hF2 : Frm [b] W1 w2 := by rw [hW1]; exact hF2'
  clear hF2' hW1
  have RB2 : Hid (HZ w2 w.heap.size) := (hF2.block w.heap.size (by omega) (by simp; omega)).trans RB0.out
  have AB2 : HZ w2 (w.heap.size + 1) := (hF2.block (w.heap.size + 1) (by omega) (by simp; omega)).trans AB0.out
  have F2 := hide ((F0.out.mono (by simp)).trans hF2 : Frm [b] w w2)
  have O2 := hide hO2
  have hz2 := hF2.size
  have T2 := hide hT2
  have d0 : w2.cell? ⟨w.heap.size + 1, 0, none⟩ = some (.string ByteArray.empty) := by simp [World.cell?, AB2]
  have dz : ∀ o, w2.frozen? ⟨w.heap.size + 1, o, none⟩ = false := fun o => by simp [World.frozen?, AB2]
  obtain ⟨w3, hw3⟩ : ∃ w3, w3 = w2.setCell ⟨w.heap.size + 1, 0, none⟩ (.string (bs x)) := ⟨_, rfl⟩
  have FS3 : Frm [w.heap.size + 1] w2 w3 := by rw [hw3]; exact (Frm.refl _ _).setCell (p := ⟨w.heap.size + 1, 0, none⟩) (.inl (by simp)) _
  have AB3 : Hid (w3.heap[w.heap.size + 1]? = some (.cells #[.string (bs x), .slice none 0 0, .int .i64 0, .int .i64 0, .int .i64 0] 75 (0, 0))) := by rw [hw3]; exact hset0 _ AB2
  have RB3 : Hid (HZ w3 w.heap.size) := (FS3.block w.heap.size (by omega) (by simp)).trans RB2.out
  have F3 := hide (F2.out.over FS3 (by intro y hy; simp at hy; left; omega))
  have hz3 := FS3.size
  have N3 := hide (rnum_any b s2 ok2 1 5 1 4 w3 (hT2.frm FS3 (by simp; omega)) rfl rfl (by omega) (by omega))
  clear hT2 hF2 hO2 F0 RB0 AB0 AB2 FS3 T2
  rw [hw3] at N3
  go_wp2_with fail
  refine (N3.out).mono ?_
  clear N3 d0 dz
  rw [← hw3]
  clear hw3
  rintro e w4 ⟨n, s4, ok4, rfl, hT4, hF4, hO4, hs4, hn⟩
  have RB4 : Hid (HZ w4 w.heap.size) := (hF4.block w.heap.size (by omega) (by simp; omega)).trans RB3.out
  have AB4 : Hid (w4.heap[w.heap.size + 1]? = some (.cells #[.string (bs x), .slice none 0 0, .int .i64 0, .int .i64 0, .int .i64 0] 75 (0, 0))) := (hF4.block (w.heap.size + 1) (by omega) (by simp; omega)).trans AB3.out
  have F4 := hide (F3.out.trans hF4)
  have O4 := hide hO4
  have T4 := hide hT4
  have hz4 := hF4.size
  have hn5 : n < 5 := by omega
  clear hT4 hF4 hO4 F3 RB3 AB3 F2 RB2 hn
  go_wp2_with fail
  go_loopg [5] n (fun k v5 wr => ∃ (j : Nat) (acc : List (List UInt8)) (vb : Value) (s' : List UInt8) (ok' : Bool), j + k = n ∧ v5 = .int .i64 j ∧ acc.length = j ∧ TK wr b s' ok' ∧ Frm [b] w wr ∧ s'.length ≤ s4.length ∧ w4.heap.size ≤ wr.heap.size ∧ OW 9 1 w4.heap.size wr vb (sc acc) ∧
      Hid (HZ wr w.heap.size) ∧ Hid (wr.heap[w.heap.size + 1]? = some (.cells #[.string (bs x), vb, .int .i64 0, .int .i64 0, .int .i64 0] 75 (0, 0))) ∧
      Hid ((ok4 = true ∧ ok' = true ∧ pR (fun _ => pNm) (n - j) acc s' = pR (fun _ => pNm) n [] s4) ∨ ((ok4 = false ∨ pR (fun _ => pNm) n [] s4 = none) ∧ ok' = false)))
  case atStart =>
    refine ⟨0, [], _, s4, ok4, by omega, rfl, rfl, T4.out, F4.out, Nat.le_refl _, Nat.le_refl _, OW.nil _ _ _ _, RB4, AB4, ?_⟩
    cases ok4
    · exact .inr ⟨.inl rfl, rfl⟩
    · exact .inl ⟨rfl, rfl, rfl⟩
  case round =>
    clear T4 F4 RB4 AB4
    obtain ⟨j, acc, vb, s5, ok5, hjk, rfl, hal, hT, hF, hs5, hz5, hO, RB5, AB5, HR⟩ := hrel
    obtain ⟨a, c, he⟩ := hO.shape
    rw [sc_len] at he
    subst he
    have T := hide hT
    have F := hide hF
    have O := hide hO
    have HAL := hide hal
    have hal2 : acc.length ≤ 5 := by omega
    clear hT hF hO hal
    by_cases hlt : j < n
    · have hd : decide ((j : Int) < (n : Int)) = true := decide_eq_true (by omega)
      have hd' : decide (j < n) = true := decide_eq_true hlt
      have N6 := hide (rname_any b s5 ok5 wr T.out)
      go_wp2_with fail
      refine (N6.out).mono ?_
      clear N6
      rintro e w6 ⟨y, s6, ok6, rfl, hT6, hF6, hO6, hs6, hy⟩
      have T6 := hide hT6
      have F6 := hide (F.out.trans hF6)
      have O6 := hide (O.out.frm hF6 (by intro g hg; simp at hg; omega))
      have RB6 : Hid (HZ w6 w.heap.size) := (hF6.block w.heap.size (by omega) (by simp; omega)).trans RB5.out
      have AB6 : Hid (w6.heap[w.heap.size + 1]? = some (.cells #[.string (bs x), .slice a acc.length c, .int .i64 0, .int .i64 0, .int .i64 0] 75 (0, 0))) := (hF6.block (w.heap.size + 1) (by omega) (by simp; omega)).trans AB5.out
      have hz6 := hF6.size
      have HR2 : Hid ((ok4 = true ∧ ok6 = true ∧ pR (fun _ => pNm) (n - (j + 1)) (acc ++ [y]) s6 = pR (fun _ => pNm) n [] s4) ∨ ((ok4 = false ∨ pR (fun _ => pNm) n [] s4 = none) ∧ ok6 = false)) := by
        rcases HR.out with ⟨h1, h2, h3⟩ | ⟨h1, h2⟩
        · rw [show n - j = (n - (j + 1)) + 1 by omega, pR_succ] at h3
          rcases hO6 with ⟨_, k2, k3⟩ | ⟨k1, k3⟩
          · exact .inl ⟨h1, k3, by rw [← h3, k2]; rfl⟩
          · refine .inr ⟨.inr ?_, k3⟩
            rcases k1 with k1 | k1
            · rw [h2] at k1; cases k1
            · rw [← h3, k1]; rfl
        · rcases hO6 with ⟨k1, _, _⟩ | ⟨_, k3⟩
          · rw [h2] at k1; cases k1
          · exact .inr ⟨h1, k3⟩
      have HOB : Hid (∀ r, Value.ownBlock (.slice a acc.length c) = some r → w4.heap.size ≤ r) := fun r hr => (O6.out.lt hr).1
      have e1 : w6.cell? ⟨w.heap.size + 1, 1, none⟩ = some (.slice a acc.length c) := by simp [World.cell?, AB6.out]
      have ez : w6.frozen? ⟨w.heap.size + 1, 1, none⟩ = false := by simp [World.frozen?, AB6.out]
      clear hT6 hF6 hO6 HR T F O RB5 AB5
      go_wp2_with (first | (at_builtin; refine wp_appSc _ rfl _ _ rfl w4.heap.size (.slice a acc.length c) acc w6.heap.size y rfl (O6.out.frm (S := []) ((Frm.refl [] _).alloc _) (by simp)) rfl (by simp) (by omega) (by simp; omega) ?_; intro g2 cap2 w7 hs7 hg7 hor7 hlt7; have O7 := hide hs7; have G7 := hide hg7; have c7 : w7.cell? ⟨w.heap.size + 1, 1, none⟩ = some (.slice a acc.length c) := (hg7.cell_far ⟨w.heap.size + 1, 1, none⟩ (by simp; omega) (fun e => by have h9 : w4.heap.size ≤ w.heap.size + 1 := HOB.out _ e.symm; omega)).trans ((((Frm.refl [] w6).alloc _).cell (p := ⟨w.heap.size + 1, 1, none⟩) (show w.heap.size + 1 < w6.heap.size by omega) (by simp)).trans e1); have f7 : w7.frozen? ⟨w.heap.size + 1, 1, none⟩ = false := (hg7.frozen_far ⟨w.heap.size + 1, 1, none⟩ (by simp; omega) (fun e => by have h9 : w4.heap.size ≤ w.heap.size + 1 := HOB.out _ e.symm; omega)).trans ((((Frm.refl [] w6).alloc _).frozen (p := ⟨w.heap.size + 1, 1, none⟩) (show w.heap.size + 1 < w6.heap.size by omega) (by simp)).trans ez); clear hs7 hg7 hor7))
      go_roundg (gk - 1)
      case measure => omega
      case rel =>
        have FS : ∀ u, Frm [w.heap.size + 1] w7 (w7.setCell ⟨w.heap.size + 1, 1, none⟩ u) := fun u => (Frm.refl _ _).setCell (p := ⟨w.heap.size + 1, 1, none⟩) (.inl (by simp)) u
        have hz7 := G7.out.size
        simp at hz7
        have B7 : ∀ q, q < w4.heap.size → w7.heap[q]? = w6.heap[q]? := fun q hq => (G7.out.block q (by simp; omega) (fun e => by have := HOB.out _ e.symm; omega)).trans (((Frm.refl [] w6).alloc _).block q (by omega) (by simp))
        refine ⟨j + 1, acc ++ [y], _, s6, ok6, by omega, by go_num, by simp [HAL.out], ((T6.out.frm (S := []) ((Frm.refl [] _).alloc _) (by simp)).grown G7.out (fun r hr => by have := HOB.out r hr; omega)).frm (FS _) (by simp; omega), ((F6.out.alloc _).grown G7.out (fun r hr => .inr (by have := HOB.out r hr; omega))).over (FS _) (by intro z hz; simp at hz; left; omega), by omega, by simp [World.setCell]; omega, O7.out.keep (FS _) (fun r hr => by have := (O7.out.lt hr).1; simp; omega), ?_, ?_, HR2⟩
        · exact ((FS _).block w.heap.size (by omega) (by simp)).trans ((B7 w.heap.size (by omega)).trans RB6.out)
        · exact hset1 _ ((B7 (w.heap.size + 1) (by omega)).trans AB6.out)
    · have hjn : j = n := by omega
      have hd : decide ((j : Int) < (n : Int)) = false := decide_eq_false (by omega)
      have hd' : decide (j < n) = false := decide_eq_false hlt
      have HR2 : Hid ((ok4 = true ∧ ok5 = true ∧ pR (fun _ => pNm) n [] s4 = some (acc, s5)) ∨ ((ok4 = false ∨ pR (fun _ => pNm) n [] s4 = none) ∧ ok5 = false)) := by
        rcases HR.out with ⟨h1, h2, h3⟩ | h
        · rw [hjn, Nat.sub_self] at h3; exact .inl ⟨h1, h2, h3.symm⟩
        · exact .inr h
      have e1 : wr.cell? ⟨w.heap.size + 1, 1, none⟩ = some (.slice a acc.length c) := by simp [World.cell?, AB5.out]
      have hRW : RW [b, w.heap.size, w.heap.size + 1] 1 wr (.slice a acc.length c) (sc acc) := O.out.rw (fun g hg hm => by have := (O.out.lt hg).1; simp at hm; omega)
      have RW5 := hide hRW
      have N8 := hide (sorted_any (.slice a acc.length c) acc wr (hRW.rs (by omega)) (by omega))
      clear HR hjn hRW
      go_wp2_with fail
      refine (N8.out).mono ?_
      clear N8
      rintro e w8 ⟨v8, rfl, hs8, hF8⟩
      have hrl := rsrt_le acc []
      simp only [List.length_nil, Nat.zero_add] at hrl
      have hrl2 : (rsrt acc).length ≤ acc.length := hrl
      obtain ⟨ar, cr, rfl, _, _, hRr⟩ := hs8.rs (by omega)
      have HRR := hide hRr
      have T8 := hide (T.out.frm hF8 (by simp))
      have F8 := hide (F.out.trans (hF8.mono (by simp)))
      have RB8 : Hid (HZ w8 w.heap.size) := (hF8.block w.heap.size (by omega) (by simp)).trans RB5.out
      have AB8 : Hid (w8.heap[w.heap.size + 1]? = some (.cells #[.string (bs x), .slice a acc.length c, .int .i64 0, .int .i64 0, .int .i64 0] 75 (0, 0))) := (hF8.block (w.heap.size + 1) (by omega) (by simp)).trans AB5.out
      have O8 := hide (O.out.frm hF8 (by simp))
      have RW8 := hide (RW5.out.frm hF8 (by simp))
      have hz8 := hF8.size
      have hbr := T.out.lt
      clear hs8 hF8 hRr T F RB5 AB5 O RW5 e1 hrl
      generalize hRe : rsrt acc = R at *
      have HRe := hide hRe
      clear hRe
      go_wp2_with fail
      go_loopg [8] acc.length (fun k v8 wq => ∃ (i : Nat) (okq : Bool), i + k = acc.length ∧ v8 = .int .i64 i ∧ TK wq b s5 okq ∧ Frm [b] w8 wq ∧ Hid (okq = (ok5 && chk R acc i)))
      case atStart => exact ⟨0, ok5, by omega, rfl, T8.out, Frm.refl _ _, by show _ = _; simp [chk]⟩
      case round =>
        obtain ⟨i, okq, hik, rfl, hTq, hFq, HQ⟩ := hrel
        have Tq := hide hTq
        have Fq := hide hFq
        have c1 := hTq.c1
        have z1 := hTq.fz 1
        have hzq := hFq.size
        have ABq : Hid (wr.heap[w.heap.size + 1]? = some (.cells #[.string (bs x), .slice a acc.length c, .int .i64 0, .int .i64 0, .int .i64 0] 75 (0, 0))) := (hFq.block (w.heap.size + 1) (by omega) (by simp; omega)).trans AB8.out
        have e1 : wr.cell? ⟨w.heap.size + 1, 1, none⟩ = some (.slice a acc.length c) := by simp [World.cell?, ABq.out]
        clear hTq hFq
        by_cases hlt3 : i < acc.length
        · have hd3 : decide ((i : Int) < (acc.length : Int)) = true := decide_eq_true (by omega)
          have hd3' : decide (i < acc.length) = true := decide_eq_true hlt3
          by_cases hrr : i < R.length
          · have hd4 : decide ((R.length : Int) ≤ (i : Int)) = false := decide_eq_false (by omega)
            have hd4' : decide (R.length ≤ i) = false := decide_eq_false (by omega)
            obtain ⟨g1, o1, e2, hg1, hc1⟩ := HRR.out i hrr
            subst e2
            obtain ⟨_, _, e3, hst⟩ := RW8.out.str
            simp only [Value.slice.injEq] at e3
            obtain ⟨rfl, _, _⟩ := e3
            obtain ⟨g2, o2, e4, hg2, hc2⟩ := hst i hlt3
            subst e4
            have hgb : g2 ≠ b := by
              obtain ⟨_, _, e5, _, h5⟩ := RW8.out
              simp only [Value.slice.injEq] at e5
              obtain ⟨rfl, _, _⟩ := e5
              obtain ⟨_, _, e6, h6, _⟩ := h5 i (by rw [sc_len]; exact hlt3)
              simp only [Option.some.injEq, Addr.mk.injEq, and_true] at e6
              intro e
              exact h6 (by simp [← e6.1, e])
            have q1 : wr.cell? ⟨g1, o1 + i, none⟩ = some (.string (bs R[i])) := (Fq.out.cell (p := ⟨g1, o1 + i, none⟩) (World.block_lt_of_cell? w8 _ hc1) (by simp; omega)).trans hc1
            have q2 : wr.cell? ⟨g2, o2 + i, none⟩ = some (.string (bs acc[i])) := (Fq.out.cell (p := ⟨g2, o2 + i, none⟩) hg2 (by simpa using hgb)).trans hc2
            have HC : Hid (chk R acc (i + 1) = (chk R acc i && (R[i] == acc[i]))) := by
              show _ = _; rw [chk, decide_eq_true hrr]; simp [List.getD, hrr, hlt3]
            have hl := bs_toList
            generalize R[i] = y1 at *
            generalize acc[i] = y2 at *
            clear hc1 hc2 hst
            cases hy : (y1 == y2)
            · go_wp2_with fail
              go_quiet (fail)
              go_wp2
              go_roundg (gk - 1)
              case measure => omega
              case rel => exact ⟨i + 1, false, by omega, by go_num, (Tq.out.frm (S := []) ((Frm.refl [] _).drewN _) (by simp)).set1 false, (Fq.out.drewN _).setCell (p := ⟨b, 1, none⟩) (.inl (by simp)) _, by show _ = _; rw [HC.out, hy]; simp⟩
            · go_wp2_with fail
              go_quiet (fail)
              go_wp2
              go_roundg (gk - 1)
              case measure => omega
              case rel => exact ⟨i + 1, okq, by omega, by go_num, (Tq.out.frm (S := []) ((Frm.refl [] _).drewN _) (by simp)), Fq.out.drewN _, by show _ = _; rw [HC.out, hy, HQ.out]; simp⟩
          · have hd4 : decide ((R.length : Int) ≤ (i : Int)) = true := decide_eq_true (by omega)
            have hd4' : decide (R.length ≤ i) = true := decide_eq_true (by omega)
            have HC : Hid (chk R acc (i + 1) = false) := by show _ = _; rw [chk, decide_eq_false hrr]; simp
            go_wp2_with fail
            go_quiet (fail)
            go_wp2
            go_roundg (gk - 1)
            case measure => omega
            case rel => exact ⟨i + 1, false, by omega, by go_num, (Tq.out.frm (S := []) ((Frm.refl [] _).drewN _) (by simp)).set1 false, (Fq.out.drewN _).setCell (p := ⟨b, 1, none⟩) (.inl (by simp)) _, by show _ = _; rw [HC.out]; simp⟩
        · have hie : i = acc.length := by omega
          have hd3 : decide ((i : Int) < (acc.length : Int)) = false := decide_eq_false (by omega)
          have hd3' : decide (i < acc.length) = false := decide_eq_false hlt3
          have HQ2 : Hid (okq = (ok5 && risB acc)) := by show _ = _; rw [HQ.out, hie, ← HRe.out, chk_ris]
          obtain ⟨w9, hw9⟩ : ∃ w9, w9 = wr := ⟨_, rfl⟩
          rw [← hw9] at Tq Fq ABq e1 hzq c1 z1 ⊢
          have F9 := hide (F8.out.trans Fq.out)
          have RB9 : Hid (HZ w9 w.heap.size) := (Fq.out.block w.heap.size (by omega) (by simp; omega)).trans RB8.out
          have O9 := hide (O8.out.frm Fq.out (by intro g hg; simp at hg; omega))
          have N9 := hide (rnum_any b s5 okq 3 100000 3 99999 w9 Tq.out rfl rfl (by omega) (by omega))
          clear HQ hie Fq F8 T8 RB8 AB8 O8 RW8 HRR hw9 HRe c1 z1
          go_wp2_with fail
          refine (N9.out).mono ?_
          clear N9
          have Fw9 := F9
          have RBw9 := RB9
          have ABw9 := ABq
          have OOw9 := O9
          clear F9 RB9 ABq O9
          rintro e w10 ⟨n1, s10, ok10, rfl, hT, hF, hO, hs10, hvw10⟩
          have RBw10 : Hid (HZ w10 w.heap.size) := (hF.block w.heap.size (by omega) (by simp; omega)).trans RBw9.out
          have ABw10 : Hid (w10.heap[w.heap.size + 1]? = some (.cells #[.string (bs x), .slice a acc.length c, .int .i64 0, .int .i64 0, .int .i64 0] 75 (0, 0))) := (hF.block (w.heap.size + 1) (by omega) (by simp; omega)).trans ABw9.out
          have Fw10 := hide (Fw9.out.trans hF)
          have Ow10 := hide hO
          have OOw10 := hide (OOw9.out.frm hF (by intro g hg; simp at hg; omega))
          have hzw10 := hF.size
          have pcw10 : w10.cell? ⟨w.heap.size + 1, 2, none⟩ = some (.int .i64 0) := by simp [World.cell?, ABw10.out]
          have pzw10 : ∀ o, w10.frozen? ⟨w.heap.size + 1, o, none⟩ = false := fun o => by simp [World.frozen?, ABw10.out]
          have Tw10 := hide hT
          have hbw10 := hT.lt
          obtain ⟨w11, hw11⟩ : ∃ q, q = w10.setCell ⟨w.heap.size + 1, 2, none⟩ (.int .i64 (n1 : Nat)) := ⟨_, rfl⟩
          have FS11 : Frm [w.heap.size + 1] w10 w11 := by rw [hw11]; exact (Frm.refl _ _).setCell (p := ⟨w.heap.size + 1, 2, none⟩) (.inl (by simp)) _
          have ABw11 : Hid (w11.heap[w.heap.size + 1]? = some (.cells #[.string (bs x), .slice a acc.length c, .int .i64 (n1 : Nat), .int .i64 0, .int .i64 0] 75 (0, 0))) := by rw [hw11]; exact hset2 _ ABw10.out
          have RBw11 : Hid (HZ w11 w.heap.size) := (FS11.block w.heap.size (by omega) (by simp)).trans RBw10.out
          have Fw11 := hide (Fw10.out.over FS11 (by intro y hy; simp at hy; left; omega))
          have OOw11 := hide (OOw10.out.keep FS11 (fun r hr => by have := (OOw10.out.lt hr).1; simp; omega))
          have hzw11 := FS11.size
          have N11 := hide (rnum_any b s10 ok10 3 100000 3 99999 w11 (hT.frm FS11 (by simp; omega)) rfl rfl (by omega) (by omega))
          clear hT hF hO FS11
          rw [hw11] at N11
          go_wp2_with fail
          refine (N11.out).mono ?_
          clear N11 pcw10 pzw10
          rw [← hw11]
          clear hw11
          rintro e w12 ⟨n2, s12, ok12, rfl, hT, hF, hO, hs12, hvw12⟩
          have RBw12 : Hid (HZ w12 w.heap.size) := (hF.block w.heap.size (by omega) (by simp; omega)).trans RBw11.out
          have ABw12 : Hid (w12.heap[w.heap.size + 1]? = some (.cells #[.string (bs x), .slice a acc.length c, .int .i64 (n1 : Nat), .int .i64 0, .int .i64 0] 75 (0, 0))) := (hF.block (w.heap.size + 1) (by omega) (by simp; omega)).trans ABw11.out
          have Fw12 := hide (Fw11.out.trans hF)
          have Ow12 := hide hO
          have OOw12 := hide (OOw11.out.frm hF (by intro g hg; simp at hg; omega))
          have hzw12 := hF.size
          have pcw12 : w12.cell? ⟨w.heap.size + 1, 3, none⟩ = some (.int .i64 0) := by simp [World.cell?, ABw12.out]
          have pzw12 : ∀ o, w12.frozen? ⟨w.heap.size + 1, o, none⟩ = false := fun o => by simp [World.frozen?, ABw12.out]
          have Tw12 := hide hT
          have hbw12 := hT.lt
          obtain ⟨w13, hw13⟩ : ∃ q, q = w12.setCell ⟨w.heap.size + 1, 3, none⟩ (.int .i64 (n2 : Nat)) := ⟨_, rfl⟩
          have FS13 : Frm [w.heap.size + 1] w12 w13 := by rw [hw13]; exact (Frm.refl _ _).setCell (p := ⟨w.heap.size + 1, 3, none⟩) (.inl (by simp)) _
          have ABw13 : Hid (w13.heap[w.heap.size + 1]? = some (.cells #[.string (bs x), .slice a acc.length c, .int .i64 (n1 : Nat), .int .i64 (n2 : Nat), .int .i64 0] 75 (0, 0))) := by rw [hw13]; exact hset3 _ ABw12.out
          have RBw13 : Hid (HZ w13 w.heap.size) := (FS13.block w.heap.size (by omega) (by simp)).trans RBw12.out
          have Fw13 := hide (Fw12.out.over FS13 (by intro y hy; simp at hy; left; omega))
          have OOw13 := hide (OOw12.out.keep FS13 (fun r hr => by have := (OOw12.out.lt hr).1; simp; omega))
          have hzw13 := FS13.size
          have N13 := hide (rnum_any b s12 ok12 3 100000 3 99999 w13 (hT.frm FS13 (by simp; omega)) rfl rfl (by omega) (by omega))
          clear hT hF hO FS13
          rw [hw13] at N13
          go_wp2_with fail
          refine (N13.out).mono ?_
          clear N13 pcw12 pzw12
          rw [← hw13]
          clear hw13
          rintro e w14 ⟨n3, s14, ok14, rfl, hT, hF, hO, hs14, hvw14⟩
          have RBw14 : Hid (HZ w14 w.heap.size) := (hF.block w.heap.size (by omega) (by simp; omega)).trans RBw13.out
          have ABw14 : Hid (w14.heap[w.heap.size + 1]? = some (.cells #[.string (bs x), .slice a acc.length c, .int .i64 (n1 : Nat), .int .i64 (n2 : Nat), .int .i64 0] 75 (0, 0))) := (hF.block (w.heap.size + 1) (by omega) (by simp; omega)).trans ABw13.out
          have Fw14 := hide (Fw13.out.trans hF)
          have Ow14 := hide hO
          have OOw14 := hide (OOw13.out.frm hF (by intro g hg; simp at hg; omega))
          have hzw14 := hF.size
          have pcw14 : w14.cell? ⟨w.heap.size + 1, 4, none⟩ = some (.int .i64 0) := by simp [World.cell?, ABw14.out]
          have pzw14 : ∀ o, w14.frozen? ⟨w.heap.size + 1, o, none⟩ = false := fun o => by simp [World.frozen?, ABw14.out]
          have Tw14 := hide hT
          have hbw14 := hT.lt
          have m0 : w14.cell? ⟨w.heap.size + 1, 0, none⟩ = some (.string (bs x)) := by simp [World.cell?, ABw14.out]
          have m1 : w14.cell? ⟨w.heap.size + 1, 1, none⟩ = some (.slice a acc.length c) := by simp [World.cell?, ABw14.out]
          have m2 : w14.cell? ⟨w.heap.size + 1, 2, none⟩ = some (.int .i64 (n1 : Nat)) := by simp [World.cell?, ABw14.out]
          have m3 : w14.cell? ⟨w.heap.size + 1, 3, none⟩ = some (.int .i64 (n2 : Nat)) := by simp [World.cell?, ABw14.out]
          have r0 : w14.cell? ⟨w.heap.size, 0, none⟩ = some (.string ByteArray.empty) := by simp [World.cell?, RBw14.out]
          have r1 : w14.cell? ⟨w.heap.size, 1, none⟩ = some (.slice none 0 0) := by simp [World.cell?, RBw14.out]
          have r2 : w14.cell? ⟨w.heap.size, 2, none⟩ = some (.int .i64 0) := by simp [World.cell?, RBw14.out]
          have r3 : w14.cell? ⟨w.heap.size, 3, none⟩ = some (.int .i64 0) := by simp [World.cell?, RBw14.out]
          have r4 : w14.cell? ⟨w.heap.size, 4, none⟩ = some (.int .i64 0) := by simp [World.cell?, RBw14.out]
          have rz : ∀ o, w14.frozen? ⟨w.heap.size, o, none⟩ = false := fun o => by simp [World.frozen?, RBw14.out]
          clear hT hF hO
          go_wp2
          have FS9 : ∀ u, Frm [w.heap.size + 1] w14 (w14.setCell ⟨w.heap.size + 1, 4, none⟩ u) := fun u => (Frm.refl _ _).setCell (p := ⟨w.heap.size + 1, 4, none⟩) (.inl (by simp)) _
          have RBx : ∀ u, (w14.setCell ⟨w.heap.size + 1, 4, none⟩ u).heap[w.heap.size]? = some (.cells hz 75 (0, 0)) := fun u => ((FS9 u).block w.heap.size (by omega) (by simp)).trans RBw14.out
          refine bodyPost_ret (results_cell1 rfl _ _ w.heap.size (hcell ⟨x, acc, n1, n2, n3⟩ (.slice a acc.length c)) rfl (loadHit (set5_row _ _ _ _ _ (RBx _)) rfl)) rfl ?_
          refine ⟨⟨x, acc, n1, n2, n3⟩, a, c, s14, ok14, rfl, (Tw14.out.frm (FS9 _) (by simp; omega)).frm (set5_frm _ _ _ _ _ _ _) (by simp; omega), (Fw14.out.over (FS9 _) (by intro y hy; simp at hy; left; omega)).over (set5_frm _ _ _ _ _ _ _) (by simp), ?_, by omega, ?_, by have := HAL.out; show acc.length < 5; omega⟩
          · unfold TO
            rw [pH_eq]
            have hLp : ∀ t r v, pN 1 0 5 t = some (v, r) → pL 5 t = pR (fun _ => pNm) v [] r := fun t r v h => by unfold pL; rw [h]; rfl
            rcases Ow14.out with ⟨g1, g2, g3⟩ | ⟨g1, g2⟩
            · rcases Ow12.out with ⟨f1, f2, f3⟩ | ⟨_, f2⟩
              · rcases Ow10.out with ⟨e1, e2, e3⟩ | ⟨_, e2⟩
                · have hq := HQ2.out
                  rw [e1] at hq
                  have hq1 : ok5 = true := by cases h5 : ok5 <;> simp [h5] at hq ⊢
                  have hq2 : risB acc = true := by cases h5 : risB acc <;> simp [h5] at hq ⊢
                  rcases HR2.out with ⟨d1, d2, d3⟩ | ⟨_, d2⟩
                  · rcases O4.out with ⟨c1, c2, c3⟩ | ⟨_, c2⟩
                    · rcases O2.out with ⟨b1, b2, b3⟩ | ⟨_, b2⟩
                      · refine .inl ⟨b1, ?_, g3⟩
                        rw [b2]
                        simp only [Option.bind_some]
                        rw [hLp _ _ _ c2, d3]
                        simp only [Option.bind_some]
                        rw [if_pos hq2, e2]
                        simp only [Option.bind_some]
                        rw [f2]
                        simp only [Option.bind_some]
                        rw [g2]
                        rfl
                      · rw [c1] at b2; cases b2
                    · rw [d1] at c2; cases c2
                  · rw [hq1] at d2; cases d2
                · rw [f1] at e2; cases e2
              · rw [g1] at f2; cases f2
            · refine .inr ⟨?_, g2⟩
              rcases O2.out with ⟨b1, b2, b3⟩ | ⟨b1, b2⟩
              · right
                rw [b2]
                simp only [Option.bind_some]
                rcases O4.out with ⟨c1, c2, c3⟩ | ⟨c1, c2⟩
                · rw [hLp _ _ _ c2]
                  rcases HR2.out with ⟨d1, d2, d3⟩ | ⟨d1, d2⟩
                  · rw [d3]
                    simp only [Option.bind_some]
                    by_cases hris : risB acc = true
                    · rw [if_pos hris]
                      have hq := HQ2.out
                      rw [d2, hris] at hq
                      rcases Ow10.out with ⟨e1, e2, e3⟩ | ⟨e1, e2⟩
                      · rw [e2]
                        simp only [Option.bind_some]
                        rcases Ow12.out with ⟨f1, f2, f3⟩ | ⟨f1, f2⟩
                        · rw [f2]
                          simp only [Option.bind_some]
                          rcases g1 with g1 | g1
                          · rw [f3] at g1; cases g1
                          · rw [g1]; rfl
                        · rcases f1 with f1 | f1
                          · rw [e3] at f1; cases f1
                          · rw [f1]; rfl
                      · rcases e1 with e1 | e1
                        · rw [hq] at e1; cases e1
                        · rw [e1]; rfl
                    · rw [if_neg hris]
                  · rcases d1 with d1 | d1
                    · rw [c3] at d1; cases d1
                    · rw [d1]; rfl
                · rcases c1 with c1 | c1
                  · rw [b3] at c1; cases c1
                  · have : pL 5 s2 = none := by unfold pL; rw [c1]; rfl
                    rw [this]; rfl
              · exact b1.imp id (fun h => by rw [h]; rfl)
          · exact ((OOw14.out.keep (FS9 _) (fun r hr => by have := (OOw14.out.lt hr).1; simp; omega)).keep (set5_frm _ _ _ _ _ _ _) (fun r hr => by have := (OOw14.out.lt hr).1; simp; omega)).base (by omega)
end Go.Proofs.Ythlemieldfbbfab
