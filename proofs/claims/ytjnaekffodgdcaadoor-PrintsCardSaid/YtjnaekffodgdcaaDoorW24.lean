import Derived.Test.YtjnaekffodgdcaaDoorW23
namespace Go.Proofs.YtjnaekffodgdcaaDoor
open Go.RowKit
set_option linter.unusedVariables false
set_option linter.unusedSimpArgs false
set_option linter.unnecessarySimpa false

def recT (L : List (List UInt8)) : List UInt8 := L.flatMap fun n => 32 :: n
def rtsT (C : List CR) : List UInt8 := C.flatMap fun c => rtT c ++ [10]
def cfgT (L : List (List UInt8)) (C : List CR) : List UInt8 := kRecv ++ recT L ++ [10] ++ rtsT C

theorem recT_len : ∀ (L : List (List UInt8)), (∀ n ∈ L, isNameL n = true) → (recT L).length ≤ 9 * L.length
  | [], _ => by simp [recT]
  | n :: L, h => by
    have h1 := recT_len L (fun x hx => h x (by simp [hx]))
    have h2 := isNameL_len (h n (by simp))
    unfold recT at h1 ⊢
    simp only [List.flatMap_cons, List.length_append, List.length_cons] at h1 ⊢; omega
theorem rtT_len (c : CR) (h : GoodCR c) : (rtT c).length ≤ 1049900 := by
  have h1 := h.d
  have h2 : c.rc.length ≤ 8 := by
    rcases h.rc with e | e
    · rw [e]; simp
    · exact isNameL_len e
  have h3 : (byT c).length ≤ 50 := by
    unfold byT; split
    · have hb : (labT c.bys).length ≤ 36 := by
        unfold labT; split
        · simp
        · have := labJ_len c.bys (fun x hx => isNameL_len (h.bys x hx)); have := h.byl; omega
      have : kBy.length = 4 := rfl
      simp; omega
    · simp
  have h4 := timeT_len kWait c.wt (by decide) h.wt.1 h.wt.2
  have h5 := timeT_len kEvery c.ev (by decide) h.ev.1 h.ev.2
  have h6 := timeT_len kRepeat c.rp (by decide) h.rp.1 h.rp.2
  have h7 := ifsT_len c.ifs h.ifs
  have h8 := h.ifl
  have h9 : kRoute.length = 6 := rfl
  have h10 : (if c.co then kCont else []).length ≤ 9 := by split <;> simp [kCont]
  unfold rtT
  simp only [List.length_append, List.length_replicate]; omega
theorem rtsT_len : ∀ (C : List CR), (∀ c ∈ C, GoodCR c) → (rtsT C).length ≤ 1050000 * C.length
  | [], _ => by simp [rtsT]
  | c :: C, h => by
    have h1 := rtsT_len C (fun x hx => h x (by simp [hx]))
    have h2 := rtT_len c (h c (by simp))
    unfold rtsT at h1 ⊢
    simp only [List.flatMap_cons, List.length_append, List.length_cons, List.length_nil] at h1 ⊢; omega

set_option maxRecDepth 100000 in
set_option maxHeartbeats 4000000 in
theorem cfgPrint_any (base : Nat) (vr vt : Value) (L : List (List UInt8)) (R : List RV) (C : List CR) (w : World) (ht : Tab w) (hs : SL base w vr L) (hr : RL base w vt R) (hp : Reps base w R C) (hR : R.length ≤ 1048576)
    (hg : (∀ m ∈ L, isNameL m = true) ∧ L.length ≤ 8 ∧ (∀ c ∈ C, GoodCR c)) :
    Calls Tryd.prog 9 #[.agg #[vr, vt]] w fun e w' => e = .returned (.string (bs (cfgT L C))) ∧ Frm [] w w' := by
  obtain ⟨a, cap, rfl⟩ := own_shape hr
  obtain ⟨a0, cap0, rfl⟩ := hs.shape
  have HT : Hid (Tab w) := ht
  have HCL : Hid (R.length = C.length) := hp.1
  have HR : Hid (RL base w (.slice a R.length cap) R) := hr
  have HS : Hid (RS 0 w (.slice a0 L.length cap0) L) := (hs.rs (by omega)).base (Nat.zero_le _)
  have HP : Hid (Reps base w R C) := hp
  have HG : Hid ((∀ m ∈ L, isNameL m = true) ∧ L.length ≤ 8 ∧ (∀ c ∈ C, GoodCR c)) := hg
  have hl8 := hg.2.1
  clear hr hp hs ht hg
  have hsz := bs_size
  have hap := bs_append
  have k32 : ({ data := #[32] } : ByteArray) = bs [32] := rfl
  have k10 : ({ data := #[10] } : ByteArray) = bs [10] := rfl
  have kr : ({ data := #[114, 101, 99, 101, 105, 118, 101, 114, 115] } : ByteArray) = bs kRecv := rfl
  have krl : kRecv.length = 9 := rfl
  have Hx : Hid (cfgT L C = kRecv ++ recT L ++ [10] ++ rtsT C) := rfl
  have hb0 := heap1 w (Obj.cells #[.slice a0 L.length cap0, .slice a R.length cap] 35)
  have HB0 : Hid (CB (w.alloc (Obj.cells #[.slice a0 L.length cap0, .slice a R.length cap] 35)) w.heap.size (.slice a0 L.length cap0) (.slice a R.length cap)) := hb0
  clear hb0
  generalize kRecv = KR at *
  go_enter Tryd.func9, Tryd.ntmps9
  go_wp2_with fail
  go_loopg [3, 11] L.length (fun k vt vi wr => ∃ (j : Nat), j + k = L.length ∧ vi = .int .i64 j ∧ vt = .string (bs (KR ++ recT (L.take j))) ∧ CB wr w.heap.size (.slice a0 L.length cap0) (.slice a R.length cap) ∧ Frm [] w wr)
  case atStart => exact ⟨0, by omega, rfl, by simp [recT, kr], HB0.out, (Frm.refl _ _).alloc _⟩
  case round =>
    obtain ⟨j, hj, rfl, rfl, hcb, hfr⟩ := hrel
    have KC : Hid (CB wr w.heap.size (.slice a0 L.length cap0) (.slice a R.length cap)) := hcb
    have KF : Hid (Frm [] w wr) := hfr
    have d0 := hcb.c0
    have d1 := hcb.c1
    clear hcb hfr
    by_cases hlt : j < L.length
    · have hrs : RS 0 wr (.slice a0 L.length cap0) L := HS.out.frm KF.out (by simp)
      obtain ⟨a', cap', e, h1, h2, h3⟩ := hrs
      simp at e
      obtain ⟨e1, e2⟩ := e
      subst e1 e2
      obtain ⟨g, off, h4, h5, h6⟩ := h3 j hlt
      subst h4
      clear h3
      have hxl : (recT (L.take j)).length ≤ 9 * 8 := by
        have := recT_len (L.take j) (fun x hx => HG.out.1 x (List.mem_of_mem_take hx)); simp at this; omega
      have hx8 := isNameL_len (HG.out.1 _ (List.getElem_mem hlt))
      have Hi : Hid (recT (L.take (j + 1)) = recT (L.take j) ++ (32 :: L[j])) := by
        show _ = _; unfold recT; rw [List.take_succ_eq_append_getElem hlt, List.flatMap_append]; simp only [List.flatMap_cons, List.flatMap_nil, List.append_nil]
      generalize L[j] = x at *
      generalize recT (L.take j) = tx at *
      go_wp2
      go_roundg (gk - 1)
      case measure => omega
      case rel => exact ⟨j + 1, by omega, by go_num, by rw [Hi.out], KC.out, KF.out⟩
    · have Ht : Hid (L.take j = L) := List.take_of_length_le (by omega)
      rw [Ht.out]
      have hxl : (recT L).length ≤ 9 * 8 := by
        have := recT_len L HG.out.1; omega
      obtain ⟨x0, hx0⟩ : ∃ y, y = KR ++ (recT L ++ [10]) := ⟨_, rfl⟩
      have HX0 := hide hx0
      have hl0 : x0.length ≤ 100 := by rw [hx0]; simp; omega
      clear hx0
      generalize recT L = tx at *
      go_wp2_with fail
      rw [← HX0.out]
      go_loopg [3, 25] R.length (fun k vt vi wr => ∃ (j : Nat), j + k = R.length ∧ vi = .int .i64 j ∧ vt = .string (bs (x0 ++ rtsT (C.take j))) ∧ CB wr w.heap.size (.slice a0 L.length cap0) (.slice a R.length cap) ∧ Frm [] w wr)
      case atStart => exact ⟨0, by omega, rfl, by simp [rtsT], KC.out, KF.out⟩
      case round =>
        clear d0 d1 KC KF hlt hj
        obtain ⟨j, hj, rfl, rfl, hcb, hfr⟩ := hrel
        have KC : Hid (CB wr w.heap.size (.slice a0 L.length cap0) (.slice a R.length cap)) := hcb
        have KF : Hid (Frm [] w wr) := hfr
        clear hcb hfr
        by_cases hlt : j < R.length
        · have hcl := HCL.out
          have hjR : R[j]? = some R[j] := List.getElem?_eq_getElem hlt
          have hjC : C[j]? = some (C[j]'(by omega)) := List.getElem?_eq_getElem (by omega)
          have hrep := (HP.out.2 j _ _ hjR hjC).frm KF.out (by intro k hk; simp at hk)
          have hgc := HG.out.2.2 _ (List.getElem_mem (l := C) (n := j) (by omega))
          have Hi : Hid (rtsT (C.take (j + 1)) = rtsT (C.take j) ++ (rtT (C[j]'(by omega)) ++ [10])) := by
            show _ = _; unfold rtsT; rw [List.take_succ_eq_append_getElem (by omega), List.flatMap_append]; simp only [List.flatMap_cons, List.flatMap_nil, List.append_nil]
          have hxl : (rtsT (C.take j)).length ≤ 1050000 * 1048576 := by
            have := rtsT_len (C.take j) (fun x hx => HG.out.2.2 x (List.mem_of_mem_take hx))
            have h2 : (C.take j).length ≤ 1048576 := by rw [List.length_take]; omega
            omega
          generalize (C[j]'(by omega)) = c at *
          have hrl := rtT_len c hgc
          have hr1 : RL base wr (.slice a R.length cap) R := own_frm HR.out KF.out (by simp)
          obtain ⟨g, hg⟩ : ∃ g, a = some ⟨g, 0, none⟩ := by
            rcases hr1.2 with ⟨e, h⟩ | ⟨g, c, cur, e, _⟩
            · omega
            · simp at e; exact ⟨g, e.1⟩
          subst hg
          have hcell := fun k hk => hr1.cell hjR k hk
          generalize R[j] = rv at *
          have Hrep : Hid (CRep base wr rv c) := hrep
          have Hgc := hide hgc
          obtain ⟨d, rc, tb, vby, wt, ev, rp, vif, co⟩ := rv
          have q0 : wr.cell? ⟨g, j * 9, none⟩ = some (.int .i64 d) := hcell 0 (by omega)
          have q1 : wr.cell? ⟨g, j * 9 + 1, none⟩ = some (.string (bs rc)) := hcell 1 (by omega)
          have q2 : wr.cell? ⟨g, j * 9 + 2, none⟩ = some (.bool tb) := hcell 2 (by omega)
          have q3 : wr.cell? ⟨g, j * 9 + 3, none⟩ = some vby := hcell 3 (by omega)
          have q4 : wr.cell? ⟨g, j * 9 + 4, none⟩ = some (.int .i64 wt) := hcell 4 (by omega)
          have q5 : wr.cell? ⟨g, j * 9 + 5, none⟩ = some (.int .i64 ev) := hcell 5 (by omega)
          have q6 : wr.cell? ⟨g, j * 9 + 6, none⟩ = some (.int .i64 rp) := hcell 6 (by omega)
          have q7 : wr.cell? ⟨g, j * 9 + 7, none⟩ = some vif := hcell 7 (by omega)
          have q8 : wr.cell? ⟨g, j * 9 + 8, none⟩ = some (.bool co) := hcell 8 (by omega)
          obtain ⟨ab, cb, eb⟩ := hrep.by_.shape
          obtain ⟨ai, ci, ei⟩ := own_shape hrep.ifs
          simp only at eb ei
          subst eb ei
          clear hcell hr1 hrep hgc hjR hjC hcl
          generalize rtsT (C.take j) = tx2 at *
          have pr := fun o => printRoute_any base ⟨d, rc, tb, .slice ab c.bys.length cb, wt, ev, rp, .slice ai c.ifs.length ci, co⟩ c (wr.alloc o) (HT.out.frm (KF.out.alloc o) (by simp)) (Hrep.out.frm (S := []) ((Frm.refl _ _).alloc _) (by intro k hk; simp at hk)) Hgc.out
          have PR : Hid (∀ o, Calls Tryd.prog 19 #[.agg #[.int .i64 d, .string (bs rc), .bool tb, .slice ab c.bys.length cb, .int .i64 wt, .int .i64 ev, .int .i64 rp, .slice ai c.ifs.length ci, .bool co]] (wr.alloc o) fun e w' => e = .returned (.string (bs (rtT c))) ∧ Frm [] (wr.alloc o) w') := pr
          clear pr
          go_wp2_with fail
          refine (PR.out _).mono ?_
          rintro e w4 ⟨rfl, hf⟩
          have F4 : Frm [] wr w4 := ((Frm.refl _ _).alloc _).trans hf
          have KC4 : Hid (CB w4 w.heap.size (.slice a0 L.length cap0) (.slice (some ⟨g, 0, none⟩) R.length cap)) := KC.out.frm F4 (by simp)
          have KF4 : Hid (Frm [] w w4) := KF.out.trans F4
          clear hf F4
          generalize rtT c = rt at *
          go_wp2
          go_roundg (gk - 1)
          case measure => omega
          case rel => exact ⟨j + 1, by omega, by go_num, by rw [Hi.out], KC4.out, KF4.out⟩
        · have Ht2 : Hid (C.take j = C) := List.take_of_length_le (by have := HCL.out; omega)
          rw [Ht2.out]
          go_wp2
          go_ret
          rw [Hx.out, HX0.out]
          exact ⟨ret_str (by simp), KF.out⟩

end Go.Proofs.YtjnaekffodgdcaaDoor
