import Derived.Test.YtjnaekffodgdcaaDoorW22
namespace Go.Proofs.YtjnaekffodgdcaaDoor
open Go.RowKit
set_option linter.unusedVariables false
set_option linter.unusedSimpArgs false
set_option linter.unnecessarySimpa false

def kBy : List UInt8 := [32, 98, 121, 32]
def byT (c : CR) : List UInt8 := if c.tb then kBy ++ labT c.bys else []
def ifsT (M : List CM) : List UInt8 := M.flatMap fun m => kIf ++ matT m
def rtT (c : CR) : List UInt8 := List.replicate c.d 32 ++ (kRoute ++ c.rc) ++ byT c ++ timeT kWait c.wt ++ timeT kEvery c.ev ++ timeT kRepeat c.rp ++ ifsT c.ifs ++ (if c.co then kCont else [])

theorem matT_len (m : CM) (h : GoodM m) : (matT m).length ≤ 172 := by
  have h1 := isNameL_len h.name; have h2 := kindT_len m.2.1; have h3 := quoteV_len m.2.2; have h4 := h.val
  unfold matT; simp only [List.length_append]; omega
theorem ifsT_len : ∀ (M : List CM), (∀ m ∈ M, GoodM m) → (ifsT M).length ≤ 176 * M.length
  | [], _ => by simp [ifsT]
  | m :: M, h => by
    have h1 := ifsT_len M (fun x hx => h x (by simp [hx]))
    have h2 := matT_len m (h m (by simp))
    have h3 : kIf.length = 4 := rfl
    unfold ifsT at h1 ⊢
    simp only [List.flatMap_cons, List.length_append, List.length_cons] at h1 ⊢; omega
theorem timeT_len (wd : List UInt8) (n : Int) (hw : wd.length ≤ 10) (h0 : -1 ≤ n) (h1 : n ≤ 99999) : (timeT wd n).length ≤ 15 := by
  unfold timeT; split
  · simp
  · have := itoa_len n (by omega) h1; simp; omega

theorem ML.cell {base : Nat} {w : World} {M : List CM} {g n cap : Nat} (h : ML base w (.slice (some ⟨g, 0, none⟩) n cap) M) {j : Nat} {m : CM} (hj : M[j]? = some m) (k : Nat) (hk : k < 3) : w.cell? ⟨g, j * 3 + k, none⟩ = (mcells m)[k]? := by
  have h1 := flat_get mcells 3 (fun a => rfl) M j k m hj hk
  have h3 := World.ownsRow.cells h (g := g) rfl (j * 3 + k)
  have hlt : k < (mcells m).length := hk
  rw [List.getElem?_eq_getElem hlt] at h1 ⊢
  have := h3 _ h1
  rw [add0] at this; exact this

set_option maxRecDepth 100000 in
set_option maxHeartbeats 4000000 in
theorem printRoute_any (base : Nat) (rv : RV) (c : CR) (w : World) (ht : Tab w) (hr : CRep base w rv c) (hg : GoodCR c) :
    Calls Tryd.prog 19 #[.agg rv.cells] w fun e w' => e = .returned (.string (bs (rtT c))) ∧ Frm [] w w' := by
  obtain ⟨d, rc, tb, vby, wt, ev, rp, vif, co⟩ := rv
  obtain ⟨r1, r2, r3, r4, r5, r6, r7, r8, r9⟩ := hr
  simp only at r1 r2 r3 r4 r5 r6 r7 r8 r9
  subst r1 r2 r3 r5 r6 r7 r9
  obtain ⟨ab, cb, rfl⟩ := r4.shape
  obtain ⟨ai, ci, rfl⟩ := own_shape r8
  have HT : Hid (Tab w) := ht
  have HS : Hid (RS 0 w (.slice ab c.bys.length cb) c.bys) := (r4.rs (by have := hg.byl; omega)).base (Nat.zero_le _)
  have HM : Hid (ML base w (.slice ai c.ifs.length ci) c.ifs) := r8
  have HG : Hid (GoodCR c) := hg
  have hd := hg.d
  have hrl : c.rc.length ≤ 8 := by
    rcases hg.rc with h | h
    · rw [h]; simp
    · exact isNameL_len h
  have hil := hg.ifl
  have Hx : Hid (rtT c = List.replicate c.d 32 ++ (kRoute ++ c.rc) ++ byT c ++ timeT kWait c.wt ++ timeT kEvery c.ev ++ timeT kRepeat c.rp ++ ifsT c.ifs ++ (if c.co then kCont else [])) := rfl
  clear r4 r8 hg ht
  have hsz := bs_size
  have hap := bs_append
  have hnew := heap1 w (Obj.cells #[.int .i64 c.d, .string (bs c.rc), .bool c.tb, .slice ab c.bys.length cb, .int .i64 c.wt, .int .i64 c.ev, .int .i64 c.rp, .slice ai c.ifs.length ci, .bool c.co] 62)
  have HN : Hid (RT (w.alloc (Obj.cells #[.int .i64 c.d, .string (bs c.rc), .bool c.tb, .slice ab c.bys.length cb, .int .i64 c.wt, .int .i64 c.ev, .int .i64 c.rp, .slice ai c.ifs.length ci, .bool c.co] 62)) w.heap.size ⟨c.d, c.rc, c.tb, .slice ab c.bys.length cb, c.wt, c.ev, c.rp, .slice ai c.ifs.length ci, c.co⟩) := hnew
  clear hnew
  show Calls Tryd.prog 19 #[.agg #[.int .i64 c.d, .string (bs c.rc), .bool c.tb, .slice ab c.bys.length cb, .int .i64 c.wt, .int .i64 c.ev, .int .i64 c.rp, .slice ai c.ifs.length ci, .bool c.co]] w _
  have k32 : ({ data := #[32] } : ByteArray) = bs [32] := rfl
  go_enter Tryd.func19, Tryd.ntmps19
  go_wp2_with fail
  go_loopg [3, 4] c.d (fun k vt vi wr => ∃ j, j + k = c.d ∧ vi = .int .i64 j ∧ vt = .string (bs (List.replicate j 32)) ∧ wr = w.alloc (Obj.cells #[.int .i64 c.d, .string (bs c.rc), .bool c.tb, .slice ab c.bys.length cb, .int .i64 c.wt, .int .i64 c.ev, .int .i64 c.rp, .slice ai c.ifs.length ci, .bool c.co] 62))
  case atStart => exact ⟨0, by omega, rfl, rfl, rfl⟩
  case round =>
  obtain ⟨j, hj, rfl, rfl, rfl⟩ := hrel
  have hrl2 : (List.replicate j (32 : UInt8)).length = j := by simp
  by_cases hlt : j < c.d
  · have Hs : Hid (List.replicate (j + 1) (32 : UInt8) = List.replicate j 32 ++ [32]) := List.replicate_succ'
    generalize List.replicate j (32 : UInt8) = tx at *
    have hlx : tx.length ≤ 1048576 := by omega
    clear hrl2
    go_wp2
    go_roundg (gk - 1)
    case measure => omega
    case rel =>
      refine ⟨j + 1, by omega, by go_num, ?_, rfl⟩
      rw [Hs.out]
  · have hjd : j = c.d := by omega
    subst hjd
    clear hj hlt
    generalize hw0 : w.alloc (Obj.cells #[.int .i64 c.d, .string (bs c.rc), .bool c.tb, .slice ab c.bys.length cb, .int .i64 c.wt, .int .i64 c.ev, .int .i64 c.rp, .slice ai c.ifs.length ci, .bool c.co] 62) = w0 at *
    have F0 : Hid (Frm [] w w0) := by rw [← hw0]; exact (Frm.refl _ _).alloc _
    clear hw0
    have q0 : w0.cell? ⟨w.heap.size, 0, none⟩ = some (.int .i64 c.d) := HN.out.cell 0
    have q1 : w0.cell? ⟨w.heap.size, 1, none⟩ = some (.string (bs c.rc)) := HN.out.cell 1
    have q2 : w0.cell? ⟨w.heap.size, 2, none⟩ = some (.bool c.tb) := HN.out.cell 2
    have q3 : w0.cell? ⟨w.heap.size, 3, none⟩ = some (.slice ab c.bys.length cb) := HN.out.cell 3
    have q4 : w0.cell? ⟨w.heap.size, 4, none⟩ = some (.int .i64 c.wt) := HN.out.cell 4
    have q5 : w0.cell? ⟨w.heap.size, 5, none⟩ = some (.int .i64 c.ev) := HN.out.cell 5
    have q6 : w0.cell? ⟨w.heap.size, 6, none⟩ = some (.int .i64 c.rp) := HN.out.cell 6
    have q7 : w0.cell? ⟨w.heap.size, 7, none⟩ = some (.slice ai c.ifs.length ci) := HN.out.cell 7
    have q8 : w0.cell? ⟨w.heap.size, 8, none⟩ = some (.bool c.co) := HN.out.cell 8
    have kr : ({ data := #[114, 111, 117, 116, 101, 32] } : ByteArray) = bs kRoute := rfl
    have kb : ({ data := #[32, 98, 121, 32] } : ByteArray) = bs kBy := rfl
    have krl : kRoute.length = 6 := rfl
    have kbl : kBy.length = 4 := rfl
    have Hbl : Hid (byT c = if c.tb then kBy ++ labT c.bys else []) := rfl
    have hby : (labT c.bys).length ≤ 36 := by
      unfold labT; split
      · simp
      · have := labJ_len c.bys (fun x hx => isNameL_len (HG.out.bys x hx)); have := HG.out.byl; omega
    generalize hx0 : List.replicate c.d (32 : UInt8) = x0 at *
    have hl0 : x0.length ≤ 1048576 := by omega
    clear hx0 hrl2
    generalize kRoute = KR at *
    generalize kBy = KB at *
    have mid : ∃ x1 : List UInt8, x1 = x0 ++ (KR ++ c.rc) ++ byT c := ⟨_, rfl⟩
    obtain ⟨x1, hx1⟩ := mid
    have HX1 := hide hx1
    have hl1 : x1.length ≤ 1048576 + 60 := by
      rw [hx1, Hbl.out]; split <;> simp <;> omega
    clear hx1
    have hcut : c.tb = true ∨ c.tb = false := by cases c.tb <;> simp
    have N0 := HN
    clear HN
    rcases hcut with htb | htb
    · have Hn : Hid (x0 ++ (KR ++ (c.rc ++ (KB ++ labT c.bys))) = x1) := by
        show _ = _; rw [HX1.out, Hbl.out, htb]; simp
      go_wp2_with fail
      refine (printLabels_any _ c.bys w0 (HS.out.frm F0.out (by simp)) HG.out.byl (fun x hx => isNameL_len (HG.out.bys x hx))).mono ?_
      rintro e w' ⟨rfl, rfl⟩
      generalize labT c.bys = lb at *
      go_wp2_with fail
      rw [Hn.out]
      clear q0 q1 q2 q3 htb kb kr
      refine (printTime_any kWait c.wt w0 (HT.out.frm F0.out (by simp)) HG.out.wt.1 HG.out.wt.2 (by decide)).mono ?_
      rintro e w1 ⟨rfl, hf⟩
      have F1 : Hid (Frm [] w w1) := F0.out.trans hf
      have N1 : Hid (RT w1 w.heap.size ⟨c.d, c.rc, c.tb, .slice ab c.bys.length cb, c.wt, c.ev, c.rp, .slice ai c.ifs.length ci, c.co⟩) := N0.out.frm hf (by simp)
      clear hf q4 q5 q6 q7 q8
      have q5 : w1.cell? ⟨w.heap.size, 5, none⟩ = some (.int .i64 c.ev) := N1.out.cell 5
      have q6 : w1.cell? ⟨w.heap.size, 6, none⟩ = some (.int .i64 c.rp) := N1.out.cell 6
      have q7 : w1.cell? ⟨w.heap.size, 7, none⟩ = some (.slice ai c.ifs.length ci) := N1.out.cell 7
      have q8 : w1.cell? ⟨w.heap.size, 8, none⟩ = some (.bool c.co) := N1.out.cell 8
      have tlwt := timeT_len kWait c.wt (by decide) HG.out.wt.1 HG.out.wt.2
      have HTwt : Hid (∃ t, t = timeT kWait c.wt) := ⟨_, rfl⟩
      generalize htwt : timeT kWait c.wt = twt at *
      have KTwt := hide htwt
      clear htwt
      obtain ⟨x2, hx2⟩ : ∃ y, y = x1 ++ twt := ⟨_, rfl⟩
      have HX2 := hide hx2
      have hl2 : x2.length ≤ 1048576 + 75 := by rw [hx2]; simp; omega
      have x2r := hx2.symm
      clear hx2
      go_wp2_with fail
      refine (printTime_any kEvery c.ev w1 (HT.out.frm F1.out (by simp)) HG.out.ev.1 HG.out.ev.2 (by decide)).mono ?_
      rintro e w2 ⟨rfl, hf⟩
      have F2 : Hid (Frm [] w w2) := F1.out.trans hf
      have N2 : Hid (RT w2 w.heap.size ⟨c.d, c.rc, c.tb, .slice ab c.bys.length cb, c.wt, c.ev, c.rp, .slice ai c.ifs.length ci, c.co⟩) := N1.out.frm hf (by simp)
      clear hf x2r q5 q6 q7 q8
      have q5 : w2.cell? ⟨w.heap.size, 5, none⟩ = some (.int .i64 c.ev) := N2.out.cell 5
      have q6 : w2.cell? ⟨w.heap.size, 6, none⟩ = some (.int .i64 c.rp) := N2.out.cell 6
      have q7 : w2.cell? ⟨w.heap.size, 7, none⟩ = some (.slice ai c.ifs.length ci) := N2.out.cell 7
      have q8 : w2.cell? ⟨w.heap.size, 8, none⟩ = some (.bool c.co) := N2.out.cell 8
      have tlev := timeT_len kEvery c.ev (by decide) HG.out.ev.1 HG.out.ev.2
      have HTev : Hid (∃ t, t = timeT kEvery c.ev) := ⟨_, rfl⟩
      generalize htev : timeT kEvery c.ev = tev at *
      have KTev := hide htev
      clear htev
      obtain ⟨x3, hx3⟩ : ∃ y, y = x2 ++ tev := ⟨_, rfl⟩
      have HX3 := hide hx3
      have hl3 : x3.length ≤ 1048576 + 90 := by rw [hx3]; simp; omega
      have x3r := hx3.symm
      clear hx3
      go_wp2_with fail
      refine (printTime_any kRepeat c.rp w2 (HT.out.frm F2.out (by simp)) HG.out.rp.1 HG.out.rp.2 (by decide)).mono ?_
      rintro e w3 ⟨rfl, hf⟩
      have F3 : Hid (Frm [] w w3) := F2.out.trans hf
      have N3 : Hid (RT w3 w.heap.size ⟨c.d, c.rc, c.tb, .slice ab c.bys.length cb, c.wt, c.ev, c.rp, .slice ai c.ifs.length ci, c.co⟩) := N2.out.frm hf (by simp)
      clear hf x3r q5 q6 q7 q8
      have q5 : w3.cell? ⟨w.heap.size, 5, none⟩ = some (.int .i64 c.ev) := N3.out.cell 5
      have q6 : w3.cell? ⟨w.heap.size, 6, none⟩ = some (.int .i64 c.rp) := N3.out.cell 6
      have q7 : w3.cell? ⟨w.heap.size, 7, none⟩ = some (.slice ai c.ifs.length ci) := N3.out.cell 7
      have q8 : w3.cell? ⟨w.heap.size, 8, none⟩ = some (.bool c.co) := N3.out.cell 8
      have tlrp := timeT_len kRepeat c.rp (by decide) HG.out.rp.1 HG.out.rp.2
      have HTrp : Hid (∃ t, t = timeT kRepeat c.rp) := ⟨_, rfl⟩
      generalize htrp : timeT kRepeat c.rp = trp at *
      have KTrp := hide htrp
      clear htrp
      obtain ⟨x4, hx4⟩ : ∃ y, y = x3 ++ trp := ⟨_, rfl⟩
      have HX4 := hide hx4
      have hl4 : x4.length ≤ 1048576 + 105 := by rw [hx4]; simp; omega
      have x4r := hx4.symm
      clear hx4
      have HM3 : Hid (ML base w3 (.slice ai c.ifs.length ci) c.ifs) := HM.out.frm F3.out (by simp)
      clear q5 q6
      go_wp2_with fail
      go_loopg [3, 46] c.ifs.length (fun k vt vi wr => ∃ (j : Nat), j + k = c.ifs.length ∧ vi = .int .i64 j ∧ vt = .string (bs (x4 ++ ifsT (c.ifs.take j))) ∧ Frm [] w3 wr)
      case atStart => exact ⟨0, by omega, rfl, by simp [ifsT], Frm.refl _ _⟩
      case round =>
      clear x4r q7 q8
      obtain ⟨j, hj, rfl, rfl, hfr⟩ := hrel
      have KF := hide hfr
      clear hfr
      by_cases hlt : j < c.ifs.length
      · have hjM : c.ifs[j]? = some c.ifs[j] := List.getElem?_eq_getElem hlt
        have hgm := HG.out.ifs _ (List.getElem_mem hlt)
        have Ht : Hid (c.ifs.take (j + 1) = c.ifs.take j ++ [c.ifs[j]]) := List.take_succ_eq_append_getElem hlt
        have hm1 : ML base wr (.slice ai c.ifs.length ci) c.ifs := HM3.out.frm KF.out (by simp)
        obtain ⟨g, hga⟩ : ∃ g, ai = some ⟨g, 0, none⟩ := by
          rcases hm1.2 with ⟨e, h⟩ | ⟨g, c, cur, e, _⟩
          · omega
          · simp at e; exact ⟨g, e.1⟩
        subst hga
        have hcell := fun k hk => hm1.cell hjM k hk
        have hxl : (ifsT (c.ifs.take j)).length ≤ 176 * 4 := by
          have := ifsT_len (c.ifs.take j) (fun m hm => HG.out.ifs m (List.mem_of_mem_take hm))
          simp at this; omega
        have Hi : Hid (ifsT (c.ifs.take (j + 1)) = ifsT (c.ifs.take j) ++ (kIf ++ matT c.ifs[j])) := by
          show _ = _; unfold ifsT; rw [Ht.out, List.flatMap_append]; simp only [List.flatMap_cons, List.flatMap_nil, List.append_nil]
        have hml := matT_len _ hgm
        generalize c.ifs[j] = m at *
        obtain ⟨mn, mk, mv'⟩ := m
        have p0 : wr.cell? ⟨g, j * 3, none⟩ = some (.string (bs mn)) := hcell 0 (by omega)
        have p1 : wr.cell? ⟨g, j * 3 + 1, none⟩ = some (.int .i64 mk) := hcell 1 (by omega)
        have p2 : wr.cell? ⟨g, j * 3 + 2, none⟩ = some (.string (bs mv')) := hcell 2 (by omega)
        clear hcell hm1 hjM
        generalize ifsT (c.ifs.take j) = it at *
        have ki : ({ data := #[32, 105, 102, 32] } : ByteArray) = bs kIf := rfl
        have kil : kIf.length = 4 := rfl
        generalize kIf = KI at *
        go_wp2_with fail
        refine (printMatcher_any (mn, mk, mv') _ hgm).mono ?_
        rintro e w4 ⟨rfl, hf⟩
        have KF4 : Hid (Frm [] w3 w4) := (KF.out.alloc _).trans hf
        clear hf
        generalize matT (mn, mk, mv') = mt at *
        obtain ⟨y, hy⟩ : ∃ y, y = x4 ++ it := ⟨_, rfl⟩
        go_wp2
        go_roundg (gk - 1)
        case measure => omega
        case rel =>
          refine ⟨j + 1, by omega, by go_num, ?_, KF4.out⟩
          rw [Hi.out]
      · have Ht : Hid (c.ifs.take j = c.ifs) := List.take_of_length_le (by omega)
        rw [Ht.out]
        have hr3 := N3.out.frm KF.out (by simp)
        have q8 : wr.cell? ⟨w.heap.size, 8, none⟩ = some (.bool c.co) := hr3.cell 8
        clear hr3
        have hxl : (ifsT c.ifs).length ≤ 176 * 4 := by
          have := ifsT_len c.ifs HG.out.ifs; omega
        have kc : ({ data := #[32, 99, 111, 110, 116, 105, 110, 117, 101] } : ByteArray) = bs kCont := rfl
        have kcl : kCont.length = 9 := rfl
        have Hfin : Hid (∀ z, rtT c = z ++ (if c.co then kCont else []) ∨ True) := fun _ => Or.inr trivial
        have HF : Hid (rtT c = x4 ++ (ifsT c.ifs ++ (if c.co then kCont else []))) := by
          show _ = _
          rw [Hx.out, HX4.out, HX3.out, HX2.out, HX1.out]; simp only [List.append_assoc]
        generalize ifsT c.ifs = it at *
        generalize kCont = KC at *
        cases hco : c.co
        · rw [hco] at HF
          go_wp2
          go_ret
          rw [HF.out]
          exact ⟨ret_str (by simp), F3.out.trans KF.out⟩
        · rw [hco] at HF
          go_wp2
          go_ret
          rw [HF.out]
          exact ⟨ret_str (by simp), F3.out.trans KF.out⟩
    · have Hn : Hid (x0 ++ (KR ++ c.rc) = x1) := by
        show _ = _; rw [HX1.out, Hbl.out, htb]; simp
      go_wp2_with fail
      rw [Hn.out]
      clear q0 q1 q2 q3 htb kb kr
      refine (printTime_any kWait c.wt w0 (HT.out.frm F0.out (by simp)) HG.out.wt.1 HG.out.wt.2 (by decide)).mono ?_
      rintro e w1 ⟨rfl, hf⟩
      have F1 : Hid (Frm [] w w1) := F0.out.trans hf
      have N1 : Hid (RT w1 w.heap.size ⟨c.d, c.rc, c.tb, .slice ab c.bys.length cb, c.wt, c.ev, c.rp, .slice ai c.ifs.length ci, c.co⟩) := N0.out.frm hf (by simp)
      clear hf q4 q5 q6 q7 q8
      have q5 : w1.cell? ⟨w.heap.size, 5, none⟩ = some (.int .i64 c.ev) := N1.out.cell 5
      have q6 : w1.cell? ⟨w.heap.size, 6, none⟩ = some (.int .i64 c.rp) := N1.out.cell 6
      have q7 : w1.cell? ⟨w.heap.size, 7, none⟩ = some (.slice ai c.ifs.length ci) := N1.out.cell 7
      have q8 : w1.cell? ⟨w.heap.size, 8, none⟩ = some (.bool c.co) := N1.out.cell 8
      have tlwt := timeT_len kWait c.wt (by decide) HG.out.wt.1 HG.out.wt.2
      have HTwt : Hid (∃ t, t = timeT kWait c.wt) := ⟨_, rfl⟩
      generalize htwt : timeT kWait c.wt = twt at *
      have KTwt := hide htwt
      clear htwt
      obtain ⟨x2, hx2⟩ : ∃ y, y = x1 ++ twt := ⟨_, rfl⟩
      have HX2 := hide hx2
      have hl2 : x2.length ≤ 1048576 + 75 := by rw [hx2]; simp; omega
      have x2r := hx2.symm
      clear hx2
      go_wp2_with fail
      refine (printTime_any kEvery c.ev w1 (HT.out.frm F1.out (by simp)) HG.out.ev.1 HG.out.ev.2 (by decide)).mono ?_
      rintro e w2 ⟨rfl, hf⟩
      have F2 : Hid (Frm [] w w2) := F1.out.trans hf
      have N2 : Hid (RT w2 w.heap.size ⟨c.d, c.rc, c.tb, .slice ab c.bys.length cb, c.wt, c.ev, c.rp, .slice ai c.ifs.length ci, c.co⟩) := N1.out.frm hf (by simp)
      clear hf x2r q5 q6 q7 q8
      have q5 : w2.cell? ⟨w.heap.size, 5, none⟩ = some (.int .i64 c.ev) := N2.out.cell 5
      have q6 : w2.cell? ⟨w.heap.size, 6, none⟩ = some (.int .i64 c.rp) := N2.out.cell 6
      have q7 : w2.cell? ⟨w.heap.size, 7, none⟩ = some (.slice ai c.ifs.length ci) := N2.out.cell 7
      have q8 : w2.cell? ⟨w.heap.size, 8, none⟩ = some (.bool c.co) := N2.out.cell 8
      have tlev := timeT_len kEvery c.ev (by decide) HG.out.ev.1 HG.out.ev.2
      have HTev : Hid (∃ t, t = timeT kEvery c.ev) := ⟨_, rfl⟩
      generalize htev : timeT kEvery c.ev = tev at *
      have KTev := hide htev
      clear htev
      obtain ⟨x3, hx3⟩ : ∃ y, y = x2 ++ tev := ⟨_, rfl⟩
      have HX3 := hide hx3
      have hl3 : x3.length ≤ 1048576 + 90 := by rw [hx3]; simp; omega
      have x3r := hx3.symm
      clear hx3
      go_wp2_with fail
      refine (printTime_any kRepeat c.rp w2 (HT.out.frm F2.out (by simp)) HG.out.rp.1 HG.out.rp.2 (by decide)).mono ?_
      rintro e w3 ⟨rfl, hf⟩
      have F3 : Hid (Frm [] w w3) := F2.out.trans hf
      have N3 : Hid (RT w3 w.heap.size ⟨c.d, c.rc, c.tb, .slice ab c.bys.length cb, c.wt, c.ev, c.rp, .slice ai c.ifs.length ci, c.co⟩) := N2.out.frm hf (by simp)
      clear hf x3r q5 q6 q7 q8
      have q5 : w3.cell? ⟨w.heap.size, 5, none⟩ = some (.int .i64 c.ev) := N3.out.cell 5
      have q6 : w3.cell? ⟨w.heap.size, 6, none⟩ = some (.int .i64 c.rp) := N3.out.cell 6
      have q7 : w3.cell? ⟨w.heap.size, 7, none⟩ = some (.slice ai c.ifs.length ci) := N3.out.cell 7
      have q8 : w3.cell? ⟨w.heap.size, 8, none⟩ = some (.bool c.co) := N3.out.cell 8
      have tlrp := timeT_len kRepeat c.rp (by decide) HG.out.rp.1 HG.out.rp.2
      have HTrp : Hid (∃ t, t = timeT kRepeat c.rp) := ⟨_, rfl⟩
      generalize htrp : timeT kRepeat c.rp = trp at *
      have KTrp := hide htrp
      clear htrp
      obtain ⟨x4, hx4⟩ : ∃ y, y = x3 ++ trp := ⟨_, rfl⟩
      have HX4 := hide hx4
      have hl4 : x4.length ≤ 1048576 + 105 := by rw [hx4]; simp; omega
      have x4r := hx4.symm
      clear hx4
      have HM3 : Hid (ML base w3 (.slice ai c.ifs.length ci) c.ifs) := HM.out.frm F3.out (by simp)
      clear q5 q6
      go_wp2_with fail
      go_loopg [3, 46] c.ifs.length (fun k vt vi wr => ∃ (j : Nat), j + k = c.ifs.length ∧ vi = .int .i64 j ∧ vt = .string (bs (x4 ++ ifsT (c.ifs.take j))) ∧ Frm [] w3 wr)
      case atStart => exact ⟨0, by omega, rfl, by simp [ifsT], Frm.refl _ _⟩
      case round =>
      clear x4r q7 q8
      obtain ⟨j, hj, rfl, rfl, hfr⟩ := hrel
      have KF := hide hfr
      clear hfr
      by_cases hlt : j < c.ifs.length
      · have hjM : c.ifs[j]? = some c.ifs[j] := List.getElem?_eq_getElem hlt
        have hgm := HG.out.ifs _ (List.getElem_mem hlt)
        have Ht : Hid (c.ifs.take (j + 1) = c.ifs.take j ++ [c.ifs[j]]) := List.take_succ_eq_append_getElem hlt
        have hm1 : ML base wr (.slice ai c.ifs.length ci) c.ifs := HM3.out.frm KF.out (by simp)
        obtain ⟨g, hga⟩ : ∃ g, ai = some ⟨g, 0, none⟩ := by
          rcases hm1.2 with ⟨e, h⟩ | ⟨g, c, cur, e, _⟩
          · omega
          · simp at e; exact ⟨g, e.1⟩
        subst hga
        have hcell := fun k hk => hm1.cell hjM k hk
        have hxl : (ifsT (c.ifs.take j)).length ≤ 176 * 4 := by
          have := ifsT_len (c.ifs.take j) (fun m hm => HG.out.ifs m (List.mem_of_mem_take hm))
          simp at this; omega
        have Hi : Hid (ifsT (c.ifs.take (j + 1)) = ifsT (c.ifs.take j) ++ (kIf ++ matT c.ifs[j])) := by
          show _ = _; unfold ifsT; rw [Ht.out, List.flatMap_append]; simp only [List.flatMap_cons, List.flatMap_nil, List.append_nil]
        have hml := matT_len _ hgm
        generalize c.ifs[j] = m at *
        obtain ⟨mn, mk, mv'⟩ := m
        have p0 : wr.cell? ⟨g, j * 3, none⟩ = some (.string (bs mn)) := hcell 0 (by omega)
        have p1 : wr.cell? ⟨g, j * 3 + 1, none⟩ = some (.int .i64 mk) := hcell 1 (by omega)
        have p2 : wr.cell? ⟨g, j * 3 + 2, none⟩ = some (.string (bs mv')) := hcell 2 (by omega)
        clear hcell hm1 hjM
        generalize ifsT (c.ifs.take j) = it at *
        have ki : ({ data := #[32, 105, 102, 32] } : ByteArray) = bs kIf := rfl
        have kil : kIf.length = 4 := rfl
        generalize kIf = KI at *
        go_wp2_with fail
        refine (printMatcher_any (mn, mk, mv') _ hgm).mono ?_
        rintro e w4 ⟨rfl, hf⟩
        have KF4 : Hid (Frm [] w3 w4) := (KF.out.alloc _).trans hf
        clear hf
        generalize matT (mn, mk, mv') = mt at *
        obtain ⟨y, hy⟩ : ∃ y, y = x4 ++ it := ⟨_, rfl⟩
        go_wp2
        go_roundg (gk - 1)
        case measure => omega
        case rel =>
          refine ⟨j + 1, by omega, by go_num, ?_, KF4.out⟩
          rw [Hi.out]
      · have Ht : Hid (c.ifs.take j = c.ifs) := List.take_of_length_le (by omega)
        rw [Ht.out]
        have hr3 := N3.out.frm KF.out (by simp)
        have q8 : wr.cell? ⟨w.heap.size, 8, none⟩ = some (.bool c.co) := hr3.cell 8
        clear hr3
        have hxl : (ifsT c.ifs).length ≤ 176 * 4 := by
          have := ifsT_len c.ifs HG.out.ifs; omega
        have kc : ({ data := #[32, 99, 111, 110, 116, 105, 110, 117, 101] } : ByteArray) = bs kCont := rfl
        have kcl : kCont.length = 9 := rfl
        have Hfin : Hid (∀ z, rtT c = z ++ (if c.co then kCont else []) ∨ True) := fun _ => Or.inr trivial
        have HF : Hid (rtT c = x4 ++ (ifsT c.ifs ++ (if c.co then kCont else []))) := by
          show _ = _
          rw [Hx.out, HX4.out, HX3.out, HX2.out, HX1.out]; simp only [List.append_assoc]
        generalize ifsT c.ifs = it at *
        generalize kCont = KC at *
        cases hco : c.co
        · rw [hco] at HF
          go_wp2
          go_ret
          rw [HF.out]
          exact ⟨ret_str (by simp), F3.out.trans KF.out⟩
        · rw [hco] at HF
          go_wp2
          go_ret
          rw [HF.out]
          exact ⟨ret_str (by simp), F3.out.trans KF.out⟩

end Go.Proofs.YtjnaekffodgdcaaDoor
