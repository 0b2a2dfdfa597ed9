import Derived.Test.YtpbkgeipigcefaaGreatJ20
import Derived.Deep.DeepCutAuto
set_option linter.unusedVariables false
set_option linter.unusedSimpArgs false
set_option linter.unnecessarySimpa false
namespace Go.Proofs.YtpbkgeipigcefaaGreat
open Go.RowKit

theorem FV.one (f : FV) (hv : f.vp.oneCell' = true) : ∀ u ∈ f.cells.toList, u.oneCell' = true := by
  intro u hu
  simp only [FV.cells, List.mem_cons, List.not_mem_nil, or_false] at hu
  rcases hu with rfl | rfl | rfl | rfl | rfl | rfl | rfl | rfl | rfl | rfl | rfl | rfl <;> first | exact hv | rfl
def Srch (K : List KY) (k : KY) (i : Nat) : Prop :=
  (i = 0 ∨ (2 ≤ i ∧ i < K.length ∧ K[i]?.map bkt = some (bkt k))) ∧ ∀ j, i < j → 2 ≤ j → K[j]? ≠ some k
theorem Srch.start (K : List KY) (k : KY) : Srch K k (lastB bkt K (bkt k) K.length) := by
  constructor
  · exact lastB_spec bkt K (bkt k) K.length
  · intro j hj h2 hk
    have hl := (List.getElem?_eq_some_iff.1 hk).1
    have := lastB_max bkt K (bkt k) K.length j hl h2 (by rw [hk]; rfl)
    omega
theorem Srch.next {K : List KY} {k q : KY} {i : Nat} (h : Srch K k i) (hi : 0 < i) (hq : K[i]? = some q) (hne : q ≠ k) : bkt q = bkt k ∧ lastB bkt K (bkt q) i < i ∧ Srch K k (lastB bkt K (bkt q) i) := by
  have hb : bkt q = bkt k := by
    rcases h.1 with e | ⟨_, _, e⟩
    · omega
    · rw [hq] at e; simpa using e
  have hlt : lastB bkt K (bkt q) i < i := by rcases lastB_spec bkt K (bkt q) i with e | ⟨_, e, _⟩ <;> omega
  refine ⟨hb, hlt, ?_, ?_⟩
  · rcases lastB_spec bkt K (bkt q) i with e | ⟨e1, e2, e3⟩
    · exact .inl e
    · rcases h.1 with e | ⟨_, e, _⟩
      · omega
      · exact .inr ⟨e1, by omega, by rw [e3, hb]⟩
  · intro j hj h2 hk
    by_cases hji : i < j
    · exact h.2 j hji h2 hk
    · by_cases hje : j = i
      · subst hje; rw [hq] at hk; simp at hk; exact hne hk
      · have := lastB_max bkt K (bkt q) i j (by omega) h2 (by rw [hk, hb]; rfl)
        omega

def RE (base : Nat) (w : World) (fb vb : Nat) (E : List (FV × List Nat)) (D : List NF) (ak c : Nat) (U : List NF) (Z : List Nat) (y : NF) (vp : Value) (L : List Nat) (e : Ending) (w' : World) : Prop :=
  ∃ vb' R r E' B', e = .returned (.int .i64 (r : Nat)) ∧ TE base w' fb vb' E' B' ak ∧ TP E' B' (D ++ R) ak c ∧ (∀ x ∈ D ++ R, x ∈ U) ∧ U.length ≤ 1000000000000 ∧ (D ++ R)[r]? = some y ∧ FQ fb vb vb' w w' ∧ (∀ e ∈ E', e ∈ E ∨ (e.1.vp = vp ∧ e.2 = L)) ∧ ZZ w' E' Z
theorem RE.rq {base : Nat} {w w' : World} {fb vb : Nat} {E : List (FV × List Nat)} {D : List NF} {ak c : Nat} {U : List NF} {Z : List Nat} {y : NF} {vp : Value} {L : List Nat} {e : Ending} (h : RE base w fb vb E D ak c U Z y vp L e w') : RQ base w fb vb D ak c U Z y e w' := by
  obtain ⟨vb', R, r, E', B', h1, h2, h3, h4, h5, h6, h7, _, h8⟩ := h
  exact ⟨vb', R, r, h1, ⟨E', B', h2, h3, h4, h5, h8⟩, h6, h7⟩
set_option maxRecDepth 100000 in
set_option maxHeartbeats 4000000 in
theorem number_E (base : Nat) (w : World) (fb vb : Nat) (E : List (FV × List Nat)) (B : List Nat) (D : List NF) (ak c : Nat) (U : List NF) (Z : List Nat) (f : FV) (L : List Nat) (d : NF)
    (hE : TE base w fb vb E B ak) (hP : TP E B D ak c) (hU : ∀ x ∈ D, x ∈ U) (hUl : U.length ≤ 1000000000000) (hp : PL w f.vp L) (hs : f.s < 2 ^ 256) (hk : Ky D D.length (kyE (f, L)) d) (hw : WC d) (hd : d ∈ U) (hte : f.te = nul d) (ha : f.ak = 0) (hzz : ZZ w E Z) (hfz : ∀ x n cc, f.vp = .slice (some x) n cc → x.block ∉ Z) :
    Calls Tryz.prog 119 #[.pointer (some ⟨fb, 0, none⟩), .agg f.cells] w (RE base w fb vb E D ak c U Z d f.vp L) := by
  have HZZ := hide hzz
  have HFZ := hide hfz
  clear hzz hfz
  have hlen : D.length ≤ 1000000000000 := Nat.le_trans (nodup_len hP.tb.nd hU) hUl
  have hEl : E.length = D.length := hP.len
  have HH : Hid (∀ w', Frm [] w w' → Calls Tryz.prog 129 #[.agg f.cells] w' fun e w2 => e = .returned (.int .u32 (hshK (kyE (f, L)))) ∧ Frm [] w' w2) :=
    fun w' F => hash_any f L w' (hp.1.frm F (by simp)) hp.2.2
  have SM : Hid (∀ (w' : World) (g : FV) (M : List Nat), Frm [] w w' → (g, M) ∈ E → Calls Tryz.prog 130 #[.agg g.cells, .agg f.cells] w' fun e w2 => (∃ b : Bool, e = .returned (.bool b) ∧ (b = true → kyE (g, M) = kyE (f, L)) ∧ (b = false → kyE (g, M) ≠ kyE (f, L))) ∧ Frm [] w' w2) := by
    intro w' g M F hm
    refine (same_any g f M L w' ((hE.pl _ hm).1.frm F (by simp)) (hp.1.frm F (by simp)) (hE.pl _ hm).2.2 hp.2.2 (hE.st _ hm) hs).mono ?_
    rintro e w2 ⟨rfl, hf⟩
    refine ⟨⟨_, rfl, ?_, ?_⟩, hf⟩
    · intro hb
      rw [decide_eq_true_eq] at hb
      simp only [kyE, KY.mk.injEq]
      exact ⟨hb.1, hb.2.2.2.1, hb.2.1, hb.2.2.1, hb.2.2.2.2⟩
    · intro hb e
      rw [decide_eq_false_iff_not] at hb
      simp only [kyE, KY.mk.injEq] at e
      exact hb ⟨e.1, e.2.2.1, e.2.2.2.1, e.2.1, e.2.2.2.2⟩
  have hbk := bkt_lt (kyE (f, L))
  have hmod := hsh_tmod (kyE (f, L))
  have hnn := hshK_nonneg (kyE (f, L))
  obtain ⟨cap, hT, hF⟩ := hE.row
  have hB : B.getD (bkt (kyE (f, L))) 0 = lastB bkt (E.map kyE) (bkt (kyE (f, L))) E.length := hP.bu _ hbk
  have ST0 : Hid (Srch (E.map kyE) (kyE (f, L)) (B.getD (bkt (kyE (f, L))) 0)) := by
    show Srch _ _ _
    rw [hB]
    have := Srch.start (E.map kyE) (kyE (f, L))
    simpa using this
  have HE := hide hE
  have HP := hide hP
  have HPL := hide hp
  have HT := hide hT
  have XB0 : Hid (FX (w.alloc (.cells f.cells 187)) w.heap.size f) := heap1 w _
  have HEL := hide hEl
  have HTE := hide hte
  have HAK := hide ha
  have HK0 := hide hk
  have hlE : E.length ≤ 1000000000000 := by omega
  clear hP hE hp hT hF hB hEl hte ha hk
  have HKK : Hid (bkt (kyE (f, L)) < 1024) := hbk
  generalize hKK : bkt (kyE (f, L)) = b at *
  generalize hshK (kyE (f, L)) = H at *
  have HK := hide hKK
  generalize hB0 : B.getD b 0 = i0 at *
  have HB0 := hide hB0
  clear hKK hB0
  have hvb := HE.out.vbs
  have hfb := HE.out.fb
  have hsz := HE.out.sz
  have hun : f.cells = #[.int .i64 f.kd, .int .u64 (wd f.s 0), .int .u64 (wd f.s 1), .int .u64 (wd f.s 2), .int .u64 (wd f.s 3), .int .i64 f.fi, .int .i64 f.se, f.vp, .bool f.te, .int .i64 f.lk, .int .i64 f.ak, .int .i64 f.lf] := rfl
  rw [hun] at HH SM ⊢
  have HUN := hide hun
  clear hun
  go_enter Tryz.func119, Tryz.ntmps119
  go_wp2_with (go_at_call 129; refine (HH.out _ ((Frm.refl _ _).alloc _)).mono ?_; rintro e w2 ⟨rfl, hf2⟩; have F2 := hide (((Frm.refl [] w).alloc _).trans hf2); have X2 := hide (FX.frm XB0.out hf2 (by simp)); have T2 := HT.out.frm F2.out (by simp); have q1 : w2.cell? ⟨fb, 1 + b, none⟩ = some (.int .i64 i0) := (by have := T2.cell b hbk; rw [HB0.out] at this; exact this); clear hf2 T2)
  go_loopg [6] i0 (fun k vi wr => vi = .int .i64 (k : Nat) ∧ Hid (Srch (E.map kyE) (kyE (f, L)) k) ∧ FX wr w.heap.size f ∧ Frm [] w wr)
  case atStart => exact ⟨rfl, ST0, X2.out, F2.out⟩
  case round =>
    clear X2 F2 q1
    obtain ⟨rfl, hsr, hx, hfr⟩ := hrel
    have X3 := hide hx
    have F3 := hide hfr
    have z3 := hfr.size
    have x3 := hx.lt
    clear hx hfr
    have T3 := hide (HE.out.keep F3.out)
    have r0 := (HT.out.frm F3.out (by simp)).c0
    by_cases h0 : gk = 0
    · subst h0
      have hnD : Hid (d ∉ D) := by
        intro hm
        obtain ⟨i, hi⟩ := List.getElem?_of_mem hm
        have := HP.out.tb.found HK0.out hi
        exact hsr.out.2 i (by omega) this.1 this.2
      have T3t := HT.out.frm F3.out (by simp)
      have q1 : wr.cell? ⟨fb, 1 + b, none⟩ = some (.int .i64 i0) := by have := T3t.cell b hbk; rw [HB0.out] at this; exact this
      have q2 := T3t.fz (1 + b)
      have q3 := X3.out.fz 9
      obtain ⟨x0, x1, x2, x3', x4, x5, x6, x7, x8, x9, x10, x11⟩ := X3.out.get
      clear x0 x1 x2 x3' x4 x5 x6 x7 x8 x10 x11
      have X4 := hide (X3.out.setLk i0)
      have F4 : Hid (Frm [] w (wr.setCell ⟨w.heap.size, 9, none⟩ (.int .i64 i0))) := F3.out.setCell (.inr (Nat.le_refl _)) _
      have T4 := hide (HE.out.keep F4.out)
      have T5 := hide (T4.out.setB b E.length hbk)
      have F5 : Hid (Frm [fb] w ((wr.setCell ⟨w.heap.size, 9, none⟩ (.int .i64 i0)).setCell ⟨fb, 1 + b, none⟩ (.int .i64 E.length))) := Frm.setCell F4.out.nil (.inl (by simp)) _
      have X5 : Hid (FX ((wr.setCell ⟨w.heap.size, 9, none⟩ (.int .i64 i0)).setCell ⟨fb, 1 + b, none⟩ (.int .i64 E.length)) w.heap.size { f with lk := i0 }) := X4.out.frm (S := [fb]) ((Frm.refl _ _).setCell (.inl (by simp)) _) (by simp; omega)
      clear T3t X3 T3
      go_wp2_with fail
      generalize ((wr.setCell ⟨w.heap.size, 9, none⟩ (.int .i64 i0)).setCell ⟨fb, 1 + b, none⟩ (.int .i64 E.length)) = wc at T5 F5 X5 ⊢
      clear q1 q2 q3 x9 r0 X4 F4 T4
      obtain ⟨cap5, T5t, T5l⟩ := T5.out.row
      have r0 := T5t.c0
      have r1 := T5t.fz 0
      have TT := hide T5t
      have TL : Hid (wc.ownsRow base 187 12 (.slice (some ⟨vb, 0, none⟩) E.length cap5) E.length (fv (E.map Prod.fst))) := by
        have := T5l
        unfold FL at this
        rw [List.length_map] at this; exact this
      clear T5t T5l
      obtain ⟨x0, x1, x2, x3', x4, x5, x6, x7, x8, x9, x10, x11⟩ := X5.out.get
      simp only at x0 x1 x2 x3' x4 x5 x6 x7 x8 x9 x10 x11
      have z5 := F5.out.size
      have hfbw := TT.out.lt
      have hne : fb ≠ vb := by omega
      have hvp : f.vp.oneCell' = true := HPL.out.cell1
      obtain ⟨i9, hi, hza, hzb, hzc⟩ := info_parts infoForm
      have g2 : ∀ o : Obj, (wc.alloc o).drew.frozen? ⟨fb, 0, none⟩ = false := fun o => ((((Frm.refl [] wc).alloc o).drew).frozen hfbw (by simp)).trans r1
      go_region_law ((refine step_append_lies _ (by rfl) _ _ _ (by rfl) base 187 i9 _ 12 112 Tryz.underlying188 hi hza hzb hzc rfl (by omega) (.slice (some ⟨vb, 0, none⟩) E.length cap5) E.length (fv (E.map Prod.fst)) (by rfl) (by exact TL.out.alloc _) ⟨wc.heap.size, 0, none⟩ 1 1 (FV.cells ⟨f.kd, f.s, f.fi, f.se, f.vp, f.te, i0, f.ak, f.lf⟩).toList (by rfl) (by rfl) (World.news_of_block (cs := FV.cells ⟨f.kd, f.s, f.fi, f.se, f.vp, f.te, i0, f.ak, f.lf⟩) (t := 187) (fr := (0, 0)) (by exact heap1 _ _)) (FV.one _ (by exact hvp)) (by omega) (by unfold maxLen; omega) (by omega) (by simp; omega) (wc.heap.size + 1) (by simp) ?_; intro gg cap2 w4 hown4 hgrow hat hlt4; have c4 := (hgrow.cell_far ⟨fb, 0, none⟩ (by simp; omega) (by simp [Value.ownBlock]; omega)); have f4 := (hgrow.frozen_far ⟨fb, 0, none⟩ (by simp; omega) (by simp [Value.ownBlock]; omega)); have f5 := f4.trans (g2 _)))
      all_goals
        have T6 := T5.out.keep (((Frm.refl [] wc).alloc (Obj.cells (FV.cells ⟨f.kd, f.s, f.fi, f.se, f.vp, f.te, i0, f.ak, f.lf⟩) 187)).drew)
        have P5 : PL wc f.vp L := HPL.out.frm F5.out (fun k hk => HE.out.noInt k (by simp at hk; simp [hk]))
        have P6 := P5.frm (((Frm.refl [] wc).alloc (Obj.cells (FV.cells ⟨f.kd, f.s, f.fi, f.se, f.vp, f.te, i0, f.ak, f.lf⟩) 187)).drew) (NoInt.nil _)
        have T7 := hide (TE.grow (f := ⟨f.kd, f.s, f.fi, f.se, f.vp, f.te, i0, f.ak, f.lf⟩) (L := L) T6 P6 hs hgrow hown4)
        have Q7 : Hid (TP (E ++ [(⟨f.kd, f.s, f.fi, f.se, f.vp, f.te, i0, f.ak, f.lf⟩, L)]) (B.set b E.length) (D ++ [d]) ak c) := by
          have := HP.out.push HT.out.2 (f := ⟨f.kd, f.s, f.fi, f.se, f.vp, f.te, i0, f.ak, f.lf⟩) (L := L) HK0.out hw hnD.out HTE.out (by show i0 = B.getD (bkt (kyE (f, L))) 0; rw [HK.out]; exact HB0.out.symm) HAK.out
          rw [show bkt (kyE ((⟨f.kd, f.s, f.fi, f.se, f.vp, f.te, i0, f.ak, f.lf⟩ : FV), L)) = b from HK.out] at this
          exact this
        have F7 : Hid (Frm [fb, vb] w w4) := Frm.grown ((F5.out.mono (by intro k _ hk; simp at hk; simp [hk])).alloc _).drew hgrow (fun k hk => by simp [Value.ownBlock] at hk; subst hk; exact .inl (by simp))
        have M7 : Hid (gg = vb ∨ w.heap.size ≤ gg) := by
          rcases hat with e | e
          · simp [Value.ownBlock] at e; exact .inl e.symm
          · exact .inr (by omega)
        clear hgrow hown4 hat T6 P5 P6 x0 x1 x2 x3' x4 x5 x6 x7 x8 x9 x10 x11
        go_wp2
        go_ret
        refine ⟨gg, [d], E.length, _, _, rfl, T7.out, Q7.out, ?_, hUl, ?_, ⟨Frm.setCell F7.out (.inl (by simp)) _, M7.out⟩, fun e he => ?_, ?_⟩
        · intro x hx
          rcases List.mem_append.1 hx with hx | hx
          · exact hU x hx
          · simp at hx; subst hx; exact hd
        · rw [HEL.out]; simp
        · rcases List.mem_append.1 he with he | he
          · exact .inl he
          · simp at he; subst he; exact .inr ⟨rfl, rfl⟩
        · have hz := HZZ.out.mono (w' := w4.setCell ⟨fb, 0, none⟩ (.slice (some ⟨gg, 0, none⟩) (E.length + 1) cap2)) (by have := F7.out.size; simpa using this)
          refine ⟨hz.1, fun e he => ?_⟩
          rcases List.mem_append.1 he with he | he
          · exact hz.2 e he
          · simp at he; subst he; exact HFZ.out
    · have hlt : 2 ≤ gk ∧ gk < E.length := by
        rcases hsr.out.1 with e | ⟨e1, e2, _⟩
        · exact absurd e h0
        · exact ⟨e1, by simpa using e2⟩
      obtain ⟨⟨g, M⟩, hgM⟩ : ∃ e, E[gk]? = some e := ⟨E[gk]'hlt.2, List.getElem?_eq_getElem hlt.2⟩
      have hmem : (g, M) ∈ E := List.mem_of_getElem? hgM
      have hkE : Hid ((E.map kyE)[gk]? = some (kyE (g, M))) := by show _ = _; simp [hgM]
      have HGM := hide hgM
      obtain ⟨c0, c1, c2, c3, c4, c5, c6, c7, c8, c9, c10, c11⟩ := form_get T3.out hgM
      obtain ⟨x0, x1, x2, x3', x4, x5, x6, x7, x8, x9, x10, x11⟩ := X3.out.get
      have SM2 : Hid (Calls Tryz.prog 130 #[.agg #[.int .i64 g.kd, .int .u64 (wd g.s 0), .int .u64 (wd g.s 1), .int .u64 (wd g.s 2), .int .u64 (wd g.s 3), .int .i64 g.fi, .int .i64 g.se, g.vp, .bool g.te, .int .i64 g.lk, .int .i64 g.ak, .int .i64 g.lf], .agg #[.int .i64 f.kd, .int .u64 (wd f.s 0), .int .u64 (wd f.s 1), .int .u64 (wd f.s 2), .int .u64 (wd f.s 3), .int .i64 f.fi, .int .i64 f.se, f.vp, .bool f.te, .int .i64 f.lk, .int .i64 f.ak, .int .i64 f.lf]] wr.drew fun e w2 => (∃ b : Bool, e = .returned (.bool b) ∧ (b = true → kyE (g, M) = kyE (f, L)) ∧ (b = false → kyE (g, M) ≠ kyE (f, L))) ∧ Frm [] wr.drew w2) := SM.out wr.drew g M F3.out.drew hmem
      clear hgM
      have hlt1 := hlt.1
      have hlt2 := hlt.2
      go_wp2_with fail
      go_region_with (go_at_call 130; refine SM2.out.mono ?_; rintro e w4 ⟨⟨bb, rfl, hb1, hb2⟩, hf4⟩; have HB1 := hide hb1; have HB2 := hide hb2; have F4 := hide hf4; clear hb1 hb2 hf4)
      all_goals
        have F5 := hide (F3.out.drew.trans F4.out)
        have T5 := hide (HE.out.keep F5.out)
        have r5 := (HT.out.frm F5.out (by simp)).c0
        have c5' := (form_get T5.out HGM.out).2.2.2.2.2.2.2.2.2.1
        have X5 := hide ((show FX wr.drew w.heap.size f from X3.out).frm F4.out (by simp))
        clear c0 c1 c2 c3 c4 c5 c6 c7 c8 c9 c10 c11 x0 x1 x2 x3' x4 x5 x6 x7 x8 x9 x10 x11 r0 SM2
        cases bb with
        | true =>
          have hD : Hid (D[gk]? = some d) := HP.out.tb.sameKey HK0.out hlt1 (by rw [← HB1.out rfl]; exact hkE.out)
          go_wp2
          go_ret
          exact ⟨vb, [], gk, E, B, rfl, T5.out, by simpa using HP.out, by simpa using hU, hUl, by simpa using hD.out, FQ.keepR (FQ.refl _ _ _) F5.out, fun e he => .inl he, HZZ.out.mono F5.out.size⟩
        | false =>
          have hN := hsr.out.next (by omega) hkE.out (HB2.out rfl)
          have hl : g.lk = lastB bkt (E.map kyE) (bkt (kyE (g, M))) gk := HP.out.lk gk _ hlt1 HGM.out
          rw [← hl] at hN
          have HN := hide hN
          clear hN hl
          go_wp2
          go_roundg g.lk
          case measure => exact HN.out.2.1
          case rel => exact ⟨rfl, HN.out.2.2, X5.out, F5.out⟩
theorem number_any (base : Nat) (w : World) (fb vb : Nat) (D : List NF) (ak c : Nat) (U : List NF) (Z : List Nat) (f : FV) (L : List Nat) (d : NF)
    (h : ST base w fb vb D ak c U Z) (hp : PL w f.vp L) (hs : f.s < 2 ^ 256) (hk : Ky D D.length (kyE (f, L)) d) (hw : WC d) (hd : d ∈ U) (hte : f.te = nul d) (ha : f.ak = 0) (hfz : ∀ x n cc, f.vp = .slice (some x) n cc → x.block ∉ Z) :
    Calls Tryz.prog 119 #[.pointer (some ⟨fb, 0, none⟩), .agg f.cells] w (RQ base w fb vb D ak c U Z d) := by
  obtain ⟨E, B, hE, hP, hU, hUl, hzz⟩ := h
  exact (number_E base w fb vb E B D ak c U Z f L d hE hP hU hUl hp hs hk hw hd hte ha hzz hfz).mono fun e w' hr => hr.rq
end Go.Proofs.YtpbkgeipigcefaaGreat

namespace Go.Proofs.YtpbkgeipigcefaaGreat
open Go.RowKit

def kindN : NF → Nat
  | .zero => 0
  | .one => 1
  | .set _ => 2
  | .pair _ _ => 3
  | .sum _ => 4
  | .star _ => 5
structure LK (w : World) (fb vb : Nat) (D : List NF) (ak c i : Nat) (d : NF) (f : FV) (L : List Nat) (cap : Nat) : Prop where
  tab : w.cell? ⟨fb, 0, none⟩ = some (.slice (some ⟨vb, 0, none⟩) D.length cap)
  lt : i < D.length
  get : w.cell? ⟨vb, i * 12, none⟩ = some (.int .i64 f.kd) ∧ w.cell? ⟨vb, i * 12 + 1, none⟩ = some (.int .u64 (wd f.s 0)) ∧ w.cell? ⟨vb, i * 12 + 2, none⟩ = some (.int .u64 (wd f.s 1)) ∧ w.cell? ⟨vb, i * 12 + 3, none⟩ = some (.int .u64 (wd f.s 2)) ∧ w.cell? ⟨vb, i * 12 + 4, none⟩ = some (.int .u64 (wd f.s 3)) ∧
    w.cell? ⟨vb, i * 12 + 5, none⟩ = some (.int .i64 f.fi) ∧ w.cell? ⟨vb, i * 12 + 6, none⟩ = some (.int .i64 f.se) ∧ w.cell? ⟨vb, i * 12 + 7, none⟩ = some f.vp ∧ w.cell? ⟨vb, i * 12 + 8, none⟩ = some (.bool f.te) ∧ w.cell? ⟨vb, i * 12 + 9, none⟩ = some (.int .i64 f.lk) ∧ w.cell? ⟨vb, i * 12 + 10, none⟩ = some (.int .i64 f.ak) ∧ w.cell? ⟨vb, i * 12 + 11, none⟩ = some (.int .i64 f.lf)
  kd : f.kd = kindN d
  te : f.te = nul d
  st : f.s < 2 ^ 256
  pl : PL w f.vp L
  pair : ∀ a b, d = .pair a b → D[f.fi]? = some a ∧ D[f.se]? = some b
  star : ∀ a, d = .star a → D[f.fi]? = some a
  set : ∀ s, d = .set s → f.s = s
  sum : ∀ l, d = .sum l → (∀ j ∈ L, j < D.length) ∧ l = srt (L.map fun j => D.getD j .zero) ∧ L.Pairwise (· < ·)
  ale : f.ak ≤ ak
  mem : 1 ≤ ak → f.ak = ak → D[f.lf]? = some (left c d)

theorem ST.look {base : Nat} {w : World} {fb vb : Nat} {D : List NF} {ak c : Nat} {U : List NF} {Z : List Nat} (h : ST base w fb vb D ak c U Z) {i : Nat} {d : NF} (hi : D[i]? = some d) : ∃ f L cap, LK w fb vb D ak c i d f L cap := by
  obtain ⟨E, B, hE, hP, _, _, _⟩ := h
  have hl := (List.getElem?_eq_some_iff.1 hi).1
  have hEl := hP.len
  obtain ⟨⟨f, L⟩, he⟩ : ∃ e, E[i]? = some e := ⟨E[i]'(by omega), List.getElem?_eq_getElem (by omega)⟩
  have hm := List.mem_of_getElem? he
  obtain ⟨cap, hT, _⟩ := hE.row
  have hkE : (E.map kyE)[i]? = some (kyE (f, L)) := by simp [he]
  have two : i = 0 ∨ i = 1 ∨ 2 ≤ i := by omega
  refine ⟨f, L, cap, by rw [← hEl]; exact hT.c0, hl, form_get hE he, ?_, hP.te i _ d he hi, hE.st _ hm, hE.pl _ hm, ?_, ?_, ?_, ?_, hP.al _ hm, fun h1 h2 => hP.mm h1 i _ d he hi h2⟩
  · rcases two with rfl | rfl | h2
    · have := hP.tb.k0; rw [hkE] at this; simp [kyE] at this
      have e := hP.tb.d0; rw [hi] at e; simp at e; rw [e]; exact this.1
    · have := hP.tb.k1; rw [hkE] at this; simp [kyE] at this
      have e := hP.tb.d1; rw [hi] at e; simp at e; rw [e]; exact this.1
    · rcases hP.tb.ky i _ d h2 hkE hi with g | ⟨g1, g2, g3, g4, g5, x, y, g6, g7, g8⟩ | ⟨g1, g2, g3, g4, g5, g6, g7⟩ | ⟨g1, g2, g3, g4, g5, x, g6, g7⟩
      · rw [g.2.2.2.2]; exact g.1
      · rw [g8]; exact g1
      · rw [g7]; exact g1
      · rw [g7]; exact g1
  · rintro a b rfl
    have h2 := hP.tb.ge hi (by simp) (by simp)
    rcases hP.tb.ky i _ _ h2 hkE hi with g | ⟨g1, g2, g3, g4, g5, x, y, g6, g7, g8⟩ | ⟨g1, g2, g3, g4, g5, g6, g7⟩ | ⟨g1, g2, g3, g4, g5, x, g6, g7⟩
    · have := g.2.2.2.2; simp at this
    · simp at g8; obtain ⟨rfl, rfl⟩ := g8; exact ⟨g6, g7⟩
    · simp at g7
    · simp at g7
  · rintro a rfl
    have h2 := hP.tb.ge hi (by simp) (by simp)
    rcases hP.tb.ky i _ _ h2 hkE hi with g | ⟨g1, g2, g3, g4, g5, x, y, g6, g7, g8⟩ | ⟨g1, g2, g3, g4, g5, g6, g7⟩ | ⟨g1, g2, g3, g4, g5, x, g6, g7⟩
    · have := g.2.2.2.2; simp at this
    · simp at g8
    · simp at g7
    · simp at g7; subst g7; exact g6
  · rintro s rfl
    have h2 := hP.tb.ge hi (by simp) (by simp)
    rcases hP.tb.ky i _ _ h2 hkE hi with g | ⟨g1, g2, g3, g4, g5, x, y, g6, g7, g8⟩ | ⟨g1, g2, g3, g4, g5, g6, g7⟩ | ⟨g1, g2, g3, g4, g5, x, g6, g7⟩
    · have := g.2.2.2.2; simp at this; exact this.symm
    · simp at g8
    · simp at g7
    · simp at g7
  · rintro l rfl
    have h2 := hP.tb.ge hi (by simp) (by simp)
    rcases hP.tb.ky i _ _ h2 hkE hi with g | ⟨g1, g2, g3, g4, g5, x, y, g6, g7, g8⟩ | ⟨g1, g2, g3, g4, g5, g6, g7⟩ | ⟨g1, g2, g3, g4, g5, x, g6, g7⟩
    · have := g.2.2.2.2; simp at this
    · simp at g8
    · simp at g7; exact ⟨fun j hj => by have := g6 j hj; omega, g7, g5⟩
    · simp at g7
theorem ST.tbl {base : Nat} {w : World} {fb vb : Nat} {D : List NF} {ak c : Nat} {U : List NF} {Z : List Nat} (h : ST base w fb vb D ak c U Z) : D[0]? = some .zero ∧ D[1]? = some .one ∧ D.Nodup ∧ (∀ d ∈ D, WC d) ∧ (∀ x ∈ D, x ∈ U) ∧ fb < base ∧ base ≤ w.heap.size ∧ base ≤ vb ∧ vb < w.heap.size ∧ NoInt w [fb, vb] := by
  obtain ⟨E, B, hE, hP, hU, _, _⟩ := h
  have hv := hE.vbs
  exact ⟨hP.tb.d0, hP.tb.d1, hP.tb.nd, hP.tb.wc, hU, hE.fb, hE.sz, hv.1, hv.2.1, hE.noInt⟩
theorem ST.zs {base : Nat} {w : World} {fb vb : Nat} {D : List NF} {ak c : Nat} {U : List NF} {Z : List Nat} (h : ST base w fb vb D ak c U Z) : ∀ k ∈ Z, k < w.heap.size := by
  obtain ⟨E, B, _, _, _, _, h5⟩ := h; exact h5.1
theorem ST.num {base : Nat} {w : World} {fb vb : Nat} {D : List NF} {ak c : Nat} {U : List NF} {Z : List Nat} (h : ST base w fb vb D ak c U Z) {i j : Nat} {x y : NF} (hi : D[i]? = some x) (hj : D[j]? = some y) : i = j ↔ x = y := by
  constructor
  · rintro rfl; rw [hi] at hj; simpa using hj
  · rintro rfl; exact nodup_get h.tbl.2.2.1 hi hj
theorem RQ.here {base : Nat} {w w' : World} {fb vb : Nat} {D : List NF} {ak c : Nat} {U : List NF} {Z : List Nat} {y : NF} {r : Nat} (h : ST base w fb vb D ak c U Z) (f : Frm [] w w') (hr : D[r]? = some y) : RQ base w fb vb D ak c U Z y (.returned (.int .i64 (r : Nat))) w' :=
  ⟨vb, [], r, rfl, by simpa using h.keep f, by simpa using hr, FQ.keepR (FQ.refl _ _ _) f⟩
theorem RQ.later {base : Nat} {w w1 w' : World} {fb vb vb1 : Nat} {D R : List NF} {ak c : Nat} {U : List NF} {Z : List Nat} {y : NF} {e : Ending} (f : FQ fb vb vb1 w w1) (h : RQ base w1 fb vb1 (D ++ R) ak c U Z y e w') : RQ base w fb vb D ak c U Z y e w' := by
  obtain ⟨vb', R', r, h1, h2, h3, h4⟩ := h
  exact ⟨vb', R ++ R', r, h1, by simpa using h2, by simpa using h3, f.trans h4⟩
theorem RQ.keepR {base : Nat} {w w1 w' : World} {fb vb : Nat} {D : List NF} {ak c : Nat} {U : List NF} {Z : List Nat} {y : NF} {e : Ending} (h : RQ base w fb vb D ak c U Z y e w1) (f : Frm [] w1 w') : RQ base w fb vb D ak c U Z y e w' := by
  obtain ⟨vb', R', r, h1, h2, h3, h4⟩ := h
  exact ⟨vb', R', r, h1, h2.keep f, h3, FQ.keepR h4 f⟩
theorem get_app {D R : List NF} {i : Nat} {x : NF} (h : D[i]? = some x) : (D ++ R)[i]? = some x := by
  rw [List.getElem?_append_left (List.getElem?_eq_some_iff.1 h).1]; exact h
end Go.Proofs.YtpbkgeipigcefaaGreat

namespace Go.Proofs.YtpbkgeipigcefaaGreat
set_option linter.unusedVariables false
set_option linter.unusedSimpArgs false

theorem ris_nodup {l : List NF} (h : Ris l) : l.Nodup := by
  refine List.Pairwise.imp ?_ h
  intro a b hab e
  subst e
  rw [blt_irrefl] at hab
  exact absurd hab (by decide)
theorem srt_congr {a b : List NF} (ha : Tell a) (hb : Tell b) (h : ∀ p, p ∈ a ↔ p ∈ b) : srt a = srt b :=
  ris_ext (srt_ris a) (srt_ris b) fun p => by rw [srt_mem_iff ha, srt_mem_iff hb]; exact h p
theorem srt_len {l : List NF} (ht : Tell l) (hn : l.Nodup) : (srt l).length = l.length :=
  Nat.le_antisymm (nodup_len (ris_nodup (srt_ris l)) fun x hx => srt_mem hx) (nodup_len hn fun x hx => (srt_mem_iff ht).2 hx)
def RO (R L : List Nat) : Prop := R.Pairwise (· < ·) ∧ ∀ j, j ∈ R ↔ j ∈ L

theorem map_nodup {D : List NF} (nd : D.Nodup) {R : List Nat} (hr : R.Pairwise (· < ·)) (hl : ∀ j ∈ R, j < D.length) : (R.map fun j => D.getD j .zero).Nodup := by
  rw [List.Nodup, List.pairwise_map]
  refine List.Pairwise.imp_of_mem ?_ hr
  intro a b ha hb hab e
  have := nodup_get nd (getD_some (hl a ha)) (by rw [e]; exact getD_some (hl b hb))
  omega
theorem map_tell {D : List NF} (wc : ∀ x ∈ D, WC x) {R : List Nat} (hl : ∀ j ∈ R, j < D.length) : Tell (R.map fun j => D.getD j .zero) :=
  tell_wf fun x hx => by
    obtain ⟨j, hj, rfl⟩ := List.mem_map.1 hx
    exact (wc _ (getD_mem (hl j hj))).1
theorem ro_srt {D : List NF} (nd : D.Nodup) (wc : ∀ x ∈ D, WC x) {R L : List Nat} (h : RO R L) (hl : ∀ j ∈ L, j < D.length) {l : List NF} (ht : Tell l) (hm : ∀ p, p ∈ l ↔ p ∈ L.map fun j => D.getD j .zero) :
    srt (R.map fun j => D.getD j .zero) = srt l ∧ (srt l).length = R.length := by
  have hR : ∀ j ∈ R, j < D.length := fun j hj => hl j ((h.2 j).1 hj)
  have e : srt (R.map fun j => D.getD j .zero) = srt l := by
    refine srt_congr (map_tell wc hR) ht fun p => ?_
    rw [hm p]
    simp only [List.mem_map]
    exact ⟨fun ⟨j, hj, e⟩ => ⟨j, (h.2 j).1 hj, e⟩, fun ⟨j, hj, e⟩ => ⟨j, (h.2 j).2 hj, e⟩⟩
  refine ⟨e, ?_⟩
  rw [← e, srt_len (map_tell wc hR) (map_nodup nd h.1 hR)]
  simp

theorem mkS_many {l : List NF} (h : 2 ≤ l.length) : mkS l = .sum l := by
  match l, h with
  | a :: b :: r, _ => rfl

def OrOK (U : List NF) (ls : List NF) : Prop := (joinB (ls.flatMap parts) ≠ 0 → .set (joinB (ls.flatMap parts)) ∈ U) ∧ (2 ≤ (srt (coreL (ls.flatMap parts))).length → orL ls ∈ U) ∧ (ls.flatMap parts).length ≤ 9000000000000 ∧ ls.length ≤ 9000000000000

mutual
def Need (c : Nat) (U : List NF) : NF → Prop
  | .zero => True
  | .one => True
  | .set _ => True
  | .pair a b => Need c U a ∧ (∀ f ∈ crT (left c a) b, f ∈ U) ∧ (nul a = true → Need c U b ∧ OrOK U [thenN (left c a) b, left c b])
  | .sum l => NeedL c U l ∧ OrOK U (leftL c l)
  | .star a => Need c U a ∧ ∀ f ∈ crT (left c a) (.star a), f ∈ U
def NeedL (c : Nat) (U : List NF) : List NF → Prop
  | [] => True
  | x :: r => Need c U x ∧ NeedL c U r
end
theorem needL_mem {c : Nat} {U : List NF} : ∀ {l : List NF}, NeedL c U l ↔ ∀ x ∈ l, Need c U x
  | [] => by simp [NeedL]
  | x :: r => by simp only [NeedL, List.mem_cons, forall_eq_or_imp, needL_mem]

theorem nulL_any : ∀ l : List NF, nulL l = l.any nul
  | [] => rfl
  | x :: r => by simp [nulL, nulL_any r]
theorem any_congr {a b : List NF} (h : ∀ p, p ∈ a ↔ p ∈ b) : a.any nul = b.any nul := by
  rw [Bool.eq_iff_iff, List.any_eq_true, List.any_eq_true]
  exact ⟨fun ⟨x, hx, e⟩ => ⟨x, (h x).1 hx, e⟩, fun ⟨x, hx, e⟩ => ⟨x, (h x).2 hx, e⟩⟩

theorem put_le {A : List Nat} {n i : Nat} (h : A.Pairwise (· ≤ ·)) (hi : i ≤ A.length) (h1 : ∀ x ∈ A.drop i, n < x) (h2 : 0 < i → A.getD (i - 1) 0 ≤ n) : (A.take i ++ n :: A.drop i).Pairwise (· ≤ ·) := by
  have hs : (A.take i ++ A.drop i).Pairwise (· ≤ ·) := by rw [List.take_append_drop]; exact h
  rw [List.pairwise_append] at hs ⊢
  have ht : ∀ x ∈ A.take i, x ≤ n := by
    intro x hx
    obtain ⟨j, hj, rfl⟩ := List.mem_iff_getElem.1 hx
    simp only [List.length_take] at hj
    rw [List.getElem_take]
    have h3 := h2 (by omega)
    have h4 : A.getD (i - 1) 0 = A[i - 1]'(by omega) := by simp [List.getD, show i - 1 < A.length by omega]
    rw [h4] at h3
    refine Nat.le_trans ?_ h3
    by_cases e : j = i - 1
    · subst e; exact Nat.le_refl _
    · exact List.pairwise_iff_getElem.1 h j (i - 1) (by omega) (by omega) (by omega)
  refine ⟨hs.1, ?_, ?_⟩
  · rw [List.pairwise_cons]
    exact ⟨fun x hx => Nat.le_of_lt (h1 x hx), hs.2.1⟩
  · intro x hx y hy
    rcases List.mem_cons.1 hy with e | e
    · subst e; exact ht x hx
    · exact hs.2.2 x hx y e
theorem put_memN {A : List Nat} {n i : Nat} (j : Nat) : j ∈ A.take i ++ n :: A.drop i ↔ j ∈ A ∨ j = n := by
  have e : j ∈ A ↔ j ∈ A.take i ++ A.drop i := by rw [List.take_append_drop]
  rw [e]
  simp only [List.mem_append, List.mem_cons]
  constructor
  · rintro (h | h | h)
    · exact .inl (.inl h)
    · exact .inr h
    · exact .inl (.inr h)
  · rintro ((h | h) | h)
    · exact .inl h
    · exact .inr (.inr h)
    · exact .inr (.inl h)
theorem ro_step {R O : List Nat} {k : Nat} (hR : R.Pairwise (· ≤ ·)) (hk : k < R.length) (h : RO O (R.take k)) :
    ((k = 0 ∨ R.getD (k - 1) 0 ≠ R[k]) → RO (O ++ [R[k]]) (R.take (k + 1))) ∧ (¬ (k = 0 ∨ R.getD (k - 1) 0 ≠ R[k]) → RO O (R.take (k + 1))) := by
  have ht : R.take (k + 1) = R.take k ++ [R[k]] := by rw [List.take_add_one, List.getElem?_eq_getElem hk]; rfl
  have hp := List.pairwise_iff_getElem.1 hR
  constructor
  · intro hc
    constructor
    · rw [List.pairwise_append]
      refine ⟨h.1, by simp, ?_⟩
      intro x hx y hy
      simp at hy; subst hy
      obtain ⟨j, hj, rfl⟩ := List.mem_iff_getElem.1 ((h.2 x).1 hx)
      simp only [List.length_take] at hj
      rw [List.getElem_take]
      have h1 := hp j k (by omega) hk (by omega)
      have h4 : R.getD (k - 1) 0 = R[k - 1]'(by omega) := by simp [List.getD, show k - 1 < R.length by omega]
      rcases hc with hc | hc
      · omega
      · rw [h4] at hc
        have h2 : R[j] ≤ R[k - 1] := by
          by_cases e : j = k - 1
          · subst e; exact Nat.le_refl _
          · exact hp j (k - 1) (by omega) (by omega) (by omega)
        have h3 := hp (k - 1) k (by omega) hk (by omega)
        omega
    · intro j; rw [ht]; simp only [List.mem_append, h.2 j]
  · intro hc
    have hc1 : ¬ k = 0 := fun e => hc (.inl e)
    have hc2 : R.getD (k - 1) 0 = R[k] := Decidable.byContradiction fun e => hc (.inr e)
    refine ⟨h.1, fun j => ?_⟩
    rw [ht, h.2 j]
    simp only [List.mem_append, List.mem_singleton]
    refine ⟨fun e => .inl e, fun e => e.elim id fun e => ?_⟩
    subst e
    rw [← hc2]
    have h4 : R.getD (k - 1) 0 = R[k - 1]'(by omega) := by simp [List.getD, show k - 1 < R.length by omega]
    rw [h4]
    exact List.mem_iff_getElem.2 ⟨k - 1, by simp; omega, by simp⟩
end Go.Proofs.YtpbkgeipigcefaaGreat

