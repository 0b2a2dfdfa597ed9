import Derived.Test.YtjnaekffodgdcaaDoorW14
namespace Go.Proofs.YtjnaekffodgdcaaDoor
open Go.RowKit
set_option linter.unusedVariables false
set_option linter.unusedSimpArgs false
set_option linter.unnecessarySimpa false

theorem own_frmT {S : List Nat} {w w' : World} {base : Nat} {e : TypeId} {size : Nat} {v : Value} {n : Nat} {xs : List Value} (h : w.ownsRow base e size v n xs) (f : Frm S w w')
    (hS : ∀ k, k ∈ S → k < base ∨ ∃ cur e' fz, w.heap[k]? = some (.cells cur e' fz) ∧ e' ≠ e) : w'.ownsRow base e size v n xs := by
  refine ⟨h.1, ?_⟩
  rcases h.2 with hn | ⟨g, cap, cur, rfl, hb, hgg, rest⟩
  · exact .inl hn
  · refine .inr ⟨g, cap, cur, rfl, hb, ?_, rest⟩
    rw [f.block g (Array.getElem?_eq_some_iff.1 hgg).1 (fun hm => by
      rcases hS g hm with h1 | ⟨cur', e', fz, h1, h2⟩
      · omega
      · rw [hgg] at h1; simp at h1; exact h2 h1.2.1.symm)]
    exact hgg

theorem own_lt {w : World} {base : Nat} {e : TypeId} {size : Nat} {v : Value} {n : Nat} {xs : List Value} (h : w.ownsRow base e size v n xs) (k : Nat) (hk : v.ownBlock = some k) : k < w.heap.size := (h.lt k hk).2
/-- Blocks that hold no text and no matcher. -/
def Apart (w : World) (base : Nat) (S : List Nat) : Prop := ∀ k, k ∈ S → k < base ∨ ∃ cur e' fz, w.heap[k]? = some (.cells cur e' fz) ∧ e' ≠ 9 ∧ e' ≠ 78
theorem CRep.frm {S : List Nat} {base : Nat} {w w' : World} {v : RV} {c : CR} (h : CRep base w v c) (f : Frm S w w') (hS : Apart w base S) : CRep base w' v c :=
  ⟨h.d, h.rc, h.tb, own_frmT h.by_ f (fun k hk => (hS k hk).imp id (fun ⟨a, b, c, d, e⟩ => ⟨a, b, c, d, e.1⟩)), h.wt, h.ev, h.rp, own_frmT h.ifs f (fun k hk => (hS k hk).imp id (fun ⟨a, b, c, d, e⟩ => ⟨a, b, c, d, e.2⟩)), h.co⟩
theorem CRep.base {base base' : Nat} {w : World} {v : RV} {c : CR} (h : CRep base w v c) (hb : base' ≤ base) : CRep base' w v c :=
  ⟨h.d, h.rc, h.tb, h.by_.base hb, h.wt, h.ev, h.rp, h.ifs.base hb, h.co⟩

/-- The configuration that is being read, at block cb. -/
def CB (w : World) (cb : Nat) (vr vt : Value) : Prop := w.heap[cb]? = some (.cells #[vr, vt] 35 (0, 0))
theorem CB.c0 {w : World} {cb : Nat} {vr vt : Value} (h : CB w cb vr vt) : w.cell? ⟨cb, 0, none⟩ = some vr := by
  unfold CB at h; simp [World.cell?, h]
theorem CB.c1 {w : World} {cb : Nat} {vr vt : Value} (h : CB w cb vr vt) : w.cell? ⟨cb, 1, none⟩ = some vt := by
  unfold CB at h; simp [World.cell?, h]
theorem CB.fz {w : World} {cb : Nat} {vr vt : Value} (h : CB w cb vr vt) (o : Nat) : w.frozen? ⟨cb, o, none⟩ = false := by
  unfold CB at h; simp [World.frozen?, h]
theorem CB.lt {w : World} {cb : Nat} {vr vt : Value} (h : CB w cb vr vt) : cb < w.heap.size := (Array.getElem?_eq_some_iff.1 h).1
theorem CB.frm {S : List Nat} {w w' : World} {cb : Nat} {vr vt : Value} (h : CB w cb vr vt) (f : Frm S w w') (hS : cb ∉ S) : CB w' cb vr vt := (f.block cb h.lt hS).trans h
theorem CB.set0 {w : World} {cb : Nat} {vr vt : Value} (h : CB w cb vr vt) (v : Value) : CB (w.setCell ⟨cb, 0, none⟩ v) cb v vt := by
  unfold CB at *; simp [World.setCell, Array.getElem?_modify, h]
theorem CB.set1 {w : World} {cb : Nat} {vr vt : Value} (h : CB w cb vr vt) (v : Value) : CB (w.setCell ⟨cb, 1, none⟩ v) cb vr v := by
  unfold CB at *; simp [World.setCell, Array.getElem?_modify, h]

def rcells (rv : RV) : List Value := rv.cells.toList
def rvl (R : List RV) : List Value := R.flatMap rcells
/-- A list of routes that the call has made by append. -/
def RL (base : Nat) (w : World) (v : Value) (R : List RV) : Prop := w.ownsRow base 62 9 v R.length (rvl R)
theorem RL.nil (base : Nat) (w : World) : RL base w (.slice none 0 0) [] := World.ownsRow_nil w base _ 9
theorem infoRoute : (Tryd.prog.info? 62).map (fun i => (i.zero, i.size, i.bytes)) = some (some (.agg #[.int .i64 0, .string ByteArray.empty, .bool false, .slice none 0 0, .int .i64 0, .int .i64 0, .int .i64 0, .slice none 0 0, .bool false]), 9, 112) := by kernel_rfl

set_option maxRecDepth 100000 in
set_option maxHeartbeats 2000000 in
theorem addLine1_any (cb : Nat) (t : List UInt8) (vr vt : Value) (w : World) (ht : t.length ≤ 1048576) (hc : CB w cb vr vt) :
    Calls Tryd.prog 25 #[.pointer (some ⟨cb, 0, none⟩), .int .i64 1, .string (bs t)] w fun e w' => Frm [cb] w w' ∧ e = .returned (.bool (sRecvs t).isSome) ∧ ∃ vr' L, CB w' cb vr' vt ∧ SL w.heap.size w' vr' L ∧ ∀ L', sRecvs t = some L' → L = L' := by
  have HC : Hid (CB w cb vr vt) := hc
  clear hc
  go_enter Tryd.func25, Tryd.ntmps25
  go_wp2_with fail
  refine (readReceivers_any t w ht).mono ?_
  rintro e w1 ⟨hf1, v1, L, rfl, hs1, hL⟩
  have hc1 := HC.out.frm hf1 (by simp)
  have c0 := hc1.c0
  have f0 := hc1.fz 0
  have hlt := HC.out.lt
  have HC1 : Hid (CB w1 cb vr vt) := hc1
  have HF1 : Hid (Frm [] w w1) := hf1
  have HS1 : Hid (SL w.heap.size w1 v1 L) := hs1
  have HL : Hid (∀ L', sRecvs t = some L' → L = L') := hL
  obtain ⟨a1, cap1, rfl⟩ := HS1.out.shape
  clear hc1 hf1 hs1 hL HC
  go_wp2
  go_ret
  refine ⟨HF1.out.nil.setCell (by simp) _, rfl, _, L, HC1.out.set0 _, ?_, HL.out⟩
  exact HS1.out.frm (S := [cb]) ((Frm.refl _ _).setCell (by simp) _) (by simp; omega)

set_option maxRecDepth 100000 in
set_option maxHeartbeats 4000000 in
theorem addLine2_any (cb base : Nat) (line : Int) (t : List UInt8) (vr vt : Value) (R : List RV) (w : World) (ht : t.length ≤ 1048576) (hc : CB w cb vr vt) (hr : RL base w vt R) (hR : R.length ≤ 1048576) (hcb : cb < base) (hb : base ≤ w.heap.size) (hl : (line == 1) = false) :
    Calls Tryd.prog 25 #[.pointer (some ⟨cb, 0, none⟩), .int .i64 line, .string (bs t)] w fun e w' => Frm (cb :: vt.ownBlock.toList) w w' ∧ e = .returned (.bool (sRoute t).isSome) ∧ ∃ vt' rv, CB w' cb vr vt' ∧ RL base w' vt' (R ++ [rv]) ∧ ∀ c, sRoute t = some c → CRep w.heap.size w' rv c := by
  have HC : Hid (CB w cb vr vt) := hc
  have HR : Hid (RL base w vt R) := hr
  clear hc hr
  obtain ⟨i0, hi, hza, hzb, hzc⟩ := info_parts infoRoute
  go_enter Tryd.func25, Tryd.ntmps25
  go_wp2_with fail
  refine (readRoute_any t w ht).mono ?_
  rintro e w1 ⟨hf1, ⟨d, rc, tb, vby, wt, ev, rp, vif, co⟩, ⟨ab, nb, capb, hvb⟩, ⟨ai, ni, capi, hvi⟩, rfl, hrep⟩
  simp only at hvb hvi
  subst hvb hvi
  have hlt := HC.out.lt
  have hz1 := hf1.size
  obtain ⟨a, cap, rfl⟩ := own_shape HR.out
  have HC1 : Hid (CB w1 cb vr (.slice a R.length cap)) := HC.out.frm hf1 (by simp)
  have HF1 : Hid (Frm [] w w1) := hf1
  have HR1 : Hid (RL base w1 (.slice a R.length cap) R) := own_frm HR.out hf1 (by simp)
  have HP : Hid (∀ c, sRoute t = some c → CRep w.heap.size w1 ⟨d, rc, tb, .slice ab nb capb, wt, ev, rp, .slice ai ni capi, co⟩ c) := hrep
  clear hf1 hrep HC
  have c1 := HC1.out.c1
  have f1 := HC1.out.fz 1
  have hlt1 := HC1.out.lt
  have ag : Value.ownBlock (.slice a R.length cap) ≠ some cb := fun e => by have := HR1.out.lt _ e; omega
  have am : Value.ownBlock (.slice a R.length cap) ≠ some w1.heap.size := fun e => by have := HR1.out.lt _ e; omega
  have g2 : ∀ o o' : Obj, ((w1.alloc o).alloc o').drew.frozen? ⟨cb, 1, none⟩ = false := fun o o' => (((((Frm.refl [] w1).alloc o).alloc o').drew).frozen hlt1 (by simp)).trans f1
  have hun : RV.cells ⟨d, rc, tb, .slice ab nb capb, wt, ev, rp, .slice ai ni capi, co⟩ = #[.int .i64 d, .string (bs rc), .bool tb, .slice ab nb capb, .int .i64 wt, .int .i64 ev, .int .i64 rp, .slice ai ni capi, .bool co] := rfl
  rw [hun]
  go_wp2_with fail
  go_region_law ((refine step_append_lies _ (by rfl) _ _ _ (by rfl) base 62 i0 _ 9 112 Tryd.underlying33 hi hza hzb hzc rfl (by omega) (.slice a R.length cap) R.length (rvl R) (by rfl) (by exact (HR1.out.alloc _).alloc _) ⟨w1.heap.size + 1, 0, none⟩ 1 1 (rcells ⟨d, rc, tb, .slice ab nb capb, wt, ev, rp, .slice ai ni capi, co⟩) (by rfl) (by rfl) (World.news_of_block (cs := RV.cells ⟨d, rc, tb, .slice ab nb capb, wt, ev, rp, .slice ai ni capi, co⟩) (t := 62) (fr := (0, 0)) (by exact heap_new2 _ _ _)) (by simp [Value.oneCell', rcells, RV.cells]) (by omega) (by unfold maxLen; omega) (by omega) (by simp; omega) (w1.heap.size + 2) (by simp) ?_; intro gg cap2 w4 hown4 hgrow hat hlt4; have c4 := (hgrow.cell_far ⟨cb, 1, none⟩ (by simp; omega) (Ne.symm ag)); have f4 := (hgrow.frozen_far ⟨cb, 1, none⟩ (by simp; omega) (Ne.symm ag)); have f5 := f4.trans (g2 _ _)))
  all_goals
    have HO : Hid (World.grownBy _ w4 (Value.ownBlock (.slice a R.length cap))) := hgrow
    have HO4 : Hid (w4.ownsRow base 62 9 (.slice (some ⟨gg, 0, none⟩) (R.length + 1) cap2) (R.length + 1) (rvl R ++ rcells ⟨d, rc, tb, .slice ab nb capb, wt, ev, rp, .slice ai ni capi, co⟩)) := hown4
    clear hgrow hown4
    go_wp2
    go_ret
    have F4 := Frm.of_grow HO.out
    have C4 : CB w4 cb vr (.slice a R.length cap) := (HC1.out.frm (S := []) ((((Frm.refl _ _).alloc _).alloc _).drew) (by simp)).frm F4 (by simpa [Option.mem_toList] using fun e => ag e)
    refine ⟨?_, rfl, .slice (some ⟨gg, 0, none⟩) (R.length + 1) cap2, ⟨d, rc, tb, .slice ab nb capb, wt, ev, rp, .slice ai ni capi, co⟩, C4.set1 _, ?_, ?_⟩
    · refine Frm.setCell ?_ (by simp) _
      refine Frm.trans (b := w1) HF1.out.nil ?_
      exact ((((Frm.refl _ _).alloc _).alloc _).drew).grown HO.out (fun k hk => Or.inl (by simp [hk]))
    · have := ownsRow_setCell_below HO4.out (a := ⟨cb, 1, none⟩) hcb (.slice (some ⟨gg, 0, none⟩) (R.length + 1) cap2)
      simpa [RL, rvl] using this
    · intro c hc
      refine (CRep.frm (S := Value.ownBlock (.slice a R.length cap) |>.toList) (((HP.out c hc).frm (S := []) ((((Frm.refl _ _).alloc _).alloc _).drew) (by intro k hk; simp at hk))) F4 ?_).frm (S := [cb]) ((Frm.refl _ _).setCell (by simp) _) (by intro k hk; simp at hk; exact Or.inl (by omega))
      intro k hk
      rw [Option.mem_toList] at hk
      refine Or.inl ?_
      have h1 := own_lt HR.out k hk
      exact h1

end Go.Proofs.YtjnaekffodgdcaaDoor
