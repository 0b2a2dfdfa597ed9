import Derived.Test.YthlemieldfbbfabT1
namespace Go.Proofs.Ythlemieldfbbfab
open Go.RowKit
set_option linter.unusedVariables false
set_option linter.unusedSimpArgs false
set_option linter.unnecessarySimpa false

def NumsQ (n hi : Nat) (w : World) (b : Nat) (s : List UInt8) (ok : Bool) (e : Ending) (w' : World) : Prop :=
  ∃ (l : List Nat) (a : Option Addr) (c : Nat) (s' : List UInt8) (ok' : Bool), e = .returned (.slice a l.length c) ∧ TK w' b s' ok' ∧ Frm [b] w w' ∧ TO ok (pR (fun _ => pN 1 0 hi) n []) s l ok' s' ∧ s'.length ≤ s.length ∧ OW 3 1 w.heap.size w' (.slice a l.length c) (ic l)

set_option maxRecDepth 100000 in
set_option maxHeartbeats 2000000 in
theorem rnums_any (b : Nat) (s : List UInt8) (ok : Bool) (n hi : Nat) (nv mo : Int) (w : World) (h : TK w b s ok) (hn : nv = (n : Int)) (hmo : mo = (hi : Int) - 1) (hnb : n ≤ 100000) (hhi : hi ≤ 1000) :
    Calls Try.prog 43 #[.pointer (some ⟨b, 0, none⟩), .int .i64 nv, .int .i64 mo] w (NumsQ n hi w b s ok) := by
  subst hn
  have T0 := hide h
  have hb := h.lt
  have hmo2 := hmo
  have HMO := hide hmo
  clear h hmo hmo2
  go_enter Try.func43, Try.ntmps43
  go_wp2_with fail
  go_loopg [7, 8] n (fun k v7 v8 wr => ∃ (j : Nat) (l : List Nat) (s' : List UInt8) (ok' : Bool), j + k = n ∧ v8 = .int .i64 j ∧ TK wr b s' ok' ∧ Frm [b] w wr ∧ OW 3 1 w.heap.size wr v7 (ic l) ∧ l.length ≤ j ∧ s'.length ≤ s.length ∧
      Hid ((ok = true ∧ ok' = true ∧ l.length = j ∧ pR (fun _ => pN 1 0 hi) (n - j) l s' = pR (fun _ => pN 1 0 hi) n [] s) ∨ ((ok = false ∨ pR (fun _ => pN 1 0 hi) n [] s = none) ∧ ok' = false)))
  case atStart =>
    refine ⟨0, [], s, ok, by omega, rfl, T0.out, Frm.refl _ _, OW.nil _ _ _ _, by simp, Nat.le_refl _, ?_⟩
    cases ok
    · exact .inr ⟨.inl rfl, rfl⟩
    · exact .inl ⟨rfl, rfl, rfl, rfl⟩
  case round =>
    clear T0
    obtain ⟨j, l, s1, ok1, hjk, rfl, hT, hF, hO, hl, hs1, HR⟩ := hrel
    obtain ⟨a, c, he⟩ := hO.shape
    rw [ic_len] at he
    subst he
    have T := hide hT
    have F := hide hF
    have O := hide hO
    have c1 := hT.c1
    have hz := hF.size
    clear hT hF hO
    by_cases hlt : j < n
    · have hd : decide ((j : Int) < (n : Int)) = true := decide_eq_true (by omega)
      have hd' : decide (j < n) = true := decide_eq_true hlt
      cases ok1 with
      | false =>
        go_wp2
        go_ret
        refine ⟨l, a, c, s1, false, rfl, T.out, F.out, ?_, hs1, O.out⟩
        rcases HR.out with ⟨_, h, _⟩ | ⟨h, _⟩
        · cases h
        · exact .inr ⟨h, rfl⟩
      | true =>
        have HP : Hid (ok = true ∧ l.length = j ∧ pR (fun _ => pN 1 0 hi) (n - j) l s1 = pR (fun _ => pN 1 0 hi) n [] s) := by
          rcases HR.out with ⟨h1, _, h3, h4⟩ | ⟨_, h⟩
          · exact ⟨h1, h3, h4⟩
          · cases h
        have N2 := hide (rnum_any b s1 true 1 hi 1 mo wr T.out rfl HMO.out (by omega) (by omega))
        clear HR
        go_wp2_with fail
        refine (N2.out).mono ?_
        rintro e w2 ⟨m, s2, ok2, rfl, hT2, hF2, hO2, hs2, hm⟩
        have T2 := hide hT2
        have F2 := hide (F.out.trans hF2)
        have O2 := hide (O.out.frm hF2 (by intro g hg; simp at hg; omega))
        have hz2 := hF2.size
        have HR2 : Hid ((ok = true ∧ ok2 = true ∧ (l ++ [m]).length = j + 1 ∧ pR (fun _ => pN 1 0 hi) (n - (j + 1)) (l ++ [m]) s2 = pR (fun _ => pN 1 0 hi) n [] s) ∨ ((ok = false ∨ pR (fun _ => pN 1 0 hi) n [] s = none) ∧ ok2 = false)) := by
          have h := HP.out
          rw [show n - j = (n - (j + 1)) + 1 by omega, pR_succ] at h
          rcases hO2 with ⟨_, h2, h3⟩ | ⟨h2, h3⟩
          · refine .inl ⟨h.1, h3, by simp [h.2.1], ?_⟩
            rw [← h.2.2, h2]; rfl
          · refine .inr ⟨.inr ?_, h3⟩
            rcases h2 with h2 | h2
            · cases h2
            · rw [← h.2.2, h2]; rfl
        have HOB : Hid (∀ r, Value.ownBlock (.slice a l.length c) = some r → w.heap.size ≤ r) := fun r hr => (O2.out.lt hr).1
        have hl2 : l.length ≤ 100000 := by omega
        clear hT2 hF2 hO2 HP N2 T F O
        go_wp2_with (first | (at_builtin; refine wp_appIc _ rfl _ _ rfl w.heap.size (.slice a l.length c) l w2.heap.size m rfl (O2.out.frm (S := []) ((Frm.refl [] _).alloc _) (by simp)) rfl (by simp) (by omega) (by simp; omega) ?_; intro g2 cap2 w3 hs3 hg3 hor3 hlt3; have O3 := hide hs3; have G3 := hide hg3; clear hs3 hg3 hor3))
        go_roundg (gk - 1)
        case measure => omega
        case rel =>
          refine ⟨j + 1, l ++ [m], s2, ok2, by omega, by go_num, (T2.out.frm (S := []) ((Frm.refl [] _).alloc _) (by simp)).grown G3.out (fun r hr => by have := HOB.out r hr; omega), (F2.out.alloc _).grown G3.out (fun r hr => .inr (HOB.out r hr)), O3.out, by simp; omega, by omega, HR2⟩
    · have hje : j = n := by omega
      have hd : decide ((j : Int) < (n : Int)) = false := decide_eq_false (by omega)
      have hd' : decide (j < n) = false := decide_eq_false hlt
      go_wp2
      go_ret
      refine ⟨l, a, c, s1, ok1, rfl, T.out, F.out, ?_, hs1, O.out⟩
      rcases HR.out with ⟨h1, h2, h3, h4⟩ | ⟨h1, h2⟩
      · rw [hje, Nat.sub_self] at h4
        exact .inl ⟨h1, h4.symm, h2⟩
      · exact .inr ⟨h1, h2⟩

def racell (x : AutM) (v1 v2 v3 : Value) : Array Value := #[.int .i64 (x.k : Nat), v1, v2, v3]
def RAutQ (w : World) (b : Nat) (s : List UInt8) (ok : Bool) (e : Ending) (w' : World) : Prop :=
  ∃ (x : AutM) (a1 a2 a3 : Option Addr) (c1 c2 c3 : Nat) (s' : List UInt8) (ok' : Bool), e = .returned (.agg (racell x (.slice a1 x.cl.length c1) (.slice a2 x.acc.length c2) (.slice a3 x.nx.length c3))) ∧ TK w' b s' ok' ∧ Frm [b] w w' ∧ TO ok pA s x ok' s' ∧ s'.length ≤ s.length ∧ OW 3 1 w.heap.size w' (.slice a1 x.cl.length c1) (ic x.cl) ∧ OW 3 1 w.heap.size w' (.slice a2 x.acc.length c2) (ic x.acc) ∧ OW 3 1 w.heap.size w' (.slice a3 x.nx.length c3) (ic x.nx)
theorem pN_lo {n lo hi : Nat} {s : List UInt8} {v : Nat} {r : List UInt8} (h : pN n 0 hi s = some (v, r)) : pN n lo hi s = if lo ≤ v then some (v, r) else none := by
  unfold pN at h ⊢
  split at h
  · rename_i h1
    simp at h
    obtain ⟨rfl, rfl⟩ := h
    by_cases h2 : lo ≤ nmV (s.take n)
    · rw [if_pos ⟨h1.1, h2, h1.2.2⟩, if_pos h2]
    · rw [if_neg (by omega), if_neg h2]
  · cases h
theorem pN_lo0 {n lo hi : Nat} {s : List UInt8} (h : pN n 0 hi s = none) : pN n lo hi s = none := by
  unfold pN at h ⊢
  split at h
  · cases h
  · rw [if_neg (by omega)]
abbrev rz4 : Array Value := #[.int .i64 0, .slice none 0 0, .slice none 0 0, .slice none 0 0]
theorem rautSize : (Try.prog.info? 72).map (·.size) = some 4 := by kernel_rfl
theorem results_cell1 {fn : Func} {p : Tmp} {ty : TypeId} (h : fn.results = #[.cell p ty]) (tmps : Array Value) (w : World) (g : Nat) (cs : Array Value)
    (hp : tmps.getD p undef = .pointer (some ⟨g, 0, none⟩)) (hl : (loadVar ty ⟨g, 0, none⟩).run Try.prog w = .ok (.agg cs) w) :
    (results fn tmps).run Try.prog w = .ok (.agg cs) w := by
  have hp' : tmps[p]?.getD undef = .pointer (some ⟨g, 0, none⟩) := by simpa using hp
  simp [results, h, hp', asAddr, hl]
theorem loadRAut {w : World} {g : Nat} {cs : Array Value} (h : w.heap[g]? = some (.cells cs 72 (0, 0))) (hs : cs.size = 4) : (loadVar 72 ⟨g, 0, none⟩).run Try.prog w = .ok (.agg cs) w :=
  run_loadVar_row w g 72 72 cs (0, 0) _ h Try.underlying72 rfl (by rw [hs]; exact rautSize)

set_option maxRecDepth 100000 in
set_option maxHeartbeats 4000000 in
theorem rauto_any (b : Nat) (s : List UInt8) (ok : Bool) (w : World) (h : TK w b s ok) :
    Calls Try.prog 26 #[.pointer (some ⟨b, 0, none⟩)] w (RAutQ w b s ok) := by
  have hb := h.lt
  obtain ⟨W1, hW1⟩ : ∃ W1, W1 = (w.alloc (Obj.cells rz4 72)).alloc (Obj.cells rz4 72) := ⟨_, rfl⟩
  have F0 : Hid (Frm [] w W1) := by rw [hW1]; exact ((Frm.refl [] w).alloc _).alloc _
  have hz0 : W1.heap.size = w.heap.size + 2 := by rw [hW1]; simp
  have RB0 : Hid (W1.heap[w.heap.size]? = some (.cells rz4 72 (0, 0))) := by
    rw [hW1]; exact (((Frm.refl [] (w.alloc (Obj.cells rz4 72))).alloc _).block w.heap.size (by simp) (by simp)).trans (heap1 _ _)
  have AB0 : Hid (W1.heap[w.heap.size + 1]? = some (.cells rz4 72 (0, 0))) := by
    rw [hW1]
    have := heap1 (w.alloc (Obj.cells rz4 72)) (Obj.cells rz4 72)
    rw [show (w.alloc (Obj.cells rz4 72)).heap.size = w.heap.size + 1 by simp] at this
    exact this
  have N1 := hide (rnum_any b s ok 1 41 1 40 W1 (h.frm F0.out (by simp)) rfl rfl (by omega) (by omega))
  clear h
  go_enter Try.func26, Try.ntmps26
  have N1' := N1.out
  rw [hW1] at N1'
  go_wp2_with fail
  refine N1'.mono ?_
  clear N1' N1
  rintro e w2 ⟨st, s2, ok2, rfl, hT2, hF2', hO2, hs2, hst⟩
  have hF2 : Frm [b] W1 w2 := by rw [hW1]; exact hF2'
  clear hF2' hW1
  have RB2 : Hid (w2.heap[w.heap.size]? = some (.cells rz4 72 (0, 0))) := (hF2.block w.heap.size (by omega) (by simp; omega)).trans RB0.out
  have AB2 : Hid (w2.heap[w.heap.size + 1]? = some (.cells rz4 72 (0, 0))) := (hF2.block (w.heap.size + 1) (by omega) (by simp; omega)).trans AB0.out
  have F2 := hide ((F0.out.mono (by simp)).trans hF2 : Frm [b] w w2)
  have O2 := hide hO2
  have hz2 := hF2.size
  have N2 := hide (rnum_any b s2 ok2 2 257 2 256 w2 hT2 rfl rfl (by omega) (by omega))
  clear hT2 hF2 hO2 F0 RB0 AB0
  go_wp2_with fail
  refine (N2.out).mono ?_
  rintro e w3 ⟨k, s3, ok3, rfl, hT3, hF3, hO3, hs3, hk⟩
  have RB3 : Hid (w3.heap[w.heap.size]? = some (.cells rz4 72 (0, 0))) := (hF3.block w.heap.size (by omega) (by simp; omega)).trans RB2.out
  have AB3 : Hid (w3.heap[w.heap.size + 1]? = some (.cells rz4 72 (0, 0))) := (hF3.block (w.heap.size + 1) (by omega) (by simp; omega)).trans AB2.out
  have F3 := hide (F2.out.trans hF3)
  have O3 := hide hO3
  have T3 := hide hT3
  have hz3 := hF3.size
  have d0 : w3.cell? ⟨w.heap.size + 1, 0, none⟩ = some (.int .i64 0) := by simp [World.cell?, AB3.out]
  have dz : ∀ o, w3.frozen? ⟨w.heap.size + 1, o, none⟩ = false := fun o => by simp [World.frozen?, AB3.out]
  have t1 := hT3.c1
  have tz := hT3.fz 1
  have hb3 := hT3.lt
  clear hT3 hF3 hO3 N2 F2 RB2 AB2
  have hstb : st < 41 := by omega
  have hkb : k < 257 := by omega
  have FSa : Frm [w.heap.size + 1] w3 (w3.setCell ⟨w.heap.size + 1, 0, none⟩ (.int .i64 (k : Nat))) := (Frm.refl _ _).setCell (p := ⟨w.heap.size + 1, 0, none⟩) (.inl (by simp)) _
  have ABa : (w3.setCell ⟨w.heap.size + 1, 0, none⟩ (.int .i64 (k : Nat))).heap[w.heap.size + 1]? = some (.cells #[.int .i64 (k : Nat), .slice none 0 0, .slice none 0 0, .slice none 0 0] 72 (0, 0)) := by simp [World.setCell, Array.getElem?_modify, AB3.out]
  have Ta := T3.out.frm FSa (by simp; omega)
  have Fa := F3.out.over FSa (by intro x hx; simp at hx; left; omega)
  have Ra := (FSa.block w.heap.size (by omega) (by simp)).trans RB3.out
  by_cases hst0 : st = 0
  · have HBAD := hide hst0
    clear hst0
    obtain ⟨Wa, hWa⟩ : ∃ Wa, Wa = (w3.setCell ⟨w.heap.size + 1, 0, none⟩ (.int .i64 (k : Nat))).setCell ⟨b, 1, none⟩ (.bool false) := ⟨_, rfl⟩
    obtain ⟨okz, hokz⟩ : ∃ okz, okz = false := ⟨_, rfl⟩
    have FSb : Frm [b] (w3.setCell ⟨w.heap.size + 1, 0, none⟩ (.int .i64 (k : Nat))) Wa := by rw [hWa]; exact (Frm.refl _ _).setCell (p := ⟨b, 1, none⟩) (.inl (by simp)) _
    have TA : Hid (TK Wa b s3 okz) := by rw [hWa, hokz]; exact Ta.set1 false
    have FA : Hid (Frm [b] w Wa) := Fa.trans FSb
    have RBA : Hid (Wa.heap[w.heap.size]? = some (.cells rz4 72 (0, 0))) := (FSb.block w.heap.size (by have := FSa.size; omega) (by simp; omega)).trans Ra
    have ABA : Hid (Wa.heap[w.heap.size + 1]? = some (.cells #[.int .i64 (k : Nat), .slice none 0 0, .slice none 0 0, .slice none 0 0] 72 (0, 0))) := (FSb.block (w.heap.size + 1) (by have := FSa.size; omega) (by simp; omega)).trans ABa
    have HOZ : Hid ((okz = true → ok3 = true ∧ 1 ≤ st ∧ 1 ≤ k) ∧ ((ok3 = true ∧ 1 ≤ st ∧ 1 ≤ k) → okz = true)) := ⟨fun h => (by rw [hokz] at h; cases h), fun h => (by have := HBAD.out; omega)⟩
    have hzA := FSb.size
    have hza := FSa.size
    have hb1 : ((st : Int) == 0) = true := by rw [beq_iff_eq]; have := HBAD.out; omega
    clear FSa ABa Ta Fa Ra FSb hokz F3 RB3 AB3
    go_wp2_with fail
    rw [← hWa]
    clear hWa hb1
    clear d0 dz t1 tz T3
    have N4 := hide (rnums_any b s3 okz 256 k 256 ((k : Int) - 1) Wa TA.out rfl rfl (by omega) (by omega))
    refine (N4.out).mono ?_
    clear N4
    rintro e w4 ⟨l1, a1, c1, s4, ok4, rfl, hT4, hF4, hO4, hs4, hw4⟩
    have RB4 : Hid (w4.heap[w.heap.size]? = some (.cells rz4 72 (0, 0))) := (hF4.block w.heap.size (by omega) (by simp; omega)).trans RBA.out
    have AB4 : Hid (w4.heap[w.heap.size + 1]? = some (.cells #[.int .i64 (k : Nat), .slice none 0 0, .slice none 0 0, .slice none 0 0] 72 (0, 0))) := (hF4.block (w.heap.size + 1) (by omega) (by simp; omega)).trans ABA.out
    have F4 := hide (FA.out.trans hF4)
    have O4 := hide hO4
    have T4 := hide hT4
    have hz4 := hF4.size
    have I1 := hide hw4
    have p0 : w4.cell? ⟨w.heap.size + 1, 0, none⟩ = some (.int .i64 (k : Nat)) := by simp [World.cell?, AB4.out]
    have p1 : w4.cell? ⟨w.heap.size + 1, 1, none⟩ = some (.slice none 0 0) := by simp [World.cell?, AB4.out]
    have pz : ∀ o, w4.frozen? ⟨w.heap.size + 1, o, none⟩ = false := fun o => by simp [World.frozen?, AB4.out]
    obtain ⟨w5, hw5⟩ : ∃ w5, w5 = w4.setCell ⟨w.heap.size + 1, 1, none⟩ (.slice a1 l1.length c1) := ⟨_, rfl⟩
    have FS5 : Frm [w.heap.size + 1] w4 w5 := by rw [hw5]; exact (Frm.refl _ _).setCell (p := ⟨w.heap.size + 1, 1, none⟩) (.inl (by simp)) _
    have T5 := hT4.frm FS5 (by simp; omega)
    have AB5 : Hid (w5.heap[w.heap.size + 1]? = some (.cells #[.int .i64 (k : Nat), .slice a1 l1.length c1, .slice none 0 0, .slice none 0 0] 72 (0, 0))) := by
      rw [hw5]; show _ = _; simp [World.setCell, Array.getElem?_modify, AB4.out]
    have RB5 : Hid (w5.heap[w.heap.size]? = some (.cells rz4 72 (0, 0))) := (FS5.block w.heap.size (by omega) (by simp)).trans RB4.out
    have F5 := hide (F4.out.over FS5 (by intro x hx; simp at hx; left; omega))
    have I1b := hide (I1.out.keep FS5 (fun r hr => by have := (I1.out.lt hr).1; simp; omega))
    have hz5 := FS5.size
    have N5 := hide (rnums_any b s4 ok4 st 2 (st : Int) 1 w5 T5 rfl rfl (by omega) (by omega))
    clear hT4 hF4 hO4 hw4 T5 FS5
    rw [hw5] at N5
    go_wp2_with fail
    refine (N5.out).mono ?_
    clear N5 p0 p1 pz
    rw [← hw5]
    clear hw5
    rintro e w6 ⟨l2, a2, c2, s6, ok6, rfl, hT6, hF6, hO6, hs6, hw6⟩
    have RB6 : Hid (w6.heap[w.heap.size]? = some (.cells rz4 72 (0, 0))) := (hF6.block w.heap.size (by omega) (by simp; omega)).trans RB5.out
    have AB6 : Hid (w6.heap[w.heap.size + 1]? = some (.cells #[.int .i64 (k : Nat), .slice a1 l1.length c1, .slice none 0 0, .slice none 0 0] 72 (0, 0))) := (hF6.block (w.heap.size + 1) (by omega) (by simp; omega)).trans AB5.out
    have F6 := hide (F5.out.trans hF6)
    have O6 := hide hO6
    have hz6 := hF6.size
    have I2 := hide hw6
    have I1c := hide (I1b.out.keep hF6 (fun r hr => by have := (I1b.out.lt hr).1; simp; omega))
    have p0 : w6.cell? ⟨w.heap.size + 1, 0, none⟩ = some (.int .i64 (k : Nat)) := by simp [World.cell?, AB6.out]
    have p2 : w6.cell? ⟨w.heap.size + 1, 2, none⟩ = some (.slice none 0 0) := by simp [World.cell?, AB6.out]
    have pz : ∀ o, w6.frozen? ⟨w.heap.size + 1, o, none⟩ = false := fun o => by simp [World.frozen?, AB6.out]
    obtain ⟨w7, hw7⟩ : ∃ w7, w7 = w6.setCell ⟨w.heap.size + 1, 2, none⟩ (.slice a2 l2.length c2) := ⟨_, rfl⟩
    have FS7 : Frm [w.heap.size + 1] w6 w7 := by rw [hw7]; exact (Frm.refl _ _).setCell (p := ⟨w.heap.size + 1, 2, none⟩) (.inl (by simp)) _
    have T7 := hT6.frm FS7 (by simp; omega)
    have AB7 : Hid (w7.heap[w.heap.size + 1]? = some (.cells #[.int .i64 (k : Nat), .slice a1 l1.length c1, .slice a2 l2.length c2, .slice none 0 0] 72 (0, 0))) := by
      rw [hw7]; show _ = _; simp [World.setCell, Array.getElem?_modify, AB6.out]
    have RB7 : Hid (w7.heap[w.heap.size]? = some (.cells rz4 72 (0, 0))) := (FS7.block w.heap.size (by omega) (by simp)).trans RB6.out
    have F7 := hide (F6.out.over FS7 (by intro x hx; simp at hx; left; omega))
    have I1d := hide (I1c.out.keep FS7 (fun r hr => by have := (I1c.out.lt hr).1; simp; omega))
    have I2b := hide (I2.out.keep FS7 (fun r hr => by have := (I2.out.lt hr).1; simp; omega))
    have hz7 := FS7.size
    have hprod : st * k ≤ 10240 := Nat.le_trans (Nat.mul_le_mul (Nat.le_of_lt_succ hstb) (Nat.le_of_lt_succ hkb)) (by decide)
    obtain ⟨p, hp⟩ : ∃ p, p = st * k := ⟨_, rfl⟩
    have hpz : (st : Int) * (k : Int) = (p : Int) := by rw [hp]; simp
    have HP := hide hp
    rw [← hp] at hprod
    clear hp
    have q0 : w7.cell? ⟨w.heap.size + 1, 0, none⟩ = some (.int .i64 (k : Nat)) := by simp [World.cell?, AB7.out]
    have N7 := hide (rnums_any b s6 ok6 p st (p : Int) ((st : Int) - 1) w7 T7 rfl rfl (by omega) (by omega))
    clear hT6 hF6 hO6 hw6 T7 FS7 I1 I1b I1c I2
    rw [hw7] at N7 q0
    go_wp2_with fail
    refine (N7.out).mono ?_
    clear N7 p0 p2 pz q0
    rw [← hw7]
    clear hw7
    rintro e w8 ⟨l3, a3, c3, s8, ok8, rfl, hT8, hF8, hO8, hs8, hw8⟩
    have RB8 : Hid (w8.heap[w.heap.size]? = some (.cells rz4 72 (0, 0))) := (hF8.block w.heap.size (by omega) (by simp; omega)).trans RB7.out
    have AB8 : Hid (w8.heap[w.heap.size + 1]? = some (.cells #[.int .i64 (k : Nat), .slice a1 l1.length c1, .slice a2 l2.length c2, .slice none 0 0] 72 (0, 0))) := (hF8.block (w.heap.size + 1) (by omega) (by simp; omega)).trans AB7.out
    have F8 := hide (F7.out.trans hF8)
    have O8 := hide hO8
    have T8 := hide hT8
    have hz8 := hF8.size
    have J1 := hide (I1d.out.keep hF8 (fun r hr => by have := (I1d.out.lt hr).1; simp; omega))
    have J2 := hide (I2b.out.keep hF8 (fun r hr => by have := (I2b.out.lt hr).1; simp; omega))
    have J3 := hide hw8
    have hb8 := hT8.lt
    have p0 : w8.cell? ⟨w.heap.size + 1, 0, none⟩ = some (.int .i64 (k : Nat)) := by simp [World.cell?, AB8.out]
    have p1 : w8.cell? ⟨w.heap.size + 1, 1, none⟩ = some (.slice a1 l1.length c1) := by simp [World.cell?, AB8.out]
    have p2 : w8.cell? ⟨w.heap.size + 1, 2, none⟩ = some (.slice a2 l2.length c2) := by simp [World.cell?, AB8.out]
    have p3 : w8.cell? ⟨w.heap.size + 1, 3, none⟩ = some (.slice none 0 0) := by simp [World.cell?, AB8.out]
    have pz : ∀ o, w8.frozen? ⟨w.heap.size + 1, o, none⟩ = false := fun o => by simp [World.frozen?, AB8.out]
    have r0 : w8.cell? ⟨w.heap.size, 0, none⟩ = some (.int .i64 0) := by simp [World.cell?, RB8.out]
    have r1 : w8.cell? ⟨w.heap.size, 1, none⟩ = some (.slice none 0 0) := by simp [World.cell?, RB8.out]
    have r2 : w8.cell? ⟨w.heap.size, 2, none⟩ = some (.slice none 0 0) := by simp [World.cell?, RB8.out]
    have r3 : w8.cell? ⟨w.heap.size, 3, none⟩ = some (.slice none 0 0) := by simp [World.cell?, RB8.out]
    have rz : ∀ o, w8.frozen? ⟨w.heap.size, o, none⟩ = false := fun o => by simp [World.frozen?, RB8.out]
    clear hT8 hF8 hO8 hw8 I1d I2b
    go_wp2
    have FS9 : ∀ u, Frm [w.heap.size + 1] w8 (w8.setCell ⟨w.heap.size + 1, 3, none⟩ u) := fun u => (Frm.refl _ _).setCell (p := ⟨w.heap.size + 1, 3, none⟩) (.inl (by simp)) _
    have RB9 : ∀ u, (w8.setCell ⟨w.heap.size + 1, 3, none⟩ u).heap[w.heap.size]? = some (.cells rz4 72 (0, 0)) := fun u => ((FS9 u).block w.heap.size (by omega) (by simp)).trans RB8.out
    refine bodyPost_ret (results_cell1 rfl _ _ w.heap.size (racell ⟨k, l1, l2, l3⟩ (.slice a1 l1.length c1) (.slice a2 l2.length c2) (.slice a3 l3.length c3)) rfl (loadRAut (set4_row _ _ _ _ (RB9 _)) rfl)) rfl ?_
    refine ⟨⟨k, l1, l2, l3⟩, a1, a2, a3, c1, c2, c3, s8, ok8, rfl, (T8.out.frm (FS9 _) (by simp; omega)).frm (set4_frm _ _ _ _ _ _) (by simp; omega), (F8.out.over (FS9 _) (by intro x hx; simp at hx; left; omega)).over (set4_frm _ _ _ _ _ _) (by simp), ?_, by omega, ?_, ?_, ?_⟩
    · unfold TO
      rw [pA_eq]
      rcases O8.out with ⟨g1, g2, g3⟩ | ⟨g1, g2⟩
      · rcases O6.out with ⟨f1, f2, f3⟩ | ⟨_, f2⟩
        · rcases O4.out with ⟨e1, e2, e3⟩ | ⟨_, e2⟩
          · obtain ⟨h0, hk1, hk2⟩ := HOZ.out.1 e1
            rcases O3.out with ⟨d1, d2, d3⟩ | ⟨_, d2⟩
            · rcases O2.out with ⟨b1, b2, b3⟩ | ⟨_, b2⟩
              · refine .inl ⟨b1, ?_, g3⟩
                rw [pN_lo b2, if_pos (by omega)]
                simp only [Option.bind_some]
                rw [pN_lo d2, if_pos (by omega)]
                simp only [Option.bind_some]
                rw [e2]
                simp only [Option.bind_some]
                rw [f2]
                simp only [Option.bind_some]
                rw [← HP.out, g2]
                rfl
              · rw [d1] at b2; cases b2
            · rw [h0] at d2; cases d2
          · rw [f1] at e2; cases e2
        · rw [g1] at f2; cases f2
      · refine .inr ⟨?_, g2⟩
        rcases O2.out with ⟨b1, b2, b3⟩ | ⟨b1, b2⟩
        · right
          by_cases hst1 : 1 ≤ st
          · rw [pN_lo b2, if_pos hst1]
            simp only [Option.bind_some]
            rcases O3.out with ⟨d1, d2, d3⟩ | ⟨d1, d2⟩
            · by_cases hk1 : 1 ≤ k
              · rw [pN_lo d2, if_pos hk1]
                simp only [Option.bind_some]
                have hoz := HOZ.out.2 ⟨d3, hst1, hk1⟩
                rcases O4.out with ⟨e1, e2, e3⟩ | ⟨e1, e2⟩
                · rw [e2]
                  simp only [Option.bind_some]
                  rcases O6.out with ⟨f1, f2, f3⟩ | ⟨f1, f2⟩
                  · rw [f2]
                    simp only [Option.bind_some]
                    rcases g1 with g1 | g1
                    · rw [f3] at g1; cases g1
                    · rw [← HP.out, g1]; rfl
                  · rcases f1 with f1 | f1
                    · rw [e3] at f1; cases f1
                    · rw [f1]; rfl
                · rcases e1 with e1 | e1
                  · rw [hoz] at e1; cases e1
                  · rw [e1]; rfl
              · rw [pN_lo d2, if_neg hk1]; rfl
            · rcases d1 with d1 | d1
              · rw [b3] at d1; cases d1
              · rw [pN_lo0 d1]; rfl
          · rw [pN_lo b2, if_neg hst1]; rfl
        · exact b1.imp id (fun h => by rw [pN_lo0 h]; rfl)
    · exact ((J1.out.keep (FS9 _) (fun r hr => by have := (J1.out.lt hr).1; simp; omega)).keep (set4_frm _ _ _ _ _ _) (fun r hr => by have := (J1.out.lt hr).1; simp; omega)).base (by omega)
    · exact ((J2.out.keep (FS9 _) (fun r hr => by have := (J2.out.lt hr).1; simp; omega)).keep (set4_frm _ _ _ _ _ _) (fun r hr => by have := (J2.out.lt hr).1; simp; omega)).base (by omega)
    · exact ((J3.out.keep (FS9 _) (fun r hr => by have := (J3.out.lt hr).1; simp; omega)).keep (set4_frm _ _ _ _ _ _) (fun r hr => by have := (J3.out.lt hr).1; simp; omega)).base (by omega)
  have HST : Hid (¬ st = 0) := hst0
  clear hst0
  by_cases hk0 : k = 0
  · have HBAD := hide hk0
    clear hk0
    obtain ⟨Wa, hWa⟩ : ∃ Wa, Wa = (w3.setCell ⟨w.heap.size + 1, 0, none⟩ (.int .i64 (k : Nat))).setCell ⟨b, 1, none⟩ (.bool false) := ⟨_, rfl⟩
    obtain ⟨okz, hokz⟩ : ∃ okz, okz = false := ⟨_, rfl⟩
    have FSb : Frm [b] (w3.setCell ⟨w.heap.size + 1, 0, none⟩ (.int .i64 (k : Nat))) Wa := by rw [hWa]; exact (Frm.refl _ _).setCell (p := ⟨b, 1, none⟩) (.inl (by simp)) _
    have TA : Hid (TK Wa b s3 okz) := by rw [hWa, hokz]; exact Ta.set1 false
    have FA : Hid (Frm [b] w Wa) := Fa.trans FSb
    have RBA : Hid (Wa.heap[w.heap.size]? = some (.cells rz4 72 (0, 0))) := (FSb.block w.heap.size (by have := FSa.size; omega) (by simp; omega)).trans Ra
    have ABA : Hid (Wa.heap[w.heap.size + 1]? = some (.cells #[.int .i64 (k : Nat), .slice none 0 0, .slice none 0 0, .slice none 0 0] 72 (0, 0))) := (FSb.block (w.heap.size + 1) (by have := FSa.size; omega) (by simp; omega)).trans ABa
    have HOZ : Hid ((okz = true → ok3 = true ∧ 1 ≤ st ∧ 1 ≤ k) ∧ ((ok3 = true ∧ 1 ≤ st ∧ 1 ≤ k) → okz = true)) := ⟨fun h => (by rw [hokz] at h; cases h), fun h => (by have := HBAD.out; omega)⟩
    have hzA := FSb.size
    have hza := FSa.size
    have hb1 : ((st : Int) == 0) = false := by rw [beq_eq_false_iff_ne]; have := HST.out; omega
    have hb2 : ((k : Int) == 0) = true := by rw [beq_iff_eq]; have := HBAD.out; omega
    clear FSa ABa Ta Fa Ra FSb hokz F3 RB3 AB3
    go_wp2_with fail
    rw [← hWa]
    clear hWa hb1 hb2
    clear d0 dz t1 tz T3
    have N4 := hide (rnums_any b s3 okz 256 k 256 ((k : Int) - 1) Wa TA.out rfl rfl (by omega) (by omega))
    refine (N4.out).mono ?_
    clear N4
    rintro e w4 ⟨l1, a1, c1, s4, ok4, rfl, hT4, hF4, hO4, hs4, hw4⟩
    have RB4 : Hid (w4.heap[w.heap.size]? = some (.cells rz4 72 (0, 0))) := (hF4.block w.heap.size (by omega) (by simp; omega)).trans RBA.out
    have AB4 : Hid (w4.heap[w.heap.size + 1]? = some (.cells #[.int .i64 (k : Nat), .slice none 0 0, .slice none 0 0, .slice none 0 0] 72 (0, 0))) := (hF4.block (w.heap.size + 1) (by omega) (by simp; omega)).trans ABA.out
    have F4 := hide (FA.out.trans hF4)
    have O4 := hide hO4
    have T4 := hide hT4
    have hz4 := hF4.size
    have I1 := hide hw4
    have p0 : w4.cell? ⟨w.heap.size + 1, 0, none⟩ = some (.int .i64 (k : Nat)) := by simp [World.cell?, AB4.out]
    have p1 : w4.cell? ⟨w.heap.size + 1, 1, none⟩ = some (.slice none 0 0) := by simp [World.cell?, AB4.out]
    have pz : ∀ o, w4.frozen? ⟨w.heap.size + 1, o, none⟩ = false := fun o => by simp [World.frozen?, AB4.out]
    obtain ⟨w5, hw5⟩ : ∃ w5, w5 = w4.setCell ⟨w.heap.size + 1, 1, none⟩ (.slice a1 l1.length c1) := ⟨_, rfl⟩
    have FS5 : Frm [w.heap.size + 1] w4 w5 := by rw [hw5]; exact (Frm.refl _ _).setCell (p := ⟨w.heap.size + 1, 1, none⟩) (.inl (by simp)) _
    have T5 := hT4.frm FS5 (by simp; omega)
    have AB5 : Hid (w5.heap[w.heap.size + 1]? = some (.cells #[.int .i64 (k : Nat), .slice a1 l1.length c1, .slice none 0 0, .slice none 0 0] 72 (0, 0))) := by
      rw [hw5]; show _ = _; simp [World.setCell, Array.getElem?_modify, AB4.out]
    have RB5 : Hid (w5.heap[w.heap.size]? = some (.cells rz4 72 (0, 0))) := (FS5.block w.heap.size (by omega) (by simp)).trans RB4.out
    have F5 := hide (F4.out.over FS5 (by intro x hx; simp at hx; left; omega))
    have I1b := hide (I1.out.keep FS5 (fun r hr => by have := (I1.out.lt hr).1; simp; omega))
    have hz5 := FS5.size
    have N5 := hide (rnums_any b s4 ok4 st 2 (st : Int) 1 w5 T5 rfl rfl (by omega) (by omega))
    clear hT4 hF4 hO4 hw4 T5 FS5
    rw [hw5] at N5
    go_wp2_with fail
    refine (N5.out).mono ?_
    clear N5 p0 p1 pz
    rw [← hw5]
    clear hw5
    rintro e w6 ⟨l2, a2, c2, s6, ok6, rfl, hT6, hF6, hO6, hs6, hw6⟩
    have RB6 : Hid (w6.heap[w.heap.size]? = some (.cells rz4 72 (0, 0))) := (hF6.block w.heap.size (by omega) (by simp; omega)).trans RB5.out
    have AB6 : Hid (w6.heap[w.heap.size + 1]? = some (.cells #[.int .i64 (k : Nat), .slice a1 l1.length c1, .slice none 0 0, .slice none 0 0] 72 (0, 0))) := (hF6.block (w.heap.size + 1) (by omega) (by simp; omega)).trans AB5.out
    have F6 := hide (F5.out.trans hF6)
    have O6 := hide hO6
    have hz6 := hF6.size
    have I2 := hide hw6
    have I1c := hide (I1b.out.keep hF6 (fun r hr => by have := (I1b.out.lt hr).1; simp; omega))
    have p0 : w6.cell? ⟨w.heap.size + 1, 0, none⟩ = some (.int .i64 (k : Nat)) := by simp [World.cell?, AB6.out]
    have p2 : w6.cell? ⟨w.heap.size + 1, 2, none⟩ = some (.slice none 0 0) := by simp [World.cell?, AB6.out]
    have pz : ∀ o, w6.frozen? ⟨w.heap.size + 1, o, none⟩ = false := fun o => by simp [World.frozen?, AB6.out]
    obtain ⟨w7, hw7⟩ : ∃ w7, w7 = w6.setCell ⟨w.heap.size + 1, 2, none⟩ (.slice a2 l2.length c2) := ⟨_, rfl⟩
    have FS7 : Frm [w.heap.size + 1] w6 w7 := by rw [hw7]; exact (Frm.refl _ _).setCell (p := ⟨w.heap.size + 1, 2, none⟩) (.inl (by simp)) _
    have T7 := hT6.frm FS7 (by simp; omega)
    have AB7 : Hid (w7.heap[w.heap.size + 1]? = some (.cells #[.int .i64 (k : Nat), .slice a1 l1.length c1, .slice a2 l2.length c2, .slice none 0 0] 72 (0, 0))) := by
      rw [hw7]; show _ = _; simp [World.setCell, Array.getElem?_modify, AB6.out]
    have RB7 : Hid (w7.heap[w.heap.size]? = some (.cells rz4 72 (0, 0))) := (FS7.block w.heap.size (by omega) (by simp)).trans RB6.out
    have F7 := hide (F6.out.over FS7 (by intro x hx; simp at hx; left; omega))
    have I1d := hide (I1c.out.keep FS7 (fun r hr => by have := (I1c.out.lt hr).1; simp; omega))
    have I2b := hide (I2.out.keep FS7 (fun r hr => by have := (I2.out.lt hr).1; simp; omega))
    have hz7 := FS7.size
    have hprod : st * k ≤ 10240 := Nat.le_trans (Nat.mul_le_mul (Nat.le_of_lt_succ hstb) (Nat.le_of_lt_succ hkb)) (by decide)
    obtain ⟨p, hp⟩ : ∃ p, p = st * k := ⟨_, rfl⟩
    have hpz : (st : Int) * (k : Int) = (p : Int) := by rw [hp]; simp
    have HP := hide hp
    rw [← hp] at hprod
    clear hp
    have q0 : w7.cell? ⟨w.heap.size + 1, 0, none⟩ = some (.int .i64 (k : Nat)) := by simp [World.cell?, AB7.out]
    have N7 := hide (rnums_any b s6 ok6 p st (p : Int) ((st : Int) - 1) w7 T7 rfl rfl (by omega) (by omega))
    clear hT6 hF6 hO6 hw6 T7 FS7 I1 I1b I1c I2
    rw [hw7] at N7 q0
    go_wp2_with fail
    refine (N7.out).mono ?_
    clear N7 p0 p2 pz q0
    rw [← hw7]
    clear hw7
    rintro e w8 ⟨l3, a3, c3, s8, ok8, rfl, hT8, hF8, hO8, hs8, hw8⟩
    have RB8 : Hid (w8.heap[w.heap.size]? = some (.cells rz4 72 (0, 0))) := (hF8.block w.heap.size (by omega) (by simp; omega)).trans RB7.out
    have AB8 : Hid (w8.heap[w.heap.size + 1]? = some (.cells #[.int .i64 (k : Nat), .slice a1 l1.length c1, .slice a2 l2.length c2, .slice none 0 0] 72 (0, 0))) := (hF8.block (w.heap.size + 1) (by omega) (by simp; omega)).trans AB7.out
    have F8 := hide (F7.out.trans hF8)
    have O8 := hide hO8
    have T8 := hide hT8
    have hz8 := hF8.size
    have J1 := hide (I1d.out.keep hF8 (fun r hr => by have := (I1d.out.lt hr).1; simp; omega))
    have J2 := hide (I2b.out.keep hF8 (fun r hr => by have := (I2b.out.lt hr).1; simp; omega))
    have J3 := hide hw8
    have hb8 := hT8.lt
    have p0 : w8.cell? ⟨w.heap.size + 1, 0, none⟩ = some (.int .i64 (k : Nat)) := by simp [World.cell?, AB8.out]
    have p1 : w8.cell? ⟨w.heap.size + 1, 1, none⟩ = some (.slice a1 l1.length c1) := by simp [World.cell?, AB8.out]
    have p2 : w8.cell? ⟨w.heap.size + 1, 2, none⟩ = some (.slice a2 l2.length c2) := by simp [World.cell?, AB8.out]
    have p3 : w8.cell? ⟨w.heap.size + 1, 3, none⟩ = some (.slice none 0 0) := by simp [World.cell?, AB8.out]
    have pz : ∀ o, w8.frozen? ⟨w.heap.size + 1, o, none⟩ = false := fun o => by simp [World.frozen?, AB8.out]
    have r0 : w8.cell? ⟨w.heap.size, 0, none⟩ = some (.int .i64 0) := by simp [World.cell?, RB8.out]
    have r1 : w8.cell? ⟨w.heap.size, 1, none⟩ = some (.slice none 0 0) := by simp [World.cell?, RB8.out]
    have r2 : w8.cell? ⟨w.heap.size, 2, none⟩ = some (.slice none 0 0) := by simp [World.cell?, RB8.out]
    have r3 : w8.cell? ⟨w.heap.size, 3, none⟩ = some (.slice none 0 0) := by simp [World.cell?, RB8.out]
    have rz : ∀ o, w8.frozen? ⟨w.heap.size, o, none⟩ = false := fun o => by simp [World.frozen?, RB8.out]
    clear hT8 hF8 hO8 hw8 I1d I2b
    go_wp2
    have FS9 : ∀ u, Frm [w.heap.size + 1] w8 (w8.setCell ⟨w.heap.size + 1, 3, none⟩ u) := fun u => (Frm.refl _ _).setCell (p := ⟨w.heap.size + 1, 3, none⟩) (.inl (by simp)) _
    have RB9 : ∀ u, (w8.setCell ⟨w.heap.size + 1, 3, none⟩ u).heap[w.heap.size]? = some (.cells rz4 72 (0, 0)) := fun u => ((FS9 u).block w.heap.size (by omega) (by simp)).trans RB8.out
    refine bodyPost_ret (results_cell1 rfl _ _ w.heap.size (racell ⟨k, l1, l2, l3⟩ (.slice a1 l1.length c1) (.slice a2 l2.length c2) (.slice a3 l3.length c3)) rfl (loadRAut (set4_row _ _ _ _ (RB9 _)) rfl)) rfl ?_
    refine ⟨⟨k, l1, l2, l3⟩, a1, a2, a3, c1, c2, c3, s8, ok8, rfl, (T8.out.frm (FS9 _) (by simp; omega)).frm (set4_frm _ _ _ _ _ _) (by simp; omega), (F8.out.over (FS9 _) (by intro x hx; simp at hx; left; omega)).over (set4_frm _ _ _ _ _ _) (by simp), ?_, by omega, ?_, ?_, ?_⟩
    · unfold TO
      rw [pA_eq]
      rcases O8.out with ⟨g1, g2, g3⟩ | ⟨g1, g2⟩
      · rcases O6.out with ⟨f1, f2, f3⟩ | ⟨_, f2⟩
        · rcases O4.out with ⟨e1, e2, e3⟩ | ⟨_, e2⟩
          · obtain ⟨h0, hk1, hk2⟩ := HOZ.out.1 e1
            rcases O3.out with ⟨d1, d2, d3⟩ | ⟨_, d2⟩
            · rcases O2.out with ⟨b1, b2, b3⟩ | ⟨_, b2⟩
              · refine .inl ⟨b1, ?_, g3⟩
                rw [pN_lo b2, if_pos (by omega)]
                simp only [Option.bind_some]
                rw [pN_lo d2, if_pos (by omega)]
                simp only [Option.bind_some]
                rw [e2]
                simp only [Option.bind_some]
                rw [f2]
                simp only [Option.bind_some]
                rw [← HP.out, g2]
                rfl
              · rw [d1] at b2; cases b2
            · rw [h0] at d2; cases d2
          · rw [f1] at e2; cases e2
        · rw [g1] at f2; cases f2
      · refine .inr ⟨?_, g2⟩
        rcases O2.out with ⟨b1, b2, b3⟩ | ⟨b1, b2⟩
        · right
          by_cases hst1 : 1 ≤ st
          · rw [pN_lo b2, if_pos hst1]
            simp only [Option.bind_some]
            rcases O3.out with ⟨d1, d2, d3⟩ | ⟨d1, d2⟩
            · by_cases hk1 : 1 ≤ k
              · rw [pN_lo d2, if_pos hk1]
                simp only [Option.bind_some]
                have hoz := HOZ.out.2 ⟨d3, hst1, hk1⟩
                rcases O4.out with ⟨e1, e2, e3⟩ | ⟨e1, e2⟩
                · rw [e2]
                  simp only [Option.bind_some]
                  rcases O6.out with ⟨f1, f2, f3⟩ | ⟨f1, f2⟩
                  · rw [f2]
                    simp only [Option.bind_some]
                    rcases g1 with g1 | g1
                    · rw [f3] at g1; cases g1
                    · rw [← HP.out, g1]; rfl
                  · rcases f1 with f1 | f1
                    · rw [e3] at f1; cases f1
                    · rw [f1]; rfl
                · rcases e1 with e1 | e1
                  · rw [hoz] at e1; cases e1
                  · rw [e1]; rfl
              · rw [pN_lo d2, if_neg hk1]; rfl
            · rcases d1 with d1 | d1
              · rw [b3] at d1; cases d1
              · rw [pN_lo0 d1]; rfl
          · rw [pN_lo b2, if_neg hst1]; rfl
        · exact b1.imp id (fun h => by rw [pN_lo0 h]; rfl)
    · exact ((J1.out.keep (FS9 _) (fun r hr => by have := (J1.out.lt hr).1; simp; omega)).keep (set4_frm _ _ _ _ _ _) (fun r hr => by have := (J1.out.lt hr).1; simp; omega)).base (by omega)
    · exact ((J2.out.keep (FS9 _) (fun r hr => by have := (J2.out.lt hr).1; simp; omega)).keep (set4_frm _ _ _ _ _ _) (fun r hr => by have := (J2.out.lt hr).1; simp; omega)).base (by omega)
    · exact ((J3.out.keep (FS9 _) (fun r hr => by have := (J3.out.lt hr).1; simp; omega)).keep (set4_frm _ _ _ _ _ _) (fun r hr => by have := (J3.out.lt hr).1; simp; omega)).base (by omega)
  · have HK : Hid (¬ k = 0) := hk0
    clear hk0
    obtain ⟨Wa, hWa⟩ : ∃ Wa, Wa = w3.setCell ⟨w.heap.size + 1, 0, none⟩ (.int .i64 (k : Nat)) := ⟨_, rfl⟩
    obtain ⟨okz, hokz⟩ : ∃ okz, okz = ok3 := ⟨_, rfl⟩
    have TA : Hid (TK Wa b s3 okz) := by rw [hWa, hokz]; exact Ta
    have FA : Hid (Frm [b] w Wa) := by rw [hWa]; exact Fa
    have RBA : Hid (Wa.heap[w.heap.size]? = some (.cells rz4 72 (0, 0))) := by rw [hWa]; exact Ra
    have ABA : Hid (Wa.heap[w.heap.size + 1]? = some (.cells #[.int .i64 (k : Nat), .slice none 0 0, .slice none 0 0, .slice none 0 0] 72 (0, 0))) := by rw [hWa]; exact ABa
    have HOZ : Hid ((okz = true → ok3 = true ∧ 1 ≤ st ∧ 1 ≤ k) ∧ ((ok3 = true ∧ 1 ≤ st ∧ 1 ≤ k) → okz = true)) := ⟨fun h => ⟨by rw [← hokz]; exact h, by have := HST.out; omega, by have := HK.out; omega⟩, fun h => by rw [hokz]; exact h.1⟩
    have hzA : w3.heap.size ≤ Wa.heap.size := by rw [hWa]; exact FSa.size
    have hb1 : ((st : Int) == 0) = false := by rw [beq_eq_false_iff_ne]; have := HST.out; omega
    have hb2 : ((k : Int) == 0) = false := by rw [beq_eq_false_iff_ne]; have := HK.out; omega
    clear FSa ABa Ta Fa Ra hokz F3 RB3 AB3
    go_wp2_with fail
    rw [← hWa]
    clear hWa hb1 hb2
    clear d0 dz t1 tz T3
    have N4 := hide (rnums_any b s3 okz 256 k 256 ((k : Int) - 1) Wa TA.out rfl rfl (by omega) (by omega))
    refine (N4.out).mono ?_
    clear N4
    rintro e w4 ⟨l1, a1, c1, s4, ok4, rfl, hT4, hF4, hO4, hs4, hw4⟩
    have RB4 : Hid (w4.heap[w.heap.size]? = some (.cells rz4 72 (0, 0))) := (hF4.block w.heap.size (by omega) (by simp; omega)).trans RBA.out
    have AB4 : Hid (w4.heap[w.heap.size + 1]? = some (.cells #[.int .i64 (k : Nat), .slice none 0 0, .slice none 0 0, .slice none 0 0] 72 (0, 0))) := (hF4.block (w.heap.size + 1) (by omega) (by simp; omega)).trans ABA.out
    have F4 := hide (FA.out.trans hF4)
    have O4 := hide hO4
    have T4 := hide hT4
    have hz4 := hF4.size
    have I1 := hide hw4
    have p0 : w4.cell? ⟨w.heap.size + 1, 0, none⟩ = some (.int .i64 (k : Nat)) := by simp [World.cell?, AB4.out]
    have p1 : w4.cell? ⟨w.heap.size + 1, 1, none⟩ = some (.slice none 0 0) := by simp [World.cell?, AB4.out]
    have pz : ∀ o, w4.frozen? ⟨w.heap.size + 1, o, none⟩ = false := fun o => by simp [World.frozen?, AB4.out]
    obtain ⟨w5, hw5⟩ : ∃ w5, w5 = w4.setCell ⟨w.heap.size + 1, 1, none⟩ (.slice a1 l1.length c1) := ⟨_, rfl⟩
    have FS5 : Frm [w.heap.size + 1] w4 w5 := by rw [hw5]; exact (Frm.refl _ _).setCell (p := ⟨w.heap.size + 1, 1, none⟩) (.inl (by simp)) _
    have T5 := hT4.frm FS5 (by simp; omega)
    have AB5 : Hid (w5.heap[w.heap.size + 1]? = some (.cells #[.int .i64 (k : Nat), .slice a1 l1.length c1, .slice none 0 0, .slice none 0 0] 72 (0, 0))) := by
      rw [hw5]; show _ = _; simp [World.setCell, Array.getElem?_modify, AB4.out]
    have RB5 : Hid (w5.heap[w.heap.size]? = some (.cells rz4 72 (0, 0))) := (FS5.block w.heap.size (by omega) (by simp)).trans RB4.out
    have F5 := hide (F4.out.over FS5 (by intro x hx; simp at hx; left; omega))
    have I1b := hide (I1.out.keep FS5 (fun r hr => by have := (I1.out.lt hr).1; simp; omega))
    have hz5 := FS5.size
    have N5 := hide (rnums_any b s4 ok4 st 2 (st : Int) 1 w5 T5 rfl rfl (by omega) (by omega))
    clear hT4 hF4 hO4 hw4 T5 FS5
    rw [hw5] at N5
    go_wp2_with fail
    refine (N5.out).mono ?_
    clear N5 p0 p1 pz
    rw [← hw5]
    clear hw5
    rintro e w6 ⟨l2, a2, c2, s6, ok6, rfl, hT6, hF6, hO6, hs6, hw6⟩
    have RB6 : Hid (w6.heap[w.heap.size]? = some (.cells rz4 72 (0, 0))) := (hF6.block w.heap.size (by omega) (by simp; omega)).trans RB5.out
    have AB6 : Hid (w6.heap[w.heap.size + 1]? = some (.cells #[.int .i64 (k : Nat), .slice a1 l1.length c1, .slice none 0 0, .slice none 0 0] 72 (0, 0))) := (hF6.block (w.heap.size + 1) (by omega) (by simp; omega)).trans AB5.out
    have F6 := hide (F5.out.trans hF6)
    have O6 := hide hO6
    have hz6 := hF6.size
    have I2 := hide hw6
    have I1c := hide (I1b.out.keep hF6 (fun r hr => by have := (I1b.out.lt hr).1; simp; omega))
    have p0 : w6.cell? ⟨w.heap.size + 1, 0, none⟩ = some (.int .i64 (k : Nat)) := by simp [World.cell?, AB6.out]
    have p2 : w6.cell? ⟨w.heap.size + 1, 2, none⟩ = some (.slice none 0 0) := by simp [World.cell?, AB6.out]
    have pz : ∀ o, w6.frozen? ⟨w.heap.size + 1, o, none⟩ = false := fun o => by simp [World.frozen?, AB6.out]
    obtain ⟨w7, hw7⟩ : ∃ w7, w7 = w6.setCell ⟨w.heap.size + 1, 2, none⟩ (.slice a2 l2.length c2) := ⟨_, rfl⟩
    have FS7 : Frm [w.heap.size + 1] w6 w7 := by rw [hw7]; exact (Frm.refl _ _).setCell (p := ⟨w.heap.size + 1, 2, none⟩) (.inl (by simp)) _
    have T7 := hT6.frm FS7 (by simp; omega)
    have AB7 : Hid (w7.heap[w.heap.size + 1]? = some (.cells #[.int .i64 (k : Nat), .slice a1 l1.length c1, .slice a2 l2.length c2, .slice none 0 0] 72 (0, 0))) := by
      rw [hw7]; show _ = _; simp [World.setCell, Array.getElem?_modify, AB6.out]
    have RB7 : Hid (w7.heap[w.heap.size]? = some (.cells rz4 72 (0, 0))) := (FS7.block w.heap.size (by omega) (by simp)).trans RB6.out
    have F7 := hide (F6.out.over FS7 (by intro x hx; simp at hx; left; omega))
    have I1d := hide (I1c.out.keep FS7 (fun r hr => by have := (I1c.out.lt hr).1; simp; omega))
    have I2b := hide (I2.out.keep FS7 (fun r hr => by have := (I2.out.lt hr).1; simp; omega))
    have hz7 := FS7.size
    have hprod : st * k ≤ 10240 := Nat.le_trans (Nat.mul_le_mul (Nat.le_of_lt_succ hstb) (Nat.le_of_lt_succ hkb)) (by decide)
    obtain ⟨p, hp⟩ : ∃ p, p = st * k := ⟨_, rfl⟩
    have hpz : (st : Int) * (k : Int) = (p : Int) := by rw [hp]; simp
    have HP := hide hp
    rw [← hp] at hprod
    clear hp
    have q0 : w7.cell? ⟨w.heap.size + 1, 0, none⟩ = some (.int .i64 (k : Nat)) := by simp [World.cell?, AB7.out]
    have N7 := hide (rnums_any b s6 ok6 p st (p : Int) ((st : Int) - 1) w7 T7 rfl rfl (by omega) (by omega))
    clear hT6 hF6 hO6 hw6 T7 FS7 I1 I1b I1c I2
    rw [hw7] at N7 q0
    go_wp2_with fail
    refine (N7.out).mono ?_
    clear N7 p0 p2 pz q0
    rw [← hw7]
    clear hw7
    rintro e w8 ⟨l3, a3, c3, s8, ok8, rfl, hT8, hF8, hO8, hs8, hw8⟩
    have RB8 : Hid (w8.heap[w.heap.size]? = some (.cells rz4 72 (0, 0))) := (hF8.block w.heap.size (by omega) (by simp; omega)).trans RB7.out
    have AB8 : Hid (w8.heap[w.heap.size + 1]? = some (.cells #[.int .i64 (k : Nat), .slice a1 l1.length c1, .slice a2 l2.length c2, .slice none 0 0] 72 (0, 0))) := (hF8.block (w.heap.size + 1) (by omega) (by simp; omega)).trans AB7.out
    have F8 := hide (F7.out.trans hF8)
    have O8 := hide hO8
    have T8 := hide hT8
    have hz8 := hF8.size
    have J1 := hide (I1d.out.keep hF8 (fun r hr => by have := (I1d.out.lt hr).1; simp; omega))
    have J2 := hide (I2b.out.keep hF8 (fun r hr => by have := (I2b.out.lt hr).1; simp; omega))
    have J3 := hide hw8
    have hb8 := hT8.lt
    have p0 : w8.cell? ⟨w.heap.size + 1, 0, none⟩ = some (.int .i64 (k : Nat)) := by simp [World.cell?, AB8.out]
    have p1 : w8.cell? ⟨w.heap.size + 1, 1, none⟩ = some (.slice a1 l1.length c1) := by simp [World.cell?, AB8.out]
    have p2 : w8.cell? ⟨w.heap.size + 1, 2, none⟩ = some (.slice a2 l2.length c2) := by simp [World.cell?, AB8.out]
    have p3 : w8.cell? ⟨w.heap.size + 1, 3, none⟩ = some (.slice none 0 0) := by simp [World.cell?, AB8.out]
    have pz : ∀ o, w8.frozen? ⟨w.heap.size + 1, o, none⟩ = false := fun o => by simp [World.frozen?, AB8.out]
    have r0 : w8.cell? ⟨w.heap.size, 0, none⟩ = some (.int .i64 0) := by simp [World.cell?, RB8.out]
    have r1 : w8.cell? ⟨w.heap.size, 1, none⟩ = some (.slice none 0 0) := by simp [World.cell?, RB8.out]
    have r2 : w8.cell? ⟨w.heap.size, 2, none⟩ = some (.slice none 0 0) := by simp [World.cell?, RB8.out]
    have r3 : w8.cell? ⟨w.heap.size, 3, none⟩ = some (.slice none 0 0) := by simp [World.cell?, RB8.out]
    have rz : ∀ o, w8.frozen? ⟨w.heap.size, o, none⟩ = false := fun o => by simp [World.frozen?, RB8.out]
    clear hT8 hF8 hO8 hw8 I1d I2b
    go_wp2
    have FS9 : ∀ u, Frm [w.heap.size + 1] w8 (w8.setCell ⟨w.heap.size + 1, 3, none⟩ u) := fun u => (Frm.refl _ _).setCell (p := ⟨w.heap.size + 1, 3, none⟩) (.inl (by simp)) _
    have RB9 : ∀ u, (w8.setCell ⟨w.heap.size + 1, 3, none⟩ u).heap[w.heap.size]? = some (.cells rz4 72 (0, 0)) := fun u => ((FS9 u).block w.heap.size (by omega) (by simp)).trans RB8.out
    refine bodyPost_ret (results_cell1 rfl _ _ w.heap.size (racell ⟨k, l1, l2, l3⟩ (.slice a1 l1.length c1) (.slice a2 l2.length c2) (.slice a3 l3.length c3)) rfl (loadRAut (set4_row _ _ _ _ (RB9 _)) rfl)) rfl ?_
    refine ⟨⟨k, l1, l2, l3⟩, a1, a2, a3, c1, c2, c3, s8, ok8, rfl, (T8.out.frm (FS9 _) (by simp; omega)).frm (set4_frm _ _ _ _ _ _) (by simp; omega), (F8.out.over (FS9 _) (by intro x hx; simp at hx; left; omega)).over (set4_frm _ _ _ _ _ _) (by simp), ?_, by omega, ?_, ?_, ?_⟩
    · unfold TO
      rw [pA_eq]
      rcases O8.out with ⟨g1, g2, g3⟩ | ⟨g1, g2⟩
      · rcases O6.out with ⟨f1, f2, f3⟩ | ⟨_, f2⟩
        · rcases O4.out with ⟨e1, e2, e3⟩ | ⟨_, e2⟩
          · obtain ⟨h0, hk1, hk2⟩ := HOZ.out.1 e1
            rcases O3.out with ⟨d1, d2, d3⟩ | ⟨_, d2⟩
            · rcases O2.out with ⟨b1, b2, b3⟩ | ⟨_, b2⟩
              · refine .inl ⟨b1, ?_, g3⟩
                rw [pN_lo b2, if_pos (by omega)]
                simp only [Option.bind_some]
                rw [pN_lo d2, if_pos (by omega)]
                simp only [Option.bind_some]
                rw [e2]
                simp only [Option.bind_some]
                rw [f2]
                simp only [Option.bind_some]
                rw [← HP.out, g2]
                rfl
              · rw [d1] at b2; cases b2
            · rw [h0] at d2; cases d2
          · rw [f1] at e2; cases e2
        · rw [g1] at f2; cases f2
      · refine .inr ⟨?_, g2⟩
        rcases O2.out with ⟨b1, b2, b3⟩ | ⟨b1, b2⟩
        · right
          by_cases hst1 : 1 ≤ st
          · rw [pN_lo b2, if_pos hst1]
            simp only [Option.bind_some]
            rcases O3.out with ⟨d1, d2, d3⟩ | ⟨d1, d2⟩
            · by_cases hk1 : 1 ≤ k
              · rw [pN_lo d2, if_pos hk1]
                simp only [Option.bind_some]
                have hoz := HOZ.out.2 ⟨d3, hst1, hk1⟩
                rcases O4.out with ⟨e1, e2, e3⟩ | ⟨e1, e2⟩
                · rw [e2]
                  simp only [Option.bind_some]
                  rcases O6.out with ⟨f1, f2, f3⟩ | ⟨f1, f2⟩
                  · rw [f2]
                    simp only [Option.bind_some]
                    rcases g1 with g1 | g1
                    · rw [f3] at g1; cases g1
                    · rw [← HP.out, g1]; rfl
                  · rcases f1 with f1 | f1
                    · rw [e3] at f1; cases f1
                    · rw [f1]; rfl
                · rcases e1 with e1 | e1
                  · rw [hoz] at e1; cases e1
                  · rw [e1]; rfl
              · rw [pN_lo d2, if_neg hk1]; rfl
            · rcases d1 with d1 | d1
              · rw [b3] at d1; cases d1
              · rw [pN_lo0 d1]; rfl
          · rw [pN_lo b2, if_neg hst1]; rfl
        · exact b1.imp id (fun h => by rw [pN_lo0 h]; rfl)
    · exact ((J1.out.keep (FS9 _) (fun r hr => by have := (J1.out.lt hr).1; simp; omega)).keep (set4_frm _ _ _ _ _ _) (fun r hr => by have := (J1.out.lt hr).1; simp; omega)).base (by omega)
    · exact ((J2.out.keep (FS9 _) (fun r hr => by have := (J2.out.lt hr).1; simp; omega)).keep (set4_frm _ _ _ _ _ _) (fun r hr => by have := (J2.out.lt hr).1; simp; omega)).base (by omega)
    · exact ((J3.out.keep (FS9 _) (fun r hr => by have := (J3.out.lt hr).1; simp; omega)).keep (set4_frm _ _ _ _ _ _) (fun r hr => by have := (J3.out.lt hr).1; simp; omega)).base (by omega)
end Go.Proofs.Ythlemieldfbbfab
