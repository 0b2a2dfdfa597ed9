import Derived.Test.YthlemieldfbbfabM3
import Derived.Laws.IdiomStrings
namespace Go.Proofs.Ythlemieldfbbfab
open Go.RowKit
set_option linter.unusedVariables false
set_option linter.unusedSimpArgs false
set_option linter.unnecessarySimpa false

/-- Bytes that were made of a text, as a text again. -/
theorem str_back (W : World) (x : List UInt8) (cap c2 g : Nat) (fr : Nat × Nat) (hg : W.heap.size = g) :
    (convert 94 9 (.slice (some ⟨g, 0, none⟩) (bs x).size c2)).run Try.prog (W.alloc (.cells (bytesRow (bs x) cap) 5 fr)).drew.drew = .ok (.string (bs x)) (W.alloc (.cells (bytesRow (bs x) cap) 5 fr)).drew.drew := by
  subst hg
  refine run_convert_bytes_back (P := Try.prog) _ 94 9 5 ⟨W.heap.size, 0, none⟩ c2 x Try.underlying94 Try.underlying5 Try.underlying9 ?_
  intro j hj
  rw [add0]
  show (W.alloc (.cells (bytesRow (bs x) cap) 5 fr)).cell? _ = _
  rw [World.cell?_alloc_mark]
  unfold bytesRow
  rw [Array.getElem?_append_left (by simp [bs]; exact hj)]
  simp [bs, hj]

set_option maxRecDepth 100000 in
set_option maxHeartbeats 2000000 in
theorem takeText_any (b : Nat) (t : List UInt8) (i : Nat) (V : V6) (hi : Nat) (mo : Int) (w : World) (h : LD w b t i V) (hhi : hi ≤ 1000) (hmo : mo = (hi : Int) - 1) :
    Calls Try.prog 60 #[.pointer (some ⟨b, 0, none⟩), .int .i64 mo] w fun e w' => ∃ (i' : Nat) (x : List UInt8) (ok : Bool), e = .returned (.tuple #[.string (bs x), .bool ok]) ∧ LD w' b t i' V ∧ Frm [b] w w' ∧ PO ok (pT hi) (t.drop i) x (t.drop i') ∧ x.length ≤ 1048576 := by
  have H1 := hide h
  have N1 := hide (takeNumber_any b t i V 1 0 hi 1 0 mo w h (by omega) (by omega) (by omega) rfl rfl hmo)
  have hsz := bs_size t
  have ht := h.2.2
  clear h hmo
  go_enter Try.func60, Try.ntmps60
  go_wp2_with fail
  refine (N1.out).mono ?_
  rintro e w1 ⟨i1, v, ok, rfl, hL1, hF1, hP1, hv⟩
  have L1 := hide hL1
  have F1 := hide hF1
  have P1 := hide hP1
  have c0 := hL1.c0
  have c1 := hL1.c1
  have z := hL1.fz 1
  have hi1 := hL1.2.1
  clear hL1 hF1 hP1 N1 H1
  cases ok with
  | false =>
    have HP : Hid (pT hi (t.drop i) = none) := by
      rcases P1.out with ⟨h, _⟩ | ⟨_, h⟩
      · cases h
      · show _ = _; unfold pT; rw [h]; rfl
    go_wp2_with fail
    go_quiet (fail)
    go_wp2
    go_ret2
    exact ⟨i1, [], false, rfl, L1.out.drewN _, F1.out.drewN _, .inr ⟨rfl, HP.out⟩, by simp⟩
  | true =>
    have HP : Hid (pT hi (t.drop i) = if v ≤ (t.drop i1).length then some ((t.drop i1).take v, (t.drop i1).drop v) else none) := by
      rcases P1.out with ⟨_, h⟩ | ⟨h, _⟩
      · show _ = _; unfold pT; rw [h]; rfl
      · cases h
    by_cases hlen : t.length - i1 < v
    · have hd1 : decide ((t.length : Int) - (i1 : Int) < (v : Int)) = true := decide_eq_true (by omega)
      have HP2 : Hid (pT hi (t.drop i) = none) := by show _ = _; rw [HP.out, if_neg]; rw [List.length_drop]; omega
      go_wp2_with fail
      go_quiet (fail)
      go_wp2
      go_ret2
      exact ⟨i1, [], false, rfl, L1.out.drewN _, F1.out.drewN _, .inr ⟨rfl, HP2.out⟩, by simp⟩
    · have hd1 : decide ((t.length : Int) - (i1 : Int) < (v : Int)) = false := decide_eq_false (by omega)
      have HP2 : Hid (pT hi (t.drop i) = some ((t.take (i1 + v)).drop i1, t.drop (i1 + v))) := by
        show _ = _; rw [HP.out, if_pos (by rw [List.length_drop]; omega), List.drop_drop, List.take_drop]
      have hbe := bs_extract t i1 (i1 + v)
      go_wp2_with fail
      go_quiet (fail)
      go_wp2_with fail
      have hq : (i1 : Int) + (v : Int) ≤ (t.length : Int) := by omega
      have kc := fun (w : World) (s : ByteArray) => run_bytes_of_string (P := Try.prog) w 9 94 5 s Try.underlying9 Try.underlying94 Try.underlying5
      go_region
      clear kc hbe
      have HL : Hid (((t.take (i1 + v)).drop i1).length ≤ 1048576) := by show _ ≤ _; rw [List.length_drop, List.length_take]; omega
      generalize (t.take (i1 + v)).drop i1 = x at *
      go_wp2_with fail
      rw [str_back _ _ _ _ _ _ (by simp)]
      go_wp2
      go_ret2
      refine ⟨i1 + v, x, true, rfl, ?_, ?_, .inl ⟨rfl, HP2.out⟩, HL.out⟩
      · have := ((L1.out.drewN nq).at_ (i1 + v) (by omega))
        rw [show ((i1 + v : Nat) : Int) = (i1 : Int) + (v : Int) by omega] at this
        exact (this.frm (S := []) ((Frm.refl [] _).alloc _).drew.drew (by simp))
      · exact (((F1.out.drewN nq).setCell (p := ⟨b, 1, none⟩) (.inl (by simp)) _).alloc _).drew.drew

set_option maxRecDepth 100000 in
set_option maxHeartbeats 2000000 in
theorem takeName_any (b : Nat) (t : List UInt8) (i : Nat) (V : V6) (w : World) (h : LD w b t i V) :
    Calls Try.prog 72 #[.pointer (some ⟨b, 0, none⟩)] w fun e w' => ∃ (i' : Nat) (x : List UInt8) (ok : Bool), e = .returned (.tuple #[.string (bs x), .bool ok]) ∧ LD w' b t i' V ∧ Frm [b] w w' ∧ PO ok pNm (t.drop i) x (t.drop i') ∧ x.length ≤ 1048576 := by
  have N1 := hide (takeText_any b t i V 9 8 w h (by omega) rfl)
  clear h
  go_enter Try.func72, Try.ntmps72
  go_wp2_with fail
  refine (N1.out).mono ?_
  rintro e w1 ⟨i1, x, ok, rfl, hL1, hF1, hP1, hv⟩
  have L1 := hide hL1
  have F1 := hide hF1
  have P1 := hide hP1
  clear hL1 hF1 hP1 N1
  cases ok with
  | false =>
    have HP : Hid (pNm (t.drop i) = none) := by
      rcases P1.out with ⟨h, _⟩ | ⟨_, h⟩
      · cases h
      · show _ = _; unfold pNm; rw [h]; rfl
    go_wp2
    go_ret2
    exact ⟨i1, x, false, rfl, L1.out, F1.out, .inr ⟨rfl, HP.out⟩, hv⟩
  | true =>
    have HP : Hid (pNm (t.drop i) = if isNameL x = true then some (x, t.drop i1) else none) := by
      rcases P1.out with ⟨_, h⟩ | ⟨h, _⟩
      · show _ = _; unfold pNm; rw [h]; rfl
      · cases h
    have IN := hide (IsName_any x w1 hv)
    go_wp2_with fail
    refine (IN.out).mono ?_
    rintro e w2 ⟨rfl, rfl⟩
    go_wp2
    go_ret2
    refine ⟨i1, x, isNameL x, rfl, L1.out, F1.out, ?_, hv⟩
    cases hx : isNameL x with
    | true => left; rw [HP.out, if_pos hx]; exact ⟨rfl, rfl⟩
    | false => right; rw [HP.out, if_neg (by rw [hx]; simp)]; exact ⟨rfl, rfl⟩

def sc (L : List (List UInt8)) : List (List Value) := L.map fun s => [.string (bs s)]
theorem sc_snoc (L : List (List UInt8)) (s : List UInt8) : sc L ++ [[.string (bs s)]] = sc (L ++ [s]) := by simp [sc]
theorem sc_len (L : List (List UInt8)) : (sc L).length = L.length := by simp [sc]
/-- Append of a text. -/
theorem wp_appSc {ops : Array Oper} {rest : List Oper} {o : Oper} {a : Act} {Q : Exit → Act → World → Prop} (w : World) (hgd : o.guard = none) (s x : Operand)
    (ho : o.op = .call { callee := .builtin .append, args := #[s, x], argTypes := #[51, 51] })
    (base : Nat) (v : Value) (acc : List (List UInt8)) (b1 : Nat) (y : List UInt8) (hs : a.eval s = v) (hown : OW 9 1 base w v (sc acc)) (hx : a.eval x = .slice (some ⟨b1, 0, none⟩) 1 1)
    (hc : w.cell? ⟨b1, 0, none⟩ = some (.string (bs y))) (hlen : acc.length ≤ 1000000) (hbase : base ≤ w.heap.size)
    (h : ∀ g cap w', OW 9 1 base w' (.slice (some ⟨g, 0, none⟩) (acc.length + 1) cap) (sc (acc ++ [y])) → w.grownBy w' v.ownBlock → (v.ownBlock = some g ∨ g = w.heap.size) → g < w'.heap.size → wpList Try.prog ops Q rest (a.put o.dst (.slice (some ⟨g, 0, none⟩) (acc.length + 1) cap)) w') :
    wpList Try.prog ops Q (o :: rest) a w := by
  have hl := sc_len acc
  refine wp_appG w hgd s x 51 9 (.string ByteArray.empty) 1 16 infoStr Try.underlying51 rfl (by decide) ho base v (sc acc) b1 [.string (bs y)] hs hown hx rfl ?_ ?_ (by omega) (by omega) hbase ?_
  · intro j u hj
    cases j with
    | zero => simp at hj; rw [← hj]; exact hc
    | succ j => simp at hj
  · intro u hu
    simp at hu; subst hu; rfl
  · rw [hl, sc_snoc]; exact h

set_option maxRecDepth 100000 in
set_option maxHeartbeats 2000000 in
theorem takeNameList_any (b : Nat) (t : List UInt8) (i : Nat) (V : V6) (hi : Nat) (mo : Int) (w : World) (h : LD w b t i V) (hhi : hi ≤ 1000) (hmo : mo = (hi : Int) - 1) :
    Calls Try.prog 58 #[.pointer (some ⟨b, 0, none⟩), .int .i64 mo] w fun e w' => ∃ (i' : Nat) (v : Value) (x : List (List UInt8)) (ok : Bool), e = .returned (.tuple #[v, .bool ok]) ∧ LD w' b t i' V ∧ Frm [b] w w' ∧ PO ok (pL hi) (t.drop i) x (t.drop i') ∧ OW 9 1 w.heap.size w' v (sc x) ∧ x.length ≤ 1000 := by
  have N1 := hide (takeNumber_any b t i V 1 0 hi 1 0 mo w h (by omega) (by omega) (by omega) rfl rfl hmo)
  have hb := h.lt
  clear h hmo
  go_enter Try.func58, Try.ntmps58
  go_wp2_with fail
  refine (N1.out).mono ?_
  rintro e w1 ⟨i1, v, ok, rfl, hL1, hF1, hP1, hv⟩
  have L1 := hide hL1
  have F1 := hide hF1
  have P1 := hide hP1
  clear hL1 hF1 hP1 N1
  have hz1 := F1.out.size
  go_wp2_with fail
  go_loopg [7, 8, 9] v (fun k v7 v8 v9 wr => ∃ (j i' : Nat) (acc : List (List UInt8)) (okb : Bool), j + k = v ∧ v9 = .int .i64 j ∧ v7 = .bool okb ∧ OW 9 1 w.heap.size wr v8 (sc acc) ∧ LD wr b t i' V ∧ Frm [b] w wr ∧ acc.length ≤ j ∧ (v < hi ∨ acc.length = 0) ∧
      Hid ((okb = true ∧ v < hi ∧ pR (fun _ => pNm) (v - j) acc (t.drop i') = pL hi (t.drop i)) ∨ (okb = false ∧ pL hi (t.drop i) = none)))
  case atStart =>
    refine ⟨0, i1, [], ok, by omega, rfl, rfl, OW.empty _ _ _ _ hz1, L1.out.frm (S := []) ((Frm.refl [] _).alloc _) (by simp), F1.out.alloc _, by simp, .inr rfl, ?_⟩
    rcases P1.out with ⟨h1, h2⟩ | ⟨h1, h2⟩
    · exact .inl ⟨h1, (pN_some h2).2.2, by unfold pL; rw [h2]; rfl⟩
    · exact .inr ⟨h1, by unfold pL; rw [h2]; rfl⟩
  case round =>
    obtain ⟨j, i2, acc, okb, hjk, rfl, rfl, hO, hL, hF, hal, hor, HR⟩ := hrel
    obtain ⟨ao, co, he⟩ := hO.shape
    rw [sc_len] at he
    subst he
    have HOR := hide hor
    clear hor
    have O := hide hO
    have L := hide hL
    have F := hide hF
    have hz := hF.size
    clear hO hL hF
    cases okb with
    | false =>
      have HP : Hid (pL hi (t.drop i) = none) := by
        rcases HR.out with ⟨h, _⟩ | ⟨_, h⟩
        · cases h
        · exact h
      clear HR
      go_wp2
      go_ret2
      exact ⟨i2, _, acc, false, rfl, L.out, F.out, .inr ⟨rfl, HP.out⟩, O.out, by have := HOR.out; omega⟩
    | true =>
      have HP : Hid (v < hi ∧ pR (fun _ => pNm) (v - j) acc (t.drop i2) = pL hi (t.drop i)) := by
        rcases HR.out with ⟨_, h⟩ | ⟨h, _⟩
        · exact h
        · cases h
      clear HR
      by_cases hlt : j < v
      · have hd1 : decide ((j : Int) < (v : Int)) = true := decide_eq_true (by omega)
        have N2 := hide (takeName_any b t i2 V wr L.out)
        go_wp2_with fail
        refine (N2.out).mono ?_
        rintro e w2 ⟨i3, x, ok2, rfl, hL2, hF2, hP2, hx⟩
        have L2 := hide hL2
        have F2 := hide hF2
        have O2 := hide (O.out.frm (hF2) (by intro g hg; simp at hg; omega))
        have HP2 : Hid ((ok2 = true ∧ v < hi ∧ pR (fun _ => pNm) (v - (j + 1)) (acc ++ [x]) (t.drop i3) = pL hi (t.drop i)) ∨ (ok2 = false ∧ pL hi (t.drop i) = none)) := by
          have h := HP.out
          rw [show v - j = (v - (j + 1)) + 1 by omega] at h
          rcases hP2 with ⟨h1, h2⟩ | ⟨h1, h2⟩
          · refine .inl ⟨h1, h.1, ?_⟩
            rw [← h.2, pR_succ, h2]; rfl
          · refine .inr ⟨h1, ?_⟩
            rw [← h.2, pR_succ, h2]; rfl
        have hz2 := hF2.size
        have hvh := HP.out.1
        clear hL2 hF2 hP2 HP N2 L O
        go_wp2_with (first | (at_builtin; refine wp_appSc _ rfl _ _ rfl w.heap.size (.slice ao acc.length co) acc w2.heap.size x rfl (O2.out.frm (S := []) ((Frm.refl [] _).alloc _) (by simp)) rfl (by simp) (by omega) (by simp; omega) ?_; intro g2 cap2 w3 hs3 hg3 hor3 hlt3; have O3 := hide hs3; have G3 := hide hg3; clear hs3 hg3 hor3))
        go_roundg (gk - 1)
        case measure => omega
        case rel =>
          have hob : ∀ r, Value.ownBlock (.slice ao acc.length co) = some r → w.heap.size ≤ r := fun r hr => (O2.out.lt hr).1
          refine ⟨j + 1, i3, acc ++ [x], ok2, by omega, by go_num, rfl, O3.out, (L2.out.frm (S := []) ((Frm.refl [] _).alloc _) (by simp)).grown G3.out (fun r hr => by have := hob r hr; omega), ((F.out.trans F2.out).alloc _).grown G3.out (fun r hr => .inr (hob r hr)), by simp; omega, ?_, HP2.out⟩
          left
          have := HOR.out
          rcases HP2.out with ⟨_, h, _⟩ | ⟨_, h⟩
          · exact h
          · omega
      · have hjv : j = v := by omega
        have hd1 : decide ((j : Int) < (v : Int)) = false := decide_eq_false (by omega)
        have HP2 : Hid (pL hi (t.drop i) = some (acc, t.drop i2)) := by
          have h := HP.out.2
          rw [hjv, Nat.sub_self] at h
          exact h.symm
        have hvhi := HP.out.1
        clear HP
        subst hjv
        go_wp2
        go_ret2
        exact ⟨i2, _, acc, true, rfl, L.out, F.out, .inl ⟨rfl, HP2.out⟩, O.out, by omega⟩
end Go.Proofs.Ythlemieldfbbfab
