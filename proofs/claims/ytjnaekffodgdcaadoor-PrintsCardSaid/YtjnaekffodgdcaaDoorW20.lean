import Derived.Test.YtjnaekffodgdcaaDoorW19
namespace Go.Proofs.YtjnaekffodgdcaaDoor
open Go.RowKit
set_option linter.unusedVariables false
set_option linter.unusedSimpArgs false
set_option linter.unnecessarySimpa false

def hexD (n : Nat) : UInt8 := if n < 10 then UInt8.ofNat (48 + n) else UInt8.ofNat (97 + n - 10)
theorem hexDigit_any (n : Int) (w : World) (h0 : 0 ≤ n) (h1 : n ≤ 15) :
    Calls Tryd.prog 49 #[.int .u8 n] w fun e w' => e = .returned (.int .u8 (hexD n.toNat).toNat) ∧ w = w' := by
  by_cases h : n < 10
  · have hx : Hid ((hexD n.toNat).toNat = (48 + n).toNat) := by
      show _ = _; unfold hexD; rw [if_pos (by omega)]; simp; omega
    go_enter Tryd.func49, Tryd.ntmps49
    go_wp2
    go_ret
    exact ⟨ret_int (by rw [hx.out]; omega), rfl⟩
  · have hx : Hid ((hexD n.toNat).toNat = (87 + n).toNat) := by
      show _ = _; unfold hexD; rw [if_neg (by omega)]; simp; omega
    go_enter Tryd.func49, Tryd.ntmps49
    go_wp2
    go_ret
    exact ⟨ret_int (by rw [hx.out]; omega), rfl⟩

def kindT (k : Nat) : List UInt8 := if k = 1 then [33, 61] else if k = 2 then [61, 126] else if k = 3 then [33, 126] else [61]
theorem printKind_any (k : Nat) (w : World) (hk : k ≤ 3) :
    Calls Tryd.prog 37 #[.int .i64 k] w fun e w' => e = .returned (.string (bs (kindT k))) ∧ w = w' := by
  rcases (show k = 0 ∨ k = 1 ∨ k = 2 ∨ k = 3 by omega) with rfl | rfl | rfl | rfl
  all_goals
    go_enter Tryd.func37, Tryd.ntmps37
    go_wp2
    go_ret
    exact ⟨rfl, rfl⟩

/-- One byte of a value, as it is written. -/
def quoteB (c : UInt8) : List UInt8 :=
  if !(plainB c.toNat) then [92, 120, hexD (c.toNat / 16), hexD (c.toNat % 16)]
  else if c == 34 || c == 92 then [92, c] else [c]
def quoteV (v : List UInt8) : List UInt8 := [34] ++ v.flatMap quoteB ++ [34]
theorem quoteB_len (c : UInt8) : (quoteB c).length ≤ 4 := by
  unfold quoteB
  split
  · simp
  · split <;> simp
theorem quoteL_len : ∀ (v : List UInt8), (v.flatMap quoteB).length ≤ 4 * v.length
  | [] => by simp
  | c :: r => by
    have := quoteL_len r; have := quoteB_len c
    simp only [List.flatMap_cons, List.length_append, List.length_cons]; omega

/-- 'l = append(l, ..)' of bytes, some at once. -/
theorem wp_appB {ops : Array Oper} {rest : List Oper} {o : Oper} {a : Act} {Q : Exit → Act → World → Prop} (w : World) (hgd : o.guard = none) (s x : Operand)
    (ho : o.op = .call { callee := .builtin .append, args := #[s, x], argTypes := #[69, 69] })
    (base : Nat) (v : Value) (L : List UInt8) (m : List UInt8) (b1 : Nat) (hs : a.eval s = v) (hown : w.ownsRow base 5 1 v L.length (byt L)) (hx : a.eval x = .slice (some ⟨b1, 0, none⟩) m.length m.length)
    (hc : w.heap[b1]? = some (.cells (byt m).toArray 5 (0, 0))) (hm : 0 < m.length) (hlen : L.length + m.length ≤ 1048576) (hbase : base ≤ w.heap.size)
    (h : ∀ g cap w', w'.ownsRow base 5 1 (.slice (some ⟨g, 0, none⟩) (L.length + m.length) cap) (L.length + m.length) (byt (L ++ m)) → w.grownBy w' v.ownBlock → base ≤ g → wpList Tryd.prog ops Q rest (a.put o.dst (.slice (some ⟨g, 0, none⟩) (L.length + m.length) cap)) w') :
    wpList Tryd.prog ops Q (o :: rest) a w := by
  obtain ⟨i0, hi, hz0, hz1, hz2⟩ := info_parts infoU8
  refine wpList_append_own w hgd s x 69 ho base 5 i0 (.int .u8 0) 1 1 Tryd.underlying69 hi hz0 hz1 hz2 rfl (by decide) v L.length (byt L) hs hown ⟨b1, 0, none⟩ m.length m.length (byt m) hx (by simp [byt]) ?_ (fun x hx => by simp [byt] at hx; obtain ⟨c, _, rfl⟩ := hx; rfl) (by unfold maxLen; omega) (by omega) hbase ?_
  · intro j u hj
    rw [add0]; simp [World.cell?, hc, hj]
  · intro v' w' h1 h2 h3
    obtain ⟨g, cap, rfl⟩ := own_some h1 (fun e => by have := (h3.1 e).2; omega)
    exact h g cap w' (by simpa [byt] using h1) h2 (h1.lt g rfl).1

set_option maxRecDepth 100000 in
set_option maxHeartbeats 4000000 in
theorem printValue_any (v : List UInt8) (w : World) (hv : v.length ≤ 40) :
    Calls Tryd.prog 38 #[.string (bs v)] w fun e w' => e = .returned (.string (bs (quoteV v))) ∧ Frm [] w w' := by
  have hsz := bs_size v
  go_enter Tryd.func38, Tryd.ntmps38
  go_wp2_with fail
  go_loopg [3, 4] v.length (fun k vt vi wr => ∃ (j : Nat) (g cap : Nat) (acc : List UInt8), j + k = v.length ∧ vi = .int .i64 j ∧ acc = [34] ++ (v.take j).flatMap quoteB ∧ vt = .slice (some ⟨g, 0, none⟩) acc.length cap ∧ wr.ownsRow w.heap.size 5 1 vt acc.length (byt acc) ∧ Frm [] w wr)
  case atStart => exact ⟨0, w.heap.size, 1, [34], by omega, rfl, by simp, rfl, World.ownsRow_lit w #[.int .u8 34] 1 (Nat.le_refl _) (by unfold maxLen; omega) (by simp), (Frm.refl _ _).alloc _⟩
  case round =>
    obtain ⟨j, g, cap, acc, hj, rfl, hacc, rfl, hown, hfr⟩ := hrel
    have Ha : Hid (acc = [34] ++ (v.take j).flatMap quoteB) := hacc
    have Ho : Hid (wr.ownsRow w.heap.size 5 1 (.slice (some ⟨g, 0, none⟩) acc.length cap) acc.length (byt acc)) := hown
    have Hf : Hid (Frm [] w wr) := hfr
    have hz := hfr.size
    have hal : acc.length ≤ 1 + 4 * 40 := by
      rw [hacc]; have := quoteL_len (v.take j); simp at this ⊢; omega
    have hgb := (hown.lt g rfl).1
    clear hacc hown hfr
    by_cases hlt : j < v.length
    · have hbg2 : (bs v)[j]'(by rw [hsz]; omega) = v[j] := rfl
      have Ht : Hid (v.take (j + 1) = v.take j ++ [v[j]]) := List.take_succ_eq_append_getElem hlt
      generalize v[j] = c at *
      have hu := u8i c
      have Ha2 : Hid (∀ m, quoteB c = m → acc ++ m = [34] ++ (v.take (j + 1)).flatMap quoteB) := by
        intro m hm; rw [Ht.out, Ha.out, ← hm]; simp
      clear Ha Ht
      cases hp : plainB c.toNat
      · have hq : Hid (quoteB c = [92, 120, hexD (c.toNat / 16), hexD (c.toNat % 16)]) := by
          show _ = _; unfold quoteB; rw [hp]; rfl
        go_wp2_with fail
        refine (isPlain_any _ _).mono ?_
        rintro e w' ⟨rfl, rfl⟩
        go_wp2_with fail
        refine (hexDigit_any _ _ (by omega) (by omega)).mono ?_
        rintro e w' ⟨rfl, rfl⟩
        rw [show ((c.toNat : Int) / 16).toNat = c.toNat / 16 by omega]
        go_wp2_with fail
        refine (hexDigit_any _ _ (by omega) (by omega)).mono ?_
        rintro e w' ⟨rfl, rfl⟩
        rw [show ((c.toNat : Int) % 16).toNat = c.toNat % 16 by omega]
        generalize hexD (c.toNat / 16) = x1 at *
        generalize hexD (c.toNat % 16) = x2 at *
        go_wp2_with (first | (at_builtin; refine wp_appB _ rfl _ _ rfl w.heap.size (.slice (some ⟨g, 0, none⟩) (acc).length cap) (acc) [92, 120, x1, x2] wr.heap.size rfl (by exact own_frm (S := []) Ho.out ((Frm.refl _ _).alloc _) (by simp)) rfl (by exact heap1 _ _) (by simp) (by simp; omega) (by simp; omega) ?_; intro g2 cap2 w2 hs2 hg2 hb2))
        go_roundg (gk - 1)
        case measure => omega
        case rel =>
          refine ⟨j + 1, g2, cap2, acc ++ [92, 120, x1, x2], by omega, by go_num, Ha2.out _ hq.out, by simp, by simpa using hs2, ?_⟩
          exact (Hf.out.alloc _).grown1 (base := 0) hg2 (fun k hk => by simp [Value.ownBlock] at hk; omega)
      · by_cases hqb : (c == 34 || c == 92) = true
        · have hq : Hid (quoteB c = [92, c]) := by
            show _ = _; unfold quoteB; rw [hp]; simp only [Bool.not_true, Bool.false_eq_true, if_false, hqb, if_true]
          have hor : ((c.toNat : Int) == 34) = true ∨ (((c.toNat : Int) == 34) = false ∧ ((c.toNat : Int) == 92) = true) := by
            rw [Bool.or_eq_true, beq_iff_eq, beq_iff_eq] at hqb
            rcases hqb with rfl | rfl
            · exact Or.inl rfl
            · exact Or.inr ⟨rfl, rfl⟩
          clear hqb
          rcases hor with h34 | ⟨h34, h92⟩
          all_goals
            go_wp2_with (first | (go_at_call 48; refine (isPlain_any _ _).mono ?_; rintro e w' ⟨rfl, rfl⟩) | (at_builtin; refine wp_appB _ rfl _ _ rfl w.heap.size (.slice (some ⟨g2, 0, none⟩) (acc.length + 1) cap2) (acc ++ [92]) [c] w2.heap.size rfl (by exact own_frm (S := []) (w := w2) (by simpa using hs2) ((Frm.refl _ _).alloc _) (by simp)) rfl (by exact heap1 _ _) (by simp) (by simp; omega) (by simp; omega) ?_; intro g2b cap2b w2b hs2b hg2b hb2b) | (at_builtin; refine wp_appB _ rfl _ _ rfl w.heap.size (.slice (some ⟨g, 0, none⟩) (acc).length cap) (acc) [92] wr.heap.size rfl (by exact own_frm (S := []) Ho.out ((Frm.refl _ _).alloc _) (by simp)) rfl (by exact heap1 _ _) (by simp) (by simp; omega) (by simp; omega) ?_; intro g2 cap2 w2 hs2 hg2 hb2); have hz2 := hg2.size; simp at hz2)
            go_roundg (gk - 1)
            case measure => omega
            case rel =>
              refine ⟨j + 1, g2b, cap2b, acc ++ [92, c], by omega, by go_num, Ha2.out _ hq.out, by simp, by simpa using hs2b, ?_⟩
              exact (((Hf.out.alloc _).grown1 (base := 0) hg2 (fun k hk => by simp [Value.ownBlock] at hk; omega)).alloc _).grown1 (base := 0) hg2b (fun k hk => by simp [Value.ownBlock] at hk; omega)
        · have hq : Hid (quoteB c = [c]) := by
            show _ = _; unfold quoteB; rw [hp]; simp only [Bool.not_true, Bool.false_eq_true, if_false, hqb]
          have h34 : ((c.toNat : Int) == 34) = false := by
            rw [beq_eq_false_iff_ne]; intro h
            have : c = 34 := UInt8.toNat_inj.1 (by simpa using (Int.ofNat_inj.1 h))
            subst this; simp at hqb
          have h92 : ((c.toNat : Int) == 92) = false := by
            rw [beq_eq_false_iff_ne]; intro h
            have : c = 92 := UInt8.toNat_inj.1 (by simpa using (Int.ofNat_inj.1 h))
            subst this; simp at hqb
          clear hqb
          go_wp2_with (first | (go_at_call 48; refine (isPlain_any _ _).mono ?_; rintro e w' ⟨rfl, rfl⟩) | (at_builtin; refine wp_appB _ rfl _ _ rfl w.heap.size (.slice (some ⟨g, 0, none⟩) (acc).length cap) (acc) [c] wr.heap.size rfl (by exact own_frm (S := []) Ho.out ((Frm.refl _ _).alloc _) (by simp)) rfl (by exact heap1 _ _) (by simp) (by simp; omega) (by simp; omega) ?_; intro g2 cap2 w2 hs2 hg2 hb2))
          go_roundg (gk - 1)
          case measure => omega
          case rel =>
            refine ⟨j + 1, g2, cap2, acc ++ [c], by omega, by go_num, Ha2.out _ hq.out, by simp, by simpa using hs2, ?_⟩
            exact (Hf.out.alloc _).grown1 (base := 0) hg2 (fun k hk => by simp [Value.ownBlock] at hk; omega)
    · have hq : Hid (quoteV v = acc ++ [34]) := by
        show _ = _; rw [Ha.out, List.take_of_length_le (by omega)]; rfl
      have hcv : ∀ g2 cap2 w2, w2.ownsRow w.heap.size 5 1 (.slice (some ⟨g2, 0, none⟩) (acc.length + 1) cap2) (acc.length + 1) (byt (acc ++ [34])) → (convert 69 9 (.slice (some ⟨g2, 0, none⟩) (acc.length + 1) cap2)).run Tryd.prog w2 = .ok (.string (bs (acc ++ [34]))) w2 := by
        intro g2 cap2 w2 hs2
        have := run_convert_bytes_back (P := Tryd.prog) w2 69 9 5 ⟨g2, 0, none⟩ cap2 (acc ++ [34]) Tryd.underlying69 Tryd.underlying5 Tryd.underlying9 (fun j hj => by
          refine hs2.cells rfl j _ ?_
          unfold byt; rw [List.getElem?_map, List.getElem?_eq_getElem hj]; rfl)
        have hle : (acc ++ [34]).length = acc.length + 1 := by simp
        rw [hle] at this
        exact this
      go_wp2_with (first | (at_builtin; refine wp_appB _ rfl _ _ rfl w.heap.size (.slice (some ⟨g, 0, none⟩) (acc).length cap) (acc) [34] wr.heap.size rfl (by exact own_frm (S := []) Ho.out ((Frm.refl _ _).alloc _) (by simp)) rfl (by exact heap1 _ _) (by simp) (by simp; omega) (by simp; omega) ?_; intro g2 cap2 w2 hs2 hg2 hb2); have hcv2 := hcv _ _ _ (by simpa using hs2))
      go_ret
      rw [hq.out]
      exact ⟨rfl, (Hf.out.alloc _).grown1 (base := 0) hg2 (fun k hk => by simp [Value.ownBlock] at hk; omega)⟩

end Go.Proofs.YtjnaekffodgdcaaDoor
