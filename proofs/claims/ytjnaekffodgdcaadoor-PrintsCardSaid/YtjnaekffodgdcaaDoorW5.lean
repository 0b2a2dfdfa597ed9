import Derived.Test.YtjnaekffodgdcaaDoorW4
namespace Go.Proofs.YtjnaekffodgdcaaDoor
open Go.RowKit
set_option linter.unusedVariables false
set_option linter.unusedSimpArgs false
set_option linter.unnecessarySimpa false

/-- A value behind its opening quote. -/
def valL : Nat → List UInt8 → List UInt8 → List UInt8 × Bool × List UInt8
  | 0, _, l => ([], false, l)
  | n + 1, acc, l =>
    if sTake [34] l then (acc, true, sRest [34] l)
    else if !(sVB l).2.1 || decide (40 ≤ acc.length) then ([], false, (sVB l).2.2)
    else valL n (acc ++ [(sVB l).1]) (sVB l).2.2

def sVal (l : List UInt8) : List UInt8 × Bool × List UInt8 :=
  if sTake [34] l then valL (l.length + 1) [] (sRest [34] l) else ([], false, l)

theorem sRest_le (wd l : List UInt8) : (sRest wd l).length ≤ l.length := by unfold sRest; split <;> simp
theorem sHexD_len (l : List UInt8) : (sHexD l).2.2.length ≤ l.length := by
  unfold sHexD; cases l with
  | nil => simp
  | cons c r =>
    dsimp only
    split
    · simp
    · split <;> simp
theorem sHexB_len (l : List UInt8) : (sHexB l).2.2.length ≤ l.length := Nat.le_trans (sHexD_len _) (sHexD_len _)
theorem sTake_len {wd l : List UInt8} (h : sTake wd l = true) : (sRest wd l).length + wd.length = l.length := by
  unfold sTake at h
  have := (List.isPrefixOf_iff_prefix.1 h).length_le
  unfold sRest; rw [if_pos h]; simp; omega
theorem sVB_len (l : List UInt8) (h : (sVB l).2.1 = true) : (sVB l).2.2.length < l.length := by
  unfold sVB at h ⊢
  by_cases h1 : sTake [92, 34] l = true
  · rw [if_pos h1]; have := sTake_len h1; simp at this ⊢; omega
  rw [if_neg h1] at h ⊢
  by_cases h2 : sTake [92, 92] l = true
  · rw [if_pos h2]; have := sTake_len h2; simp at this ⊢; omega
  rw [if_neg h2] at h ⊢
  by_cases h3 : sTake [92, 120] l = true
  · rw [if_pos h3]; have := sTake_len h3; have := sHexB_len (sRest [92, 120] l); simp at *; omega
  rw [if_neg h3] at h ⊢
  cases l with
  | nil => simp at h
  | cons c r =>
    dsimp only at h ⊢
    split at h
    · simp at h
    · rename_i hx; rw [if_neg hx]; simp
theorem sVB_le (l : List UInt8) : (sVB l).2.2.length ≤ l.length := by
  cases h : (sVB l).2.1
  · unfold sVB at h ⊢
    split
    · exact sRest_le _ _
    split
    · exact sRest_le _ _
    split
    · exact Nat.le_trans (sHexB_len _) (sRest_le _ _)
    · cases l with
      | nil => simp
      | cons c r => dsimp only; split <;> simp
  · exact Nat.le_of_lt (sVB_len l h)

theorem own_frm {S : List Nat} {w w' : World} {base : Nat} {e : TypeId} {size : Nat} {v : Value} {n : Nat} {xs : List Value} (h : w.ownsRow base e size v n xs) (f : Frm S w w') (hS : ∀ k, k ∈ S → k < base) : w'.ownsRow base e size v n xs := by
  refine ⟨h.1, ?_⟩
  rcases h.2 with hn | ⟨g, cap, cur, rfl, hb, hgg, rest⟩
  · exact .inl hn
  · refine .inr ⟨g, cap, cur, rfl, hb, ?_, rest⟩
    rw [f.block g (Array.getElem?_eq_some_iff.1 hgg).1 (fun hm => by have := hS g hm; omega)]
    exact hgg
theorem own_drewN {w : World} {base : Nat} {e : TypeId} {size : Nat} {v : Value} {n : Nat} {xs : List Value} (k : Nat) (h : w.ownsRow base e size v n xs) : (w.drewN k).ownsRow base e size v n xs := h

theorem own_some {w : World} {base : Nat} {e : TypeId} {size : Nat} {v : Value} {n : Nat} {xs : List Value} (h : w.ownsRow base e size v n xs) (hn : v ≠ .slice none 0 0) : ∃ g cap, v = .slice (some ⟨g, 0, none⟩) n cap := by
  rcases h.2 with ⟨h1, _⟩ | ⟨g, cap, cur, rfl, _⟩
  · exact absurd h1 hn
  · exact ⟨g, cap, rfl⟩
theorem Frm.of_grown {w w' : World} {g n cap : Nat} (h : w.grownBy w' (Value.ownBlock (.slice (some ⟨g, 0, none⟩) n cap))) : Frm [g] w w' :=
  ⟨h.os, h.tape, h.output, h.size, fun k hk hS => h.block k hk (fun e => hS (by simp [Value.ownBlock] at e; simp [e]))⟩
theorem infoU8 : (Tryd.prog.info? 5).map (fun i => (i.zero, i.size, i.bytes)) = some (some (.int .u8 0), 1, 1) := by kernel_rfl
theorem infoStr : (Tryd.prog.info? 9).map (fun i => (i.zero, i.size, i.bytes)) = some (some (.string ByteArray.empty), 1, 16) := by kernel_rfl

def byt (l : List UInt8) : List Value := l.map fun c => .int .u8 c.toNat

set_option maxRecDepth 100000 in
set_option maxHeartbeats 1000000 in
theorem takeValue_any (b : Nat) (t l : List UInt8) (w : World) (h : At w b t l) :
    Calls Tryd.prog 64 #[.pointer (some ⟨b, 0, none⟩)] w fun e w' => e = .returned (.tuple #[.string (bs (sVal l).1), .bool (sVal l).2.1]) ∧ At w' b t (sVal l).2.2 ∧ Frm [b] w w' := by
  have hb := h.lt
  have H : Hid (At w b t l) := h
  clear h
  obtain ⟨i0, hi, hz0, hz1, hz2⟩ := info_parts infoU8
  go_enter Tryd.func64, Tryd.ntmps64
  go_wp2_with fail
  refine (take_any b t l [34] _ H.out (by simp)).mono ?_
  rintro e w1 ⟨rfl, h1, hf1⟩
  cases ht1 : sTake [34] l
  case false =>
    have Hx : Hid (sVal l = ([], false, l)) := by
      show sVal l = _; unfold sVal; rw [ht1]; rfl
    rw [sRest_no ht1] at h1
    have H1 : Hid (At w1 b t l ∧ Frm [b] w w1) := ⟨h1, hf1⟩
    clear h1 hf1
    go_wp2
    go_ret2
    rw [Hx.out]
    exact ⟨rfl, H1.out.1, H1.out.2⟩
  case true =>
  have Hx : Hid (sVal l = valL (l.length + 1) [] (sRest [34] l)) := by
    show sVal l = _; unfold sVal; rw [ht1]; rfl
  have hs1 := hf1.size
  have H1 : Hid (At w1 b t (sRest [34] l) ∧ Frm [b] w w1) := ⟨h1, hf1⟩
  clear h1 hf1
  go_wp2_with fail
  go_loopg [4] (l.length + 1) (fun k v wr => ∃ acc l' g cap, v = .slice (some ⟨g, 0, none⟩) acc.length cap ∧ wr.ownsRow w.heap.size 5 1 v acc.length (byt acc) ∧ acc.length ≤ 40 ∧ l'.length < k ∧ valL k acc l' = valL (l.length + 1) [] (sRest [34] l) ∧ At wr b t l' ∧ Frm [b] w wr)
  case atStart =>
    refine ⟨[], sRest [34] l, _, _, rfl, ?_, by simp, Nat.lt_succ_of_le (sRest_le _ _), rfl, H1.out.1.frm (S := []) ((Frm.refl _ _).alloc _) (by simp), H1.out.2.alloc _⟩
    exact World.ownsRow_lit _ #[] 0 hs1 (by unfold maxLen; omega) (by simp)
  case round =>
    obtain ⟨acc, l', g, cap, rfl, hown, hac, hlk, hv, hat, hfr⟩ := hrel
    have Ho : Hid (wr.ownsRow w.heap.size 5 1 (.slice (some ⟨g, 0, none⟩) acc.length cap) acc.length (byt acc)) := hown
    have Hv : Hid (valL gk acc l' = valL (l.length + 1) [] (sRest [34] l)) := hv
    have Ha : Hid (At wr b t l') := hat
    have Hf : Hid (Frm [b] w wr) := hfr
    clear hown hv hat hfr
    obtain ⟨m, rfl⟩ : ∃ m, gk = m + 1 := ⟨gk - 1, by omega⟩
    go_wp2_with fail
    refine (take_any b t l' [34] _ Ha.out (by simp)).mono ?_
    rintro e w2 ⟨rfl, h2, hf2⟩
    cases ht2 : sTake [34] l'
    case true =>
      have Hx2 : Hid (sVal l = (acc, true, sRest [34] l')) := by
        show sVal l = _
        rw [Hx.out, ← Hv.out]; unfold valL; rw [ht2]; rfl
      have H2 : Hid (At w2 b t (sRest [34] l') ∧ Frm [b] w w2) := ⟨h2, Hf.out.trans hf2⟩
      have hown2 := own_frm Ho.out hf2 (by simp; omega)
      have hlen : acc.length = (acc).length := rfl
      have hcv := run_convert_bytes_back (P := Tryd.prog) w2 69 9 5 ⟨g, 0, none⟩ cap acc Tryd.underlying69 Tryd.underlying5 Tryd.underlying9 (fun j hj => by
        refine hown2.cells rfl j _ ?_
        simp [byt, hj])
      clear h2 hf2 hown2
      go_wp2
      go_ret2
      rw [Hx2.out]
      exact ⟨rfl, H2.out.1, H2.out.2⟩
    case false =>
    rw [sRest_no ht2] at h2
    have H2 : Hid (At w2 b t l') := h2
    have Hf2 : Hid (Frm [b] w w2) := Hf.out.trans hf2
    have Ho2 : Hid (w2.ownsRow w.heap.size 5 1 (.slice (some ⟨g, 0, none⟩) acc.length cap) acc.length (byt acc)) := own_frm Ho.out hf2 (by simp; omega)
    have T2 : Hid (sTake [34] l' = false) := ht2
    clear h2 hf2 Ha Hf Ho
    go_wp2_with fail
    refine (takeValueByte_any b t l' _ H2.out).mono ?_
    rintro e w3 ⟨rfl, h3, hf3⟩
    have H3 : Hid (At w3 b t (sVB l').2.2) := h3
    have Hf3 : Hid (Frm [b] w w3) := Hf2.out.trans hf3
    have Ho3 : Hid (w3.ownsRow w.heap.size 5 1 (.slice (some ⟨g, 0, none⟩) acc.length cap) acc.length (byt acc)) := own_frm Ho2.out hf3 (by simp; omega)
    have hs3 := Hf3.out.size
    clear h3 hf3 H2 Hf2 Ho2 ht2
    cases hok : (sVB l').2.1
    case false =>
      have Hx2 : Hid (sVal l = ([], false, (sVB l').2.2)) := by
        show sVal l = _
        rw [Hx.out, ← Hv.out]; unfold valL; rw [T2.out, hok]; rfl
      go_wp2
      go_ret2
      rw [Hx2.out]
      exact ⟨rfl, H3.out, Hf3.out⟩
    case true =>
    have hvl := sVB_len l' hok
    by_cases h40 : 40 ≤ acc.length
    · have Hx2 : Hid (sVal l = ([], false, (sVB l').2.2)) := by
        show sVal l = _
        rw [Hx.out, ← Hv.out]; unfold valL; rw [T2.out, hok]; simp [h40]
      go_wp2
      go_ret2
      rw [Hx2.out]
      exact ⟨rfl, H3.out, Hf3.out⟩
    · have Hv2 : Hid (valL m (acc ++ [(sVB l').1]) (sVB l').2.2 = valL (l.length + 1) [] (sRest [34] l)) := by
        show valL m (acc ++ [(sVB l').1]) (sVB l').2.2 = _
        rw [← Hv.out]; conv => rhs; unfold valL
        rw [T2.out, hok]; simp [h40]
      clear Hv T2
      generalize hsv : sVB l' = x at *
      obtain ⟨x1, x2, x3⟩ := x
      simp only at hok hvl Hv2 H3
      subst hok
      have hown3 := Ho3.out
      go_wp2_with (first | (at_builtin; refine wpList_append_own _ rfl _ _ 69 rfl w.heap.size 5 i0 (.int .u8 0) 1 1 Tryd.underlying69 hi hz0 hz1 hz2 rfl (by decide) (.slice (some ⟨g, 0, none⟩) acc.length cap) _ _ rfl (hown3.alloc _) ⟨w3.heap.size, 0, none⟩ 1 1 [.int .u8 x1.toNat] rfl rfl (cell_one_new _ _ _) (fun x hx => by simp at hx; subst hx; rfl) (by unfold maxLen; omega) (by omega) (by simp; omega) ?_; intro v' w4 hown4 hg4 hnil4))
      go_roundg m
      case measure => omega
      case rel =>
        obtain ⟨g', cap', hv'⟩ := own_some hown4 (fun e => by have := hnil4.1 e; simp at this)
        subst hv'
        refine ⟨acc ++ [x1], x3, g', cap', by simp, ?_, by simp; omega, by omega, Hv2.out, ?_, ?_⟩
        · simpa [byt] using hown4
        · refine At.frm (S := [g]) ?_ (Frm.of_grown (w := w3.alloc (.cells #[.int .u8 x1.toNat] 5)) hg4) ?_
          · exact H3.out.frm (S := []) ((Frm.refl _ _).alloc _) (by simp)
          · have := (Ho3.out.lt g rfl).1; simp; omega
        · exact (Hf3.out.alloc _).grown hg4 (fun k hk => by
            simp [Value.ownBlock] at hk; subst hk; exact Or.inr (Ho3.out.lt g rfl).1)

end Go.Proofs.YtjnaekffodgdcaaDoor
