import Derived.Test.YtpbkgeipigcefaaGreatJ18
set_option linter.unusedVariables false
set_option linter.unusedSimpArgs false
set_option linter.unnecessarySimpa false
namespace Go.Proofs.YtpbkgeipigcefaaGreat
open Go.RowKit

theorem row_frm0 {S : List Nat} {base : Nat} {w w' : World} {e : TypeId} {size n : Nat} {v : Value} {xs : List Value} (h : w.ownsRow base e size v n xs) (f : Frm S w w') (hS : ∀ k, v.ownBlock = some k → k ∉ S) : w'.ownsRow base e size v n xs := by
  refine ⟨h.1, ?_⟩
  rcases h.2 with hn | ⟨g, cap, cur, rfl, hb, hgg, rest⟩
  · exact .inl hn
  · refine .inr ⟨g, cap, cur, rfl, hb, ?_, rest⟩
    rw [f.block g (Array.getElem?_eq_some_iff.1 hgg).1 (hS g rfl)]
    exact hgg
def clsP (S : List Nat) (c : Nat) : List Nat := clsL S c ++ List.replicate (256 - c) 0
theorem clsP_step (S : List Nat) (c : Nat) (hc : c < 256) : (clsP S c).set c (clsOf S (fstK S c) c) = clsP S (c + 1) := by
  unfold clsP clsL
  rw [List.set_append_right _ _ (by simp)]
  simp only [List.length_map, List.length_range, Nat.sub_self]
  rw [List.range_succ, List.map_append, List.append_assoc]
  congr 1
  obtain ⟨k, hk⟩ : ∃ k, 256 - c = k + 1 := ⟨255 - c, by omega⟩
  rw [hk, show 256 - (c + 1) = k by omega, List.replicate_succ]
  rfl

set_option maxRecDepth 100000 in
set_option maxHeartbeats 2000000 in
theorem sortBytes_any (base ab : Nat) (vs : Value) (S F1 CL : List Nat) (va vn : Value) (w : World) (hF1 : fstK S 256 = F1) (hCL : clsL S 256 = CL) (hs : BL base w vs S) (ha : AB w ab 0 (List.replicate 256 0) va vn) (hS : S.length ≤ 1000) (hne : vs.ownBlock ≠ some ab) :
    Calls Tryz.prog 100 #[.pointer (some ⟨ab, 0, none⟩), vs] w fun e w' => ∃ v, e = .returned v ∧ UL w.heap.size w' v F1 ∧ AB w' ab F1.length CL va vn ∧ Frm [ab] w w' := by
  obtain ⟨asl, caps, rfl⟩ := own_shape hs
  have HS := hide hs
  have HNE : Hid (Value.ownBlock (.slice asl S.length caps) ≠ some ab) := hne
  clear hne
  have HA := hide ha
  have HF1 := hide hF1
  have HCL := hide hCL
  clear hF1 hCL
  have hlt := ha.lt
  clear hs ha
  go_enter Tryz.func100, Tryz.ntmps100
  go_wp2_with fail
  go_loopg [5, 6] 256 (fun k vf vc wr => ∃ (c : Nat), c + k = 256 ∧ vc = .int .i64 c ∧ UL w.heap.size wr vf (fstK S c) ∧ AB wr ab 0 (clsP S c) va vn ∧ Frm [ab] w wr)
  case atStart =>
    refine ⟨0, by omega, rfl, World.ownsRow_lit _ #[] 0 (Nat.le_refl _) (by unfold maxLen; omega) (by simp), ?_, (Frm.refl _ _).alloc _⟩
    exact HA.out.frm (S := []) ((Frm.refl _ _).alloc _) (by simp)
  case round =>
    clear HA
    obtain ⟨c, hc, rfl, hul, hab2, hfr⟩ := hrel
    obtain ⟨af, capf, rfl⟩ := own_shape hul
    have hle := fstK_le S c
    have F := hide hfr
    have U := hide hul
    have A := hide hab2
    have z := hfr.size
    clear hfr hul hab2
    by_cases hlt2 : c < 256
    · clear HF1 HCL
      have hs1 : BL base wr (.slice asl S.length caps) S := row_frm0 HS.out F.out (fun k hk => by simp; rintro rfl; exact HNE.out hk)
      have C := hide (classOf_any base (.slice asl S.length caps) (.slice af (fstK S c).length capf) S (fstK S c) c wr hs1 (row_nl U.out) hS (by omega) (fun f hf => by have := hle.2 f hf; omega) hlt2)
      have Hst : Hid (fstK S (c + 1) = if clsOf S (fstK S c) c == (fstK S c).length then fstK S c ++ [c] else fstK S c) := rfl
      have Hcs := hide (clsP_step S c hlt2)
      have hml := clsOf_le S (fstK S c) c
      have hl1 := hle.1
      generalize clsOf S (fstK S c) c = m at *
      generalize fstK S c = F0 at *
      clear hs1 hle
      have hc8 : c < 256 := hlt2
      go_wp2_with fail
      refine (C.out).mono ?_
      rintro e w2 ⟨rfl, hf2⟩
      have F2 := hide (F.out.trans (hf2.mono (by simp)))
      have U2 := hide (own_frm U.out hf2 (by simp))
      have A2 := hide (A.out.frm hf2 (by simp))
      have z2 := hf2.size
      clear hf2
      by_cases hm : m = F0.length
      · subst hm
        have Hst2 : Hid (fstK S (c + 1) = F0 ++ [c]) := by show _ = _; rw [Hst.out]; simp
        have Hcs2 : Hid ((clsP S c).set c F0.length = clsP S (c + 1)) := Hcs.out
        have hae : Value.ownBlock (.slice af F0.length capf) ≠ some ab := fun e => by have := U2.out.lt _ e; omega
        have A3 := hide (fun o => A2.out.frm (S := []) (w' := w2.alloc o) ((Frm.refl _ _).alloc _) (by simp))
        have hlt3 := A2.out.lt
        clear Hst Hcs C
        go_wp2_with (first | (at_builtin; refine wp_appU _ rfl _ _ rfl w.heap.size (.slice af F0.length capf) F0 c w2.heap.size rfl (U2.out.alloc _) rfl (cell_newX _ _ _ _ rfl) (by omega) (by simp; omega) ?_; intro gg cap2 w5 hown hgrow hat hgl; have F5 := Frm.of_grow hgrow; have A5 := (A3.out _).frm F5 (by simpa [Option.mem_toList] using fun e => hae e); have q1 := A5.cell c hc8; have q2 := A5.fz (1 + c); have A6 := hide A5; have U6 := hide hown; have F6 := hide ((F2.out.alloc _).grown hgrow (fun k hk => Or.inr (U2.out.lt _ hk).1)); clear hown hgrow hat hgl F5 A5))
        go_roundg (gk - 1)
        case measure => omega
        case rel =>
          refine ⟨c + 1, by omega, by go_num, ?_, ?_, F6.out.setCell (.inl (by simp)) _⟩
          · rw [Hst2.out]
            have := ownsRow_setCell_below U6.out (a := ⟨ab, 1 + c, none⟩) (by simp; omega) (.int .u8 F0.length)
            exact this
          · rw [← Hcs2.out]; exact A6.out.set c F0.length hc8
      · have hb : ((m : Int) == (F0.length : Int)) = false := beq_eq_false_iff_ne.2 (by omega)
        have Hst2 : Hid (fstK S (c + 1) = F0) := by show _ = _; rw [Hst.out, if_neg]; simpa using hm
        have q1 := A2.out.cell c hc8
        have q2 := A2.out.fz (1 + c)
        clear Hst C
        go_wp2
        go_roundg (gk - 1)
        case measure => omega
        case rel =>
          refine ⟨c + 1, by omega, by go_num, ?_, ?_, F2.out.setCell (.inl (by simp)) _⟩
          · rw [Hst2.out]
            exact ownsRow_setCell_below U2.out (a := ⟨ab, 1 + c, none⟩) (by simp; omega) (.int .u8 m)
          · rw [← Hcs.out]; exact A2.out.set c m hc8
    · have hc6 : c = 256 := by omega
      have q0 := A.out.c0
      have q2 := A.out.fz 0
      have hp : clsP S c = CL := by
        rw [hc6, ← HCL.out]; unfold clsP; rw [Nat.sub_self, List.replicate_zero, List.append_nil]
      have hp2 : fstK S c = F1 := by rw [hc6]; exact HF1.out
      rw [hp] at A
      rw [hp2] at U hle
      rw [hp2]
      clear hp hp2 HF1 HCL hc6
      have G1 := hide (F.out.setCell (p := ⟨ab, 0, none⟩) (.inl (by simp)) (.int .i64 F1.length))
      have G2 := hide (ownsRow_setCell_below U.out (a := ⟨ab, 0, none⟩) (by simp; omega) (.int .i64 F1.length))
      have G3 := hide (A.out.set0 F1.length)
      go_wp2
      go_ret
      exact ⟨.slice af F1.length capf, rfl, G2.out, G3.out, G1.out⟩

end Go.Proofs.YtpbkgeipigcefaaGreat

namespace Go.Proofs.YtpbkgeipigcefaaGreat
open Go.RowKit

def mixZ (h x : Int) : Int := IntKind.u32.wrap (Go.bits BinOp.xor IntKind.u32 h x * 16777619)

set_option maxRecDepth 100000 in
theorem mixed_any (h x : Int) (w : World) :
    Calls Tryz.prog 143 #[.int .u32 h, .int .u32 x] w fun e w' => e = .returned (.int .u32 (mixZ h x)) ∧ w = w' := by
  have Hm : Hid (mixZ h x = IntKind.u32.wrap (Go.bits BinOp.xor IntKind.u32 h x * 16777619)) := rfl
  go_enter Tryz.func143, Tryz.ntmps143
  go_wp2
  go_ret
  rw [Hm.out]
  exact ⟨rfl, rfl⟩

set_option maxRecDepth 100000 in
set_option maxHeartbeats 2000000 in
theorem sameList_any (v u : Value) (L M : List Nat) (w : World) (hv : NL .i64 w v L) (hu : NL .i64 w u M) (hL : L.length ≤ 10000000000000) (hM : M.length ≤ 10000000000000) :
    Calls Tryz.prog 144 #[v, u] w fun e w' => e = .returned (.bool (decide (L = M))) ∧ ∃ n, w' = w.drewN n := by
  obtain ⟨a, cap, rfl, h1⟩ := hv
  obtain ⟨b, cap2, rfl, h2⟩ := hu
  have H1 := hide h1
  have H2 := hide h2
  clear h1 h2
  by_cases hl : L.length = M.length
  · have hb : ((L.length : Int) != (M.length : Int)) = false := by rw [bne_eq_false_iff_eq]; omega
    have HLM := hide hl
    clear hl
    go_enter Tryz.func144, Tryz.ntmps144
    go_wp2_with fail
    go_loopg [13] L.length (fun k vi wr => ∃ (j n : Nat), j + k = L.length ∧ vi = .int .i64 j ∧ wr = w.drewN n ∧ decide (L.drop j = M.drop j) = decide (L = M))
    case atStart => exact ⟨0, 0, by omega, rfl, rfl, rfl⟩
    case round =>
      obtain ⟨j, n, hj, rfl, hw, hd⟩ := hrel
      have HD := hide hd
      clear hd
      by_cases hlt : j < L.length
      · have hltM : j < M.length := by have := HLM.out; omega
        obtain ⟨g, off, rfl, _, hc⟩ := H1.out j hlt
        obtain ⟨g2, off2, rfl, _, hc2⟩ := H2.out j hltM
        have q1 : wr.cell? ⟨g, off + j, none⟩ = some (.int .i64 L[j]) := by rw [hw]; exact hc
        have q2 : wr.cell? ⟨g2, off2 + j, none⟩ = some (.int .i64 M[j]) := by rw [hw]; exact hc2
        have Hd : Hid (decide (L = M) = (decide (L[j] = M[j]) && decide (L.drop (j + 1) = M.drop (j + 1)))) := by
          show _ = _
          rw [← HD.out, List.drop_eq_getElem_cons hlt, List.drop_eq_getElem_cons hltM]
          rw [Bool.eq_iff_iff]; simp only [decide_eq_true_eq, Bool.and_eq_true, List.cons.injEq]
        have Hw := hide hw
        clear hc hc2 hw HD
        generalize L[j] = x at *
        generalize M[j] = y at *
        by_cases hxy : x = y
        · have hb2 : ((x : Int) != (y : Int)) = false := by rw [bne_eq_false_iff_eq]; omega
          have Hd2 : Hid (decide (L.drop (j + 1) = M.drop (j + 1)) = decide (L = M)) := by show _ = _; rw [Hd.out]; simp [hxy]
          clear Hd
          go_wp2_with fail
          go_quiet (fail)
          go_wp2
          go_roundg (gk - 1)
          case measure => omega
          case rel => exact ⟨j + 1, n + _, by omega, by go_num, by rw [Hw.out, drewN_two], Hd2.out⟩
        · have hb2 : ((x : Int) != (y : Int)) = true := by rw [bne_iff_ne]; omega
          have Hd2 : Hid (decide (L = M) = false) := by show _ = _; rw [Hd.out]; simp [hxy]
          clear Hd
          go_wp2_with fail
          go_quiet (fail)
          go_wp2
          go_ret
          rw [Hd2.out, Hw.out]
          exact ⟨rfl, _, drewN_two _ _ _⟩
      · have Hd2 : Hid (decide (L = M) = true) := by
          show _ = _; rw [← HD.out, List.drop_eq_nil_of_le (by omega), List.drop_eq_nil_of_le (by have := HLM.out; omega)]; rfl
        have Hw := hide hw
        clear hw HD
        go_wp2
        go_ret
        rw [Hd2.out]
        exact ⟨rfl, _, Hw.out⟩
  · have hb : ((L.length : Int) != (M.length : Int)) = true := by rw [bne_iff_ne]; omega
    have Hd : Hid (decide (L = M) = false) := by show _ = _; rw [decide_eq_false]; intro e; exact hl (by rw [e])
    go_enter Tryz.func144, Tryz.ntmps144
    go_wp2
    go_ret
    rw [Hd.out]
    exact ⟨rfl, 0, rfl⟩

end Go.Proofs.YtpbkgeipigcefaaGreat

namespace Go.Proofs.YtpbkgeipigcefaaGreat
open Go.RowKit

structure FV where
  kd : Nat
  s : Nat
  fi : Nat
  se : Nat
  vp : Value
  te : Bool
  lk : Nat
  ak : Nat
  lf : Nat
def FV.cells (f : FV) : Array Value := #[.int .i64 f.kd, .int .u64 (wd f.s 0), .int .u64 (wd f.s 1), .int .u64 (wd f.s 2), .int .u64 (wd f.s 3), .int .i64 f.fi, .int .i64 f.se, f.vp, .bool f.te, .int .i64 f.lk, .int .i64 f.ak, .int .i64 f.lf]
def hashW (h : Int) (x : Nat) : Int := mixZ (mixZ h ((x : Int) % 4294967296)) ((x : Int) / 4294967296)
def hashP (h : Int) (L : List Nat) : Int := L.foldl (fun (h : Int) (n : Nat) => mixZ h ((n : Int) % 4294967296)) h
def hashI (kd fi se : Nat) (W : List Nat) : Int := W.foldl hashW (mixZ (mixZ ((kd : Int) % 4294967296) ((fi : Int) % 4294967296)) ((se : Int) % 4294967296))
def ws (s : Nat) : List Nat := [wd s 0, wd s 1, wd s 2, wd s 3]
def hashF (kd s fi se : Nat) (L : List Nat) : Int := hashP (hashI kd fi se (ws s)) L

theorem idx0 (a b c d : Int) (w : World) : (Instr.index 176 (.agg #[.int .u64 a, .int .u64 b, .int .u64 c, .int .u64 d]) (.int .i64 0)).run Tryz.prog w = .ok (.int .u64 a) w := by
  simp [Instr.index, go_sem, Tryz.underlying176]
theorem idx1 (a b c d : Int) (w : World) : (Instr.index 176 (.agg #[.int .u64 a, .int .u64 b, .int .u64 c, .int .u64 d]) (.int .i64 1)).run Tryz.prog w = .ok (.int .u64 b) w := by
  simp [Instr.index, go_sem, Tryz.underlying176]
theorem idx2 (a b c d : Int) (w : World) : (Instr.index 176 (.agg #[.int .u64 a, .int .u64 b, .int .u64 c, .int .u64 d]) (.int .i64 2)).run Tryz.prog w = .ok (.int .u64 c) w := by
  simp [Instr.index, go_sem, Tryz.underlying176]
theorem idx3 (a b c d : Int) (w : World) : (Instr.index 176 (.agg #[.int .u64 a, .int .u64 b, .int .u64 c, .int .u64 d]) (.int .i64 3)).run Tryz.prog w = .ok (.int .u64 d) w := by
  simp [Instr.index, go_sem, Tryz.underlying176]

set_option maxRecDepth 100000 in
set_option maxHeartbeats 2000000 in
theorem hash_any (f : FV) (L : List Nat) (w : World) (hv : NL .i64 w f.vp L) (hL : L.length ≤ 10000000000000) :
    Calls Tryz.prog 129 #[.agg f.cells] w fun e w' => e = .returned (.int .u32 (Go.bits BinOp.xor IntKind.u32 (hashF f.kd f.s f.fi f.se L) (hashF f.kd f.s f.fi f.se L / 2 ^ 16))) ∧ Frm [] w w' := by
  obtain ⟨kd, s, fi, se, vp, te, lk, ak, lf⟩ := f
  simp only at hv ⊢
  obtain ⟨a, cap, rfl, h1⟩ := hv
  have hun : FV.cells ⟨kd, s, fi, se, .slice a L.length cap, te, lk, ak, lf⟩ = #[.int .i64 kd, .int .u64 (wd s 0), .int .u64 (wd s 1), .int .u64 (wd s 2), .int .u64 (wd s 3), .int .i64 fi, .int .i64 se, .slice a L.length cap, .bool te, .int .i64 lk, .int .i64 ak, .int .i64 lf] := rfl
  rw [hun]
  clear hun
  have H1 := hide h1
  have HM := hide mixed_any
  have HF : Hid (hashF kd s fi se L = hashP (hashI kd fi se [wd s 0, wd s 1, wd s 2, wd s 3]) L) := rfl
  have b0 := wd_lt s 0
  have b1 := wd_lt s 1
  have b2 := wd_lt s 2
  have b3 := wd_lt s 3
  clear h1
  generalize wd s 0 = w0 at *
  generalize wd s 1 = w1 at *
  generalize wd s 2 = w2 at *
  generalize wd s 3 = w3 at *
  go_enter Tryz.func129, Tryz.ntmps129
  go_wp2_with (go_at_call 143; refine (HM.out _ _ _).mono ?_; rintro e w' ⟨rfl, rfl⟩)
  go_loopg [3, 22] 4 (fun k vh vi wr => ∃ i : Nat, i + k = 4 ∧ vi = .int .i64 i ∧ vh = .int .u32 (hashI kd fi se ([w0, w1, w2, w3].take i)) ∧ wr = w.alloc (.cells #[.int .i64 kd, .int .u64 w0, .int .u64 w1, .int .u64 w2, .int .u64 w3, .int .i64 fi, .int .i64 se, .slice a L.length cap, .bool te, .int .i64 lk, .int .i64 ak, .int .i64 lf] 187))
  case atStart => exact ⟨0, by omega, rfl, rfl, rfl⟩
  case round =>
    obtain ⟨i, hi, rfl, rfl, hw⟩ := hrel
    have q7 : wr.cell? ⟨w.heap.size, 7, none⟩ = some (.slice a L.length cap) := by rw [hw]; have := heap1 w (.cells #[.int .i64 kd, .int .u64 w0, .int .u64 w1, .int .u64 w2, .int .u64 w3, .int .i64 fi, .int .i64 se, .slice a L.length cap, .bool te, .int .i64 lk, .int .i64 ak, .int .i64 lf] 187); simp only [World.cell?, this]; rfl
    have FR : Hid (Frm [] w wr) := by show Frm [] w wr; rw [hw]; exact (Frm.refl _ _).alloc _
    have HW := hide hw
    clear hw
    rcases (by omega : i = 0 ∨ i = 1 ∨ i = 2 ∨ i = 3 ∨ i = 4) with rfl | rfl | rfl | rfl | rfl
    · have hx := idx0 (w0 : Int) w1 w2 w3
      go_wp2_with (go_at_call 143; refine (HM.out _ _ _).mono ?_; rintro e w' ⟨rfl, rfl⟩)
      go_roundg 3
      case measure => omega
      case rel => exact ⟨1, by omega, by go_num, rfl, HW.out⟩
    · have hx := idx1 (w0 : Int) w1 w2 w3
      go_wp2_with (go_at_call 143; refine (HM.out _ _ _).mono ?_; rintro e w' ⟨rfl, rfl⟩)
      go_roundg 2
      case measure => omega
      case rel => exact ⟨2, by omega, by go_num, rfl, HW.out⟩
    · have hx := idx2 (w0 : Int) w1 w2 w3
      go_wp2_with (go_at_call 143; refine (HM.out _ _ _).mono ?_; rintro e w' ⟨rfl, rfl⟩)
      go_roundg 1
      case measure => omega
      case rel => exact ⟨3, by omega, by go_num, rfl, HW.out⟩
    · have hx := idx3 (w0 : Int) w1 w2 w3
      go_wp2_with (go_at_call 143; refine (HM.out _ _ _).mono ?_; rintro e w' ⟨rfl, rfl⟩)
      go_roundg 0
      case measure => omega
      case rel => exact ⟨4, by omega, by go_num, rfl, HW.out⟩
    · have HF2 : Hid (hashF kd s fi se L = hashP (hashI kd fi se (List.take 4 [w0, w1, w2, w3])) L) := HF.out
      generalize hashI kd fi se (List.take 4 [w0, w1, w2, w3]) = h4 at *
      clear HF
      go_wp2_with fail
      go_loopg [3, 38] L.length (fun k vh vi wq => ∃ (j : Nat) (x : Int), j + k = L.length ∧ vi = .int .i64 j ∧ vh = .int .u32 x ∧ hashP x (L.drop j) = hashP h4 L ∧ wq = wr)
      case atStart => exact ⟨0, h4, by omega, rfl, rfl, rfl, rfl⟩
      case round =>
        obtain ⟨j, x, hj, rfl, rfl, hx, hwq⟩ := hrel
        subst hwq
        have HX := hide hx
        clear hx
        by_cases hlt : j < L.length
        · obtain ⟨g, off, rfl, hg, hc⟩ := H1.out j hlt
          have q1 := (FR.out.cell (p := ⟨g, off + j, none⟩) hg (by simp)).trans hc
          have Hd : Hid (hashP (mixZ x ((L[j] : Int) % 4294967296)) (L.drop (j + 1)) = hashP h4 L) := by
            show _ = _; rw [← HX.out, List.drop_eq_getElem_cons hlt]; rfl
          clear hc HX
          generalize L[j] = m at *
          go_wp2_with (go_at_call 143; refine (HM.out _ _ _).mono ?_; rintro e w' ⟨rfl, rfl⟩)
          go_roundg (gk - 1)
          case measure => omega
          case rel => exact ⟨j + 1, _, by omega, by go_num, rfl, Hd.out, rfl⟩
        · have Hd : Hid (hashF kd s fi se L = x) := by
            show _ = _; rw [HF2.out, ← HX.out, List.drop_eq_nil_of_le (by omega)]; rfl
          go_wp2
          go_ret
          rw [Hd.out]
          exact ⟨rfl, FR.out⟩

end Go.Proofs.YtpbkgeipigcefaaGreat

namespace Go.Proofs.YtpbkgeipigcefaaGreat
open Go.RowKit

theorem wd_ext {s t : Nat} (hs : s < 2 ^ 256) (ht : t < 2 ^ 256) (h0 : wd s 0 = wd t 0) (h1 : wd s 1 = wd t 1) (h2 : wd s 2 = wd t 2) (h3 : wd s 3 = wd t 3) : s = t := by
  apply Nat.eq_of_testBit_eq
  intro i
  by_cases hi : i < 256
  · have e : ∀ x, x.testBit i = (wd x (i / 64)).testBit (i % 64) := fun x => by
      rw [wd_bit _ _ _ (Nat.mod_lt _ (by decide)), show 64 * (i / 64) + i % 64 = i by omega]
    rw [e s, e t]
    rcases (by omega : i / 64 = 0 ∨ i / 64 = 1 ∨ i / 64 = 2 ∨ i / 64 = 3) with h | h | h | h <;> rw [h]
    · rw [h0]
    · rw [h1]
    · rw [h2]
    · rw [h3]
  · have hp : (2 : Nat) ^ 256 ≤ 2 ^ i := Nat.pow_le_pow_right (by omega) (by omega)
    rw [Nat.testBit_lt_two_pow (Nat.lt_of_lt_of_le hs hp), Nat.testBit_lt_two_pow (Nat.lt_of_lt_of_le ht hp)]

set_option maxRecDepth 100000 in
theorem eqBS (a b c d x y z u : Int) (w : World) : (Op.equalIn 10000 176 (.agg #[.int .u64 a, .int .u64 b, .int .u64 c, .int .u64 d]) (.agg #[.int .u64 x, .int .u64 y, .int .u64 z, .int .u64 u])).run Tryz.prog w = .ok (a == x && (b == y && (c == z && d == u))) w := by
  have u3 := Tryz.underlying174
  have a3 := Tryz.isAgg174
  have z3 := Tryz.sizeOf174
  rw [show (10000 : Nat) = 9999 + 1 from rfl, Op.equalIn]
  simp only [Sem.run_bind, run_underlying Tryz.underlying176, Result.andThen_ok]
  simp only [Std.Legacy.Range.forIn_eq_forIn_range', Std.Legacy.Range.size, Nat.sub_zero, Nat.add_sub_cancel, Nat.div_one, List.range'_succ, List.range'_zero, List.forIn_cons, List.forIn_nil]
  go_simp
  by_cases h1 : a = x <;> by_cases h2 : b = y <;> by_cases h3 : c = z <;> by_cases h4 : d = u <;> simp [h1, h2, h3, h4]

theorem eqBSw {s t : Nat} (hs : s < 2 ^ 256) (ht : t < 2 ^ 256) (w : World) : (Op.equalIn 10000 176 (.agg #[.int .u64 (wd s 0), .int .u64 (wd s 1), .int .u64 (wd s 2), .int .u64 (wd s 3)]) (.agg #[.int .u64 (wd t 0), .int .u64 (wd t 1), .int .u64 (wd t 2), .int .u64 (wd t 3)])).run Tryz.prog w = .ok (decide (s = t)) w := by
  rw [eqBS]
  congr 1
  rw [Bool.eq_iff_iff]
  simp only [Bool.and_eq_true, beq_iff_eq, decide_eq_true_eq, Int.ofNat_inj]
  constructor
  · rintro ⟨h0, h1, h2, h3⟩
    exact wd_ext hs ht (by omega) (by omega) (by omega) (by omega)
  · rintro rfl
    exact ⟨rfl, rfl, rfl, rfl⟩

set_option maxRecDepth 100000 in
set_option maxHeartbeats 2000000 in
theorem same_any (f g : FV) (L M : List Nat) (w : World) (hv : NL .i64 w f.vp L) (hu : NL .i64 w g.vp M) (hL : L.length ≤ 10000000000000) (hM : M.length ≤ 10000000000000) (hs : f.s < 2 ^ 256) (ht : g.s < 2 ^ 256) :
    Calls Tryz.prog 130 #[.agg f.cells, .agg g.cells] w fun e w' => e = .returned (.bool (decide (f.kd = g.kd ∧ f.fi = g.fi ∧ f.se = g.se ∧ f.s = g.s ∧ L = M))) ∧ Frm [] w w' := by
  obtain ⟨kd, s, fi, se, vp, te, lk, ak, lf⟩ := f
  obtain ⟨kd2, s2, fi2, se2, vp2, te2, lk2, ak2, lf2⟩ := g
  simp only at hv hu hs ht ⊢
  obtain ⟨a, cap, rfl, h1⟩ := hv
  obtain ⟨b, cap2, rfl, h2⟩ := hu
  have SL := hide (fun (o o' : Obj) => sameList_any (.slice a L.length cap) (.slice b M.length cap2) L M ((w.alloc o).alloc o') (NL.frm (S := []) ⟨a, cap, rfl, h1⟩ (((Frm.refl _ _).alloc _).alloc _) (by simp)) (NL.frm (S := []) ⟨b, cap2, rfl, h2⟩ (((Frm.refl _ _).alloc _).alloc _) (by simp)) hL hM)
  have u1 : FV.cells ⟨kd, s, fi, se, .slice a L.length cap, te, lk, ak, lf⟩ = #[.int .i64 kd, .int .u64 (wd s 0), .int .u64 (wd s 1), .int .u64 (wd s 2), .int .u64 (wd s 3), .int .i64 fi, .int .i64 se, .slice a L.length cap, .bool te, .int .i64 lk, .int .i64 ak, .int .i64 lf] := rfl
  have u2 : FV.cells ⟨kd2, s2, fi2, se2, .slice b M.length cap2, te2, lk2, ak2, lf2⟩ = #[.int .i64 kd2, .int .u64 (wd s2 0), .int .u64 (wd s2 1), .int .u64 (wd s2 2), .int .u64 (wd s2 3), .int .i64 fi2, .int .i64 se2, .slice b M.length cap2, .bool te2, .int .i64 lk2, .int .i64 ak2, .int .i64 lf2] := rfl
  rw [u1, u2]
  clear u1 u2 h1 h2
  by_cases hk : kd = kd2
  case neg =>
    have n1 : ((kd : Int) != (kd2 : Int)) = true := by rw [bne_iff_ne]; omega
    have Hr : Hid (decide (kd = kd2 ∧ fi = fi2 ∧ se = se2 ∧ s = s2 ∧ L = M) = false) := by show _ = _; simp [hk]
    go_enter Tryz.func130, Tryz.ntmps130
    go_wp2
    go_ret
    rw [Hr.out]
    exact ⟨rfl, ((Frm.refl _ _).alloc _).alloc _⟩
  have n1 : ((kd : Int) != (kd2 : Int)) = false := by rw [bne_eq_false_iff_eq]; omega
  by_cases hf : fi = fi2
  case neg =>
    have n2 : ((fi : Int) != (fi2 : Int)) = true := by rw [bne_iff_ne]; omega
    have Hr : Hid (decide (kd = kd2 ∧ fi = fi2 ∧ se = se2 ∧ s = s2 ∧ L = M) = false) := by show _ = _; simp [hf]
    go_enter Tryz.func130, Tryz.ntmps130
    go_wp2
    go_ret
    rw [Hr.out]
    exact ⟨rfl, ((Frm.refl _ _).alloc _).alloc _⟩
  have n2 : ((fi : Int) != (fi2 : Int)) = false := by rw [bne_eq_false_iff_eq]; omega
  by_cases he : se = se2
  case neg =>
    have n3 : ((se : Int) != (se2 : Int)) = true := by rw [bne_iff_ne]; omega
    have Hr : Hid (decide (kd = kd2 ∧ fi = fi2 ∧ se = se2 ∧ s = s2 ∧ L = M) = false) := by show _ = _; simp [he]
    go_enter Tryz.func130, Tryz.ntmps130
    go_wp2
    go_ret
    rw [Hr.out]
    exact ⟨rfl, ((Frm.refl _ _).alloc _).alloc _⟩
  have n3 : ((se : Int) != (se2 : Int)) = false := by rw [bne_eq_false_iff_eq]; omega
  have Hr : Hid (decide (kd = kd2 ∧ fi = fi2 ∧ se = se2 ∧ s = s2 ∧ L = M) = decide (s = s2 ∧ L = M)) := by show _ = _; simp [hk, hf, he]
  clear hk hf he
  have EQ := eqBSw hs ht
  by_cases hS : s = s2
  case neg =>
    have Hr2 : Hid (decide (s = s2 ∧ L = M) = false) := by show _ = _; simp [hS]
    have EQ' : ∀ w, _ := fun w => (EQ w).trans (by rw [decide_eq_false hS])
    clear EQ
    go_enter Tryz.func130, Tryz.ntmps130
    go_wp2
    go_ret
    rw [Hr.out, Hr2.out]
    exact ⟨rfl, ((Frm.refl _ _).alloc _).alloc _⟩
  have Hr2 : Hid (decide (s = s2 ∧ L = M) = decide (L = M)) := by show _ = _; simp [hS]
  have EQ' : ∀ w, _ := fun w => (EQ w).trans (by rw [decide_eq_true hS])
  clear EQ hS
  go_enter Tryz.func130, Tryz.ntmps130
  go_wp2_with (go_at_call 144; refine (SL.out _ _).mono ?_; rintro e w' ⟨rfl, n, rfl⟩)
  go_ret
  rw [Hr.out, Hr2.out]
  exact ⟨rfl, Frm.drewN n (((Frm.refl _ _).alloc _).alloc _)⟩

end Go.Proofs.YtpbkgeipigcefaaGreat

namespace Go.Proofs.YtpbkgeipigcefaaGreat
open Go.RowKit

def FT (w : World) (fb : Nat) (va : Value) (B : List Nat) (ak : Nat) : Prop :=
  w.heap[fb]? = some (.cells (va :: (nv .i64 B ++ [.int .i64 ak])).toArray 191 (0, 0)) ∧ B.length = 1024
theorem FT.lt {w : World} {fb : Nat} {va : Value} {B : List Nat} {ak : Nat} (h : FT w fb va B ak) : fb < w.heap.size := (Array.getElem?_eq_some_iff.1 h.1).1
theorem FT.fz {w : World} {fb : Nat} {va : Value} {B : List Nat} {ak : Nat} (h : FT w fb va B ak) (o : Nat) : w.frozen? ⟨fb, o, none⟩ = false := by simp [World.frozen?, h.1]
theorem FT.frm {S : List Nat} {w w' : World} {fb : Nat} {va : Value} {B : List Nat} {ak : Nat} (h : FT w fb va B ak) (f : Frm S w w') (hS : fb ∉ S) : FT w' fb va B ak := ⟨(f.block fb h.lt hS).trans h.1, h.2⟩
theorem FT.c0 {w : World} {fb : Nat} {va : Value} {B : List Nat} {ak : Nat} (h : FT w fb va B ak) : w.cell? ⟨fb, 0, none⟩ = some va := by
  simp [World.cell?, h.1]
theorem FT.cell {w : World} {fb : Nat} {va : Value} {B : List Nat} {ak : Nat} (h : FT w fb va B ak) (c : Nat) (hc : c < 1024) : w.cell? ⟨fb, 1 + c, none⟩ = some (.int .i64 (B.getD c 0)) := by
  have hl : c < B.length := by rw [h.2]; exact hc
  have e : (va :: (nv .i64 B ++ [.int .i64 ak]))[1 + c]? = some (.int .i64 (B.getD c 0)) := by
    rw [Nat.add_comm, List.getElem?_cons_succ, List.getElem?_append_left (by simp [nv]; exact hl)]
    simp [nv, hl]
  simp [World.cell?, h.1]
  simpa using e
theorem FT.cask {w : World} {fb : Nat} {va : Value} {B : List Nat} {ak : Nat} (h : FT w fb va B ak) : w.cell? ⟨fb, 1025, none⟩ = some (.int .i64 ak) := by
  have e : (va :: (nv .i64 B ++ [.int .i64 ak]))[1025]? = some (.int .i64 ak) := by
    rw [List.getElem?_cons_succ, List.getElem?_append_right (by simp [nv, h.2])]
    simp [nv, h.2]
  simp only [World.cell?, h.1]
  simpa using e
theorem FT.setB {w : World} {fb : Nat} {va : Value} {B : List Nat} {ak : Nat} (h : FT w fb va B ak) (c m : Nat) (hc : c < 1024) : FT (w.setCell ⟨fb, 1 + c, none⟩ (.int .i64 m)) fb va (B.set c m) ak := by
  refine ⟨?_, by rw [List.length_set]; exact h.2⟩
  have hl : c < B.length := by rw [h.2]; exact hc
  have e : (va :: (nv .i64 B ++ [.int .i64 ak])).set (1 + c) (.int .i64 m) = va :: (nv .i64 (B.set c m) ++ [.int .i64 ak]) := by
    rw [Nat.add_comm, List.set_cons_succ, List.set_append_left _ _ (by simp [nv]; exact hl)]
    simp [nv, List.map_set]
  have h1 := h.1
  simp only [World.setCell, Array.getElem?_modify, h1, if_true, Option.map_some]
  rw [← e]
  simp
theorem FT.set0 {w : World} {fb : Nat} {va : Value} {B : List Nat} {ak : Nat} (h : FT w fb va B ak) (m : Value) : FT (w.setCell ⟨fb, 0, none⟩ m) fb m B ak := by
  refine ⟨?_, h.2⟩
  have h1 := h.1
  simp only [World.setCell, Array.getElem?_modify, h1, if_true, Option.map_some]
  simp
theorem FT.setA {w : World} {fb : Nat} {va : Value} {B : List Nat} {ak : Nat} (h : FT w fb va B ak) (m : Nat) : FT (w.setCell ⟨fb, 1025, none⟩ (.int .i64 m)) fb va B m := by
  refine ⟨?_, h.2⟩
  have e : (va :: (nv .i64 B ++ [.int .i64 ak])).set 1025 (.int .i64 m) = va :: (nv .i64 B ++ [.int .i64 m]) := by
    rw [List.set_cons_succ, List.set_append_right _ _ (by simp [nv, h.2])]
    simp [nv, h.2]
  have h1 := h.1
  simp only [World.setCell, Array.getElem?_modify, h1, if_true, Option.map_some]
  rw [← e]
  simp

end Go.Proofs.YtpbkgeipigcefaaGreat

namespace Go.Proofs.YtpbkgeipigcefaaGreat
open Go.RowKit

def fv (L : List FV) : List Value := L.flatMap fun f => f.cells.toList
def zeroForm : Value := .agg #[.int .i64 0, .int .u64 0, .int .u64 0, .int .u64 0, .int .u64 0, .int .i64 0, .int .i64 0, .slice none 0 0, .bool false, .int .i64 0, .int .i64 0, .int .i64 0]
theorem infoForm : (Tryz.prog.info? 187).map (fun i => (i.zero, i.size, i.bytes)) = some (some zeroForm, 12, 112) := by kernel_rfl
theorem fv_get (L : List FV) (j k : Nat) (hk : k < 12) (f : FV) (hf : L[j]? = some f) : (fv L)[j * 12 + k]? = f.cells.toList[k]? := by
  induction L generalizing j with
  | nil => simp at hf
  | cons g L ih =>
    have hl : g.cells.toList.length = 12 := by simp [FV.cells]
    cases j with
    | zero =>
      simp at hf; subst hf
      simp only [fv, List.flatMap_cons]
      rw [List.getElem?_append_left (by omega)]
      simp
    | succ j =>
      simp only [fv, List.flatMap_cons]
      rw [List.getElem?_append_right (by omega), show (j + 1) * 12 + k - g.cells.toList.length = j * 12 + k by omega]
      exact ih j (by simpa using hf)
def FL (base : Nat) (w : World) (v : Value) (L : List FV) : Prop := w.ownsRow base 187 12 v L.length (fv L)
theorem wp_appF {ops : Array Oper} {rest : List Oper} {o : Oper} {a : Act} {Q : Exit → Act → World → Prop} (w : World) (hgd : o.guard = none) (s x : Operand)
    (ho : o.op = .call { callee := .builtin .append, args := #[s, x], argTypes := #[188, 188] })
    (base : Nat) (v : Value) (L : List FV) (f : FV) (b1 : Nat) (hs : a.eval s = v) (hown : FL base w v L) (hx : a.eval x = .slice (some ⟨b1, 0, none⟩) 1 1)
    (hc : w.heap[b1]? = some (.cells f.cells 187 (0, 0))) (hv : f.vp.oneCell' = true) (hlen : L.length ≤ 1000000000000) (hbase : base ≤ w.heap.size)
    (h : ∀ g cap w', FL base w' (.slice (some ⟨g, 0, none⟩) (L.length + 1) cap) (L ++ [f]) → w.grownBy w' v.ownBlock → (v.ownBlock = some g ∨ g = w.heap.size) → g < w'.heap.size → wpList Tryz.prog ops Q rest (a.put o.dst (.slice (some ⟨g, 0, none⟩) (L.length + 1) cap)) w') :
    wpList Tryz.prog ops Q (o :: rest) a w := by
  obtain ⟨i0, hi, hz0, hz1, hz2⟩ := info_parts infoForm
  refine wpList_append_lies w hgd s x 188 ho base 187 i0 zeroForm 12 112 Tryz.underlying188 hi hz0 hz1 hz2 rfl (by decide) v L.length (fv L) hs hown ⟨b1, 0, none⟩ 1 1 f.cells.toList hx (by simp [FV.cells]) ?_ ?_ (by decide) (by unfold maxLen; omega) (by omega) hbase w.heap.size rfl ?_
  · intro j u hj
    rw [add0]
    simp only [World.cell?, hc]
    simpa using hj
  · intro u hu
    simp only [FV.cells, List.mem_cons, List.not_mem_nil, or_false] at hu
    rcases hu with rfl | rfl | rfl | rfl | rfl | rfl | rfl | rfl | rfl | rfl | rfl | rfl <;> first | exact hv | rfl
  · intro g cap w' h1 h2 h3 h4
    exact h g cap w' (by unfold FL fv; simpa [fv] using h1) h2 h3 h4

end Go.Proofs.YtpbkgeipigcefaaGreat

namespace Go.Proofs.YtpbkgeipigcefaaGreat
open Go.RowKit
theorem heapAt (w : World) (a : Obj) (n : Nat) (h : n = w.heap.size) : (w.alloc a).heap[n]? = some a := by subst h; exact heap1 w a
theorem zeroForms : Tryz.zeroCells191 = (Value.slice none 0 0 :: (nv .i64 (List.replicate 1024 0) ++ [.int .i64 0])).toArray := by kernel_rfl
theorem FT.new (w : World) : FT (w.alloc (Obj.cells Tryz.zeroCells191 191)) w.heap.size (.slice none 0 0) (List.replicate 1024 0) 0 := by
  refine ⟨?_, List.length_replicate⟩
  rw [zeroForms]
  exact heap1 _ _
def fv0 : FV := ⟨0, 0, 0, 0, .slice none 0 0, false, 0, 0, 0⟩
def fv1 : FV := ⟨1, 0, 0, 0, .slice none 0 0, true, 0, 0, 0⟩
theorem fv0c : fv0.cells = #[.int .i64 0, .int .u64 0, .int .u64 0, .int .u64 0, .int .u64 0, .int .i64 0, .int .i64 0, .slice none 0 0, .bool false, .int .i64 0, .int .i64 0, .int .i64 0] := by kernel_rfl
theorem fv1c : fv1.cells = #[.int .i64 1, .int .u64 0, .int .u64 0, .int .u64 0, .int .u64 0, .int .i64 0, .int .i64 0, .slice none 0 0, .bool true, .int .i64 0, .int .i64 0, .int .i64 0] := by kernel_rfl
theorem sz2 (w : World) (a b : Obj) : w.heap.size + 1 ≤ ((w.alloc a).alloc b).heap.size := by
  have e1 : (w.alloc a).heap.size = w.heap.size + 1 := by simp
  have e2 : ((w.alloc a).alloc b).heap.size = (w.alloc a).heap.size + 1 := by simp
  omega
set_option maxRecDepth 100000 in
set_option maxHeartbeats 2000000 in
theorem newForms_any (w : World) :
    Calls Tryz.prog 101 #[] w fun e w' => ∃ va, e = .returned (.pointer (some ⟨w.heap.size, 0, none⟩)) ∧ FT w' w.heap.size va (List.replicate 1024 0) 0 ∧ FL (w.heap.size + 1) w' va [fv0, fv1] ∧ Frm [] w w' := by
  have z0 : ∀ h, Tryz.zeroCells191[0]'h = .slice none 0 0 := by intro h; simp only [zeroForms]; rfl
  have FN := hide (FT.new w)
  have FR : Hid (∀ o, Frm [] w (w.alloc o)) := fun o => (Frm.refl _ _).alloc _
  go_enter Tryz.func101, Tryz.ntmps101
  go_wp2_with (first | (at_builtin; refine wp_appF _ rfl _ _ rfl (w.heap.size + 1) (.slice none 0 0) [] fv0 (w.heap.size + 1) rfl (World.ownsRow_nil _ _ _ _) rfl (by rw [fv0c]; exact heapAt _ _ _ (by simp)) rfl (by simp) (sz2 _ _ _) ?_; intro gg cap2 w5 hown hgrow hat hgl; have F5 := Frm.of_grow hgrow; have A5 := (FN.out.frm (S := []) ((Frm.refl _ _).alloc _) (by simp)).frm F5 (by simp [Value.ownBlock]); have A6 := hide (A5.set0 (.slice (some ⟨gg, 0, none⟩) 1 cap2)); have q1 := A5.c0; have q2 := A5.fz 0; have U5 := hide (ownsRow_setCell_below hown (a := ⟨w.heap.size, 0, none⟩) (by simp) (.slice (some ⟨gg, 0, none⟩) 1 cap2)); have F6 := hide (((FR.out _).alloc _).grown hgrow (fun k hk => by simp [Value.ownBlock] at hk)); have z5 := Nat.le_trans (sz2 _ _ _) hgrow.size; clear hown hgrow hat F5 A5) | (at_builtin; refine wp_appF _ rfl _ _ rfl (w.heap.size + 1) (.slice (some ⟨_, 0, none⟩) 1 _) [fv0] fv1 _ rfl (U5.out.alloc _) rfl (by rw [fv1c]; exact heapAt _ _ _ (by simp)) rfl (by simp) (by first | (simp; done) | (simp; omega)) ?_; intro g2 cap3 w7 hown hgrow hat hgl2; have hge : w.heap.size + 1 ≤ gg := (U5.out.lt _ rfl).1; have A7 := (A6.out.frm (S := []) ((Frm.refl _ _).alloc _) (by simp)).frm (Frm.of_grow hgrow) (by simp [Value.ownBlock]; omega); have q3 := A7.c0; have q4 := A7.fz 0; have A8 := hide (A7.set0 (.slice (some ⟨g2, 0, none⟩) 2 cap3)); have U8 := hide (ownsRow_setCell_below hown (a := ⟨w.heap.size, 0, none⟩) (Nat.lt_succ_self _) (.slice (some ⟨g2, 0, none⟩) 2 cap3)); have F8 := hide (((F6.out.setCell (.inr (Nat.le_refl _)) _).alloc _).grown hgrow (fun k hk => Or.inr (by simp [Value.ownBlock] at hk; omega))); clear hown hgrow hat A7 U5 A6 F6))
  go_ret
  exact ⟨_, rfl, A8.out, U8.out, F8.out.setCell (.inr (Nat.le_refl _)) _⟩
end Go.Proofs.YtpbkgeipigcefaaGreat

