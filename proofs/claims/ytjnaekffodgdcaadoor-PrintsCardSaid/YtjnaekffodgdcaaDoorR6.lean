import Derived.Test.YtjnaekffodgdcaaDoorR5
namespace Go.Proofs.YtjnaekffodgdcaaDoor
open Go.RowKit
set_option linter.unusedVariables false
set_option linter.unusedSimpArgs false
set_option linter.unnecessarySimpa false

theorem ret2s {x y : List UInt8} {p q : Bool} (h : x = y) (h' : p = q) : Ending.returned (.tuple #[.string (bs x), .bool p]) = .returned (.tuple #[.string (bs y), .bool q]) := by rw [h, h']

set_option maxRecDepth 100000 in
set_option maxHeartbeats 8000000 in
theorem unquoted_any (l : List UInt8) (w : World) (hl : l.length ≤ 100000) :
    Calls Tryd.prog 39 #[.string (bs l)] w fun e w' => e = .returned (.tuple #[.string (bs (unqR l).1), .bool (unqR l).2]) ∧ Frm [] w w' := by
  have hsz := bs_size
  have hap := bs_append
  by_cases h2 : l.length < 2
  · have Hx : Hid (unqR l = ([], false)) := by show _ = _; unfold unqR; simp [h2]
    have hd2 : decide ((l.length : Int) < 2) = true := decide_eq_true (by omega)
    go_enter Tryd.func39, Tryd.ntmps39
    go_wp2
    go_ret2
    rw [Hx.out]
    exact ⟨rfl, Frm.refl _ _⟩
  have hd2 : decide ((l.length : Int) < 2) = false := decide_eq_false (by omega)
  have hb0 : (bs l)[0]'(by rw [hsz]; omega) = l[0] := rfl
  have hbn : (bs l)[l.length - 1]'(by rw [hsz]; omega) = l[l.length - 1] := rfl
  have Hh : Hid (hd l = (l[0].toNat : Int)) := hd_drop l 0 (by omega)
  have Hgl : Hid (l.getLast? = some l[l.length - 1]) := by
    show _ = _; rw [List.getLast?_eq_getElem?, List.getElem?_eq_getElem]
  have Hall : Hid (∀ j (h : j < l.length), (bs l)[j]'(by rw [hsz]; exact h) = l[j]) := fun j h => rfl
  generalize hl0 : l[0] = c0 at hb0 Hh
  generalize hln : l[l.length - 1] = cn at hbn Hgl
  clear hl0 hln
  have e0 : ((c0.toNat : Int) == 34) = (c0 == 34) := toNat_beq c0 34
  have en : ((cn.toNat : Int) == 34) = (cn == 34) := toNat_beq cn 34
  have hcast : ((l.length : Int) - 1) = ((l.length - 1 : Nat) : Int) := by omega
  have Hu : Hid (unqR l = if !(c0 == 34) || !(cn == 34) then ([], false) else match unqGo l.length ((l.take (l.length - 1)).drop 1) [] with
    | none => ([], false)
    | some v => (v, decide (v.length ≤ 40))) := by
    show _ = _; unfold unqR
    rw [Hh.out, e0, Hgl.out]
    have : (some cn == some (34 : UInt8)) = (cn == 34) := rfl
    rw [this, decide_eq_false (by omega)]; simp only [Bool.false_or]; rfl
  cases h0 : (c0 == 34)
  · rw [h0] at e0
    have e0' : ((c0.toNat : Int) != 34) = true := by unfold bne; rw [e0]; rfl
    have Hx : Hid (unqR l = ([], false)) := by show _ = _; rw [Hu.out, h0]; rfl
    go_enter Tryd.func39, Tryd.ntmps39
    go_wp2
    go_ret2
    rw [Hx.out]
    exact ⟨rfl, Frm.refl _ _⟩
  rw [h0] at e0
  have e0' : ((c0.toNat : Int) != 34) = false := by unfold bne; rw [e0]; rfl
  cases hn : (cn == 34)
  · rw [hn] at en
    have en' : ((cn.toNat : Int) != 34) = true := by unfold bne; rw [en]; rfl
    have Hx : Hid (unqR l = ([], false)) := by show _ = _; rw [Hu.out, hn]; simp
    go_enter Tryd.func39, Tryd.ntmps39
    go_wp2
    go_ret2
    rw [Hx.out]
    exact ⟨rfl, Frm.refl _ _⟩
  rw [hn] at en
  have en' : ((cn.toNat : Int) != 34) = false := by unfold bne; rw [en]; rfl
  have Hu2 : Hid (unqR l = match unqGo l.length ((l.take (l.length - 1)).drop 1) [] with
    | none => ([], false)
    | some v => (v, decide (v.length ≤ 40))) := by show _ = _; rw [Hu.out, h0, hn]; rfl
  have Hnone : Hid (unqGo l.length ((l.take (l.length - 1)).drop 1) [] = none → unqR l = ([], false)) := fun h => by rw [Hu2.out, h]
  clear Hu
  go_enter Tryd.func39, Tryd.ntmps39
  go_wp2
  go_loopg [5, 6] l.length (fun k vv vi wr => ∃ (j : Nat) (v : List UInt8), 1 ≤ j ∧ j + 1 ≤ l.length ∧ l.length ≤ j + k ∧ vi = .int .i64 j ∧ vv = .string (bs v) ∧ v.length ≤ j ∧ unqGo k ((l.take (l.length - 1)).drop j) v = unqGo l.length ((l.take (l.length - 1)).drop 1) [] ∧ Frm [] w wr)
  case atStart => exact ⟨1, [], by omega, by omega, by omega, rfl, rfl, by simp, rfl, Frm.refl _ _⟩
  case round =>
    obtain ⟨j, v, hj1, hjl, hk, rfl, rfl, hvl, hgo, hfr⟩ := hrel
    have Hg := hide hgo
    have Hf := hide hfr
    clear hgo hfr hb0 hbn
    obtain ⟨m, rfl⟩ : ∃ m, gk = m + 1 := ⟨gk - 1, by omega⟩
    have dropC : ∀ i (h : i < l.length - 1), (l.take (l.length - 1)).drop i = l[i] :: (l.take (l.length - 1)).drop (i + 1) := by
      intro i h
      rw [List.drop_eq_getElem_cons (by simp; omega)]; simp
    have DC := hide dropC
    clear dropC
    by_cases hlt : j < l.length - 1
    · have hbg := Hall.out j (by omega)
      have Hd := hide (DC.out j hlt)
      generalize l[j] = c at *
      have hu := u8i c
      have hc34 : ((c.toNat : Int) == 34) = (c == 34) := toNat_beq c 34
      have hc92 : ((c.toNat : Int) == 92) = (c == 92) := toNat_beq c 92
      have hcv := conv_one wr c
      cases h34 : (c == 34)
      case true =>
        rw [h34] at hc34
        have Hx : Hid (unqR l = ([], false)) := Hnone.out (by rw [← Hg.out, Hd.out]; unfold unqGo; rw [h34]; rfl)
        go_wp2
        go_ret2
        rw [Hx.out]
        exact ⟨rfl, Hf.out⟩

      case false =>
      rw [h34] at hc34
      by_cases hlo : (c.toNat : Int) < 32
      · have hp : plainB c.toNat = false := by unfold plainB; simp; omega
        have Hx : Hid (unqR l = ([], false)) := Hnone.out (by rw [← Hg.out, Hd.out]; unfold unqGo; rw [h34, hp]; rfl)
        go_wp2
        go_ret2
        rw [Hx.out]
        exact ⟨rfl, Hf.out⟩

      by_cases hhi : 126 < (c.toNat : Int)
      · have hp : plainB c.toNat = false := by unfold plainB; simp; omega
        have Hx : Hid (unqR l = ([], false)) := Hnone.out (by rw [← Hg.out, Hd.out]; unfold unqGo; rw [h34, hp]; rfl)
        go_wp2
        go_ret2
        rw [Hx.out]
        exact ⟨rfl, Hf.out⟩

      have hp : plainB c.toNat = true := by unfold plainB; simp; omega
      cases h92 : (c == 92)
      case false =>
        rw [h92] at hc92
        have Hx2 : Hid (unqGo m ((l.take (l.length - 1)).drop (j + 1)) (v ++ [c]) = unqGo l.length ((l.take (l.length - 1)).drop 1) []) := by
          show _ = _; rw [← Hg.out, Hd.out]; conv => rhs; unfold unqGo
          rw [h34, hp, h92]; rfl
        clear hp
        go_wp2
        go_roundg m
        case measure => omega
        case rel => exact ⟨j + 1, v ++ [c], by omega, by omega, by omega, by go_num, rfl, by simp; omega, Hx2.out, Hf.out.alloc _⟩
      case true =>
      rw [h92] at hc92
      clear hcv
      by_cases hn1 : j + 1 < l.length - 1
      case neg =>
        have hnn : (l.take (l.length - 1)).drop (j + 1) = [] := List.drop_eq_nil_of_le (by simp; omega)
        have Hnn := hide hnn
        have hge : (l.length : Int) - 1 ≤ (j : Int) + 1 := by omega
        have Hp := hide hp
        clear hnn hp
        have Hx : Hid (unqR l = ([], false)) := Hnone.out (by rw [← Hg.out, Hd.out]; unfold unqGo; rw [h34, Hp.out, h92, Hnn.out]; rfl)
        go_wp2
        go_ret2
        rw [Hx.out]
        exact ⟨rfl, Hf.out⟩

      case pos =>
      have hbg1 := Hall.out (j + 1) (by omega)
      have Hd1 := hide (DC.out (j + 1) hn1)
      generalize l[j + 1] = d at *
      have hud := u8i d
      have hd120 : ((d.toNat : Int) == 120) = (d == 120) := toNat_beq d 120
      have hd34 : ((d.toNat : Int) == 34) = (d == 34) := toNat_beq d 34
      have hd92 : ((d.toNat : Int) == 92) = (d == 92) := toNat_beq d 92
      cases h120 : (d == 120)
      case false =>
        rw [h120] at hd120
        cases hq1 : (d == 34)
        · rw [hq1] at hd34
          have hd34' : ((d.toNat : Int) != 34) = true := by unfold bne; rw [hd34]; rfl
          cases hq2 : (d == 92)
          · rw [hq2] at hd92
            have hd92' : ((d.toNat : Int) != 92) = true := by unfold bne; rw [hd92]; rfl
            have Hp := hide hp
            clear hp
            have Hx : Hid (unqR l = ([], false)) := Hnone.out (by rw [← Hg.out, Hd.out]; unfold unqGo; rw [h34, Hp.out, h92, Hd1.out]; simp [h120, hq1, hq2])
            go_wp2
            go_ret2
            rw [Hx.out]
            exact ⟨rfl, Hf.out⟩

          · rw [hq2] at hd92
            have hd92' : ((d.toNat : Int) != 92) = false := by unfold bne; rw [hd92]; rfl
            have hcv := conv_one wr d
            have Hx2 : Hid (unqGo m ((l.take (l.length - 1)).drop (j + 2)) (v ++ [d]) = unqGo l.length ((l.take (l.length - 1)).drop 1) []) := by
              show _ = _; rw [← Hg.out, Hd.out, Hd1.out]; conv => rhs; unfold unqGo
              rw [h34, hp, h92]; simp [h120, hq1, hq2]
            clear hp
            go_wp2
            go_roundg m
            case measure => omega
            case rel => exact ⟨j + 2, v ++ [d], by omega, by omega, by omega, by go_num, rfl, by simp; omega, Hx2.out, Hf.out.alloc _⟩
        · rw [hq1] at hd34
          have hd34' : ((d.toNat : Int) != 34) = false := by unfold bne; rw [hd34]; rfl
          have hcv := conv_one wr d
          have Hx2 : Hid (unqGo m ((l.take (l.length - 1)).drop (j + 2)) (v ++ [d]) = unqGo l.length ((l.take (l.length - 1)).drop 1) []) := by
            show _ = _; rw [← Hg.out, Hd.out, Hd1.out]; conv => rhs; unfold unqGo
            rw [h34, hp, h92]; simp [h120, hq1]
          clear hp
          go_wp2
          go_roundg m
          case measure => omega
          case rel => exact ⟨j + 2, v ++ [d], by omega, by omega, by omega, by go_num, rfl, by simp; omega, Hx2.out, Hf.out.alloc _⟩
      case true =>
      rw [h120] at hd120
      clear hd34 hd92
      by_cases hn2 : j + 4 ≤ l.length - 1
      case neg =>
        have hnn : unqGo (m + 1) (c :: d :: (l.take (l.length - 1)).drop (j + 1 + 1)) v = none := by
          unfold unqGo; rw [h34, hp, h92]
          have hlen : ((l.take (l.length - 1)).drop (j + 1 + 1)).length ≤ 1 := by simp; omega
          match hm : (l.take (l.length - 1)).drop (j + 1 + 1) with
          | [] => simp [h120]
          | [a] => simp [h120]
          | a :: b :: r => rw [hm] at hlen; simp at hlen
        have hgt : (l.length : Int) - 1 < (j : Int) + 1 + 1 + 2 := by omega
        have Hnn := hide hnn
        clear hp hnn
        have Hx : Hid (unqR l = ([], false)) := Hnone.out (by rw [← Hg.out, Hd.out]; rw [Hd1.out]; exact Hnn.out)
        go_wp2
        go_ret2
        rw [Hx.out]
        exact ⟨rfl, Hf.out⟩

      case pos =>
      have hbg2 := Hall.out (j + 1 + 1) (by omega)
      have hbg3 := Hall.out (j + 1 + 1 + 1) (by omega)
      have Hd2 := hide (DC.out (j + 1 + 1) (by omega))
      have Hd3 := hide (DC.out (j + 1 + 1 + 1) (by omega))
      generalize l[j + 1 + 1] = x1 at *
      generalize l[j + 1 + 1 + 1] = x2 at *
      have hle : ¬ ((l.length : Int) - 1 < (j : Int) + 1 + 1 + 2) := by omega
      have b1 := hexV_lt x1
      have b2 := hexV_lt x2
      obtain ⟨b11, b12⟩ := b1
      obtain ⟨b21, b22⟩ := b2
      have Hun : Hid (unqGo l.length ((l.take (l.length - 1)).drop 1) [] = if decide (hexV x1 < 0) || decide (hexV x2 < 0) then none else unqGo m ((l.take (l.length - 1)).drop (j + 4)) (v ++ [UInt8.ofNat (16 * hexV x1 + hexV x2).toNat])) := by
        show _ = _; rw [← Hg.out, Hd.out, Hd1.out, Hd2.out, Hd3.out]; conv => lhs; unfold unqGo
        rw [h34, hp, h92]; simp [h120]
      clear hp
      go_wp2_with fail
      refine (digit_any x1 _).mono ?_
      rintro e w' ⟨rfl, rfl⟩
      go_wp2_with fail
      refine (digit_any x2 _).mono ?_
      rintro e w' ⟨rfl, rfl⟩
      generalize hexV x1 = v1 at *
      generalize hexV x2 = v2 at *
      by_cases hv1 : v1 < 0
      · have Hx : Hid (unqR l = ([], false)) := Hnone.out (by rw [Hun.out]; simp [hv1])
        go_wp2
        go_ret2
        rw [Hx.out]
        exact ⟨rfl, Hf.out⟩
      by_cases hv2 : v2 < 0
      · have Hx : Hid (unqR l = ([], false)) := Hnone.out (by rw [Hun.out]; simp [hv2])
        go_wp2
        go_ret2
        rw [Hx.out]
        exact ⟨rfl, Hf.out⟩
      have Hx2 : Hid (unqGo m ((l.take (l.length - 1)).drop (j + 4)) (v ++ [UInt8.ofNat (16 * v1 + v2).toNat]) = unqGo l.length ((l.take (l.length - 1)).drop 1) []) := by
        show _ = _; rw [Hun.out]; simp [hv1, hv2]
      have hby : ((UInt8.ofNat (16 * v1 + v2).toNat).toNat : Int) = 16 * v1 + v2 := by
        rw [UInt8.toNat_ofNat']; omega
      have hcv := conv_one wr (UInt8.ofNat (16 * v1 + v2).toNat)
      rw [hby] at hcv
      clear hby
      generalize UInt8.ofNat (16 * v1 + v2).toNat = by1 at *
      go_wp2
      go_roundg m
      case measure => omega
      case rel => exact ⟨j + 4, v ++ [by1], by omega, by omega, by omega, by go_num, rfl, by simp; omega, Hx2.out, Hf.out.alloc _⟩
    · have hje : j = l.length - 1 := by omega
      have Hx : Hid (unqR l = (v, decide (v.length ≤ 40))) := by
        show _ = _; rw [Hu2.out, ← Hg.out, List.drop_eq_nil_of_le (by simp; omega)]; rfl
      have hdd : decide ((v.length : Int) ≤ 40) = decide (v.length ≤ 40) := by
        rw [Bool.eq_iff_iff, decide_eq_true_iff, decide_eq_true_iff]; omega
      have Hdd := hide hdd
      clear hdd hje
      go_wp2
      go_ret2
      rw [Hx.out]
      exact ⟨ret2s rfl Hdd.out, Hf.out⟩

end Go.Proofs.YtjnaekffodgdcaaDoor
