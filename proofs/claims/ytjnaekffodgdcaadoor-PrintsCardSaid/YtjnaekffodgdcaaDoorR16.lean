import Derived.Test.YtjnaekffodgdcaaDoorR11
import Derived.Test.YtjnaekffodgdcaaDoorR15
import Derived.Test.YtjnaekffodgdcaaDoorEC
namespace Go.Proofs.YtjnaekffodgdcaaDoor
open Go.RowKit
set_option linter.unusedVariables false
set_option linter.unusedSimpArgs false
set_option linter.unnecessarySimpa false

set_option maxRecDepth 100000 in
set_option maxHeartbeats 4000000 in
theorem printed_any (t : List UInt8) (w : World) (hT : Tab w) (ht : t.length ≤ 1048576) :
    Calls Tryd.prog 4 #[.string (bs t)] w fun e w' => e = .returned (.tuple #[.string (bs (pRes t).1), .bool true]) ∧ Frm [] w w' := by
  have HB := hide (both t ht)
  have HT := hide hT
  have htl := bs_toList
  have k0 : ({ data := #[] } : ByteArray).toList = [] := bs_toList _
  clear hT
  go_enter Tryd.func4, Tryd.ntmps4
  go_wp2_with fail
  refine (aPrint_any t w HT.out ht).mono ?_
  rintro e w1 ⟨rfl, hf1⟩
  have Hf1 := hide hf1
  clear hf1
  go_wp2_with fail
  refine (read_any t w1 ht).mono ?_
  rintro e w2 ⟨hp, hf2⟩
  have Hf2 := hide (Hf1.out.trans hf2)
  clear hf2
  have hb := HB.out
  generalize rRead t = rr at *
  generalize hpr : pRes t = pr at *
  have Hpr := hide hpr
  clear hpr
  cases rr with
  | error x =>
    obtain ⟨n, l⟩ := x
    obtain ⟨rfl, hn⟩ := hb
    obtain rfl := hp
    have hne : ((n : Int) == 0) = false := beq_eq_false_iff_ne.2 (by omega)
    have e1 : ((n : Int) == (n : Int)) = true := beq_self_eq_true _
    have e2 : ((l : Int) == (l : Int)) = true := beq_self_eq_true _
    have e3 : (([] : List UInt8) == []) = true := rfl
    clear HB
    go_wp2
    go_ret2
    rw [Hpr.out]
    exact ⟨rfl, Hf2.out⟩
  | ok x =>
    obtain ⟨L, R⟩ := x
    obtain ⟨rfl, hL1, hL2, hR, hRl⟩ := hb
    obtain ⟨cb, base, vr, vt, vl, X, rfl, hc, hr, hl, hx, rfl⟩ := hp
    have TX := hide (text_any cb base vr vt vl L X w2 hc hr hl hx (by omega) hL1 (by rw [List.length_map] at hRl; exact hRl) (fun x hx => hR _ (List.mem_map_of_mem hx)))
    clear HB hc hr hl hx hL1 hL2 hR hRl
    unfold PT at *
    generalize txR L (X.map (·.2.2)) = T at *
    have e3 : (T == T) = true := beq_self_eq_true _
    go_wp2_with fail
    refine TX.out.mono ?_
    rintro e w3 ⟨rfl, hf3⟩
    have Hf3 := hide (Hf2.out.trans hf3)
    clear hf3
    go_wp2
    go_ret2
    rw [Hpr.out]
    exact ⟨rfl, Hf3.out⟩

set_option maxRecDepth 100000 in
set_option maxHeartbeats 4000000 in
theorem prints_any (s : ByteArray) (w : World) (hT : Tab w) (hs : s.size ≤ 9223372036854775807) :
    Calls Tryd.prog 3 #[.string s] w fun e w' => e = .returned (.bool true) ∧ Frm [] w w' := by
  have HT := hide hT
  clear hT
  go_enter Tryd.func3, Tryd.ntmps3
  by_cases hl : 16384 < s.size
  · go_wp2
    go_ret
    exact ⟨rfl, Frm.refl _ _⟩
  · have hl' : s.size ≤ 16384 := by omega
    obtain ⟨t, rfl⟩ : ∃ t, s = bs t := ⟨s.data.toList, (bs_of s).symm⟩
    rw [bs_size] at hl' hl
    have hsz := bs_size
    go_wp2_with fail
    refine (printed_any t w HT.out (by omega)).mono ?_
    rintro e w1 ⟨rfl, hf⟩
    have Hf := hide hf
    clear hf
    go_wp2
    go_ret
    exact ⟨rfl, Hf.out⟩

end Go.Proofs.YtjnaekffodgdcaaDoor
