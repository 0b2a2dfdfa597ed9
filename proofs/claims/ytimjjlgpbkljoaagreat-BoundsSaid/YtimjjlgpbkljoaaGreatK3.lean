import Derived.Test.YtimjjlgpbkljoaaGreatK2
namespace Go.Proofs.YtimjjlgpbkljoaaGreat
open Go.RowKit
set_option linter.unusedVariables false
set_option linter.unusedSimpArgs false
set_option linter.unnecessarySimpa false

set_option maxRecDepth 100000 in
set_option maxHeartbeats 1000000 in
theorem find_any (w : World) (v : Value) (A : List Nat) (L : List (List UInt8)) (x : List UInt8) (h : RW A 1 w v (sc L)) (hL : L.length ≤ 1048576) :
    Calls Tryz.prog 30 #[v, .string (bs x)] w fun e w' => e = .returned (.int .i64 (fdx L x : Nat)) ∧ w = w' := by
  obtain ⟨a, c, rfl, r⟩ := h.str
  have R := hide r
  have hl := bs_toList
  clear h r
  go_enter Tryz.func30, Tryz.ntmps30
  go_wp2_with fail
  go_loopg [9] L.length (fun k v9 wr => ∃ j : Nat, j + k = L.length ∧ v9 = .int .i64 j ∧ wr = w ∧ Hid (∀ i (hi : i < j) (hl : i < L.length), (L[i] == x) = false))
  case atStart => exact ⟨0, by omega, rfl, rfl, fun i hi => by omega⟩
  case round =>
    obtain ⟨j, hjk, rfl, hw, HF⟩ := hrel
    subst hw
    by_cases hlt : j < L.length
    · have hd1 : decide ((j : Int) < (L.length : Int)) = true := decide_eq_true (by omega)
      obtain ⟨g, off, rfl, hg, k1⟩ := R.out j hlt
      cases he : (L[j] == x)
      · have HF2 : Hid (∀ i (hi : i < j + 1) (hl : i < L.length), (L[i] == x) = false) := fun i hi hil => by
          by_cases e : i = j
          · subst e; exact he
          · exact HF.out i (by omega) hil
        generalize L[j] = s at *
        clear HF
        go_wp2
        go_roundg (gk - 1)
        case measure => omega
        case rel => exact ⟨j + 1, by omega, by go_num, rfl, HF2⟩
      · have HV : Hid (fdx L x = j) := fdx_at hlt (fun i hi => HF.out i hi (by omega)) he
        generalize L[j] = s at *
        clear HF
        go_wp2
        go_ret
        rw [HV.out]
        exact ⟨rfl, rfl⟩
    · have hd1 : decide ((j : Int) < (L.length : Int)) = false := decide_eq_false (by omega)
      have HV : Hid (fdx L x = L.length) := fdx_none (fun i hi => HF.out i (by omega) hi)
      clear HF
      go_wp2
      go_ret
      rw [HV.out]
      exact ⟨rfl, rfl⟩

/-- The cells of a route. -/
def rcl (c : CR) (vby vif : Value) : Array Value := #[.int .i64 (c.d : Nat), .string (bs c.rc), .bool c.tb, vby, .int .i64 c.wt, .int .i64 c.ev, .int .i64 c.rp, vif, .bool c.co]
def mtc (L : List CM) : List (List Value) := L.map mcells
def rtI : Inn CR where
  rel A w cs c := ∃ vby vif, cs = rcl c vby vif ∧ RW A 1 w vby (sc c.bys) ∧ RW A 3 w vif (mtc c.ifs)
  frm := by
    rintro A S w w' cs x ⟨v1, v2, h1, h2, h3⟩ f hS
    exact ⟨v1, v2, h1, h2.frm f hS, h3.frm f hS⟩
  avoid := by
    rintro A B w cs x ⟨v1, v2, h1, h2, h3⟩ hB
    exact ⟨v1, v2, h1, h2.avoid hB, h3.avoid hB⟩
/-- A configuration's routes that are read. -/
def RTS (A : List Nat) (w : World) (v : Value) (C : List CR) : Prop := ∃ css, RW A 9 w v (lst css) ∧ RowI rtI A w css C
theorem RTS.frm {A S : List Nat} {w w' : World} {v : Value} {C : List CR} (h : RTS A w v C) (f : Frm S w w') (hS : ∀ g ∈ S, g ∈ A) : RTS A w' v C := by
  obtain ⟨css, h1, h2⟩ := h
  exact ⟨css, h1.frm f hS, h2.frm f hS⟩
def parI (C : List CR) (i : Nat) : Int := match par C i with | some p => (p : Int) | none => -1

set_option maxRecDepth 100000 in
set_option maxHeartbeats 1000000 in
theorem parentOf_any (w : World) (v : Value) (A : List Nat) (C : List CR) (h : RTS A w v C) (hC : C.length ≤ 1048576) (hd : ∀ c ∈ C, c.d ≤ 1048576) (i : Nat) (hi : i < C.length) :
    Calls Tryz.prog 23 #[v, .int .i64 i] w fun e w' => e = .returned (.int .i64 (parI C i)) ∧ ∃ q, w' = w.drewN q := by
  obtain ⟨css, h1, h2⟩ := h
  obtain ⟨a, cp, rfl, r⟩ := row_at h1 h2
  obtain ⟨g, off, cs, rfl, hg, _, ⟨vby, vif, rfl, _⟩, k1⟩ := r i hi
  have p0 : w.cell? ⟨g, off + i * 9, none⟩ = some (.int .i64 (C[i].d : Nat)) := k1 0 _ rfl
  have HP : Hid (parI C i = match parGo C C[i].d i with | some p => (p : Int) | none => -1) := by
    show _ = _; unfold parI par; rw [List.getElem?_eq_getElem hi]
  have hdi := hd C[i] (List.getElem_mem hi)
  have R := hide r
  have HD := hide hd
  have hd0 : decide ((i : Int) < 0) = false := decide_eq_false (by omega)
  have hd0' : decide ((C.length : Int) ≤ (i : Int)) = false := decide_eq_false (by omega)
  generalize hdd : C[i].d = dd at *
  clear h1 h2 r k1 hdd hd
  go_enter Tryz.func23, Tryz.ntmps23
  go_wp2_with fail
  go_loopg [5] i (fun k v5 wr => ∃ (j q : Nat) (x : Int), j ≤ i ∧ k = j ∧ v5 = .int .i64 x ∧ x = (j : Int) - 1 ∧ wr = w.drewN q ∧ Hid (parGo C dd j = parGo C dd i))
  case atStart => exact ⟨i, 0, _, by omega, rfl, rfl, by omega, rfl, by show _ = _; rfl⟩
  case round =>
    obtain ⟨j, q, x, hji, rfl, rfl, hx, hw, HF⟩ := hrel
    subst hw
    rcases gk with _ | n
    · obtain rfl : x = -1 := by omega
      clear hx
      have HV : Hid (parI C i = -1) := by show _ = _; rw [HP.out, ← HF.out]; rfl
      clear HF HP
      go_wp2
      go_ret
      rw [HV.out]
      exact ⟨rfl, q, rfl⟩
    · obtain rfl : x = (n : Int) := by omega
      clear hx
      obtain ⟨g', off', cs, e, _, _, ⟨vby, vif, rfl, _⟩, k1⟩ := R.out n (by omega)
      simp only [Option.some.injEq, Addr.mk.injEq, and_true] at e
      obtain ⟨rfl, rfl⟩ := e
      have q0 : w.cell? ⟨g, off + n * 9, none⟩ = some (.int .i64 (C[n].d : Nat)) := k1 0 _ rfl
      have hdn := HD.out C[n] (List.getElem_mem _)
      have hgo : parGo C dd (n + 1) = if C[n].d + 1 = dd then some n else parGo C dd n := by
        rw [parGo, List.getElem?_eq_getElem (by omega)]; simp
      generalize C[n].d = dn at *
      by_cases he : dn + 1 = dd
      · have HV : Hid (parI C i = (n : Int)) := by
          show _ = _; rw [HP.out, ← HF.out, hgo, if_pos he]
        have hb : ((dn : Int) == (dd : Int) - 1) = true := by simp; omega
        have hb' : decide ((dn : Int) = (dd : Int) - 1) = true := decide_eq_true (by omega)
        clear HF HP hgo k1
        go_wp2_with fail
        go_quiet (fail)
        go_wp2
        go_ret
        rw [HV.out]
        exact ⟨rfl, _, drewN_two _ _ _⟩
      · have HF2 : Hid (parGo C dd n = parGo C dd i) := by
          show _ = _; rw [← HF.out, hgo, if_neg he]
        have hb : ((dn : Int) == (dd : Int) - 1) = false := by simp; omega
        have hb' : decide ((dn : Int) = (dd : Int) - 1) = false := decide_eq_false (by omega)
        clear HF hgo k1
        go_wp2_with fail
        go_quiet (fail)
        go_wp2
        go_roundg n
        case measure => omega
        case rel => exact ⟨n, _, _, by omega, rfl, rfl, by omega, rfl, HF2⟩

set_option maxRecDepth 100000 in
theorem toldOr_any (w : World) (x : Int) (y : Nat) (hx : -1 ≤ x) :
    Calls Tryz.prog 32 #[.int .i64 x, .int .i64 y] w fun e w' => e = .returned (.int .i64 (tld x y : Nat)) ∧ w = w' := by
  by_cases h : x = -1
  · subst h
    go_enter Tryz.func32, Tryz.ntmps32
    go_wp2
    go_ret
    exact ⟨rfl, rfl⟩
  · have HV : Hid (((tld x y : Nat) : Int) = x) := by show _ = _; unfold tld; rw [if_neg h]; omega
    have hb : (x == -1) = false := by simp [h]
    go_enter Tryz.func32, Tryz.ntmps32
    go_wp2
    go_ret
    rw [HV.out]
    exact ⟨rfl, rfl⟩
end Go.Proofs.YtimjjlgpbkljoaaGreat
