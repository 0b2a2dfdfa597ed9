import Derived.Test.YtimjjlgpbkljoaaGreatK5
namespace Go.Proofs.YtimjjlgpbkljoaaGreat
open Go.RowKit
set_option linter.unusedVariables false
set_option linter.unusedSimpArgs false
set_option linter.unnecessarySimpa false

theorem cell_new_d (wr : World) (q : Nat) (v : Value) (t : TypeId) : ((wr.drewN q).alloc (Obj.cells #[v] t)).cell? ⟨wr.heap.size, 0, none⟩ = some v := by
  have h : ((wr.drewN q).alloc (Obj.cells #[v] t)).heap[wr.heap.size]? = some (Obj.cells #[v] t) := heap1 (wr.drewN q) _
  unfold World.cell?
  simp only [h]
  rfl
def kidB (C : List CR) (r j : Nat) : Bool := decide (r < j) && (par C j == some r)
theorem kids_eq (C : List CR) (r : Nat) : kids C r = (List.range C.length).filter (kidB C r) := rfl
theorem kids_start (C : List CR) (r : Nat) : (List.range (r + 1)).filter (kidB C r) = [] := by
  rw [List.filter_eq_nil_iff]
  intro j hj
  rw [List.mem_range] at hj
  simp [kidB]; omega
theorem kids_step (C : List CR) (r j : Nat) (h : r < j) : (List.range (j + 1)).filter (kidB C r) = (List.range j).filter (kidB C r) ++ (if (par C j == some r) = true then [j] else []) := by
  rw [List.range_succ, List.filter_append]
  congr 1
  cases hp : (par C j == some r) <;> simp [kidB, h, hp]
theorem parI_eq (C : List CR) (j r : Nat) : (parI C j == (r : Int)) = (par C j == some r) := by
  unfold parI
  cases par C j with
  | none => simp
  | some p => rw [Bool.eq_iff_iff]; simp; omega

set_option maxRecDepth 100000 in
set_option maxHeartbeats 4000000 in
theorem childrenOf_any (kb : Nat) (w : World) (V : V6) (U : V4) (hk : KR w kb V U) (C : List CR) (hrt : RTS [kb] w U.rt C) (hC : C.length ≤ 1000) (hd : ∀ c ∈ C, c.d ≤ 1048576) (r : Nat) (hr : r < C.length) :
    Calls Tryz.prog 33 #[.pointer (some ⟨kb, 0, none⟩), .int .i64 r] w fun e w' => ∃ v, e = .returned v ∧ Frm [] w w' ∧ OW 3 1 w.heap.size w' v (ic (kids C r)) := by
  obtain ⟨rt, xx, vq, vl⟩ := U
  have H := hide hk
  have HRT := hide hrt
  have HD := hide hd
  obtain ⟨art, capt, ert⟩ : ∃ a cap, rt = .slice a C.length cap := by
    obtain ⟨css, h1, h2⟩ := hrt
    obtain ⟨a, cap, e, _⟩ := row_at h1 h2
    exact ⟨a, cap, e⟩
  subst ert
  have hkl := hk.lt
  clear hk hrt hd
  go_enter Tryz.func33, Tryz.ntmps33
  go_wp2_with fail
  go_loopg [5, 6] (C.length - (r + 1)) (fun k v5 v6 wr => ∃ (j : Nat) (acc : List Nat), r < j ∧ j + k = C.length ∧ v6 = .int .i64 j ∧ Hid (acc = (List.range j).filter (kidB C r)) ∧ acc.length ≤ j ∧ Frm [] w wr ∧ OW 3 1 w.heap.size wr v5 (ic acc))
  case atStart => exact ⟨r + 1, [], by omega, by omega, by go_num, by show _ = _; exact (kids_start C r).symm, by simp, (Frm.refl _ _).alloc _, OW.empty _ _ _ _ (Nat.le_refl _)⟩
  case round =>
    obtain ⟨j, acc, hrj, hjk, rfl, HA, hal, hF, hO⟩ := hrel
    obtain ⟨ao, co, he⟩ := hO.shape
    rw [ic_len] at he
    subst he
    have F := hide hF
    have O := hide hO
    have hz := hF.size
    have c6 := (H.out.frm hF (by simp)).c 6
    simp at c6
    by_cases hlt : j < C.length
    · have hd1 : decide ((j : Int) < (C.length : Int)) = true := decide_eq_true (by omega)
      have N1 := hide (parentOf_any wr _ [kb] C (HRT.out.frm hF (by simp)) (by omega) HD.out j hlt)
      have hpe := parI_eq C j r
      have hst := kids_step C r j hrj
      clear hF hO
      generalize parI C j = pj at *
      cases hb : (par C j == some r)
      · have HA2 : Hid (acc = (List.range (j + 1)).filter (kidB C r)) := by show _ = _; rw [hst, hb, HA.out]; simp
        rw [hb] at hpe
        clear hst HA hb
        go_wp2_with fail
        refine (N1.out).mono ?_
        rintro e w2 ⟨rfl, qn, rfl⟩
        clear N1
        go_wp2
        go_roundg (gk - 1)
        case measure => omega
        case rel => exact ⟨j + 1, acc, by omega, by omega, by go_num, HA2, by omega, F.out.drewN _, O.out.frm ((Frm.refl [] _).drewN _) (by simp)⟩
      · have HA2 : Hid (acc ++ [j] = (List.range (j + 1)).filter (kidB C r)) := by show _ = _; rw [hst, hb, HA.out]; simp
        rw [hb] at hpe
        clear hst HA hb
        go_wp2_with fail
        refine (N1.out).mono ?_
        rintro e w2 ⟨rfl, qn, rfl⟩
        clear N1
        go_wp2_with (at_builtin; refine wp_appIc _ rfl _ _ rfl w.heap.size (.slice ao acc.length co) acc wr.heap.size j rfl (O.out.frm (S := []) (((Frm.refl [] _).drewN qn).alloc _) (by simp)) rfl (cell_new_d _ _ _ _) (by omega) (by simp; omega) ?_; intro g2 cap2 w3 hs3 hg3 hor3 hlt3; have O3 := hide hs3; have G3 := hide hg3; clear hs3 hg3 hor3)
        go_roundg (gk - 1)
        case measure => omega
        case rel => exact ⟨j + 1, acc ++ [j], by omega, by omega, by go_num, HA2, by simp; omega, ((F.out.drewN _).alloc _).grown G3.out (fun r hr => .inr (O.out.lt hr).1), O3.out⟩
    · have hd1 : decide ((j : Int) < (C.length : Int)) = false := decide_eq_false (by omega)
      have hj : j = C.length := by omega
      have HV : Hid (acc = kids C r) := by show _ = _; rw [HA.out, hj, kids_eq]
      clear HA hF hO
      go_wp2
      go_ret
      rw [← HV.out]
      exact ⟨_, rfl, F.out, O.out⟩
end Go.Proofs.YtimjjlgpbkljoaaGreat
