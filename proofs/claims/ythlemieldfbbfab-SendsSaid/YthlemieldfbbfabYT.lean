import Derived.Test.YthlemieldfbbfabY6
namespace Go.Proofs.Ythlemieldfbbfab
open Go.RowKit
set_option linter.unusedVariables false
set_option linter.unusedSimpArgs false
set_option linter.unnecessarySimpa false

set_option maxRecDepth 100000 in
set_option maxHeartbeats 2000000 in
theorem tight_any (w : World) (v : Value) (A : List Nat) (cs : List (Array Value)) (xs : List HitM) (h : RW A 5 w v (lst cs)) (hi : RowI hitT A w cs xs) (hlen : xs.length ≤ 1048576) (hx : ∀ x ∈ xs, x.bl.length ≤ 1000) :
    Calls Try.prog 17 #[v] w fun e w' => e = .returned (.bool true) ∧ ∃ q, w' = w.drewN q := by
  obtain ⟨a1, c1, rfl, r1⟩ := row_at h hi
  have R1 := hide r1
  have HX := hide hx
  clear h hi r1 hx
  go_enter Try.func17, Try.ntmps17
  go_wp2_with fail
  go_loopg [3] xs.length (fun k v3 wr => ∃ j q : Nat, j + k = xs.length ∧ v3 = .int .i64 j ∧ wr = w.drewN q)
  case atStart => exact ⟨0, 0, by omega, rfl, rfl⟩
  case round =>
    obtain ⟨j, q, hjk, rfl, hw⟩ := hrel
    subst hw
    by_cases hlt : j < xs.length
    · obtain ⟨g1, o1, s1, rfl, hg1, _, ⟨b1, rfl, rb1⟩, k1⟩ := R1.out j hlt
      have hd1 : decide ((j : Int) < (xs.length : Int)) = true := decide_eq_true (by omega)
      have hxl := HX.out _ (List.getElem_mem hlt)
      have p1 : w.cell? ⟨g1, o1 + j * 5 + 1, none⟩ = some (.slice (some ⟨b1, 0, none⟩) xs[j].bl.length xs[j].bl.length) := k1 1 _ rfl
      clear k1 rb1
      generalize xs[j].bl.length = n at *
      go_wp2_with fail
      go_quiet (fail)
      go_wp2
      go_roundg (gk - 1)
      case measure => omega
      case rel => exact ⟨j + 1, _, by omega, by go_num, rfl⟩
    · have hd1 : decide ((j : Int) < (xs.length : Int)) = false := decide_eq_false (by omega)
      go_wp2
      go_ret
      exact ⟨rfl, q, rfl⟩
end Go.Proofs.Ythlemieldfbbfab
