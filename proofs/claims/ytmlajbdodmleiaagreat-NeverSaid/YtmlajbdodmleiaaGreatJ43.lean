import Derived.Test.YtmlajbdodmleiaaGreatJ20
import Derived.Test.YtmlajbdodmleiaaGreatJ42
import Derived.Test.YtmlajbdodmleiaaGreatJ22
set_option linter.unusedVariables false
set_option linter.unusedSimpArgs false
set_option linter.unnecessarySimpa false
namespace Go.Proofs.YtmlajbdodmleiaaGreat
open Go.RowKit

def knT0 : List UInt8 := [114, 101, 99, 101, 105, 118, 101, 114, 115, 32, 114, 32, 97, 32, 98, 32, 99, 32, 100, 10, 114, 111, 117, 116, 101, 32, 114, 10, 32, 114, 111, 117, 116, 101, 32, 97, 32, 105, 102, 32, 120, 61, 34, 49, 34, 10, 32, 32, 114, 111, 117, 116, 101, 32, 98, 32, 105, 102, 32, 121, 61, 34, 49, 34, 32, 99, 111, 110, 116, 105, 110, 117, 101, 10, 32, 32, 114, 111, 117, 116, 101, 32, 99, 32, 105, 102, 32, 121, 61, 126, 34, 49, 124, 50, 34, 10, 32, 114, 111, 117, 116, 101, 32, 100, 32, 105, 102, 32, 120, 33, 61, 34, 34, 32, 99, 111, 110, 116, 105, 110, 117, 101, 10, 32, 114, 111, 117, 116, 101, 32, 45, 32, 119, 97, 105, 116, 32, 49, 32, 105, 102, 32, 120, 61, 126, 34, 91, 49, 51, 93, 34, 10]
def knT1 : List UInt8 := [114, 101, 99, 101, 105, 118, 101, 114, 115, 32, 114, 32, 97, 10, 114, 111, 117, 116, 101, 32, 114, 32, 98, 121, 32, 108, 32, 119, 97, 105, 116, 32, 49, 10, 32, 114, 111, 117, 116, 101, 32, 45, 32, 119, 97, 105, 116, 32, 50, 10, 32, 32, 114, 111, 117, 116, 101, 32, 97, 32, 98, 121, 32, 45, 32, 101, 118, 101, 114, 121, 32, 51, 10, 32, 32, 32, 114, 111, 117, 116, 101, 32, 45, 32, 114, 101, 112, 101, 97, 116, 32, 52, 32, 105, 102, 32, 107, 61, 34, 34, 10]
def knT2 : List UInt8 := [114, 101, 99, 101, 105, 118, 101, 114, 115, 32, 114, 32, 97, 10, 114, 111, 117, 116, 101, 32, 114, 32, 98, 121, 32, 108, 10, 32, 114, 111, 117, 116, 101, 32, 97, 32, 105, 102, 32, 115, 61, 126, 34, 40, 97, 124, 98, 41, 42, 97, 98, 98, 34, 10]
def knT3 : List UInt8 := [114, 101, 99, 101, 105, 118, 101, 114, 115, 32, 114, 32, 97, 10, 114, 111, 117, 116, 101, 32, 114, 10, 32, 114, 111, 117, 116, 101, 32, 97, 32, 105, 102, 32, 115, 61, 126, 34, 92, 92, 46, 91, 94, 120, 45, 122, 93, 123, 50, 44, 51, 125, 92, 120, 48, 48, 63, 34, 10]
def knT4 : List UInt8 := [114, 101, 99, 101, 105, 118, 101, 114, 115, 32, 114, 32, 97, 10, 114, 111, 117, 116, 101, 32, 114, 10, 32, 114, 111, 117, 116, 101, 32, 97, 32, 105, 102, 32, 115, 61, 126, 34, 46, 46, 34, 10]
def knT5 : List UInt8 := [114, 101, 99, 101, 105, 118, 101, 114, 115, 32, 114, 32, 97, 32, 98, 10, 114, 111, 117, 116, 101, 32, 114, 10, 32, 114, 111, 117, 116, 101, 32, 45, 10, 32, 32, 114, 111, 117, 116, 101, 32, 45, 10, 32, 32, 32, 114, 111, 117, 116, 101, 32, 97, 10, 32, 32, 32, 114, 111, 117, 116, 101, 32, 98, 10, 32, 32, 114, 111, 117, 116, 101, 32, 98, 10]
def knT6 : List UInt8 := [114, 101, 99, 101, 105, 118, 101, 114, 115, 32, 114, 32, 97, 32, 98, 10, 114, 111, 117, 116, 101, 32, 114, 10, 32, 114, 111, 117, 116, 101, 32, 45, 10, 32, 32, 114, 111, 117, 116, 101, 32, 45, 32, 99, 111, 110, 116, 105, 110, 117, 101, 10, 32, 32, 32, 114, 111, 117, 116, 101, 32, 97, 32, 99, 111, 110, 116, 105, 110, 117, 101, 10, 32, 32, 32, 32, 114, 111, 117, 116, 101, 32, 45, 10, 32, 32, 32, 114, 111, 117, 116, 101, 32, 98, 10, 32, 32, 114, 111, 117, 116, 101, 32, 98, 10]
def knT7 : List UInt8 := [114, 101, 99, 101, 105, 118, 101, 114, 115, 32, 114, 32, 97, 10, 114, 111, 117, 116, 101, 32, 114, 10, 32, 114, 111, 117, 116, 101, 32, 97, 32, 105, 102, 32, 115, 33, 126, 34, 34, 32, 105, 102, 32, 115, 33, 61, 34, 113, 34, 10]
def knD : List (List UInt8 × List LBL × List UInt8) := [
  (knT0, [], [114, 32, 51, 48, 32, 51, 48, 48, 32, 49, 52, 52, 48, 48, 59]),
  (knT0, [([120], [49])], [97, 32, 51, 48, 32, 51, 48, 48, 32, 49, 52, 52, 48, 48, 59]),
  (knT0, [([120], [49]), ([121], [49])], [98, 32, 51, 48, 32, 51, 48, 48, 32, 49, 52, 52, 48, 48, 59, 99, 32, 51, 48, 32, 51, 48, 48, 32, 49, 52, 52, 48, 48, 59]),
  (knT0, [([121], [50]), ([120], [49])], [99, 32, 51, 48, 32, 51, 48, 48, 32, 49, 52, 52, 48, 48, 59]),
  (knT0, [([120], [50])], [100, 32, 51, 48, 32, 51, 48, 48, 32, 49, 52, 52, 48, 48, 59]),
  (knT0, [([120], [51])], [100, 32, 51, 48, 32, 51, 48, 48, 32, 49, 52, 52, 48, 48, 59, 114, 32, 49, 32, 51, 48, 48, 32, 49, 52, 52, 48, 48, 59]),
  (knT0, [([121], [49])], [114, 32, 51, 48, 32, 51, 48, 48, 32, 49, 52, 52, 48, 48, 59]),
  (knT1, [], [97, 32, 50, 32, 51, 32, 52, 59]),
  (knT1, [([107], [118])], [97, 32, 50, 32, 51, 32, 49, 52, 52, 48, 48, 59]),
  (knT2, [([115], [97, 98, 97, 98, 98])], [97, 32, 108, 32, 51, 48, 32, 51, 48, 48, 32, 49, 52, 52, 48, 48, 59]),
  (knT2, [([115], [97, 98, 98, 97])], [114, 32, 108, 32, 51, 48, 32, 51, 48, 48, 32, 49, 52, 52, 48, 48, 59]),
  (knT3, [([115], [46, 97, 98, 0])], [97, 32, 51, 48, 32, 51, 48, 48, 32, 49, 52, 52, 48, 48, 59]),
  (knT4, [([115], [10, 255])], [97, 32, 51, 48, 32, 51, 48, 48, 32, 49, 52, 52, 48, 48, 59]),
  (knT5, [], [97, 32, 51, 48, 32, 51, 48, 48, 32, 49, 52, 52, 48, 48, 59]),
  (knT6, [], [97, 32, 51, 48, 32, 51, 48, 48, 32, 49, 52, 52, 48, 48, 59, 98, 32, 51, 48, 32, 51, 48, 48, 32, 49, 52, 52, 48, 48, 59, 98, 32, 51, 48, 32, 51, 48, 48, 32, 49, 52, 52, 48, 48, 59]),
  (knT7, [([115], [113])], [114, 32, 51, 48, 32, 51, 48, 48, 32, 49, 52, 52, 48, 48, 59])]
theorem allocs_at : ∀ (os : List Obj) (w : World) (i : Nat) (o : Obj), os[i]? = some o → (os.foldl World.alloc w).heap[w.heap.size + i]? = some o
  | [], _, i, o, h => by simp at h
  | x :: r, w, 0, o, h => by
    simp only [List.getElem?_cons_zero, Option.some.injEq] at h
    subst h
    have keep : ∀ (os : List Obj) (w : World) (k : Nat) (o : Obj), w.heap[k]? = some o → (os.foldl World.alloc w).heap[k]? = some o := by
      intro os
      induction os with
      | nil => intro w k o h; exact h
      | cons y s ih =>
        intro w k o h
        refine ih _ k o ?_
        rw [((Frm.refl [] w).alloc y).block k (Array.getElem?_eq_some_iff.1 h).1 (by simp)]
        exact h
    exact keep r _ _ _ (heap_alloc_new w x)
  | x :: r, w, i + 1, o, h => by
    have := allocs_at r (w.alloc x) i o (by simpa using h)
    rw [show (w.alloc x).heap.size = w.heap.size + 1 by simp] at this
    rw [show w.heap.size + (i + 1) = w.heap.size + 1 + i by omega]
    exact this
theorem allocs_frm : ∀ (os : List Obj) (w : World), Frm [] w (os.foldl World.alloc w)
  | [], w => Frm.refl _ _
  | x :: r, w => ((Frm.refl [] w).alloc x).trans (allocs_frm r (w.alloc x))
def KN (w : World) (g : Nat) : Prop := ∀ k x, knD[k]? = some x → ∃ a cap, w.cell? ⟨g, k * 3, none⟩ = some (.string (bs x.1)) ∧ w.cell? ⟨g, k * 3 + 1, none⟩ = some (.slice a x.2.1.length cap) ∧ LR w (.slice a x.2.1.length cap) x.2.1 ∧ x.2.1.length ≤ cap ∧ w.cell? ⟨g, k * 3 + 2, none⟩ = some (.string (bs x.2.2))

def knOs (b : Nat) : List Obj := [
  .cells #[.string (bs [120]), .string (bs [49])] 37,
  .cells #[.string (bs [120]), .string (bs [49]), .string (bs [121]), .string (bs [49])] 37,
  .cells #[.string (bs [121]), .string (bs [50]), .string (bs [120]), .string (bs [49])] 37,
  .cells #[.string (bs [120]), .string (bs [50])] 37,
  .cells #[.string (bs [120]), .string (bs [51])] 37,
  .cells #[.string (bs [121]), .string (bs [49])] 37,
  .cells #[.string (bs [107]), .string (bs [118])] 37,
  .cells #[.string (bs [115]), .string (bs [97, 98, 97, 98, 98])] 37,
  .cells #[.string (bs [115]), .string (bs [97, 98, 98, 97])] 37,
  .cells #[.string (bs [115]), .string (bs [46, 97, 98, 0])] 37,
  .cells #[.string (bs [115]), .string (bs [10, 255])] 37,
  .cells #[.string (bs [115]), .string (bs [113])] 37,
  .cells #[.string (bs knT0), .slice none 0 0, .string (bs [114, 32, 51, 48, 32, 51, 48, 48, 32, 49, 52, 52, 48, 48, 59]),
    .string (bs knT0), .slice (some ⟨b + 0, 0, none⟩) 1 1, .string (bs [97, 32, 51, 48, 32, 51, 48, 48, 32, 49, 52, 52, 48, 48, 59]),
    .string (bs knT0), .slice (some ⟨b + 1, 0, none⟩) 2 2, .string (bs [98, 32, 51, 48, 32, 51, 48, 48, 32, 49, 52, 52, 48, 48, 59, 99, 32, 51, 48, 32, 51, 48, 48, 32, 49, 52, 52, 48, 48, 59]),
    .string (bs knT0), .slice (some ⟨b + 2, 0, none⟩) 2 2, .string (bs [99, 32, 51, 48, 32, 51, 48, 48, 32, 49, 52, 52, 48, 48, 59]),
    .string (bs knT0), .slice (some ⟨b + 3, 0, none⟩) 1 1, .string (bs [100, 32, 51, 48, 32, 51, 48, 48, 32, 49, 52, 52, 48, 48, 59]),
    .string (bs knT0), .slice (some ⟨b + 4, 0, none⟩) 1 1, .string (bs [100, 32, 51, 48, 32, 51, 48, 48, 32, 49, 52, 52, 48, 48, 59, 114, 32, 49, 32, 51, 48, 48, 32, 49, 52, 52, 48, 48, 59]),
    .string (bs knT0), .slice (some ⟨b + 5, 0, none⟩) 1 1, .string (bs [114, 32, 51, 48, 32, 51, 48, 48, 32, 49, 52, 52, 48, 48, 59]),
    .string (bs knT1), .slice none 0 0, .string (bs [97, 32, 50, 32, 51, 32, 52, 59]),
    .string (bs knT1), .slice (some ⟨b + 6, 0, none⟩) 1 1, .string (bs [97, 32, 50, 32, 51, 32, 49, 52, 52, 48, 48, 59]),
    .string (bs knT2), .slice (some ⟨b + 7, 0, none⟩) 1 1, .string (bs [97, 32, 108, 32, 51, 48, 32, 51, 48, 48, 32, 49, 52, 52, 48, 48, 59]),
    .string (bs knT2), .slice (some ⟨b + 8, 0, none⟩) 1 1, .string (bs [114, 32, 108, 32, 51, 48, 32, 51, 48, 48, 32, 49, 52, 52, 48, 48, 59]),
    .string (bs knT3), .slice (some ⟨b + 9, 0, none⟩) 1 1, .string (bs [97, 32, 51, 48, 32, 51, 48, 48, 32, 49, 52, 52, 48, 48, 59]),
    .string (bs knT4), .slice (some ⟨b + 10, 0, none⟩) 1 1, .string (bs [97, 32, 51, 48, 32, 51, 48, 48, 32, 49, 52, 52, 48, 48, 59]),
    .string (bs knT5), .slice none 0 0, .string (bs [97, 32, 51, 48, 32, 51, 48, 48, 32, 49, 52, 52, 48, 48, 59]),
    .string (bs knT6), .slice none 0 0, .string (bs [97, 32, 51, 48, 32, 51, 48, 48, 32, 49, 52, 52, 48, 48, 59, 98, 32, 51, 48, 32, 51, 48, 48, 32, 49, 52, 52, 48, 48, 59, 98, 32, 51, 48, 32, 51, 48, 48, 32, 49, 52, 52, 48, 48, 59]),
    .string (bs knT7), .slice (some ⟨b + 11, 0, none⟩) 1 1, .string (bs [114, 32, 51, 48, 32, 51, 48, 48, 32, 49, 52, 52, 48, 48, 59])] 45]
set_option maxRecDepth 100000 in
set_option maxHeartbeats 8000000 in
theorem knowns_raw (w : World) :
    Calls Tryz.prog 17 #[] w fun e w' => w' = (knOs w.heap.size).foldl World.alloc w ∧ e = .returned (.slice (some ⟨w.heap.size + 12, 0, none⟩) 16 16) := by
  go_enter Tryz.func17, Tryz.ntmps17
  go_wp2
  go_ret
  exact ⟨rfl, rfl⟩

theorem kn_lr {w : World} {b : Nat} {L : List LBL} {ty : TypeId} (h : w.heap[b]? = some (.cells (L.flatMap fun x => [.string (bs x.1), .string (bs x.2)]).toArray ty (0, 0))) (hL : L.length ≤ 1048576) : LR w (.slice (some ⟨b, 0, none⟩) L.length L.length) L := by
  refine ⟨_, L.length, rfl, hL, fun j hj => ⟨b, 0, rfl, (Array.getElem?_eq_some_iff.1 h).1, ?_, ?_⟩⟩
  · have : ∀ (L : List LBL) (j : Nat) (hj : j < L.length), (L.flatMap fun x => [Value.string (bs x.1), .string (bs x.2)])[j * 2]? = some (.string (bs L[j].1)) := by
      intro L
      induction L with
      | nil => intro j hj; simp at hj
      | cons x r ih =>
        intro j hj
        cases j with
        | zero => rfl
        | succ j =>
          rw [show (j + 1) * 2 = j * 2 + 1 + 1 by omega]
          simpa using ih j (by simpa using hj)
    simp [World.cell?, h, this L j hj]
  · have : ∀ (L : List LBL) (j : Nat) (hj : j < L.length), (L.flatMap fun x => [Value.string (bs x.1), .string (bs x.2)])[j * 2 + 1]? = some (.string (bs L[j].2)) := by
      intro L
      induction L with
      | nil => intro j hj; simp at hj
      | cons x r ih =>
        intro j hj
        cases j with
        | zero => rfl
        | succ j =>
          rw [show (j + 1) * 2 + 1 = (j * 2 + 1) + 1 + 1 by omega]
          simpa using ih j (by simpa using hj)
    simp [World.cell?, h, this L j hj]
theorem knowns_any (w : World) :
    Calls Tryz.prog 17 #[] w fun e w' => Frm [] w w' ∧ ∃ g, e = .returned (.slice (some ⟨g, 0, none⟩) 16 16) ∧ g < w'.heap.size ∧ KN w' g := by
  refine (knowns_raw w).mono ?_
  rintro e w' ⟨rfl, rfl⟩
  have at' := fun i o h => allocs_at (knOs w.heap.size) w i o h
  refine ⟨allocs_frm _ _, _, rfl, ?_, ?_⟩
  · exact (Array.getElem?_eq_some_iff.1 (at' 12 _ rfl)).1
  · have hB := at' 12 _ rfl
    have h0 := at' 0 _ rfl
    have h1 := at' 1 _ rfl
    have h2 := at' 2 _ rfl
    have h3 := at' 3 _ rfl
    have h4 := at' 4 _ rfl
    have h5 := at' 5 _ rfl
    have h6 := at' 6 _ rfl
    have h7 := at' 7 _ rfl
    have h8 := at' 8 _ rfl
    have h9 := at' 9 _ rfl
    have h10 := at' 10 _ rfl
    have h11 := at' 11 _ rfl
    generalize (knOs w.heap.size).foldl World.alloc w = W at *
    intro k x hk
    match k, hk with
    | 0, hk => cases hk; exact ⟨none, 0, by simp [World.cell?, hB], by simp [World.cell?, hB], ⟨none, 0, rfl, by simp, fun j hj => absurd hj (by simp)⟩, Nat.le_refl _, by simp [World.cell?, hB]⟩
    | 1, hk => cases hk; exact ⟨_, 1, by simp [World.cell?, hB], by simp [World.cell?, hB], kn_lr h0 (by simp), Nat.le_refl _, by simp [World.cell?, hB]⟩
    | 2, hk => cases hk; exact ⟨_, 2, by simp [World.cell?, hB], by simp [World.cell?, hB], kn_lr h1 (by simp), Nat.le_refl _, by simp [World.cell?, hB]⟩
    | 3, hk => cases hk; exact ⟨_, 2, by simp [World.cell?, hB], by simp [World.cell?, hB], kn_lr h2 (by simp), Nat.le_refl _, by simp [World.cell?, hB]⟩
    | 4, hk => cases hk; exact ⟨_, 1, by simp [World.cell?, hB], by simp [World.cell?, hB], kn_lr h3 (by simp), Nat.le_refl _, by simp [World.cell?, hB]⟩
    | 5, hk => cases hk; exact ⟨_, 1, by simp [World.cell?, hB], by simp [World.cell?, hB], kn_lr h4 (by simp), Nat.le_refl _, by simp [World.cell?, hB]⟩
    | 6, hk => cases hk; exact ⟨_, 1, by simp [World.cell?, hB], by simp [World.cell?, hB], kn_lr h5 (by simp), Nat.le_refl _, by simp [World.cell?, hB]⟩
    | 7, hk => cases hk; exact ⟨none, 0, by simp [World.cell?, hB], by simp [World.cell?, hB], ⟨none, 0, rfl, by simp, fun j hj => absurd hj (by simp)⟩, Nat.le_refl _, by simp [World.cell?, hB]⟩
    | 8, hk => cases hk; exact ⟨_, 1, by simp [World.cell?, hB], by simp [World.cell?, hB], kn_lr h6 (by simp), Nat.le_refl _, by simp [World.cell?, hB]⟩
    | 9, hk => cases hk; exact ⟨_, 1, by simp [World.cell?, hB], by simp [World.cell?, hB], kn_lr h7 (by simp), Nat.le_refl _, by simp [World.cell?, hB]⟩
    | 10, hk => cases hk; exact ⟨_, 1, by simp [World.cell?, hB], by simp [World.cell?, hB], kn_lr h8 (by simp), Nat.le_refl _, by simp [World.cell?, hB]⟩
    | 11, hk => cases hk; exact ⟨_, 1, by simp [World.cell?, hB], by simp [World.cell?, hB], kn_lr h9 (by simp), Nat.le_refl _, by simp [World.cell?, hB]⟩
    | 12, hk => cases hk; exact ⟨_, 1, by simp [World.cell?, hB], by simp [World.cell?, hB], kn_lr h10 (by simp), Nat.le_refl _, by simp [World.cell?, hB]⟩
    | 13, hk => cases hk; exact ⟨none, 0, by simp [World.cell?, hB], by simp [World.cell?, hB], ⟨none, 0, rfl, by simp, fun j hj => absurd hj (by simp)⟩, Nat.le_refl _, by simp [World.cell?, hB]⟩
    | 14, hk => cases hk; exact ⟨none, 0, by simp [World.cell?, hB], by simp [World.cell?, hB], ⟨none, 0, rfl, by simp, fun j hj => absurd hj (by simp)⟩, Nat.le_refl _, by simp [World.cell?, hB]⟩
    | 15, hk => cases hk; exact ⟨_, 1, by simp [World.cell?, hB], by simp [World.cell?, hB], kn_lr h11 (by simp), Nat.le_refl _, by simp [World.cell?, hB]⟩
    | k + 16, hk => simp [knD] at hk
end Go.Proofs.YtmlajbdodmleiaaGreat

namespace Go.Proofs.YtmlajbdodmleiaaGreat
open Go.RowKit

def szL : Nat → List LBL → Nat
  | n, [] => n
  | n, x :: r => if n ≤ 16384 then szL (n + x.1.length + x.2.length) r else n
theorem szL_le : ∀ (L : List LBL) (n : Nat), n ≤ szL n L
  | [], n => Nat.le_refl _
  | x :: r, n => by
    unfold szL
    split
    · have := szL_le r (n + x.1.length + x.2.length)
      omega
    · exact Nat.le_refl _
theorem szL_all : ∀ (L : List LBL) (n : Nat), szL n L ≤ 16384 → ∀ x ∈ L, x.1.length ≤ 16384 ∧ x.2.length ≤ 16384
  | [], n, _ => by simp
  | y :: r, n, h => by
    have hn := Nat.le_trans (szL_le (y :: r) n) h
    unfold szL at h
    rw [if_pos hn] at h
    have h2 := szL_le r (n + y.1.length + y.2.length)
    intro x hx
    rcases List.mem_cons.1 hx with rfl | hx
    · omega
    · exact szL_all r _ h x hx
def LQ (w : World) (a : Option Addr) (L : List LBL) : Prop :=
  ∀ (j : Nat) (h : j < L.length), ∃ g off, a = some ⟨g, off, none⟩ ∧ g < w.heap.size ∧ w.cell? ⟨g, off + j * 2, none⟩ = some (.string (bs L[j].1)) ∧ w.cell? ⟨g, off + j * 2 + 1, none⟩ = some (.string (bs L[j].2))
theorem LQ.lr {w : World} {a : Option Addr} {L : List LBL} (h : LQ w a L) (cap : Nat) (hl : L.length ≤ 1048576) : LR w (.slice a L.length cap) L := ⟨a, cap, rfl, hl, h⟩
theorem LQ.frm {w w' : World} {a : Option Addr} {L : List LBL} (h : LQ w a L) (f : Frm [] w w') : LQ w' a L := by
  intro j hj
  obtain ⟨g, off, rfl, h2, h3, h4⟩ := h j hj
  exact ⟨g, off, rfl, Nat.lt_of_lt_of_le h2 f.size, (f.cell (p := ⟨g, off + j * 2, none⟩) h2 (by simp)).trans h3, (f.cell (p := ⟨g, off + j * 2 + 1, none⟩) h2 (by simp)).trans h4⟩
end Go.Proofs.YtmlajbdodmleiaaGreat

namespace Go.Proofs.YtmlajbdodmleiaaGreat
open Go.RowKit

def pickN (c : Int) (n : Nat) : Nat := ((if c < 0 then -(c + 1) else c) % n).toNat
theorem pickN_lt (c : Int) (n : Nat) (hn : 0 < n) : pickN c n < n := by
  unfold pickN
  have := Int.emod_lt_of_pos (if c < 0 then -(c + 1) else c) (show (0 : Int) < n by omega)
  have := Int.emod_nonneg (if c < 0 then -(c + 1) else c) (show (n : Int) ≠ 0 by omega)
  omega
set_option maxRecDepth 100000 in
set_option maxHeartbeats 1000000 in
theorem kpick_any (c : Int) (n : Nat) (hn : 0 < n) (hn2 : n ≤ 1048576) (w : World) (h0 : -9223372036854775808 ≤ c) (h1 : c ≤ 9223372036854775807) :
    Calls Tryz.prog 18 #[.int .i64 c, .int .i64 n] w fun e w' => e = .returned (.int .i64 (pickN c n : Nat)) ∧ w = w' := by
  have hne : ((n : Int) == 0) = false := by rw [beq_eq_false_iff_ne]; omega
  have hne1 : (n : Int) ≠ 0 := by omega
  by_cases hc : c < 0
  · have hd : decide (c < 0) = true := decide_eq_true hc
    have Hx : Hid ((pickN c n : Int) = Int.tmod (-(c + 1)) n) := by
      show _ = _; unfold pickN; rw [if_pos hc, Int.tmod_eq_emod_of_nonneg (by omega)]
      have := Int.emod_nonneg (-(c + 1)) hne1
      omega
    have hb1 := Int.tmod_lt_of_pos (-(c + 1)) (show (0 : Int) < n by omega)
    have hb2 : 0 ≤ Int.tmod (-(c + 1)) n := Int.tmod_nonneg _ (by omega)
    go_enter Tryz.func18, Tryz.ntmps18
    go_wp2
    go_ret
    refine ⟨ret_int ?_, rfl⟩
    rw [Hx.out]
    try rw [Int.neg_tmod]
  · have hd : decide (c < 0) = false := decide_eq_false hc
    have Hx : Hid ((pickN c n : Int) = Int.tmod c n) := by
      show _ = _; unfold pickN; rw [if_neg hc, Int.tmod_eq_emod_of_nonneg (by omega)]
      have := Int.emod_nonneg c hne1
      omega
    have hb1 := Int.tmod_lt_of_pos c (show (0 : Int) < n by omega)
    have hb2 : 0 ≤ Int.tmod c n := Int.tmod_nonneg _ (by omega)
    go_enter Tryz.func18, Tryz.ntmps18
    go_wp2
    go_ret
    refine ⟨ret_int ?_, rfl⟩
    rw [Hx.out]
    exact (Int.tmod_eq_emod_of_nonneg (by omega)).symm
theorem kn_all : ∀ x ∈ knD, cRes reC x.1 = (0, 0) := by
  intro x hx
  have : knD.all (fun x => cRes reC x.1 == (0, 0)) = true := by decide +kernel
  have := List.all_eq_true.1 this x hx
  simpa using this
theorem kn_len : ∀ x ∈ knD, x.1.length ≤ 1048576 := by
  intro x hx
  have : knD.all (fun x => decide (x.1.length ≤ 1048576)) = true := by decide +kernel
  have := List.all_eq_true.1 this x hx
  simpa using this

set_option maxRecDepth 100000 in
set_option maxHeartbeats 2000000 in
theorem stands_any (c : Int) (w : World) (h0 : -9223372036854775808 ≤ c) (h1 : c ≤ 9223372036854775807) :
    Calls Tryz.prog 8 #[.int .i64 c] w fun e w' => e = .returned (.bool true) ∧ Frm [] w w' := by
  have N1 := hide (knowns_any w)
  have NP : Hid (∀ W, Calls Tryz.prog 18 #[.int .i64 c, .int .i64 16] W fun e w' => e = .returned (.int .i64 (pickN c 16 : Nat)) ∧ W = w') := fun W => kpick_any c 16 (by omega) (by omega) W h0 h1
  have hk := pickN_lt c 16 (by omega)
  obtain ⟨x, hx⟩ : ∃ x, knD[pickN c 16]? = some x := ⟨_, List.getElem?_eq_getElem (show pickN c 16 < knD.length from hk)⟩
  have HXm := hide (List.mem_of_getElem? hx)
  have HX := hide hx
  clear hx
  go_enter Tryz.func8, Tryz.ntmps8
  go_wp2_with fail
  refine (N1.out).mono ?_
  clear N1
  rintro e w1 ⟨hF, g, rfl, hg, hKN⟩
  have F := hide hF
  obtain ⟨a, cap, c0, _, _, _, _⟩ := hKN _ _ HX.out
  have HC := hide (compile_any x.1 w1 (kn_len x HXm.out))
  clear hF hKN HX
  generalize pickN c 16 = k at *
  have hd1 : decide ((k : Int) < 0) = false := decide_eq_false (by omega)
  have hd2 : decide ((k : Int) < 16) = true := decide_eq_true (by omega)
  go_wp2_with fail
  refine (NP.out _).mono ?_
  clear NP
  rintro e w2 ⟨rfl, rfl⟩
  go_wp2_with fail
  refine (HC.out).mono ?_
  clear HC
  rintro e w3 ⟨hF3, ⟨h1, rfl⟩ | ⟨Ln, C, s, V, pb, h1, h2, h3, rfl, h4, h5, h6⟩⟩
  · rw [kn_all x HXm.out] at h1; exact absurd rfl h1
  · have F3 := hide (F.out.trans hF3)
    clear hF3 h1 h2 h3 h4 h5
    go_wp2
    go_ret
    exact ⟨rfl, F3.out⟩
end Go.Proofs.YtmlajbdodmleiaaGreat

namespace Go.Proofs.YtmlajbdodmleiaaGreat
open Go.RowKit

structure DK (w0 : World) (w : World) (db : Nat) (t : List UInt8) (a : Option Addr) (cap : Nat) (L : List LBL) (Ln : List (List UInt8)) (C : List CR) (s : CS) (V : V6) (pb : Nat) : Prop where
  row : w.heap[db]? = some (.cells #[.string (bs t), .pointer (some ⟨pb, 0, none⟩), .slice a L.length cap] 41 (0, 0))
  new : w0.heap.size ≤ db
  tl : t.length ≤ 16384
  ll : L.length ≤ 16384
  ls : ∀ x ∈ L, x.1.length ≤ 16384 ∧ x.2.length ≤ 16384
  res : cRes reC t = (0, 0)
  rd : cRead t = .ok (Ln, C)
  pr : pread reC autC cs0 0 C = .ok s
  pg : PR [] w pb V (compM C s)
  ok : MOK (compM C s)
  lr : LQ w a L
  cap : L.length ≤ cap
theorem DK.frm {w0 w w' : World} {db : Nat} {t : List UInt8} {a : Option Addr} {cap : Nat} {L : List LBL} {Ln : List (List UInt8)} {C : List CR} {s : CS} {V : V6} {pb : Nat} (h : DK w0 w db t a cap L Ln C s V pb) (f : Frm [] w w') : DK w0 w' db t a cap L Ln C s V pb :=
  ⟨(f.block db (Array.getElem?_eq_some_iff.1 h.row).1 (by simp)).trans h.row, h.new, h.tl, h.ll, h.ls, h.res, h.rd, h.pr, h.pg.frm f (by simp), h.ok, h.lr.frm f, h.cap⟩
def ATQ (t : List UInt8) (a : Option Addr) (cap : Nat) (L : List LBL) (w : World) (e : Ending) (w' : World) : Prop :=
  Frm [] w w' ∧ (e = .returned (.pointer none) ∨ ∃ db Ln C s V pb, e = .returned (.pointer (some ⟨db, 0, none⟩)) ∧ DK w w' db t a cap L Ln C s V pb)

set_option maxRecDepth 100000 in
set_option maxHeartbeats 4000000 in
theorem kat_any (w : World) (a : Option Addr) (cap : Nat) (L : List LBL) (h : LQ w a L) (hN : L.length ≤ 4398046511104) (hs : ∀ x ∈ L, x.1.length ≤ 140737488355328 ∧ x.2.length ≤ 140737488355328) (hcap : L.length ≤ cap) (r : List UInt8) (hr : r.length ≤ 140737488355328) :
    Calls Tryz.prog 7 #[.string (bs r), .slice a L.length cap] w (ATQ r a cap L w) := by
  have H := hide h
  have HS := hide hs
  have hl := bs_toList
  have hz := bs_size
  have HCM : Hid (r.length ≤ 1048576 → ∀ q, Calls Tryz.prog 16 #[.string (bs r)] (w.drewN q) (CMQ r (w.drewN q))) := fun h q => compile_any r (w.drewN q) h
  clear h hs
  go_enter Tryz.func7, Tryz.ntmps7
  go_wp2_with fail
  go_loopg [5, 6] L.length (fun k v3 v4 wr => ∃ j n q : Nat, j + k = L.length ∧ v4 = .int .i64 j ∧ v3 = .int .i64 n ∧ n ≤ 562949953421312 ∧ wr = w.drewN q ∧ Hid (szL n (L.drop j) = szL (r.length + L.length) L))
  case atStart => exact ⟨0, r.length + L.length, 0, by omega, rfl, by go_num, by omega, rfl, by show _ = _; simp⟩
  case round =>
    obtain ⟨j, n, q, hjk, rfl, rfl, hn, hw, HF⟩ := hrel
    subst hw
    by_cases hlt : j < L.length
    · have hd1 : decide ((j : Int) < (L.length : Int)) = true := decide_eq_true (by omega)
      by_cases hn2 : n ≤ 16384
      · have hd2 : decide ((n : Int) ≤ 16384) = true := decide_eq_true (by omega)
        have hd2' : decide (n ≤ 16384) = true := decide_eq_true hn2
        obtain ⟨g, off, rfl, hg, hc1, hc2⟩ := H.out j hlt
        have hx := HS.out L[j] (List.getElem_mem hlt)
        have HF2 : Hid (szL (n + L[j].1.length + L[j].2.length) (L.drop (j + 1)) = szL (r.length + L.length) L) := by
          show _ = _
          rw [← HF.out, List.drop_eq_getElem_cons hlt, szL, if_pos hn2]
        clear HF
        generalize L[j] = x at *
        obtain ⟨nm, vl⟩ := x
        simp only at hc1 hc2 hx HF2
        have hz1 := bs_size nm
        have hz2 := bs_size vl
        go_wp2_with fail
        go_quiet (fail)
        go_wp2
        go_roundg (gk - 1)
        case measure => omega
        case rel => exact ⟨j + 1, n + nm.length + vl.length, _, by omega, by go_num, by go_num, by omega, rfl, HF2⟩
      · have hd2 : decide ((n : Int) ≤ 16384) = false := decide_eq_false (by omega)
        have hd2' : decide (n ≤ 16384) = false := decide_eq_false hn2
        have hd3 : decide ((16384 : Int) < (n : Int)) = true := decide_eq_true (by omega)
        have hd3' : decide (16384 < n) = true := decide_eq_true (by omega)
        clear HF HCM
        go_wp2
        go_ret
        exact ⟨(Frm.refl [] w).drewN q, .inl rfl⟩
    · have hd1 : decide ((j : Int) < (L.length : Int)) = false := decide_eq_false (by omega)
      have HV : Hid (szL (r.length + L.length) L = n) := by
        show _ = _
        rw [← HF.out, List.drop_eq_nil_of_le (by omega)]; rfl
      clear HF
      by_cases hn2 : n ≤ 16384
      · have hd3 : decide ((16384 : Int) < (n : Int)) = false := decide_eq_false (by omega)
        have hd3' : decide (16384 < n) = false := decide_eq_false (by omega)
        have h1 := szL_le L (r.length + L.length)
        rw [HV.out] at h1
        have HLS := hide (szL_all L (r.length + L.length) (by rw [HV.out]; exact hn2))
        have N1 := hide (HCM.out (by omega) q)
        clear HCM HV
        go_wp2_with fail
        refine (N1.out).mono ?_
        clear N1
        rintro e w' ⟨hF, ⟨h1, rfl⟩ | ⟨Ln, C, s, V, pb, q1, q2, q3, rfl, q4, q5, q6⟩⟩
        · have F := hide (((Frm.refl [] w).drewN q).trans hF)
          have hne : (((cRes reC r).1 : Int) != 0) = true := by rw [bne_iff_ne]; omega
          generalize (cRes reC r).1 = n1 at *
          generalize (cRes reC r).2 = n2 at *
          clear hF h1
          go_wp2
          go_ret
          exact ⟨F.out, .inl rfl⟩
        · have F := hide (((Frm.refl [] w).drewN q).trans hF)
          have Q1 := hide q1
          have Q2 := hide q2
          have Q3 := hide q3
          have Q4 := hide q4
          have Q5 := hide q5
          clear hF q1 q2 q3 q4 q5
          go_wp2
          go_ret
          have FA : Frm [] w' (w'.alloc (Obj.cells #[.string (bs r), .pointer (some ⟨pb, 0, none⟩), .slice a L.length cap] 41)) := (Frm.refl [] w').alloc _
          exact ⟨F.out.trans FA, .inr ⟨w'.heap.size, Ln, C, s, V, pb, rfl, heap1 _ _, F.out.size, by omega, by omega, HLS.out, Q1.out, Q2.out, Q3.out, Q4.out.frm FA (by simp), Q5.out, H.out.frm (F.out.trans FA), hcap⟩⟩
      · have hd3 : decide ((16384 : Int) < (n : Int)) = true := decide_eq_true (by omega)
        have hd3' : decide (16384 < n) = true := decide_eq_true (by omega)
        clear HCM
        go_wp2
        go_ret
        exact ⟨(Frm.refl [] w).drewN q, .inl rfl⟩
end Go.Proofs.YtmlajbdodmleiaaGreat

namespace Go.Proofs.YtmlajbdodmleiaaGreat
open Go.RowKit

end Go.Proofs.YtmlajbdodmleiaaGreat

namespace Go.Proofs.YtmlajbdodmleiaaGreat
open Go.RowKit

set_option maxRecDepth 100000 in
set_option maxHeartbeats 8000000 in
theorem ksameHits_eq (w : World) (v1 v2 : Value) (hs : List HitM) (h1 : HRS w v1 hs) (h2 : HRS w v2 hs) (hlen : hs.length ≤ 1000) (hbl : ∀ x ∈ hs, x.bl.length ≤ 1000) :
    Calls Tryz.prog 27 #[v1, v2] w fun e w' => e = .returned (.bool true) ∧ ∃ q, w' = w.drewN q := by
  obtain ⟨a1, c1, rfl, hc1, r1⟩ := h1
  obtain ⟨a2, c2, rfl, hc2, r2⟩ := h2
  have R1 := hide r1
  have R2 := hide r2
  have HBL := hide hbl
  have hl := bs_toList
  clear r1 r2 hbl
  go_enter Tryz.func27, Tryz.ntmps27
  go_wp2_with fail
  go_loopg [5] hs.length (fun k v5 wr => ∃ j q : Nat, j + k = hs.length ∧ v5 = .int .i64 j ∧ wr = w.drewN q)
  case atStart => exact ⟨0, 0, by omega, rfl, rfl⟩
  case round =>
    obtain ⟨j, q, hjk, rfl, hw⟩ := hrel
    obtain ⟨K0, hK0⟩ : ∃ K0, K0 = gk := ⟨_, rfl⟩
    subst hw
    by_cases hlt : j < hs.length
    · have hd1 : decide ((j : Int) < (hs.length : Int)) = true := decide_eq_true (by omega)
      obtain ⟨g1, o1, vb1, rfl, p⟩ := R1.out j hlt
      obtain ⟨g2, o2, vb2, rfl, p'⟩ := R2.out j hlt
      have hb := HBL.out hs[j] (List.getElem_mem hlt)
      generalize hs[j] = x at *
      have p0 := p.c0
      have p1 := p.c1
      have p2 := p.c2
      have p3 := p.c3
      have p4 := p.c4
      have q0 := p'.c0
      have q1 := p'.c1
      have q2 := p'.c2
      have q3 := p'.c3
      have q4 := p'.c4
      obtain ⟨b1, d1, rfl, s1⟩ := p.r.str
      obtain ⟨b2, d2, rfl, s2⟩ := p'.r.str
      have S1 := hide s1
      have S2 := hide s2
      clear p p' s1 s2
      go_wp2_with fail
      go_quiet (fail)
      go_wp2_with fail
      go_loopg [8] x.bl.length (fun k v8 wr => ∃ i q : Nat, i + k = x.bl.length ∧ v8 = .int .i64 i ∧ wr = w.drewN q)
      case atStart => exact ⟨0, q + nq, by omega, rfl, by simp [World.drewN_drewN]⟩
      case round =>
        obtain ⟨i, q', hik, rfl, hw⟩ := hrel
        subst hw
        by_cases hil : i < x.bl.length
        · have hd2 : decide ((i : Int) < (x.bl.length : Int)) = true := decide_eq_true (by omega)
          obtain ⟨gb1, ob1, rfl, hgb1, u1⟩ := S1.out i hil
          obtain ⟨gb2, ob2, rfl, hgb2, u2⟩ := S2.out i hil
          generalize x.bl[i] = y at *
          go_wp2_with fail
          go_quiet (fail)
          go_wp2
          go_roundg (gk - 1)
          case measure => omega
          case rel => exact ⟨i + 1, _, by omega, by go_num, rfl⟩
        · have hd2 : decide ((i : Int) < (x.bl.length : Int)) = false := decide_eq_false (by omega)
          go_wp2
          go_roundg (K0 - 1)
          case measure => omega
          case rel => exact ⟨j + 1, _, by omega, by go_num, rfl⟩
    · have hd1 : decide ((j : Int) < (hs.length : Int)) = false := decide_eq_false (by omega)
      go_wp2
      go_ret
      exact ⟨rfl, q, rfl⟩
end Go.Proofs.YtmlajbdodmleiaaGreat

