import Derived.Test.YtimjjlgpbkljoaaGreatK1
namespace Go.Proofs.YtimjjlgpbkljoaaGreat
open Go.RowKit
set_option linter.unusedVariables false
set_option linter.unusedSimpArgs false
set_option linter.unnecessarySimpa false

/-- The first fault of matchers' expressions; 0: none. -/
def mF (re : List UInt8 → Nat) : List CM → Nat
  | [] => 0
  | m :: r => if (m.2.1 == 2 || m.2.1 == 3) && !(re m.2.2 == 0) then re m.2.2 else mF re r
/-- The first fault of routes' expressions, and its line. -/
def xF (re : List UInt8 → Nat) : List CR → Nat → Nat × Nat
  | [], _ => (0, 0)
  | c :: r, i => if !(mF re c.ifs == 0) then (mF re c.ifs, i + 2) else xF re r (i + 1)
theorem ptest_x {re : List UInt8 → Nat} {aut : List UInt8 → AutM} {s : CS} (hx : ∀ y ∈ s.x, re y = 0) (m : CM) :
    (ptest re aut s m = none ∧ (m.2.1 == 2 || m.2.1 == 3) = true ∧ re m.2.2 ≠ 0) ∨ (∃ t s1, ptest re aut s m = some (t, s1) ∧ (∀ y ∈ s1.x, re y = 0) ∧ ((m.2.1 == 2 || m.2.1 == 3) && !(re m.2.2 == 0)) = false) := by
  unfold ptest
  by_cases hk : m.2.1 = 2 ∨ m.2.1 = 3
  · have hkb : (m.2.1 == 2 || m.2.1 == 3) = true := by simpa using hk
    rw [if_pos hk]
    by_cases hf : fdx s.x m.2.2 < s.x.length
    · rw [if_pos hf]
      refine .inr ⟨_, _, rfl, hx, ?_⟩
      have hz : re m.2.2 = 0 := by
        have he : (s.x[fdx s.x m.2.2] == m.2.2) = true := List.findIdx_getElem (p := (· == m.2.2)) (xs := s.x) (w := hf)
        have := hx _ (List.getElem_mem hf)
        rw [eq_of_beq he] at this
        exact this
      simp [hz]
    · rw [if_neg hf]
      by_cases hz : re m.2.2 = 0
      · rw [if_pos hz]
        refine .inr ⟨_, _, rfl, ?_, by simp [hz]⟩
        intro y hy
        simp at hy
        rcases hy with hy | rfl
        · exact hx y hy
        · exact hz
      · rw [if_neg hz]
        exact .inl ⟨rfl, hkb, hz⟩
  · rw [if_neg hk]
    refine .inr ⟨_, _, rfl, hx, ?_⟩
    have : (m.2.1 == 2 || m.2.1 == 3) = false := by simpa using hk
    simp [this]
theorem pmat_fault {re : List UInt8 → Nat} {aut : List UInt8 → AutM} : ∀ (M : List CM) (s : CS) (acc : List (Nat × Bool)), (∀ y ∈ s.x, re y = 0) →
    (∃ e, pmat re aut s acc M = .error e ∧ mF re M = e ∧ e ≠ 0) ∨ (∃ l s1, pmat re aut s acc M = .ok (l, s1) ∧ mF re M = 0 ∧ ∀ y ∈ s1.x, re y = 0)
  | [], s, acc, hx => .inr ⟨acc, s, rfl, rfl, hx⟩
  | m :: r, s, acc, hx => by
    rcases ptest_x (aut := aut) hx m with ⟨h1, h2, h3⟩ | ⟨t, s1, h1, h2, h3⟩
    · refine .inl ⟨re m.2.2, ?_, ?_, h3⟩
      · rw [pmat, h1]
      · rw [mF, h2]; simp [h3]
    · have e : pmat re aut s acc (m :: r) = pmat re aut { s1 with t := addt s1.t t } (acc ++ [(fdt s1.t t, cholds m)]) r := by rw [pmat, h1]
      rw [e, mF, h3]
      exact pmat_fault r { s1 with t := addt s1.t t } _ h2
theorem pread_fault {re : List UInt8 → Nat} {aut : List UInt8 → AutM} : ∀ (C : List CR) (s : CS) (i : Nat), (∀ y ∈ s.x, re y = 0) →
    (∃ e, pread re aut s i C = .error e ∧ xF re C i = e ∧ e.1 ≠ 0) ∨ (∃ s1, pread re aut s i C = .ok s1 ∧ xF re C i = (0, 0) ∧ ∀ y ∈ s1.x, re y = 0)
  | [], s, i, hx => .inr ⟨s, rfl, rfl, hx⟩
  | c :: r, s, i, hx => by
    rcases pmat_fault (aut := aut) c.ifs s [] hx with ⟨e, h1, h2, h3⟩ | ⟨l, s1, h1, h2, h3⟩
    · refine .inl ⟨(e, i + 2), ?_, ?_, h3⟩
      · rw [pread, h1]
      · rw [xF, h2]; simp [h3]
    · have e : pread re aut s i (c :: r) = pread re aut { s1 with q := s1.q ++ [l] } (i + 1) r := by rw [pread, h1]
      rw [e, xF, h2]
      exact pread_fault r { s1 with q := s1.q ++ [l] } (i + 1) h3
/-- How many there are of what is read. -/
structure CSB (s : CS) (k : Nat) : Prop where
  n : s.n.length ≤ k
  c : s.c.length ≤ k
  x : s.x.length ≤ k
  a : s.a.length ≤ k
  t : s.t.length ≤ k
theorem addx_len (L : List (List UInt8)) (x : List UInt8) : (addx L x).length ≤ L.length + 1 := by unfold addx; split <;> simp
theorem addt_len (L : List TstM) (x : TstM) : (addt L x).length ≤ L.length + 1 := by unfold addt; split <;> simp
theorem ptest_cb {re : List UInt8 → Nat} {aut : List UInt8 → AutM} {s s1 : CS} {t : TstM} {k : Nat} (h : CSB s k) {m : CM} (he : ptest re aut s m = some (t, s1)) : CSB { s1 with t := addt s1.t t } (k + 1) ∧ s1.t = s.t ∧ s1.q = s.q := by
  have hn := addx_len s.n m.1
  have hc := addx_len s.c m.2.2
  obtain ⟨h1, h2, h3, h4, h5⟩ := h
  unfold ptest at he
  split at he
  · split at he
    · cases he
      have ht := addt_len s.t ⟨fdx s.n m.1, 1, fdx s.x m.2.2⟩
      exact ⟨⟨by simp only; omega, by simp only; omega, by simp only; omega, by simp only; omega, by simp only; omega⟩, rfl, rfl⟩
    · split at he
      · cases he
        have ht := addt_len s.t ⟨fdx s.n m.1, 1, fdx s.x m.2.2⟩
        exact ⟨⟨by simp only; omega, by simp only; omega, by simp; omega, by simp; omega, by simp only; omega⟩, rfl, rfl⟩
      · cases he
  · cases he
    have ht := addt_len s.t ⟨fdx s.n m.1, 0, fdx s.c m.2.2⟩
    exact ⟨⟨by simp only; omega, by simp only; omega, by simp only; omega, by simp only; omega, by simp only; omega⟩, rfl, rfl⟩
end Go.Proofs.YtimjjlgpbkljoaaGreat
