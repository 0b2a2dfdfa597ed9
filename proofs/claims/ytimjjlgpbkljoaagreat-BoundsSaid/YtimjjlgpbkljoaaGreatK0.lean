import Derived.Test.YtimjjlgpbkljoaaGreatW13
import Derived.Test.YtimjjlgpbkljoaaGreatM1
namespace Go.Proofs.YtimjjlgpbkljoaaGreat
open Go.RowKit
set_option linter.unusedVariables false
set_option linter.unusedSimpArgs false
set_option linter.unnecessarySimpa false

/-- The first place of a text in a list; the list's length: none. -/
def fdx (L : List (List UInt8)) (x : List UInt8) : Nat := L.findIdx (· == x)
def addx (L : List (List UInt8)) (x : List UInt8) : List (List UInt8) := if fdx L x = L.length then L ++ [x] else L
def tEq (a b : TstM) : Bool := a.n == b.n && (a.k == b.k && a.x == b.x)
def fdt (L : List TstM) (x : TstM) : Nat := L.findIdx (tEq · x)
def addt (L : List TstM) (x : TstM) : List TstM := if fdt L x = L.length then L ++ [x] else L
/-- What a compiler has: names, constants, expressions, automata, tests, the conditions of routes. -/
structure CS where
  n : List (List UInt8)
  c : List (List UInt8)
  x : List (List UInt8)
  a : List AutM
  t : List TstM
  q : List (List (Nat × Bool))
/-- The test of a matcher; none: its expression has a fault. -/
def ptest (re : List UInt8 → Nat) (aut : List UInt8 → AutM) (s : CS) (m : CM) : Option (TstM × CS) :=
  if m.2.1 = 2 ∨ m.2.1 = 3 then
    if fdx s.x m.2.2 < s.x.length then some (⟨fdx s.n m.1, 1, fdx s.x m.2.2⟩, { s with n := addx s.n m.1 })
    else if re m.2.2 = 0 then some (⟨fdx s.n m.1, 1, fdx s.x m.2.2⟩, { s with n := addx s.n m.1, x := s.x ++ [m.2.2], a := s.a ++ [aut m.2.2] })
    else none
  else some (⟨fdx s.n m.1, 0, fdx s.c m.2.2⟩, { s with n := addx s.n m.1, c := addx s.c m.2.2 })
def cholds (m : CM) : Bool := m.2.1 == 0 || m.2.1 == 2
def pmat (re : List UInt8 → Nat) (aut : List UInt8 → AutM) : CS → List (Nat × Bool) → List CM → Except Nat (List (Nat × Bool) × CS)
  | s, acc, [] => .ok (acc, s)
  | s, acc, m :: r => match ptest re aut s m with
    | none => .error (re m.2.2)
    | some (t, s1) => pmat re aut { s1 with t := addt s1.t t } (acc ++ [(fdt s1.t t, cholds m)]) r
def pread (re : List UInt8 → Nat) (aut : List UInt8 → AutM) : CS → Nat → List CR → Except (Nat × Nat) CS
  | s, _, [] => .ok s
  | s, i, c :: r => match pmat re aut s [] c.ifs with
    | .error e => .error (e, i + 2)
    | .ok (l, s1) => pread re aut { s1 with q := s1.q ++ [l] } (i + 1) r
/-- The parent of a route of depth d, among those ahead of place i. -/
def parGo (C : List CR) (d : Nat) : Nat → Option Nat
  | 0 => none
  | j + 1 => if (C[j]?.map fun c => c.d + 1) = some d then some j else parGo C d j
def par (C : List CR) (i : Nat) : Option Nat := match C[i]? with | some c => parGo C c.d i | none => none
def tld (x : Int) (y : Nat) : Nat := if x = -1 then y else x.toNat
def hitB (ab : HitM) (r : CR) : HitM := ⟨if r.rc == [45] then ab.rc else r.rc, if r.tb then r.bys else ab.bl, tld r.wt ab.wt, tld r.ev ab.ev, tld r.rp ab.rp⟩
def rootH : HitM := ⟨[], [], 30, 300, 14400⟩
def aboveH (C : List CR) (H : List HitM) (i : Nat) : HitM := match par C i with | some p => H.getD p rootH | none => rootH
/-- What the first i routes tell and inherit. -/
def hitsN (C : List CR) : Nat → List HitM
  | 0 => []
  | i + 1 => hitsN C i ++ [match C[i]? with | some c => hitB (aboveH C (hitsN C i) i) c | none => rootH]
/-- The checks of a route: on at y if all are met, else at n. -/
def layChk : List (Nat × Bool) → Nat → Nat → List InM → Nat × List InM
  | [], y, _, l => (y, l)
  | c :: r, y, n, l => ((layChk r y n l).2.length, (layChk r y n l).2 ++ [if c.2 then ⟨2, c.1, (layChk r y n l).1, n⟩ else ⟨2, c.1, n, (layChk r y n l).1⟩])
def kids (C : List CR) (r : Nat) : List Nat := (List.range C.length).filter fun j => decide (r < j) && (par C j == some r)
/-- The first row of a route's children: where the second row begins, where each child begins, what is laid. -/
def lay1 (rec : Nat → Nat → List InM → Nat × List InM) (C : List CR) (q : List (List (Nat × Bool))) (done : Nat) (l : List InM) : List Nat → Nat × List Nat × List InM
  | [] => (done, [], l)
  | c :: r =>
    let x := lay1 rec C q done l r
    let b := rec c (if (C[c]?.map (·.co)) = some true then x.1 else done) x.2.2
    let s := layChk (q.getD c []) b.1 x.1 b.2
    (s.1, b.1 :: x.2.1, s.2)
def lay2 (q : List (List (Nat × Bool))) (first : Nat) (l : List InM) : List (Nat × Nat) → Nat × List InM
  | [] => (first, l)
  | c :: r => layChk (q.getD c.1 []) c.2 (lay2 q first l r).1 (lay2 q first l r).2
def layR (C : List CR) (q : List (List (Nat × Bool))) : Nat → Nat → Nat → List InM → Nat × List InM
  | 0, _, d, l => (d, l)
  | f + 1, r, d, l =>
    let x := lay1 (layR C q f) C q d l (kids C r)
    lay2 q x.2.2.length (x.2.2 ++ [⟨1, r, d, 0⟩]) ((kids C r).zip x.2.1)
/-- The numbers of instructions: those that no run comes to have none. -/
def numGo (l : List InM) : Nat → List Bool → List Int → Nat → List Int
  | 0, _, N, _ => N
  | i + 1, R, N, c =>
    if R.getD i false then
      match l[i]? with
      | some x => numGo l i (if x.op = 0 then R else if x.op = 2 then (R.set x.a true).set x.b true else R.set x.a true) (N.set i c) (c + 1)
      | none => N
    else numGo l i R (N.set i (-1)) c
def numsOf (l : List InM) (first : Nat) : List Int := numGo l l.length ((List.replicate l.length false).set first true) (List.replicate l.length 0) 0
def turnI (N : List Int) (x : InM) : InM := ⟨x.op, x.x, if x.op = 0 then x.a else (N.getD x.a 0).toNat, if x.op = 2 then (N.getD x.b 0).toNat else x.b⟩
def turnGo (l : List InM) (N : List Int) : Nat → List InM → List InM
  | 0, out => out
  | i + 1, out => if N.getD i 0 < 0 then turnGo l N i out else match l[i]? with | some x => turnGo l N i (out ++ [turnI N x]) | none => out
def turnM (l : List InM) (first : Nat) : List InM := turnGo l (numsOf l first) (first + 1) []
def codeM (C : List CR) (q : List (List (Nat × Bool))) : List InM :=
  if C.isEmpty then [⟨0, 0, 0, 0⟩] else
    let x := layR C q 6 0 0 [⟨0, 0, 0, 0⟩]
    turnM x.2 x.1
/-- The program of a configuration. -/
def compM (C : List CR) (s : CS) : Mach := ⟨s.n, s.c, s.a, s.t, hitsN C C.length, codeM C s.q⟩
def cs0 : CS := ⟨[], [], [], [], [], []⟩
end Go.Proofs.YtimjjlgpbkljoaaGreat
