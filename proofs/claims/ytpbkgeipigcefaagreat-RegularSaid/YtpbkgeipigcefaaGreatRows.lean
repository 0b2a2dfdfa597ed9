/-
  No cell of these rows narrows 'for every input' (looked for: loops, veiled, ifaces, maps, wideKeys, modest, calm, conditions, laid).
  DERIVED. THE GIVEN ROWS OF THIS SEAT. 8 by the template 'for every input the law returns true; each argument reads behind the call as it read before'; 0 by the template 'total and deterministic' (their statements: YtpbkgeipigcefaaGreatTotals.lean).
  GIVEN WITH THE SEED: the statements are not yours to turn. If you find one false, say at which input.
  Laid BY PROGRAM, IN A SANDBOX (cutbox-rows.mjs): the forced cells as the released guide's own fill.sh prints them over the translation a3f9477e0e8754fa… (all of the seat's roots in one cut). By AI agents, Wed Nov 11 2026. No macro, syntax, notation, axiom, sorry.
-/
import Derived.Test.YtpbkgeipigcefaaGreatChecked
import GoSem.Claim
import GoSem.ClaimJoined
import GoSem.ClaimMapViews
import Derived.JoinedTies
import Derived.KernelRfl
namespace Go.Proofs.YtpbkgeipigcefaaGreat
/- THE CELL 'sum', in the pinned program and in every row, IS THE sha256 OF THE DUMP (.gsa) THAT YtpbkgeipigcefaaGreatProg.lean LOADS. Nothing in Lean hashes anything: it is a label: what it is worth is what the hold of that sum in a sandbox is worth. -/
noncomputable def Tryz.pinned : Pinned := { name := "ytpbkgeipigcefaagreat", sum := "a3f9477e0e8754fae7adf6d346883008b4f018716bb9c63f2e1287e56b9b21f9", checked := Tryz.checked }
namespace Rows
def none {H : Type} : Left H := { results := [], args := [] }

/-- 'alertskeep.Regular': WHATEVER THE INPUT: true; the input reads as it did. -/
def regularSpec : ChangeSpec := { name := "regular", fn := fun _ => fun
  | [d1, d2] => { results := [.lit (.bool true)], args := [d1, d2] }
  | _ => none }
def regularRow : OpenClaim := { program := "ytpbkgeipigcefaagreat", sum := "a3f9477e0e8754fae7adf6d346883008b4f018716bb9c63f2e1287e56b9b21f9", func := "alerts/alertskeep.Regular", spec := "regular", recurses := true, apart := false }
def RegularSaid : Prop := regularRow.holds Tryz.pinned (OpenSpec.ofChange regularSpec)

/-- ITS FALSE NEIGHBOUR: 'it returns false'. Refute it at one input. -/
def regularWrong : ChangeSpec := { name := "regular", fn := fun _ => fun
  | [d1, d2] => { results := [.lit (.bool false)], args := [d1, d2] }
  | _ => none }
def RegularWrongFalsely : Prop := regularRow.holds Tryz.pinned (OpenSpec.ofChange regularWrong)

/-- 'alertskeep.Twin': WHATEVER THE INPUT: true; the input reads as it did. -/
def twinSpec : ChangeSpec := { name := "twin", fn := fun _ => fun
  | [d1, d2] => { results := [.lit (.bool true)], args := [d1, d2] }
  | _ => none }
def twinRow : OpenClaim := { program := "ytpbkgeipigcefaagreat", sum := "a3f9477e0e8754fae7adf6d346883008b4f018716bb9c63f2e1287e56b9b21f9", func := "alerts/alertskeep.Twin", spec := "twin", recurses := true, apart := false }
def TwinSaid : Prop := twinRow.holds Tryz.pinned (OpenSpec.ofChange twinSpec)

/-- ITS FALSE NEIGHBOUR: 'it returns false'. Refute it at one input. -/
def twinWrong : ChangeSpec := { name := "twin", fn := fun _ => fun
  | [d1, d2] => { results := [.lit (.bool false)], args := [d1, d2] }
  | _ => none }
def TwinWrongFalsely : Prop := twinRow.holds Tryz.pinned (OpenSpec.ofChange twinWrong)

/-- 'alertskeep.Some': WHATEVER THE INPUT: true; the input reads as it did. -/
def someSpec : ChangeSpec := { name := "some", fn := fun _ => fun
  | [d1, d2] => { results := [.lit (.bool true)], args := [d1, d2] }
  | _ => none }
def someRow : OpenClaim := { program := "ytpbkgeipigcefaagreat", sum := "a3f9477e0e8754fae7adf6d346883008b4f018716bb9c63f2e1287e56b9b21f9", func := "alerts/alertskeep.Some", spec := "some", recurses := true, apart := false }
def SomeSaid : Prop := someRow.holds Tryz.pinned (OpenSpec.ofChange someSpec)

/-- ITS FALSE NEIGHBOUR: 'it returns false'. Refute it at one input. -/
def someWrong : ChangeSpec := { name := "some", fn := fun _ => fun
  | [d1, d2] => { results := [.lit (.bool false)], args := [d1, d2] }
  | _ => none }
def SomeWrongFalsely : Prop := someRow.holds Tryz.pinned (OpenSpec.ofChange someWrong)

/-- 'alertskeep.Ahead': WHATEVER THE INPUT: true; the input reads as it did. -/
def aheadSpec : ChangeSpec := { name := "ahead", fn := fun _ => fun
  | [d1, d2] => { results := [.lit (.bool true)], args := [d1, d2] }
  | _ => none }
def aheadRow : OpenClaim := { program := "ytpbkgeipigcefaagreat", sum := "a3f9477e0e8754fae7adf6d346883008b4f018716bb9c63f2e1287e56b9b21f9", func := "alerts/alertskeep.Ahead", spec := "ahead", recurses := true, apart := false }
def AheadSaid : Prop := aheadRow.holds Tryz.pinned (OpenSpec.ofChange aheadSpec)

/-- ITS FALSE NEIGHBOUR: 'it returns false'. Refute it at one input. -/
def aheadWrong : ChangeSpec := { name := "ahead", fn := fun _ => fun
  | [d1, d2] => { results := [.lit (.bool false)], args := [d1, d2] }
  | _ => none }
def AheadWrongFalsely : Prop := aheadRow.holds Tryz.pinned (OpenSpec.ofChange aheadWrong)

/-- 'alertskeep.Alone': WHATEVER THE INPUT: true; the input reads as it did. -/
def aloneSpec : ChangeSpec := { name := "alone", fn := fun _ => fun
  | [d1, d2] => { results := [.lit (.bool true)], args := [d1, d2] }
  | _ => none }
def aloneRow : OpenClaim := { program := "ytpbkgeipigcefaagreat", sum := "a3f9477e0e8754fae7adf6d346883008b4f018716bb9c63f2e1287e56b9b21f9", func := "alerts/alertskeep.Alone", spec := "alone", recurses := true, apart := false }
def AloneSaid : Prop := aloneRow.holds Tryz.pinned (OpenSpec.ofChange aloneSpec)

/-- ITS FALSE NEIGHBOUR: 'it returns false'. Refute it at one input. -/
def aloneWrong : ChangeSpec := { name := "alone", fn := fun _ => fun
  | [d1, d2] => { results := [.lit (.bool false)], args := [d1, d2] }
  | _ => none }
def AloneWrongFalsely : Prop := aloneRow.holds Tryz.pinned (OpenSpec.ofChange aloneWrong)

/-- 'alertskeep.Never': WHATEVER THE INPUT: true; the input reads as it did. -/
def neverSpec : ChangeSpec := { name := "never", fn := fun _ => fun
  | [d1, d2, d3] => { results := [.lit (.bool true)], args := [d1, d2, d3] }
  | _ => none }
def neverRow : OpenClaim := { program := "ytpbkgeipigcefaagreat", sum := "a3f9477e0e8754fae7adf6d346883008b4f018716bb9c63f2e1287e56b9b21f9", func := "alerts/alertskeep.Never", spec := "never", recurses := true, apart := false }
def NeverSaid : Prop := neverRow.holds Tryz.pinned (OpenSpec.ofChange neverSpec)

/-- ITS FALSE NEIGHBOUR: 'it returns false'. Refute it at one input. -/
def neverWrong : ChangeSpec := { name := "never", fn := fun _ => fun
  | [d1, d2, d3] => { results := [.lit (.bool false)], args := [d1, d2, d3] }
  | _ => none }
def NeverWrongFalsely : Prop := neverRow.holds Tryz.pinned (OpenSpec.ofChange neverWrong)

/-- 'alertskeep.Root': WHATEVER THE INPUT: true; the input reads as it did. -/
def rootSpec : ChangeSpec := { name := "root", fn := fun _ => fun
  | [d1, d2] => { results := [.lit (.bool true)], args := [d1, d2] }
  | _ => none }
def rootRow : OpenClaim := { program := "ytpbkgeipigcefaagreat", sum := "a3f9477e0e8754fae7adf6d346883008b4f018716bb9c63f2e1287e56b9b21f9", func := "alerts/alertskeep.Root", spec := "root", recurses := true, apart := false }
def RootSaid : Prop := rootRow.holds Tryz.pinned (OpenSpec.ofChange rootSpec)

/-- ITS FALSE NEIGHBOUR: 'it returns false'. Refute it at one input. -/
def rootWrong : ChangeSpec := { name := "root", fn := fun _ => fun
  | [d1, d2] => { results := [.lit (.bool false)], args := [d1, d2] }
  | _ => none }
def RootWrongFalsely : Prop := rootRow.holds Tryz.pinned (OpenSpec.ofChange rootWrong)

/-- 'alertskeep.Known': WHATEVER THE INPUT: true; the input reads as it did. -/
def knownSpec : ChangeSpec := { name := "known", fn := fun _ => fun
  | [d] => { results := [.lit (.bool true)], args := [d] }
  | _ => none }
def knownRow : OpenClaim := { program := "ytpbkgeipigcefaagreat", sum := "a3f9477e0e8754fae7adf6d346883008b4f018716bb9c63f2e1287e56b9b21f9", func := "alerts/alertskeep.Known", spec := "known", recurses := true, apart := false }
def KnownSaid : Prop := knownRow.holds Tryz.pinned (OpenSpec.ofChange knownSpec)

/-- ITS FALSE NEIGHBOUR: 'it returns false'. Refute it at one input. -/
def knownWrong : ChangeSpec := { name := "known", fn := fun _ => fun
  | [d] => { results := [.lit (.bool false)], args := [d] }
  | _ => none }
def KnownWrongFalsely : Prop := knownRow.holds Tryz.pinned (OpenSpec.ofChange knownWrong)

/- THE SECOND FORM. 'bulk': how many values and letters a reading holds, each counted each time it is reached (what is shared counts as often as it is met; a slice's spare places count too). A statement '..UptoSaid' is the law's where the arguments, and the package variables that the reading takes, are together of bulk at most 1048576: NARROWER than '..Said'. Prove '..Said' where nothing that the law and all that it calls make is longer than what came in: it says more and counts as full. Else prove '..UptoSaid'. A law counts once. -/
mutual
def uptoBulk {H : Type} : DataW H → Nat
  | .lit (.string bytes) => bytes.length + 1
  | .lit _ => 1
  | .nil => 1
  | .ptr d => uptoBulk d + 1
  | .slice elems spare => uptoBulkAll elems + uptoBulkAll spare + 1
  | .agg parts => uptoBulkAll parts + 1
  | .iface _ d => uptoBulk d + 1
  | .map entries => uptoBulkEntries entries + 1
  | .held _ => 1
def uptoBulkAll {H : Type} : List (DataW H) → Nat
  | [] => 0
  | d :: r => uptoBulk d + uptoBulkAll r
def uptoBulkEntries {H : Type} : List (Lit × DataW H) → Nat
  | [] => 0
  | x :: r => uptoBulkEntry x + uptoBulkEntries r
def uptoBulkEntry {H : Type} : Lit × DataW H → Nat
  | (.string bytes, d) => bytes.length + uptoBulk d + 1
  | (_, d) => uptoBulk d + 1
 end
def uptoSmall : (H : Type) → List (DataW H) → Bool := fun _ ds => decide (uptoBulkAll ds ≤ 1048576)
def OpenSpec.upto (s : _root_.Go.ChangeSpec) : _root_.Go.OpenSpec := { _root_.Go.OpenSpec.ofChange s with cond := some uptoSmall }

/-- 'alertskeep.Regular', WHERE WHAT IT READS IS OF BULK AT MOST 1048576: true; the input reads as it did. -/
def regularUptoRow : OpenClaim := { program := "ytpbkgeipigcefaagreat", sum := "a3f9477e0e8754fae7adf6d346883008b4f018716bb9c63f2e1287e56b9b21f9", func := "alerts/alertskeep.Regular", spec := "regular", recurses := true, apart := false, narrowed := true }
def RegularUptoSaid : Prop := regularUptoRow.holds Tryz.pinned (OpenSpec.upto regularSpec)

/-- 'alertskeep.Twin', WHERE WHAT IT READS IS OF BULK AT MOST 1048576: true; the input reads as it did. -/
def twinUptoRow : OpenClaim := { program := "ytpbkgeipigcefaagreat", sum := "a3f9477e0e8754fae7adf6d346883008b4f018716bb9c63f2e1287e56b9b21f9", func := "alerts/alertskeep.Twin", spec := "twin", recurses := true, apart := false, narrowed := true }
def TwinUptoSaid : Prop := twinUptoRow.holds Tryz.pinned (OpenSpec.upto twinSpec)

/-- 'alertskeep.Some', WHERE WHAT IT READS IS OF BULK AT MOST 1048576: true; the input reads as it did. -/
def someUptoRow : OpenClaim := { program := "ytpbkgeipigcefaagreat", sum := "a3f9477e0e8754fae7adf6d346883008b4f018716bb9c63f2e1287e56b9b21f9", func := "alerts/alertskeep.Some", spec := "some", recurses := true, apart := false, narrowed := true }
def SomeUptoSaid : Prop := someUptoRow.holds Tryz.pinned (OpenSpec.upto someSpec)

/-- 'alertskeep.Ahead', WHERE WHAT IT READS IS OF BULK AT MOST 1048576: true; the input reads as it did. -/
def aheadUptoRow : OpenClaim := { program := "ytpbkgeipigcefaagreat", sum := "a3f9477e0e8754fae7adf6d346883008b4f018716bb9c63f2e1287e56b9b21f9", func := "alerts/alertskeep.Ahead", spec := "ahead", recurses := true, apart := false, narrowed := true }
def AheadUptoSaid : Prop := aheadUptoRow.holds Tryz.pinned (OpenSpec.upto aheadSpec)

/-- 'alertskeep.Alone', WHERE WHAT IT READS IS OF BULK AT MOST 1048576: true; the input reads as it did. -/
def aloneUptoRow : OpenClaim := { program := "ytpbkgeipigcefaagreat", sum := "a3f9477e0e8754fae7adf6d346883008b4f018716bb9c63f2e1287e56b9b21f9", func := "alerts/alertskeep.Alone", spec := "alone", recurses := true, apart := false, narrowed := true }
def AloneUptoSaid : Prop := aloneUptoRow.holds Tryz.pinned (OpenSpec.upto aloneSpec)

/-- 'alertskeep.Never', WHERE WHAT IT READS IS OF BULK AT MOST 1048576: true; the input reads as it did. -/
def neverUptoRow : OpenClaim := { program := "ytpbkgeipigcefaagreat", sum := "a3f9477e0e8754fae7adf6d346883008b4f018716bb9c63f2e1287e56b9b21f9", func := "alerts/alertskeep.Never", spec := "never", recurses := true, apart := false, narrowed := true }
def NeverUptoSaid : Prop := neverUptoRow.holds Tryz.pinned (OpenSpec.upto neverSpec)

/-- 'alertskeep.Root', WHERE WHAT IT READS IS OF BULK AT MOST 1048576: true; the input reads as it did. -/
def rootUptoRow : OpenClaim := { program := "ytpbkgeipigcefaagreat", sum := "a3f9477e0e8754fae7adf6d346883008b4f018716bb9c63f2e1287e56b9b21f9", func := "alerts/alertskeep.Root", spec := "root", recurses := true, apart := false, narrowed := true }
def RootUptoSaid : Prop := rootUptoRow.holds Tryz.pinned (OpenSpec.upto rootSpec)

/-- 'alertskeep.Known', WHERE WHAT IT READS IS OF BULK AT MOST 1048576: true; the input reads as it did. -/
def knownUptoRow : OpenClaim := { program := "ytpbkgeipigcefaagreat", sum := "a3f9477e0e8754fae7adf6d346883008b4f018716bb9c63f2e1287e56b9b21f9", func := "alerts/alertskeep.Known", spec := "known", recurses := true, apart := false, narrowed := true }
def KnownUptoSaid : Prop := knownUptoRow.holds Tryz.pinned (OpenSpec.upto knownSpec)

end Rows
end Go.Proofs.YtpbkgeipigcefaaGreat
