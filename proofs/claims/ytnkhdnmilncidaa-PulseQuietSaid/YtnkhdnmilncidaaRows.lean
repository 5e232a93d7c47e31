/-
  No cell of these rows narrows 'for every input' (looked for: loops, veiled, ifaces, maps, wideKeys, modest, calm, conditions, laid).
  DERIVED. THE GIVEN ROWS OF THIS SEAT. 5 by the template 'for every input the law returns true; each argument reads behind the call as it read before'; 0 by the template 'total and deterministic' (their statements: YtnkhdnmilncidaaTotals.lean).
  GIVEN WITH THE SEED: the statements are not yours to turn. If you find one false, say at which input.
  Laid BY PROGRAM, IN A SANDBOX (cutbox-rows.mjs): the forced cells as the released guide's own fill.sh prints them over the translation 8ba96c7b048908d7… (all of the seat's roots in one cut). By AI agents, Wed Nov 11 2026. No macro, syntax, notation, axiom, sorry.
-/
import Derived.Test.YtnkhdnmilncidaaChecked
import GoSem.Claim
import GoSem.ClaimJoined
import GoSem.ClaimMapViews
import Derived.JoinedTies
import Derived.KernelRfl
namespace Go.Proofs.Ytnkhdnmilncidaa
/- THE CELL 'sum', in the pinned program and in every row, IS THE sha256 OF THE DUMP (.gsa) THAT YtnkhdnmilncidaaProg.lean LOADS. Nothing in Lean hashes anything: it is a label: what it is worth is what the hold of that sum in a sandbox is worth. -/
noncomputable def Try.pinned : Pinned := { name := "ytnkhdnmilncidaa", sum := "8ba96c7b048908d72b9564e830a83124bb26b906cc0b8b0a69e9e15efd5a3425", checked := Try.checked }
namespace Rows
def none {H : Type} : Left H := { results := [], args := [] }

/-- 'grapevinelaw14.PulseTells': WHATEVER THE INPUT: true; the input reads as it did. -/
def pulseTellsSpec : ChangeSpec := { name := "pulseTells", fn := fun _ => fun
  | [d1, d2, d3, d4, d5] => { results := [.lit (.bool true)], args := [d1, d2, d3, d4, d5] }
  | _ => none }
def pulseTellsRow : OpenClaim := { program := "ytnkhdnmilncidaa", sum := "8ba96c7b048908d72b9564e830a83124bb26b906cc0b8b0a69e9e15efd5a3425", func := "grapevine/grapevinelaw14.PulseTells", spec := "pulseTells", unfollowed := true, recurses := true, apart := false }
def PulseTellsSaid : Prop := pulseTellsRow.holds Try.pinned (OpenSpec.ofChange pulseTellsSpec)

/-- ITS FALSE NEIGHBOUR: 'it returns false'. Refute it at one input. -/
def pulseTellsWrong : ChangeSpec := { name := "pulseTells", fn := fun _ => fun
  | [d1, d2, d3, d4, d5] => { results := [.lit (.bool false)], args := [d1, d2, d3, d4, d5] }
  | _ => none }
def PulseTellsWrongFalsely : Prop := pulseTellsRow.holds Try.pinned (OpenSpec.ofChange pulseTellsWrong)

/-- 'grapevinelaw14.PulseRise': WHATEVER THE INPUT: true; the input reads as it did. -/
def pulseRiseSpec : ChangeSpec := { name := "pulseRise", fn := fun _ => fun
  | [d1, d2, d3] => { results := [.lit (.bool true)], args := [d1, d2, d3] }
  | _ => none }
def pulseRiseRow : OpenClaim := { program := "ytnkhdnmilncidaa", sum := "8ba96c7b048908d72b9564e830a83124bb26b906cc0b8b0a69e9e15efd5a3425", func := "grapevine/grapevinelaw14.PulseRise", spec := "pulseRise", unfollowed := true, recurses := true, apart := false }
def PulseRiseSaid : Prop := pulseRiseRow.holds Try.pinned (OpenSpec.ofChange pulseRiseSpec)

/-- ITS FALSE NEIGHBOUR: 'it returns false'. Refute it at one input. -/
def pulseRiseWrong : ChangeSpec := { name := "pulseRise", fn := fun _ => fun
  | [d1, d2, d3] => { results := [.lit (.bool false)], args := [d1, d2, d3] }
  | _ => none }
def PulseRiseWrongFalsely : Prop := pulseRiseRow.holds Try.pinned (OpenSpec.ofChange pulseRiseWrong)

/-- 'grapevinelaw14.PulseMerge': WHATEVER THE INPUT: true; the input reads as it did. -/
def pulseMergeSpec : ChangeSpec := { name := "pulseMerge", fn := fun _ => fun
  | [d1, d2, d3] => { results := [.lit (.bool true)], args := [d1, d2, d3] }
  | _ => none }
def pulseMergeRow : OpenClaim := { program := "ytnkhdnmilncidaa", sum := "8ba96c7b048908d72b9564e830a83124bb26b906cc0b8b0a69e9e15efd5a3425", func := "grapevine/grapevinelaw14.PulseMerge", spec := "pulseMerge", unfollowed := true, recurses := true, apart := false }
def PulseMergeSaid : Prop := pulseMergeRow.holds Try.pinned (OpenSpec.ofChange pulseMergeSpec)

/-- ITS FALSE NEIGHBOUR: 'it returns false'. Refute it at one input. -/
def pulseMergeWrong : ChangeSpec := { name := "pulseMerge", fn := fun _ => fun
  | [d1, d2, d3] => { results := [.lit (.bool false)], args := [d1, d2, d3] }
  | _ => none }
def PulseMergeWrongFalsely : Prop := pulseMergeRow.holds Try.pinned (OpenSpec.ofChange pulseMergeWrong)

/-- 'grapevinelaw14.PulseQuiet': WHATEVER THE INPUT: true; the input reads as it did. -/
def pulseQuietSpec : ChangeSpec := { name := "pulseQuiet", fn := fun _ => fun
  | [d1, d2, d3] => { results := [.lit (.bool true)], args := [d1, d2, d3] }
  | _ => none }
def pulseQuietRow : OpenClaim := { program := "ytnkhdnmilncidaa", sum := "8ba96c7b048908d72b9564e830a83124bb26b906cc0b8b0a69e9e15efd5a3425", func := "grapevine/grapevinelaw14.PulseQuiet", spec := "pulseQuiet", unfollowed := true, recurses := true, apart := false }
def PulseQuietSaid : Prop := pulseQuietRow.holds Try.pinned (OpenSpec.ofChange pulseQuietSpec)

/-- ITS FALSE NEIGHBOUR: 'it returns false'. Refute it at one input. -/
def pulseQuietWrong : ChangeSpec := { name := "pulseQuiet", fn := fun _ => fun
  | [d1, d2, d3] => { results := [.lit (.bool false)], args := [d1, d2, d3] }
  | _ => none }
def PulseQuietWrongFalsely : Prop := pulseQuietRow.holds Try.pinned (OpenSpec.ofChange pulseQuietWrong)

/-- 'grapevinelaw14.PulseUp': WHATEVER THE INPUT: true; the input reads as it did. -/
def pulseUpSpec : ChangeSpec := { name := "pulseUp", fn := fun _ => fun
  | [d1, d2, d3] => { results := [.lit (.bool true)], args := [d1, d2, d3] }
  | _ => none }
def pulseUpRow : OpenClaim := { program := "ytnkhdnmilncidaa", sum := "8ba96c7b048908d72b9564e830a83124bb26b906cc0b8b0a69e9e15efd5a3425", func := "grapevine/grapevinelaw14.PulseUp", spec := "pulseUp", unfollowed := true, recurses := true, apart := false }
def PulseUpSaid : Prop := pulseUpRow.holds Try.pinned (OpenSpec.ofChange pulseUpSpec)

/-- ITS FALSE NEIGHBOUR: 'it returns false'. Refute it at one input. -/
def pulseUpWrong : ChangeSpec := { name := "pulseUp", fn := fun _ => fun
  | [d1, d2, d3] => { results := [.lit (.bool false)], args := [d1, d2, d3] }
  | _ => none }
def PulseUpWrongFalsely : Prop := pulseUpRow.holds Try.pinned (OpenSpec.ofChange pulseUpWrong)

/- THE SECOND FORM. 'bulk': how many values and letters a reading holds, each counted each time it is reached (what is shared counts as often as it is met; a slice's spare places count too). A statement '..UptoSaid' is the law's where the arguments, and the package variables that the reading takes, are together of bulk at most 1048576: NARROWER than '..Said'. Prove '..Said' where nothing that the law and all that it calls make is longer than what came in: it says more and counts as full. Else prove '..UptoSaid'. A law counts once. -/
mutual
def uptoBulk {H : Type} : DataW H → Nat
  | .lit (.string bytes) => bytes.length + 1
  | .lit _ => 1
  | .nil => 1
  | .ptr d => uptoBulk d + 1
  | .slice elems spare => uptoBulkAll elems + uptoBulkAll spare + 1
  | .agg parts => uptoBulkAll parts + 1
  | .iface _ d => uptoBulk d + 1
  | .map entries => uptoBulkEntries entries + 1
  | .held _ => 1
def uptoBulkAll {H : Type} : List (DataW H) → Nat
  | [] => 0
  | d :: r => uptoBulk d + uptoBulkAll r
def uptoBulkEntries {H : Type} : List (Lit × DataW H) → Nat
  | [] => 0
  | x :: r => uptoBulkEntry x + uptoBulkEntries r
def uptoBulkEntry {H : Type} : Lit × DataW H → Nat
  | (.string bytes, d) => bytes.length + uptoBulk d + 1
  | (_, d) => uptoBulk d + 1
 end
def uptoSmall : (H : Type) → List (DataW H) → Bool := fun _ ds => decide (uptoBulkAll ds ≤ 1048576)
def OpenSpec.upto (s : _root_.Go.ChangeSpec) : _root_.Go.OpenSpec := { _root_.Go.OpenSpec.ofChange s with cond := some uptoSmall }

/-- 'grapevinelaw14.PulseTells', WHERE WHAT IT READS IS OF BULK AT MOST 1048576: true; the input reads as it did. -/
def pulseTellsUptoRow : OpenClaim := { program := "ytnkhdnmilncidaa", sum := "8ba96c7b048908d72b9564e830a83124bb26b906cc0b8b0a69e9e15efd5a3425", func := "grapevine/grapevinelaw14.PulseTells", spec := "pulseTells", unfollowed := true, recurses := true, apart := false, narrowed := true }
def PulseTellsUptoSaid : Prop := pulseTellsUptoRow.holds Try.pinned (OpenSpec.upto pulseTellsSpec)

/-- 'grapevinelaw14.PulseRise', WHERE WHAT IT READS IS OF BULK AT MOST 1048576: true; the input reads as it did. -/
def pulseRiseUptoRow : OpenClaim := { program := "ytnkhdnmilncidaa", sum := "8ba96c7b048908d72b9564e830a83124bb26b906cc0b8b0a69e9e15efd5a3425", func := "grapevine/grapevinelaw14.PulseRise", spec := "pulseRise", unfollowed := true, recurses := true, apart := false, narrowed := true }
def PulseRiseUptoSaid : Prop := pulseRiseUptoRow.holds Try.pinned (OpenSpec.upto pulseRiseSpec)

/-- 'grapevinelaw14.PulseMerge', WHERE WHAT IT READS IS OF BULK AT MOST 1048576: true; the input reads as it did. -/
def pulseMergeUptoRow : OpenClaim := { program := "ytnkhdnmilncidaa", sum := "8ba96c7b048908d72b9564e830a83124bb26b906cc0b8b0a69e9e15efd5a3425", func := "grapevine/grapevinelaw14.PulseMerge", spec := "pulseMerge", unfollowed := true, recurses := true, apart := false, narrowed := true }
def PulseMergeUptoSaid : Prop := pulseMergeUptoRow.holds Try.pinned (OpenSpec.upto pulseMergeSpec)

/-- 'grapevinelaw14.PulseQuiet', WHERE WHAT IT READS IS OF BULK AT MOST 1048576: true; the input reads as it did. -/
def pulseQuietUptoRow : OpenClaim := { program := "ytnkhdnmilncidaa", sum := "8ba96c7b048908d72b9564e830a83124bb26b906cc0b8b0a69e9e15efd5a3425", func := "grapevine/grapevinelaw14.PulseQuiet", spec := "pulseQuiet", unfollowed := true, recurses := true, apart := false, narrowed := true }
def PulseQuietUptoSaid : Prop := pulseQuietUptoRow.holds Try.pinned (OpenSpec.upto pulseQuietSpec)

/-- 'grapevinelaw14.PulseUp', WHERE WHAT IT READS IS OF BULK AT MOST 1048576: true; the input reads as it did. -/
def pulseUpUptoRow : OpenClaim := { program := "ytnkhdnmilncidaa", sum := "8ba96c7b048908d72b9564e830a83124bb26b906cc0b8b0a69e9e15efd5a3425", func := "grapevine/grapevinelaw14.PulseUp", spec := "pulseUp", unfollowed := true, recurses := true, apart := false, narrowed := true }
def PulseUpUptoSaid : Prop := pulseUpUptoRow.holds Try.pinned (OpenSpec.upto pulseUpSpec)

end Rows
end Go.Proofs.Ytnkhdnmilncidaa
