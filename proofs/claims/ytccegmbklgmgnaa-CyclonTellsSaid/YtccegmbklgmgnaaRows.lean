/-
  No cell of these rows narrows 'for every input' (looked for: loops, veiled, ifaces, maps, wideKeys, modest, calm, conditions, laid).
  DERIVED. THE GIVEN ROWS OF THIS SEAT. 5 by the template 'for every input the law returns true; each argument reads behind the call as it read before'; 0 by the template 'total and deterministic' (their statements: YtccegmbklgmgnaaTotals.lean).
  GIVEN WITH THE SEED: the statements are not yours to turn. If you find one false, say at which input.
  Laid BY PROGRAM, IN A SANDBOX (cutbox-rows.mjs): the forced cells as the released guide's own fill.sh prints them over the translation 6f8f705abcec77eb… (all of the seat's roots in one cut). By AI agents, Wed Nov 11 2026. No macro, syntax, notation, axiom, sorry.
-/
import Derived.Test.YtccegmbklgmgnaaChecked
import GoSem.Claim
import GoSem.ClaimJoined
import GoSem.ClaimMapViews
import Derived.JoinedTies
import Derived.KernelRfl
namespace Go.Proofs.Ytccegmbklgmgnaa
/- THE CELL 'sum', in the pinned program and in every row, IS THE sha256 OF THE DUMP (.gsa) THAT YtccegmbklgmgnaaProg.lean LOADS. Nothing in Lean hashes anything: it is a label: what it is worth is what the hold of that sum in a sandbox is worth. -/
noncomputable def Try.pinned : Pinned := { name := "ytccegmbklgmgnaa", sum := "6f8f705abcec77ebd9c31ae6856cfd3fc7acc665e0acf6fe150b6daba89a25b5", checked := Try.checked }
namespace Rows
def none {H : Type} : Left H := { results := [], args := [] }

/-- 'grapevinelaw10.CyclonTells': WHATEVER THE INPUT: true; the input reads as it did. -/
def cyclonTellsSpec : ChangeSpec := { name := "cyclonTells", fn := fun _ => fun
  | [d1, d2, d3, d4, d5, d6, d7, d8] => { results := [.lit (.bool true)], args := [d1, d2, d3, d4, d5, d6, d7, d8] }
  | _ => none }
def cyclonTellsRow : OpenClaim := { program := "ytccegmbklgmgnaa", sum := "6f8f705abcec77ebd9c31ae6856cfd3fc7acc665e0acf6fe150b6daba89a25b5", func := "grapevine/grapevinelaw10.CyclonTells", spec := "cyclonTells", inPlace := ["slices.overlaps[grapevine/api.Desc]"], unfollowed := true, recurses := true, apart := false }
def CyclonTellsSaid : Prop := cyclonTellsRow.holds Try.pinned (OpenSpec.ofChange cyclonTellsSpec)

/-- ITS FALSE NEIGHBOUR: 'it returns false'. Refute it at one input. -/
def cyclonTellsWrong : ChangeSpec := { name := "cyclonTells", fn := fun _ => fun
  | [d1, d2, d3, d4, d5, d6, d7, d8] => { results := [.lit (.bool false)], args := [d1, d2, d3, d4, d5, d6, d7, d8] }
  | _ => none }
def CyclonTellsWrongFalsely : Prop := cyclonTellsRow.holds Try.pinned (OpenSpec.ofChange cyclonTellsWrong)

/-- 'grapevinelaw10.CyclonMerge': WHATEVER THE INPUT: true; the input reads as it did. -/
def cyclonMergeSpec : ChangeSpec := { name := "cyclonMerge", fn := fun _ => fun
  | [d1, d2, d3, d4, d5] => { results := [.lit (.bool true)], args := [d1, d2, d3, d4, d5] }
  | _ => none }
def cyclonMergeRow : OpenClaim := { program := "ytccegmbklgmgnaa", sum := "6f8f705abcec77ebd9c31ae6856cfd3fc7acc665e0acf6fe150b6daba89a25b5", func := "grapevine/grapevinelaw10.CyclonMerge", spec := "cyclonMerge", inPlace := ["slices.overlaps[grapevine/api.Desc]"], unfollowed := true, recurses := true, apart := false }
def CyclonMergeSaid : Prop := cyclonMergeRow.holds Try.pinned (OpenSpec.ofChange cyclonMergeSpec)

/-- ITS FALSE NEIGHBOUR: 'it returns false'. Refute it at one input. -/
def cyclonMergeWrong : ChangeSpec := { name := "cyclonMerge", fn := fun _ => fun
  | [d1, d2, d3, d4, d5] => { results := [.lit (.bool false)], args := [d1, d2, d3, d4, d5] }
  | _ => none }
def CyclonMergeWrongFalsely : Prop := cyclonMergeRow.holds Try.pinned (OpenSpec.ofChange cyclonMergeWrong)

/-- 'grapevinelaw10.CyclonPick': WHATEVER THE INPUT: true; the input reads as it did. -/
def cyclonPickSpec : ChangeSpec := { name := "cyclonPick", fn := fun _ => fun
  | [d1, d2, d3, d4, d5] => { results := [.lit (.bool true)], args := [d1, d2, d3, d4, d5] }
  | _ => none }
def cyclonPickRow : OpenClaim := { program := "ytccegmbklgmgnaa", sum := "6f8f705abcec77ebd9c31ae6856cfd3fc7acc665e0acf6fe150b6daba89a25b5", func := "grapevine/grapevinelaw10.CyclonPick", spec := "cyclonPick", inPlace := ["slices.overlaps[grapevine/api.Desc]"], unfollowed := true, recurses := true, apart := false }
def CyclonPickSaid : Prop := cyclonPickRow.holds Try.pinned (OpenSpec.ofChange cyclonPickSpec)

/-- ITS FALSE NEIGHBOUR: 'it returns false'. Refute it at one input. -/
def cyclonPickWrong : ChangeSpec := { name := "cyclonPick", fn := fun _ => fun
  | [d1, d2, d3, d4, d5] => { results := [.lit (.bool false)], args := [d1, d2, d3, d4, d5] }
  | _ => none }
def CyclonPickWrongFalsely : Prop := cyclonPickRow.holds Try.pinned (OpenSpec.ofChange cyclonPickWrong)

/-- 'grapevinelaw10.CyclonAsk': WHATEVER THE INPUT: true; the input reads as it did. -/
def cyclonAskSpec : ChangeSpec := { name := "cyclonAsk", fn := fun _ => fun
  | [d1, d2, d3, d4, d5] => { results := [.lit (.bool true)], args := [d1, d2, d3, d4, d5] }
  | _ => none }
def cyclonAskRow : OpenClaim := { program := "ytccegmbklgmgnaa", sum := "6f8f705abcec77ebd9c31ae6856cfd3fc7acc665e0acf6fe150b6daba89a25b5", func := "grapevine/grapevinelaw10.CyclonAsk", spec := "cyclonAsk", inPlace := ["slices.overlaps[grapevine/api.Desc]"], unfollowed := true, recurses := true, apart := false }
def CyclonAskSaid : Prop := cyclonAskRow.holds Try.pinned (OpenSpec.ofChange cyclonAskSpec)

/-- ITS FALSE NEIGHBOUR: 'it returns false'. Refute it at one input. -/
def cyclonAskWrong : ChangeSpec := { name := "cyclonAsk", fn := fun _ => fun
  | [d1, d2, d3, d4, d5] => { results := [.lit (.bool false)], args := [d1, d2, d3, d4, d5] }
  | _ => none }
def CyclonAskWrongFalsely : Prop := cyclonAskRow.holds Try.pinned (OpenSpec.ofChange cyclonAskWrong)

/-- 'grapevinelaw10.CyclonTwo': WHATEVER THE INPUT: true; the input reads as it did. -/
def cyclonTwoSpec : ChangeSpec := { name := "cyclonTwo", fn := fun _ => fun
  | [d1, d2, d3, d4] => { results := [.lit (.bool true)], args := [d1, d2, d3, d4] }
  | _ => none }
def cyclonTwoRow : OpenClaim := { program := "ytccegmbklgmgnaa", sum := "6f8f705abcec77ebd9c31ae6856cfd3fc7acc665e0acf6fe150b6daba89a25b5", func := "grapevine/grapevinelaw10.CyclonTwo", spec := "cyclonTwo", inPlace := ["slices.overlaps[grapevine/api.Desc]"], unfollowed := true, recurses := true, apart := false }
def CyclonTwoSaid : Prop := cyclonTwoRow.holds Try.pinned (OpenSpec.ofChange cyclonTwoSpec)

/-- ITS FALSE NEIGHBOUR: 'it returns false'. Refute it at one input. -/
def cyclonTwoWrong : ChangeSpec := { name := "cyclonTwo", fn := fun _ => fun
  | [d1, d2, d3, d4] => { results := [.lit (.bool false)], args := [d1, d2, d3, d4] }
  | _ => none }
def CyclonTwoWrongFalsely : Prop := cyclonTwoRow.holds Try.pinned (OpenSpec.ofChange cyclonTwoWrong)

/- THE SECOND FORM. 'bulk': how many values and letters a reading holds, each counted each time it is reached (what is shared counts as often as it is met; a slice's spare places count too). A statement '..UptoSaid' is the law's where the arguments, and the package variables that the reading takes, are together of bulk at most 1048576: NARROWER than '..Said'. Prove '..Said' where nothing that the law and all that it calls make is longer than what came in: it says more and counts as full. Else prove '..UptoSaid'. A law counts once. -/
mutual
def uptoBulk {H : Type} : DataW H → Nat
  | .lit (.string bytes) => bytes.length + 1
  | .lit _ => 1
  | .nil => 1
  | .ptr d => uptoBulk d + 1
  | .slice elems spare => uptoBulkAll elems + uptoBulkAll spare + 1
  | .agg parts => uptoBulkAll parts + 1
  | .iface _ d => uptoBulk d + 1
  | .map entries => uptoBulkEntries entries + 1
  | .held _ => 1
def uptoBulkAll {H : Type} : List (DataW H) → Nat
  | [] => 0
  | d :: r => uptoBulk d + uptoBulkAll r
def uptoBulkEntries {H : Type} : List (Lit × DataW H) → Nat
  | [] => 0
  | x :: r => uptoBulkEntry x + uptoBulkEntries r
def uptoBulkEntry {H : Type} : Lit × DataW H → Nat
  | (.string bytes, d) => bytes.length + uptoBulk d + 1
  | (_, d) => uptoBulk d + 1
 end
def uptoSmall : (H : Type) → List (DataW H) → Bool := fun _ ds => decide (uptoBulkAll ds ≤ 1048576)
def OpenSpec.upto (s : _root_.Go.ChangeSpec) : _root_.Go.OpenSpec := { _root_.Go.OpenSpec.ofChange s with cond := some uptoSmall }

/-- 'grapevinelaw10.CyclonTells', WHERE WHAT IT READS IS OF BULK AT MOST 1048576: true; the input reads as it did. -/
def cyclonTellsUptoRow : OpenClaim := { program := "ytccegmbklgmgnaa", sum := "6f8f705abcec77ebd9c31ae6856cfd3fc7acc665e0acf6fe150b6daba89a25b5", func := "grapevine/grapevinelaw10.CyclonTells", spec := "cyclonTells", inPlace := ["slices.overlaps[grapevine/api.Desc]"], unfollowed := true, recurses := true, apart := false, narrowed := true }
def CyclonTellsUptoSaid : Prop := cyclonTellsUptoRow.holds Try.pinned (OpenSpec.upto cyclonTellsSpec)

/-- 'grapevinelaw10.CyclonMerge', WHERE WHAT IT READS IS OF BULK AT MOST 1048576: true; the input reads as it did. -/
def cyclonMergeUptoRow : OpenClaim := { program := "ytccegmbklgmgnaa", sum := "6f8f705abcec77ebd9c31ae6856cfd3fc7acc665e0acf6fe150b6daba89a25b5", func := "grapevine/grapevinelaw10.CyclonMerge", spec := "cyclonMerge", inPlace := ["slices.overlaps[grapevine/api.Desc]"], unfollowed := true, recurses := true, apart := false, narrowed := true }
def CyclonMergeUptoSaid : Prop := cyclonMergeUptoRow.holds Try.pinned (OpenSpec.upto cyclonMergeSpec)

/-- 'grapevinelaw10.CyclonPick', WHERE WHAT IT READS IS OF BULK AT MOST 1048576: true; the input reads as it did. -/
def cyclonPickUptoRow : OpenClaim := { program := "ytccegmbklgmgnaa", sum := "6f8f705abcec77ebd9c31ae6856cfd3fc7acc665e0acf6fe150b6daba89a25b5", func := "grapevine/grapevinelaw10.CyclonPick", spec := "cyclonPick", inPlace := ["slices.overlaps[grapevine/api.Desc]"], unfollowed := true, recurses := true, apart := false, narrowed := true }
def CyclonPickUptoSaid : Prop := cyclonPickUptoRow.holds Try.pinned (OpenSpec.upto cyclonPickSpec)

/-- 'grapevinelaw10.CyclonAsk', WHERE WHAT IT READS IS OF BULK AT MOST 1048576: true; the input reads as it did. -/
def cyclonAskUptoRow : OpenClaim := { program := "ytccegmbklgmgnaa", sum := "6f8f705abcec77ebd9c31ae6856cfd3fc7acc665e0acf6fe150b6daba89a25b5", func := "grapevine/grapevinelaw10.CyclonAsk", spec := "cyclonAsk", inPlace := ["slices.overlaps[grapevine/api.Desc]"], unfollowed := true, recurses := true, apart := false, narrowed := true }
def CyclonAskUptoSaid : Prop := cyclonAskUptoRow.holds Try.pinned (OpenSpec.upto cyclonAskSpec)

/-- 'grapevinelaw10.CyclonTwo', WHERE WHAT IT READS IS OF BULK AT MOST 1048576: true; the input reads as it did. -/
def cyclonTwoUptoRow : OpenClaim := { program := "ytccegmbklgmgnaa", sum := "6f8f705abcec77ebd9c31ae6856cfd3fc7acc665e0acf6fe150b6daba89a25b5", func := "grapevine/grapevinelaw10.CyclonTwo", spec := "cyclonTwo", inPlace := ["slices.overlaps[grapevine/api.Desc]"], unfollowed := true, recurses := true, apart := false, narrowed := true }
def CyclonTwoUptoSaid : Prop := cyclonTwoUptoRow.holds Try.pinned (OpenSpec.upto cyclonTwoSpec)

end Rows
end Go.Proofs.Ytccegmbklgmgnaa
