/-
  No cell of these rows narrows 'for every input' (looked for: loops, veiled, ifaces, maps, wideKeys, modest, calm, conditions, laid).
  DERIVED. THE GIVEN ROWS OF THIS SEAT. 5 by the template 'for every input the law returns true; each argument reads behind the call as it read before'; 0 by the template 'total and deterministic' (their statements: YthbgcdnjmdgkoaaTotals.lean).
  GIVEN WITH THE SEED: the statements are not yours to turn. If you find one false, say at which input.
  Laid BY PROGRAM, IN A SANDBOX (cutbox-rows.mjs): the forced cells as the released guide's own fill.sh prints them over the translation d6d8c79d2b3f4ad3… (all of the seat's roots in one cut). By AI agents, Wed Nov 11 2026. No macro, syntax, notation, axiom, sorry.
-/
import Derived.Test.YthbgcdnjmdgkoaaChecked
import GoSem.Claim
import GoSem.ClaimJoined
import GoSem.ClaimMapViews
import Derived.JoinedTies
import Derived.KernelRfl
namespace Go.Proofs.Ythbgcdnjmdgkoaa
/- THE CELL 'sum', in the pinned program and in every row, IS THE sha256 OF THE DUMP (.gsa) THAT YthbgcdnjmdgkoaaProg.lean LOADS. Nothing in Lean hashes anything: it is a label: what it is worth is what the hold of that sum in a sandbox is worth. -/
noncomputable def Try.pinned : Pinned := { name := "ythbgcdnjmdgkoaa", sum := "d6d8c79d2b3f4ad3896cace641478b0382531cff8ff2d7f5343967afacb7f723", checked := Try.checked }
namespace Rows
def none {H : Type} : Left H := { results := [], args := [] }

/-- 'grapevinelaw16.PushTells': WHATEVER THE INPUT: true; the input reads as it did. -/
def pushTellsSpec : ChangeSpec := { name := "pushTells", fn := fun _ => fun
  | [d1, d2, d3, d4] => { results := [.lit (.bool true)], args := [d1, d2, d3, d4] }
  | _ => none }
def pushTellsRow : OpenClaim := { program := "ythbgcdnjmdgkoaa", sum := "d6d8c79d2b3f4ad3896cace641478b0382531cff8ff2d7f5343967afacb7f723", func := "grapevine/grapevinelaw16.PushTells", spec := "pushTells", unfollowed := true, recurses := true, apart := false }
def PushTellsSaid : Prop := pushTellsRow.holds Try.pinned (OpenSpec.ofChange pushTellsSpec)

/-- ITS FALSE NEIGHBOUR: 'it returns false'. Refute it at one input. -/
def pushTellsWrong : ChangeSpec := { name := "pushTells", fn := fun _ => fun
  | [d1, d2, d3, d4] => { results := [.lit (.bool false)], args := [d1, d2, d3, d4] }
  | _ => none }
def PushTellsWrongFalsely : Prop := pushTellsRow.holds Try.pinned (OpenSpec.ofChange pushTellsWrong)

/-- 'grapevinelaw16.PushOnce': WHATEVER THE INPUT: true; the input reads as it did. -/
def pushOnceSpec : ChangeSpec := { name := "pushOnce", fn := fun _ => fun
  | [d1, d2, d3, d4] => { results := [.lit (.bool true)], args := [d1, d2, d3, d4] }
  | _ => none }
def pushOnceRow : OpenClaim := { program := "ythbgcdnjmdgkoaa", sum := "d6d8c79d2b3f4ad3896cace641478b0382531cff8ff2d7f5343967afacb7f723", func := "grapevine/grapevinelaw16.PushOnce", spec := "pushOnce", unfollowed := true, recurses := true, apart := false }
def PushOnceSaid : Prop := pushOnceRow.holds Try.pinned (OpenSpec.ofChange pushOnceSpec)

/-- ITS FALSE NEIGHBOUR: 'it returns false'. Refute it at one input. -/
def pushOnceWrong : ChangeSpec := { name := "pushOnce", fn := fun _ => fun
  | [d1, d2, d3, d4] => { results := [.lit (.bool false)], args := [d1, d2, d3, d4] }
  | _ => none }
def PushOnceWrongFalsely : Prop := pushOnceRow.holds Try.pinned (OpenSpec.ofChange pushOnceWrong)

/-- 'grapevinelaw16.PushAll': WHATEVER THE INPUT: true; the input reads as it did. -/
def pushAllSpec : ChangeSpec := { name := "pushAll", fn := fun _ => fun
  | [d1, d2, d3, d4, d5] => { results := [.lit (.bool true)], args := [d1, d2, d3, d4, d5] }
  | _ => none }
def pushAllRow : OpenClaim := { program := "ythbgcdnjmdgkoaa", sum := "d6d8c79d2b3f4ad3896cace641478b0382531cff8ff2d7f5343967afacb7f723", func := "grapevine/grapevinelaw16.PushAll", spec := "pushAll", unfollowed := true, recurses := true, apart := false }
def PushAllSaid : Prop := pushAllRow.holds Try.pinned (OpenSpec.ofChange pushAllSpec)

/-- ITS FALSE NEIGHBOUR: 'it returns false'. Refute it at one input. -/
def pushAllWrong : ChangeSpec := { name := "pushAll", fn := fun _ => fun
  | [d1, d2, d3, d4, d5] => { results := [.lit (.bool false)], args := [d1, d2, d3, d4, d5] }
  | _ => none }
def PushAllWrongFalsely : Prop := pushAllRow.holds Try.pinned (OpenSpec.ofChange pushAllWrong)

/-- 'grapevinelaw16.PushEach': WHATEVER THE INPUT: true; the input reads as it did. -/
def pushEachSpec : ChangeSpec := { name := "pushEach", fn := fun _ => fun
  | [d1, d2] => { results := [.lit (.bool true)], args := [d1, d2] }
  | _ => none }
def pushEachRow : OpenClaim := { program := "ythbgcdnjmdgkoaa", sum := "d6d8c79d2b3f4ad3896cace641478b0382531cff8ff2d7f5343967afacb7f723", func := "grapevine/grapevinelaw16.PushEach", spec := "pushEach", unfollowed := true, recurses := true, apart := false }
def PushEachSaid : Prop := pushEachRow.holds Try.pinned (OpenSpec.ofChange pushEachSpec)

/-- ITS FALSE NEIGHBOUR: 'it returns false'. Refute it at one input. -/
def pushEachWrong : ChangeSpec := { name := "pushEach", fn := fun _ => fun
  | [d1, d2] => { results := [.lit (.bool false)], args := [d1, d2] }
  | _ => none }
def PushEachWrongFalsely : Prop := pushEachRow.holds Try.pinned (OpenSpec.ofChange pushEachWrong)

/-- 'grapevinelaw16.PushHops': WHATEVER THE INPUT: true; the input reads as it did. -/
def pushHopsSpec : ChangeSpec := { name := "pushHops", fn := fun _ => fun
  | [d] => { results := [.lit (.bool true)], args := [d] }
  | _ => none }
def pushHopsRow : OpenClaim := { program := "ythbgcdnjmdgkoaa", sum := "d6d8c79d2b3f4ad3896cace641478b0382531cff8ff2d7f5343967afacb7f723", func := "grapevine/grapevinelaw16.PushHops", spec := "pushHops", unfollowed := true, recurses := true, apart := false }
def PushHopsSaid : Prop := pushHopsRow.holds Try.pinned (OpenSpec.ofChange pushHopsSpec)

/-- ITS FALSE NEIGHBOUR: 'it returns false'. Refute it at one input. -/
def pushHopsWrong : ChangeSpec := { name := "pushHops", fn := fun _ => fun
  | [d] => { results := [.lit (.bool false)], args := [d] }
  | _ => none }
def PushHopsWrongFalsely : Prop := pushHopsRow.holds Try.pinned (OpenSpec.ofChange pushHopsWrong)

/- THE SECOND FORM. 'bulk': how many values and letters a reading holds, each counted each time it is reached (what is shared counts as often as it is met; a slice's spare places count too). A statement '..UptoSaid' is the law's where the arguments, and the package variables that the reading takes, are together of bulk at most 1048576: NARROWER than '..Said'. Prove '..Said' where nothing that the law and all that it calls make is longer than what came in: it says more and counts as full. Else prove '..UptoSaid'. A law counts once. -/
mutual
def uptoBulk {H : Type} : DataW H → Nat
  | .lit (.string bytes) => bytes.length + 1
  | .lit _ => 1
  | .nil => 1
  | .ptr d => uptoBulk d + 1
  | .slice elems spare => uptoBulkAll elems + uptoBulkAll spare + 1
  | .agg parts => uptoBulkAll parts + 1
  | .iface _ d => uptoBulk d + 1
  | .map entries => uptoBulkEntries entries + 1
  | .held _ => 1
def uptoBulkAll {H : Type} : List (DataW H) → Nat
  | [] => 0
  | d :: r => uptoBulk d + uptoBulkAll r
def uptoBulkEntries {H : Type} : List (Lit × DataW H) → Nat
  | [] => 0
  | x :: r => uptoBulkEntry x + uptoBulkEntries r
def uptoBulkEntry {H : Type} : Lit × DataW H → Nat
  | (.string bytes, d) => bytes.length + uptoBulk d + 1
  | (_, d) => uptoBulk d + 1
 end
def uptoSmall : (H : Type) → List (DataW H) → Bool := fun _ ds => decide (uptoBulkAll ds ≤ 1048576)
def OpenSpec.upto (s : _root_.Go.ChangeSpec) : _root_.Go.OpenSpec := { _root_.Go.OpenSpec.ofChange s with cond := some uptoSmall }

/-- 'grapevinelaw16.PushTells', WHERE WHAT IT READS IS OF BULK AT MOST 1048576: true; the input reads as it did. -/
def pushTellsUptoRow : OpenClaim := { program := "ythbgcdnjmdgkoaa", sum := "d6d8c79d2b3f4ad3896cace641478b0382531cff8ff2d7f5343967afacb7f723", func := "grapevine/grapevinelaw16.PushTells", spec := "pushTells", unfollowed := true, recurses := true, apart := false, narrowed := true }
def PushTellsUptoSaid : Prop := pushTellsUptoRow.holds Try.pinned (OpenSpec.upto pushTellsSpec)

/-- 'grapevinelaw16.PushOnce', WHERE WHAT IT READS IS OF BULK AT MOST 1048576: true; the input reads as it did. -/
def pushOnceUptoRow : OpenClaim := { program := "ythbgcdnjmdgkoaa", sum := "d6d8c79d2b3f4ad3896cace641478b0382531cff8ff2d7f5343967afacb7f723", func := "grapevine/grapevinelaw16.PushOnce", spec := "pushOnce", unfollowed := true, recurses := true, apart := false, narrowed := true }
def PushOnceUptoSaid : Prop := pushOnceUptoRow.holds Try.pinned (OpenSpec.upto pushOnceSpec)

/-- 'grapevinelaw16.PushAll', WHERE WHAT IT READS IS OF BULK AT MOST 1048576: true; the input reads as it did. -/
def pushAllUptoRow : OpenClaim := { program := "ythbgcdnjmdgkoaa", sum := "d6d8c79d2b3f4ad3896cace641478b0382531cff8ff2d7f5343967afacb7f723", func := "grapevine/grapevinelaw16.PushAll", spec := "pushAll", unfollowed := true, recurses := true, apart := false, narrowed := true }
def PushAllUptoSaid : Prop := pushAllUptoRow.holds Try.pinned (OpenSpec.upto pushAllSpec)

/-- 'grapevinelaw16.PushEach', WHERE WHAT IT READS IS OF BULK AT MOST 1048576: true; the input reads as it did. -/
def pushEachUptoRow : OpenClaim := { program := "ythbgcdnjmdgkoaa", sum := "d6d8c79d2b3f4ad3896cace641478b0382531cff8ff2d7f5343967afacb7f723", func := "grapevine/grapevinelaw16.PushEach", spec := "pushEach", unfollowed := true, recurses := true, apart := false, narrowed := true }
def PushEachUptoSaid : Prop := pushEachUptoRow.holds Try.pinned (OpenSpec.upto pushEachSpec)

/-- 'grapevinelaw16.PushHops', WHERE WHAT IT READS IS OF BULK AT MOST 1048576: true; the input reads as it did. -/
def pushHopsUptoRow : OpenClaim := { program := "ythbgcdnjmdgkoaa", sum := "d6d8c79d2b3f4ad3896cace641478b0382531cff8ff2d7f5343967afacb7f723", func := "grapevine/grapevinelaw16.PushHops", spec := "pushHops", unfollowed := true, recurses := true, apart := false, narrowed := true }
def PushHopsUptoSaid : Prop := pushHopsUptoRow.holds Try.pinned (OpenSpec.upto pushHopsSpec)

end Rows
end Go.Proofs.Ythbgcdnjmdgkoaa
