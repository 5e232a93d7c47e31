/- Law SampleWait, both ways. -/
import Derived.Test.YtjghbfbifkhloaaW11e
namespace Go.Proofs.Ytjghbfbifkhloaa
open Go.RowKit

theorem sampleWait_ok (node other left : Int) (l : List De) (cap : Nat) (at_ : Int) (hl : l.length ≤ 9223372036854775807) (hlf : 0 ≤ left ∧ left ≤ 255) (hat : 0 ≤ at_ ∧ at_ ≤ 65535) : FnOK Try.prog GG 4 [] [.v (.int .u8 node), .v (.int .u8 other), .v (.int .u8 left), .z 4 (l.map deC) cap, .v (.int .u16 at_)] (fun r _ ext => r = .v (.bool true) ∧ ext = []) := by
  cases hfew : (l.all (fun d => decide (d.fl.length ≤ 8)) && decide (l.length ≤ 20)) with
  | false => exact waitFew node other left l cap at_ hl hlf hat hfew
  | true => exact waitGood node other left l cap at_ hl hlf hat hfew
end Go.Proofs.Ytjghbfbifkhloaa
