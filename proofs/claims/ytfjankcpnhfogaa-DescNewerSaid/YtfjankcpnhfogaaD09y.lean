/- Law DescNewer. -/
import Derived.Test.YtfjankcpnhfogaaD09ya
import Derived.Test.YtfjankcpnhfogaaD09yb
namespace Go.Proofs.Ytfjankcpnhfogaa
open Go.RowKit

theorem descNewer_ok (l : List De) (cap : Nat) (a b : De) (ca cb : Nat) (self : Int) (hl : l.length ≤ 9223372036854775807) (hok : ∀ y ∈ l, DeOk y) (ha : DeOk a) (hb : DeOk b) (hca : a.fl.length ≤ ca) (hcb : b.fl.length ≤ cb) : FnOK Try.prog GG 5 [] [.z 4 (l.map deC) cap, deS a ca, deS b cb, .v (.int .u8 self)] (fun r _ ext => r = .v (.bool true) ∧ ext = []) := by
  cases hfew : (l.all (fun d => decide (d.fl.length ≤ 8)) && decide (l.length ≤ 20)) with
  | false => exact nFew1 l cap a b ca cb self hl hok ha hb hca hcb hfew
  | true =>
    by_cases h8 : a.fl.length ≤ 8 ∧ b.fl.length ≤ 8
    · by_cases hq : a.node = self ∨ mxI a.inc = mxI b.inc ∧ a.age = b.age
      · exact nEq l cap a b ca cb self hl hok ha hb hca hcb hfew h8 hq
      · cases hnb : newB (yD a b) (xD a) with
        | true => exact nGoodY l cap a b ca cb self hl hok ha hb hca hcb hfew h8 (fun h => hq (.inl h)) (fun h => hq (.inr h)) hnb
        | false => exact nGoodX l cap a b ca cb self hl hok ha hb hca hcb hfew h8 (fun h => hq (.inl h)) (fun h => hq (.inr h)) hnb
    · exact nFew2 l cap a b ca cb self hl hok ha hb hca hcb hfew (by omega)
end Go.Proofs.Ytfjankcpnhfogaa
