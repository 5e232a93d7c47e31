/- Law package of desc by computing: the chapter's examples. -/
import Derived.Test.YtocappiebmmpgaaD09m
import Derived.Test.YtocappiebmmpgaaZY
namespace Go.Proofs.Ytocappiebmmpgaa
open Go.RowKit

abbrev oneD (n a : Int) : De := ⟨n, 1, a, [⟨0, 1⟩]⟩
abbrev l2 : List De := [oneD 1 4, oneD 3 4]
abbrev l3 : List De := [oneD 1 4, oneD 3 4, oneD 5 255]
abbrev o3 : List De := [oneD 1 5, oneD 3 5, oneD 5 255]
abbrev n2 : List De := [oneD 1 4, oneD 3 2]
theorem older_z (l : List De) (cap : Nat) (hl : l.length ≤ 1099511627776) (hf : FlOk l) (hb : ∀ y ∈ l, 0 ≤ y.age ∧ y.age ≤ 255) (o : List De) (ho : l.map older = o) : FnOK Try.prog GG 45 [.ro 4 (l.map deC)] [.s (.o 0) 4 0 l.length cap] (fun r _ ext => ∃ cap', l.length ≤ cap' ∧ r = .s (.n 0) 4 0 l.length cap' ∧ ext = [.row 27 4 cap' (o.map deC)]) := by
  subst ho
  exact older_ok l cap hl hf hb
theorem put_z (l : List De) (cap : Nat) (hl : l.length ≤ 1099511627776) (hr : Rising l) (hf : FlOk l) (d : De) (cd : Nat) (hcd : d.fl.length ≤ cd) (hdl : d.fl.length ≤ 1099511627776) (self room : Int) (y : De) (hy : l[placeN d.node l]? = some y) (hx : y.node = d.node) (hb : d.node ≠ self ∧ d.inc ≠ 0) (hnb : newB d y = true) (o : List De) (ho : l.set (placeN d.node l) d = o) : FnOK Try.prog GG 46 [.ro 4 (l.map deC)] [.s (.o 0) 4 0 l.length cap, deS d cd, .v (.int .u8 self), .v (.int .i64 room)] (fun r _ ext => ∃ cap', (o).length ≤ cap' ∧ r = .tup [.s (.n 0) 4 0 (o).length cap', .v (.bool true)] ∧ ext = [.row 27 4 cap' ((o).map deC)]) := by
  subst ho
  exact put_new l cap hl hr hf d cd hcd hdl self room y hy hx hb hnb
theorem descs_z (l : List De) (c1 c2 : Nat) (A B : List (List CV)) (e1 e2 : Nat) (hl : l.length ≤ 1099511627776) (hA : AtE A e1 l) (hB : AtE B e2 l) (hfl : FlOk l) : FnOK Try.prog GG 19 [.ro 4 A, .ro 4 B] [.s (.o 0) 4 e1 l.length c1, .s (.o 1) 4 e2 l.length c2] (fun r _ ext => r = .v (.bool true) ∧ ext = []) := by
  have h := descs_raw l l c1 c2 hl A B e1 e2 hA hB hfl
  rw [decide_eq_true rfl] at h
  exact h
theorem rising2 : Rising l2 := by decide
theorem flok2 : FlOk l2 := by decide
theorem flok3 : FlOk l3 := by decide
end Go.Proofs.Ytocappiebmmpgaa
