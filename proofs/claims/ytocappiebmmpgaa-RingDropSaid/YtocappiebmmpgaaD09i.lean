/- Descriptors by computing: Drop, Right, View, one. -/
import Derived.Test.YtocappiebmmpgaaD09h
namespace Go.Proofs.Ytocappiebmmpgaa
open Go.RowKit

def dropL (x : Int) (l : List De) : List De := match l[placeN x l]? with
  | some y => if y.node = x then l.eraseIdx (placeN x l) else l
  | none => l
theorem map_eraseIdx {α β : Type} (g : α → β) : ∀ (l : List α) (k : Nat), (l.map g).eraseIdx k = (l.eraseIdx k).map g
  | [], _ => rfl
  | _ :: _, 0 => rfl
  | a :: l, k + 1 => by
    simp only [List.map_cons, List.eraseIdx_cons_succ]
    rw [map_eraseIdx g l k]
theorem has_or (x : Int) (l : List De) : (∃ y, l[placeN x l]? = some y ∧ y.node = x ∧ findZ x l = placeN x l ∧ dropL x l = l.eraseIdx (placeN x l)) ∨ ((∀ y, l[placeN x l]? = some y → y.node ≠ x) ∧ findZ x l = -1 ∧ dropL x l = l) := by
  unfold findZ dropL
  cases h : l[placeN x l]? with
  | none => exact .inr ⟨by simp, rfl, rfl⟩
  | some y =>
    by_cases hx : y.node = x
    · exact .inl ⟨y, rfl, hx, if_pos hx, if_pos hx⟩
    · exact .inr ⟨fun z hz => by cases hz; exact hx, if_neg hx, if_neg hx⟩
theorem find_z (l : List De) (cap : Nat) (x : Int) (hl : l.length ≤ 1099511627776) (hr : Rising l) (z : Int) (hz : findZ x l = z) : FnOK Try.prog GG 50 [.ro 4 (l.map deC)] [.s (.o 0) 4 0 l.length cap, .v (.int .u8 x)] (fun r _ ext => r = .v (.int .i64 z) ∧ ext = []) := by
  subst hz
  exact find_ok l cap x hl hr
end Go.Proofs.Ytocappiebmmpgaa
