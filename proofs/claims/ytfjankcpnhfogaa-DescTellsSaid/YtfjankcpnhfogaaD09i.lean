/- Descriptors by computing: Drop, Right, View, one. -/
import Derived.Test.YtfjankcpnhfogaaD09h
namespace Go.Proofs.Ytfjankcpnhfogaa
open Go.RowKit

def dropL (x : Int) (l : List De) : List De := match l[placeN x l]? with
  | some y => if y.node = x then l.eraseIdx (placeN x l) else l
  | none => l
theorem map_eraseIdx {α β : Type} (g : α → β) : ∀ (l : List α) (k : Nat), (l.map g).eraseIdx k = (l.eraseIdx k).map g
  | [], _ => rfl
  | _ :: _, 0 => rfl
  | a :: l, k + 1 => by
    simp only [List.map_cons, List.eraseIdx_cons_succ]
    rw [map_eraseIdx g l k]
theorem has_or (x : Int) (l : List De) : (∃ y, l[placeN x l]? = some y ∧ y.node = x ∧ findZ x l = placeN x l ∧ dropL x l = l.eraseIdx (placeN x l)) ∨ ((∀ y, l[placeN x l]? = some y → y.node ≠ x) ∧ findZ x l = -1 ∧ dropL x l = l) := by
  unfold findZ dropL
  cases h : l[placeN x l]? with
  | none => exact .inr ⟨by simp, rfl, rfl⟩
  | some y =>
    by_cases hx : y.node = x
    · exact .inl ⟨y, rfl, hx, if_pos hx, if_pos hx⟩
    · exact .inr ⟨fun z hz => by cases hz; exact hx, if_neg hx, if_neg hx⟩
theorem find_z (l : List De) (cap : Nat) (x : Int) (hl : l.length ≤ 1099511627776) (hr : Rising l) (z : Int) (hz : findZ x l = z) : FnOK Try.prog GG 21 [.ro 4 (l.map deC)] [.s (.o 0) 4 0 l.length cap, .v (.int .u8 x)] (fun r _ ext => r = .v (.int .i64 z) ∧ ext = []) := by
  subst hz
  exact find_ok l cap x hl hr
set_option maxRecDepth 100000 in
set_option maxHeartbeats 4000000 in
theorem drop_ok (l : List De) (cap : Nat) (x : Int) (hl : l.length ≤ 1099511627776) (hr : Rising l) (hf : FlOk l) : FnOK Try.prog GG 23 [.ro 4 (l.map deC)] [.s (.o 0) 4 0 l.length cap, .v (.int .u8 x)] (fun r _ ext => ∃ cap' m, (dropL x l).length ≤ cap' ∧ r = .s (.n 0) 4 0 (dropL x l).length cap' ∧ ext = [.row 27 4 cap' ((dropL x l).map deC ++ m)]) := by
  rcases has_or x l with ⟨y, hy, hx, hF, hD⟩ | ⟨hn, hF, hD⟩
  · have hlt := getElem?_lt hy
    have hle : (l.eraseIdx (placeN x l)).length = l.length - 1 := by rw [List.length_eraseIdx, if_pos hlt]
    rw [hD]
    refine fn_new (C := seat) seat_ok [] GG_no (Try.func23) rfl rfl rfl rfl rfl rfl ?_
    repeat' ((try conv => whnf); first
      | (with_reducible refine OKv.go (C := seat) seat_ok ?_)
      | (with_reducible refine BB_true ?_)
      | (with_reducible refine BB_false ?_)
      | (with_reducible refine Both.mk ?_ ?_)
      | (with_reducible refine VS.mk ?_)
      | (refine PSem.go (C := seat) seat_ok ?_)
      | (refine And.intro (PlanOK.mk (by kernel_rfl) rfl (by kernel_rfl) (by kernel_rfl)) ?_)
      | (refine And.intro rfl (Exists.intro _ (And.intro (by first | assumption | rfl) ?_)))
      | (refine And.intro ⟨rfl, rfl, rfl⟩ ?_)
      | (refine call_ro [.o 0] (copy_ok l cap hl hf) GG_no rfl rfl rfl ⟨⟨_, rfl, rfl, rfl⟩, trivial⟩ ?_; rintro r bs' ext ⟨c', hc', rfl, rfl⟩)
      | (refine call_ro [.o 0] (find_z l cap x hl hr _ hF) GG_no rfl rfl rfl ⟨⟨_, rfl, rfl, rfl⟩, trivial⟩ ?_; rintro r bs' ext ⟨rfl, rfl⟩)
      | (refine call_own [.n 0] (delete_raw (l.map deC) l.length (placeN x l) _ c' c' (by simp) hlt (by rw [IntKind.wrap_i64]; omega) hc' hl) GG_no rfl rfl rfl ⟨⟨_, rfl, .inr ⟨(fun _ h => by cases h), rfl⟩⟩, trivial⟩ (by decide) ?_; rintro r bs' ext ⟨rfl, rfl, rfl⟩; refine ⟨⟨rfl, trivial⟩, ?_⟩)
      | (refine And.intro (by omega) ?_)
      | (refine BB.mk (fun _h => ?_) (fun _h => ?_) <;> (first | (exact absurd _h (by decide)) | (exfalso; simp only [boolSet] at _h <;> omega) | skip)))
    all_goals (try conv => whnf)
    refine Fin.mk ⟨⟨[0], .s (.n 0) 4 0 (l.eraseIdx (placeN x l)).length c', [.row 27 4 c' ((l.eraseIdx (placeN x l)).map deC ++ [[CV.v (.int .u8 0), .v (.int .u16 0), .v (.int .u8 0), .v (.slice none 0 0)]])], by decide, by rw [hle]; rfl, ⟨.inr (.inl ?_), trivial⟩, c', [[CV.v (.int .u8 0), .v (.int .u16 0), .v (.int .u8 0), .v (.slice none 0 0)]], by rw [hle]; omega, rfl, rfl⟩, rfl⟩
    rw [← map_eraseIdx]
    rfl
  · rw [hD]
    refine fn_new (C := seat) seat_ok [] GG_no (Try.func23) rfl rfl rfl rfl rfl rfl ?_
    repeat' ((try conv => whnf); first
      | (with_reducible refine OKv.go (C := seat) seat_ok ?_)
      | (with_reducible refine BB_true ?_)
      | (with_reducible refine BB_false ?_)
      | (with_reducible refine Both.mk ?_ ?_)
      | (with_reducible refine VS.mk ?_)
      | (refine PSem.go (C := seat) seat_ok ?_)
      | (refine And.intro (PlanOK.mk (by kernel_rfl) rfl (by kernel_rfl) (by kernel_rfl)) ?_)
      | (refine And.intro rfl (Exists.intro _ (And.intro (by first | assumption | rfl) ?_)))
      | (refine And.intro ⟨rfl, rfl, rfl⟩ ?_)
      | (refine call_ro [.o 0] (copy_ok l cap hl hf) GG_no rfl rfl rfl ⟨⟨_, rfl, rfl, rfl⟩, trivial⟩ ?_; rintro r bs' ext ⟨c', hc', rfl, rfl⟩)
      | (refine call_ro [.o 0] (find_z l cap x hl hr _ hF) GG_no rfl rfl rfl ⟨⟨_, rfl, rfl, rfl⟩, trivial⟩ ?_; rintro r bs' ext ⟨rfl, rfl⟩)
      | (refine And.intro (by omega) ?_)
      | (refine BB.mk (fun _h => ?_) (fun _h => ?_) <;> (first | (exact absurd _h (by decide)) | (exfalso; simp only [boolSet] at _h <;> omega) | skip)))
    all_goals (try conv => whnf)
    refine Fin.mk ⟨⟨[0], .s (.n 0) 4 0 l.length c', [.row 27 4 c' (l.map deC ++ [])], by decide, rfl, ⟨.inr (.inl ?_), trivial⟩, c', [], hc', rfl, rfl⟩, rfl⟩
    rw [List.append_nil]
    rfl
end Go.Proofs.Ytfjankcpnhfogaa
