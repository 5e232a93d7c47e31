/- Package ident, by computing: Put of a new one. -/
import Derived.Test.YtcjcnlahieddoaaI07f
namespace Go.Proofs.Ytcjcnlahieddoaa
open Go.RowKit

def insL (l : List Id_) (x : Id_) : List Id_ := l.take (l.findIdx (lessB x)) ++ x :: l.drop (l.findIdx (lessB x))
theorem has_no (l : List Id_) (x : Id_) (cap : Nat) (hl : l.length ≤ 1099511627776) (hn : (l.any fun y => eqB y x) = false) : FnOK Try.prog GG 22 [.ro 3 (l.map idC)] [.s (.o 0) 3 0 l.length cap, idS x] (fun r _ ext => r = .v (.bool false) ∧ ext = []) := by
  refine (has_p l x cap hl).mono ?_
  rintro r bs' ext ⟨rfl, rfl⟩
  exact ⟨by rw [hn], rfl⟩
theorem find_at (l : List Id_) (x : Id_) (g cap : Nat) (p : Id_ → Bool) (hl : l.length ≤ 1099511627776) (hg : ∀ y, FnOK Try.prog GG g [.ro 3 [idC x]] [idS y, .p (.o 0) 0 0 0] (fun r _ ext => r = .v (.bool (p y)) ∧ ext = [])) :
    FnOK Try.prog GG 38 [.ro 3 (l.map idC), .ro 3 [idC x]] [.s (.o 0) 3 0 l.length cap, .fn g [.p (.o 1) 0 0 0]] (fun r _ ext => (∃ k : Nat, r = .v (.int .i64 k) ∧ k ≤ l.length ∧ l.findIdx p = k) ∧ ext = []) := by
  refine (find_ok l x g cap p hl hg).mono ?_
  rintro r bs' ext ⟨rfl, rfl⟩
  exact ⟨⟨_, rfl, List.findIdx_le_length, rfl⟩, rfl⟩
set_option maxRecDepth 100000 in
set_option maxHeartbeats 4000000 in
theorem put_new (l : List Id_) (x : Id_) (cap : Nat) (hl : l.length ≤ 1099511627000) (hc : l.length ≤ cap) (hn : (l.any fun y => eqB y x) = false) : FnOK Try.prog GG 40 [.ro 3 (l.map idC)] [.s (.o 0) 3 0 l.length cap, idS x] (fun r _ ext => ∃ cap, r = .s (.n 0) 3 0 (l.length + 1) cap ∧ ext = [.row 26 3 cap ((insL l x).map idC)]) := by
  refine fn_new (C := seat) seat_ok [(4, (.of [(0, .take), (1, .take), (2, .take), (3, .take), (5, .take), (6, .take), (7, .take), (4, .do_), (8, .do_), (9, .last), (10, .last)]))] GG_no (Try.func40) rfl rfl rfl rfl rfl rfl ?_
  have hl' : l.length ≤ 1099511627776 := by omega
  repeat' ((try conv => whnf); first
    | (with_reducible refine OKv.go (C := seat) seat_ok ?_)
    | (with_reducible refine BB_true ?_)
    | (with_reducible refine BB_false ?_)
    | (with_reducible refine Both.mk ?_ ?_)
    | (with_reducible refine VS.mk ?_)
    | (refine PSem.go (C := seat) seat_ok ?_)
    | (refine And.intro (PlanOK.mk (by kernel_rfl) rfl (by kernel_rfl) (by kernel_rfl)) ?_)
    | (refine And.intro rfl (Exists.intro _ (And.intro (by first | assumption | rfl) ?_)))
    | (refine call_ro [.o 0] (has_no l x cap hl' hn) GG_no rfl rfl rfl ⟨⟨_, rfl, rfl, rfl⟩, trivial⟩ ?_; rintro r bs' ext ⟨rfl, rfl⟩)
    | (refine call_ro [.o 0, .n 0] (find_at l x _ cap (lessB x) hl' (fun y => put1_ok x y)) GG_no rfl rfl rfl ⟨⟨_, rfl, rfl, rfl⟩, ⟨_, rfl, _, rfl, rfl, rfl, rfl⟩, trivial⟩ ?_; rintro r bs' ext ⟨⟨k, rfl, hk, hf⟩, rfl⟩)
    | (refine And.intro (by omega) ?_)
    | (refine BB.mk (fun _h => ?_) (fun _h => ?_) <;> (first | (exact absurd _h (by decide)) | (exfalso; simp only [boolSet] at _h <;> omega) | skip)))
  all_goals (try conv => whnf)
  refine call_same [.n 2, .o 0, .n 1] (concat_ok l x _ _ _ _ _ _ ?he ?hk hl) GG_no rfl rfl rfl ⟨⟨_, rfl, .inr ⟨(fun x h => by cases h), rfl⟩⟩, ⟨_, rfl, .inl ⟨rfl, rfl⟩⟩, ⟨_, rfl, .inl ⟨rfl, rfl⟩⟩, trivial⟩ (by decide) ?_
  · show k - 0 = 0 + k
    omega
  · have e1 : ((k : Nat) : Int).toNat = k := rfl
    have e2 : ((l.length : Nat) : Int).toNat = l.length := rfl
    have e3 : (0 : Int).toNat = 0 := rfl
    rw [e1, e2, e3]; omega
  rintro r bs' ext ⟨rfl, cap', rfl, rfl⟩
  refine ⟨rfl, ?_⟩
  repeat' ((try conv => whnf); first
    | (with_reducible refine OKv.go (C := seat) seat_ok ?_)
    | (with_reducible refine BB_true ?_)
    | (with_reducible refine BB_false ?_)
    | (with_reducible refine Both.mk ?_ ?_)
    | (with_reducible refine VS.mk ?_)
    | (refine PSem.go (C := seat) seat_ok ?_)
    | (refine And.intro (PlanOK.mk (by kernel_rfl) rfl (by kernel_rfl) (by kernel_rfl)) ?_)
    | (refine And.intro rfl (Exists.intro _ (And.intro (by first | assumption | rfl) ?_)))
    | (refine And.intro (by omega) ?_)
    | (refine BB.mk (fun _h => ?_) (fun _h => ?_) <;> (first | (exact absurd _h (by decide)) | (exfalso; simp only [boolSet] at _h <;> omega) | skip)))
  all_goals (try conv => whnf)
  refine ⟨⟨[3], .s (.n 0) 3 0 (l.length + 1) cap', [.row 26 3 cap' ((insL l x).map idC)], by decide, rfl, ⟨.inr ?_, trivial⟩, cap', rfl, rfl⟩, rfl⟩
  subst hf
  rfl
end Go.Proofs.Ytcjcnlahieddoaa
