/- Package push, by computing: what draws. -/
import Derived.Test.YthbgcdnjmdgkoaaP16b
namespace Go.Proofs.Ythbgcdnjmdgkoaa
open Go.RowKit

theorem delete_ok (l more : List Int) (k : Nat) (i j : Int) (cap c0 : Nat) (hk : k < l.length) (hi : i = k) (hj : j = k + 1) (hc : l.length ≤ cap) (hl : l.length ≤ 1099511627776) : FnOK Try.prog GG 18 [.row 5 1 c0 ((l ++ more).map bC)] [.s (.o 0) 1 0 l.length cap, .v (.int .i64 i), .v (.int .i64 j)] (fun r bs' ext => r = .s (.o 0) 1 0 (l.length - 1) cap ∧ bs' = [.row 5 1 c0 ((l.eraseIdx k ++ 0 :: more).map bC)] ∧ ext = []) := by
  subst hi
  exact delete_raw l more k j cap c0 hk hj hc hl
theorem b_at {l more : List Int} {k : Nat} {i : Int} {y : Int} (h : l[k]? = some y) (hi : i = k) : ((l ++ more).map bC)[0 + i.toNat]? = some [.int .u8 y] := by
  rw [hi, Nat.zero_add, Int.toNat_natCast, List.getElem?_map, List.getElem?_append_left (getElem?_lt h), h]
  rfl
set_option maxRecDepth 100000 in
set_option maxHeartbeats 4000000 in
theorem drawer_ok (l : List Int) (cap : Nat) (hc : l.length ≤ cap) (hl : l.length ≤ 1099511627776) : FnOK Try.prog GG 15 [.ro 1 (l.map bC)] [.s (.o 0) 1 0 l.length cap] (fun r _ ext => ∃ cap', l.length ≤ cap' ∧ r = .fn 17 [.p (.n 0) 0 0 0] ∧ ext = [.box 22 [.s (.n 1) 1 0 l.length cap'], .row 5 1 cap' (l.map bC)]) := by
  refine fn_new (C := seat) seat_ok [] GG_no (Try.func15) rfl rfl rfl rfl rfl rfl ?_
  repeat' ((try conv => whnf); first
    | (with_reducible refine BB_true ?_)
    | (with_reducible refine BB_false ?_)
    | (with_reducible refine Both.mk ?_ ?_)
    | (with_reducible refine VS.mk ?_)
    | (refine PSem.go (C := seat) seat_ok ?_)
    | (refine And.intro (PlanOK.mk (by kernel_rfl) rfl (by kernel_rfl) (by kernel_rfl)) ?_)
    | (refine And.intro rfl (Exists.intro _ (And.intro (by first | assumption | rfl) ?_)))
    | (refine And.intro ⟨rfl, rfl, rfl⟩ ?_)
    | (refine call_ro [.o 0] (clone_ok l cap hc hl) GG_no rfl rfl rfl ⟨⟨_, rfl, rfl, rfl⟩, trivial⟩ ?_; rintro r bs' ext ⟨cap', hc', rfl, rfl⟩)
    | (refine And.intro (by omega) ?_)
    | (refine BB.mk (fun _h => ?_) (fun _h => ?_) <;> (first | (exact absurd _h (by decide)) | (exfalso; simp only [boolSet] at _h <;> omega) | skip)))
  all_goals (try conv => whnf)
  all_goals
    refine Fin.mk ?_
    exact ⟨⟨[1, 0], .fn 17 [.p (.n 0) 0 0 0], [.box 22 [.s (.n 1) 1 0 l.length cap'], .row 5 1 cap' (l.map bC)], by decide, rfl, ⟨rfl, .inr rfl, trivial⟩, cap', hc', rfl, rfl⟩, rfl⟩
set_option maxRecDepth 100000 in
set_option maxHeartbeats 4000000 in
theorem draw_ok (l more : List Int) (cap c0 : Nat) (x y : Int) (k : Nat) (hx : 0 ≤ x) (hx' : x < 4294967296) (hk : (k : Int) = x % l.length) (hy : l[k]? = some y) (hc : l.length ≤ cap) (hl : l.length ≤ 1099511627776) : FnOK Try.prog GG 17 [.box 22 [.s (.o 1) 1 0 l.length cap], .row 5 1 c0 ((l ++ more).map bC)] [.v (.int .u32 x), .p (.o 0) 0 0 0] (fun r bs' ext => r = .v (.int .u8 y) ∧ bs' = [.box 22 [.s (.o 1) 1 0 (l.length - 1) cap], .row 5 1 c0 ((l.eraseIdx k ++ 0 :: more).map bC)] ∧ ext = []) := by
  have hlt := getElem?_lt hy
  have e1 : IntKind.u64.wrap x = x := by rw [IntKind.wrap_u64]; omega
  have e2 : IntKind.u64.wrap (l.length : Int) = l.length := by rw [IntKind.wrap_u64]; omega
  have e3 : x.tmod (l.length : Int) = k := by rw [Int.tmod_eq_emod_of_nonneg hx, hk]
  have hat : IntKind.i64.wrap ((IntKind.u64.wrap x).tmod (IntKind.u64.wrap (l.length : Int))) = k := by rw [e1, e2, e3, IntKind.wrap_i64]; omega
  have hat1 : IntKind.i64.wrap (IntKind.i64.wrap ((IntKind.u64.wrap x).tmod (IntKind.u64.wrap (l.length : Int))) + 1) = k + 1 := by rw [hat, IntKind.wrap_i64]; omega
  have hrow := b_at (more := more) hy hat
  refine fn_intro (C := seat) seat_ok [] GG_no (Try.func17) rfl rfl rfl rfl rfl ?_
  repeat' ((try conv => whnf); first
    | (with_reducible refine BB_true ?_)
    | (with_reducible refine BB_false ?_)
    | (with_reducible refine Both.mk ?_ ?_)
    | (with_reducible refine VS.mk ?_)
    | (refine PSem.go (C := seat) seat_ok ?_)
    | (refine And.intro (PlanOK.mk (by kernel_rfl) rfl (by kernel_rfl) (by kernel_rfl)) ?_)
    | (refine And.intro rfl (Exists.intro _ (And.intro (by first | assumption | rfl) ?_)))
    | (refine And.intro ⟨rfl, rfl, rfl⟩ ?_)
    | (refine And.intro (by rw [e2]; omega) ?_)
    | (refine And.intro (by rw [hat]; omega) ?_)
    | (refine call_own [.o 1] (delete_ok l more k _ _ cap c0 hlt hat hat1 hc hl) GG_no rfl rfl rfl ⟨⟨_, rfl, .inr ⟨(fun _ h => by cases h), rfl⟩⟩, trivial⟩ (by decide) ?_; rintro r bs' ext ⟨rfl, rfl, rfl⟩; refine ⟨⟨rfl, trivial⟩, ?_⟩)
    | (refine And.intro (by omega) ?_)
    | (refine BB.mk (fun _h => ?_) (fun _h => ?_) <;> (first | (exact absurd _h (by decide)) | (exfalso; simp only [boolSet] at _h <;> omega) | skip)))
  all_goals (try conv => whnf)
  all_goals exact ⟨rfl, rfl, rfl⟩
end Go.Proofs.Ythbgcdnjmdgkoaa
