/- Package filter: Same, Copy, Normal. -/
import Derived.Test.YtkmnglgjbmipgaaDoorF05m
namespace Go.Proofs.YtkmnglgjbmipgaaDoor
open Go.RowKit

theorem sp_at {l : List Sp} {k : Nat} {y : Sp} (h : l[k]? = some y) : (l.map spC)[(k : Int).toNat]? = some [.v (.int .i32 y.a), .v (.int .i32 y.b)] := by
  rw [Int.toNat_natCast, List.getElem?_map, h]; rfl
theorem sp_eq {x y : Sp} : x = y ↔ x.a = y.a ∧ x.b = y.b := by
  cases x; cases y; simp
theorem same_take {α : Type} {l r : List α} {k : Nat} {y : α} (h : l.take k = r.take k) (h1 : l[k]? = some y) (h2 : r[k]? = some y) : l.take (k + 1) = r.take (k + 1) := by
  rw [List.take_add_one, List.take_add_one, h, h1, h2]
theorem same_ne {α : Type} {l r : List α} {k : Nat} {y z : α} (h1 : l[k]? = some y) (h2 : r[k]? = some z) (h : y ≠ z) : l ≠ r := fun e => by
  subst e
  rw [h1] at h2
  exact h (Option.some.inj h2)
theorem tup2_eq {x y : SV} {a b : Int} (h1 : x = y) (h2 : a = b) : SV.tup [x, .v (.int .i64 a)] = .tup [y, .v (.int .i64 b)] := by rw [h1, h2]
set_option maxRecDepth 100000 in
set_option maxHeartbeats 4000000 in
theorem clone_ok (l : List Sp) (cap : Nat) (hc : l.length ≤ cap) (hl : l.length ≤ 1099511627776) : FnOK Tryd.prog GG 35 [] [.z 2 (l.map spC) cap] (fun r _ ext => ∃ cap', l.length ≤ cap' ∧ r = .s (.n 0) 2 0 l.length cap' ∧ ext = [.row 36 2 cap' (l.map spC)]) := by
  refine fn_newR (C := seat) seat_ok [] GG_no (Tryd.func35) rfl rfl rfl rfl rfl rfl ?_
  repeat' ((try conv => whnf); first
    | (with_reducible refine OKv.go (C := seat) seat_ok ?_)
    | (with_reducible refine BB_true ?_)
    | (with_reducible refine BB_false ?_)
    | (with_reducible refine Both.mk ?_ ?_)
    | (with_reducible refine VS.mk ?_)
    | (refine PSem.go (C := seat) seat_ok ?_)
    | (refine And.intro (PlanOK.mk (by kernel_rfl) rfl (by kernel_rfl) (by kernel_rfl)) ?_)
    | (refine And.intro rfl (Exists.intro _ (And.intro (by first | assumption | rfl) ?_)))
    | (refine And.intro ⟨rfl, rfl, rfl⟩ ?_)
    | (refine fun (b : Bool) hb => ?_)
    | (refine And.intro ⟨rfl, rfl, rfl, by first | (simp only [chunks_len, List.length_map, List.length_take, List.length_drop, List.length_append, List.length_cons, List.length_nil] <;> omega) | omega | rfl⟩ ?_)
    | (refine And.intro ⟨rfl, by first | (simp only [chunks_len, List.length_map, List.length_take, List.length_drop, List.length_append, List.length_cons, List.length_nil] <;> omega) | omega | rfl⟩ ?_)
    | (refine And.intro (by first | exact ⟨rfl, Nat.le_refl _⟩ | first | (simp only [chunks_len, List.length_map, List.length_take, List.length_drop, List.length_append, List.length_cons, List.length_nil] <;> omega) | omega | rfl) ?_)
    | (refine fun (caps : Nat → Nat) hcaps => ?_; conv at hcaps => whnf)
    | (refine fun (cap' : Nat) hcap' => ?_)
    | (refine And.intro (by omega) ?_)
    | (refine BB.mk (fun _h => ?_) (fun _h => ?_) <;> (first | (exact absurd _h (by decide)) | (exfalso; simp only [boolSet] at _h <;> omega) | skip)))
  all_goals (try conv => whnf)
  · have hl0 : l = [] := by
      by_cases h : (l.map spC).length = 0
      · exact List.map_eq_nil_iff.1 (List.eq_nil_of_length_eq_zero h)
      · rw [hb h] at _h; cases _h
    subst hl0
    exact ⟨⟨[0], .s (.n 0) 2 0 0 0, [.row 36 2 0 []], by decide, .inl (.inr (.inl ⟨_, _, _, rfl, rfl⟩)), ⟨.inl (.inl ⟨rfl, rfl⟩), trivial⟩, 0, Nat.le_refl _, rfl, rfl⟩, rfl⟩
  · refine ⟨⟨[1], .s (.n 0) 2 0 (0 + (l.map spC).length) cap', [.row 36 2 cap' (l.map spC)], by decide, .inl (.inl rfl), ⟨.inr (.inl rfl), trivial⟩, cap', by simp only [chunks_len, List.length_map] at hcap' <;> omega, by rw [Nat.zero_add, List.length_map], rfl⟩, rfl⟩
set_option maxRecDepth 100000 in
set_option maxHeartbeats 4000000 in
theorem copy_own (l : List Sp) (ca : Nat) (hc : l.length ≤ ca) (hl : l.length ≤ 1099511627776) : FnOK Tryd.prog GG 20 [] [.z 2 (l.map spC) ca] (fun r _ ext => ∃ cap', l.length ≤ cap' ∧ r = .s (.n 0) 2 0 l.length cap' ∧ ext = [.row 36 2 cap' (l.map spC)]) := by
  refine fn_newR (C := seat) seat_ok [] GG_no (Tryd.func20) rfl rfl rfl rfl rfl rfl ?_
  repeat' ((try conv => whnf); first
    | (with_reducible refine OKv.go (C := seat) seat_ok ?_)
    | (with_reducible refine BB_true ?_)
    | (with_reducible refine BB_false ?_)
    | (with_reducible refine Both.mk ?_ ?_)
    | (with_reducible refine VS.mk ?_)
    | (refine PSem.go (C := seat) seat_ok ?_)
    | (refine And.intro (PlanOK.mk (by kernel_rfl) rfl (by kernel_rfl) (by kernel_rfl)) ?_)
    | (refine And.intro rfl (Exists.intro _ (And.intro (by first | assumption | rfl) ?_)))
    | (refine And.intro ⟨rfl, rfl, rfl⟩ ?_)
    | (refine call_ro [] (clone_ok l ca hc hl) GG_no rfl rfl rfl trivial ?_; rintro r bs' ext ⟨c, hc', rfl, rfl⟩)
    | (refine And.intro (by omega) ?_)
    | (refine BB.mk (fun _h => ?_) (fun _h => ?_) <;> (first | (exact absurd _h (by decide)) | (exfalso; simp only [boolSet] at _h <;> omega) | skip)))
  all_goals (try conv => whnf)
  exact ⟨⟨[0], .s (.n 0) 2 0 l.length c, [.row 36 2 c (l.map spC)], by decide, .inl (.inl rfl), ⟨.inr (.inl rfl), trivial⟩, c, hc', rfl, rfl⟩, rfl⟩
def normE (s g : List Sp) : Int := if g.length = 0 ∨ g.length = s.length then 0 else 50
theorem meetF_nil {s g : List Sp} (h : g.length = 0) : meetF s g = [] := by
  have : g = [] := List.eq_nil_of_length_eq_zero h
  subst this
  rcases meetF_cases s [] with ⟨h1, _, h3⟩ | ⟨h1, _⟩
  · have : s = [] := List.eq_nil_of_length_eq_zero h1
    subst this
    rfl
  · exact h1
end Go.Proofs.YtkmnglgjbmipgaaDoor
