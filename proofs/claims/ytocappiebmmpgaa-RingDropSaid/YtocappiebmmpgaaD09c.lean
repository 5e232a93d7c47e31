/- Descriptors by computing: Few. -/
import Derived.Test.YtocappiebmmpgaaD09b
namespace Go.Proofs.Ytocappiebmmpgaa
open Go.RowKit

set_option maxRecDepth 100000 in
set_option maxHeartbeats 4000000 in
theorem few_ok (l : List De) (cap : Nat) (hl : l.length ≤ 9223372036854775807) : FnOK Try.prog GG 8 [.ro 4 (l.map deC)] [.s (.o 0) 4 0 l.length cap] (fun r _ ext => r = .v (.bool (l.all (fun d => decide (d.fl.length ≤ 8)) && decide (l.length ≤ 20))) ∧ ext = []) := by
  refine fn_val (C := seat) seat_ok [] GG_no (Try.func8) rfl rfl rfl rfl rfl (fun _ => rfl) rfl ?_
  repeat' ((try conv => whnf); first
    | (with_reducible refine OKv.go (C := seat) seat_ok ?_)
    | (with_reducible refine BB_true ?_)
    | (with_reducible refine BB_false ?_)
    | (with_reducible refine Both.mk ?_ ?_)
    | (with_reducible refine VS.mk ?_)
    | (refine PSem.go (C := seat) seat_ok ?_)
    | (refine And.intro (PlanOK.mk (by kernel_rfl) rfl (by kernel_rfl) (by kernel_rfl)) ?_)
    | (refine And.intro rfl (Exists.intro _ (And.intro (by first | assumption | rfl) ?_)))
    | (refine And.intro ⟨rfl, rfl, rfl⟩ ?_)
    | (refine And.intro (by omega) ?_)
    | (refine BB.mk (fun _h => ?_) (fun _h => ?_) <;> (first | (exact absurd _h (by decide)) | (exfalso; simp only [boolSet] at _h <;> omega) | skip)))
  all_goals (try conv => whnf)
  refine loop_rule (α := Nat) (fun k => k ≤ l.length ∧ (l.take k).all (fun d => decide (d.fl.length ≤ 8)) = true) (fun k => { slots := [(0, .s (.o 0) 4 0 l.length cap), (5, .s (.o 0) 4 0 l.length cap), (6, .v (.int .i64 l.length)), (7, .v (.int .i64 (k : Int)))], nt := 19, mem := ⟨GG, [.ro 4 (l.map deC)], []⟩ }) (fun k => l.length - k) 0 ⟨Nat.zero_le _, rfl⟩ ⟨⟨[], List.nodup_nil, GG_no, rfl, (SubOld.refl _ rfl), trivial, ⟨.inl rfl, .inl rfl, .inl rfl, .inl rfl, trivial⟩⟩, rfl⟩ ?_ (fun _ => rfl)
  rintro k ⟨hk, hall⟩
  refine vc_sound (C := seat) seat_ok (pl := []) ?_
  by_cases hlt : k < l.length
  · obtain ⟨y, hy⟩ : ∃ y, l[k]? = some y := ⟨_, List.getElem?_eq_getElem hlt⟩
    have hrow := de_at hy
    repeat' ((try conv => whnf); first
      | (with_reducible refine OKv.go (C := seat) seat_ok ?_)
      | (with_reducible refine BB_true ?_)
      | (with_reducible refine BB_false ?_)
      | (with_reducible refine Both.mk ?_ ?_)
      | (with_reducible refine VS.mk ?_)
      | (refine PSem.go (C := seat) seat_ok ?_)
      | (refine And.intro (PlanOK.mk (by kernel_rfl) rfl (by kernel_rfl) (by kernel_rfl)) ?_)
      | (refine And.intro rfl (Exists.intro _ (And.intro (by first | assumption | rfl) ?_)))
      | (refine And.intro ⟨rfl, rfl, rfl⟩ ?_)
      | (refine And.intro ⟨rfl, rfl, rfl, by first | (simp only [chunks_len, List.length_map, List.length_take, List.length_drop, List.length_append, List.length_cons, List.length_nil] <;> omega) | omega | rfl⟩ ?_)
      | (refine And.intro ⟨rfl, by first | (simp only [chunks_len, List.length_map, List.length_take, List.length_drop, List.length_append, List.length_cons, List.length_nil] <;> omega) | omega | rfl⟩ ?_)
      | (refine And.intro (by first | exact ⟨rfl, Nat.le_refl _⟩ | first | (simp only [chunks_len, List.length_map, List.length_take, List.length_drop, List.length_append, List.length_cons, List.length_nil] <;> omega) | omega | rfl) ?_)
      | (refine fun (caps : Nat → Nat) hcaps => ?_; conv at hcaps => whnf)
      | (refine fun (cap' : Nat) hcap' => ?_)
      | (refine And.intro (by omega) ?_)
      | (refine BB.mk (fun _h => ?_) (fun _h => ?_) <;> (first | (exact absurd _h (by decide)) | (exfalso; simp only [boolSet] at _h <;> omega) | skip)))
    all_goals (try conv => whnf)
    · have hF : (l.all (fun d => decide (d.fl.length ≤ 8)) && decide (l.length ≤ 20)) = false := by
        simp only [boolSet, List.length_map] at _h
        rw [Bool.and_eq_false_iff]
        left
        rw [List.all_eq_false]
        exact ⟨y, List.mem_of_getElem? hy, by simp only [boolSet]; omega⟩
      rw [hF]
      exact Fin.mk ⟨rfl, rfl⟩
    · refine ⟨k + 1, ⟨by omega, ?_⟩, by omega, ⟨⟨[], List.nodup_nil, GG_no, rfl, SubOld.refl _ rfl, trivial, ⟨.inl rfl, .inl rfl, .inl rfl, .inl (num_eq (by rw [IntKind.wrap_i64]; omega)), trivial⟩⟩, rfl⟩⟩
      simp only [boolSet, List.length_map] at _h
      rw [List.take_add_one, hy, List.all_append, hall]
      simp
      omega
  · have hs : l.take k = l := List.take_of_length_le (by omega)
    rw [hs] at hall
    repeat' ((try conv => whnf); first
      | (with_reducible refine OKv.go (C := seat) seat_ok ?_)
      | (with_reducible refine BB_true ?_)
      | (with_reducible refine BB_false ?_)
      | (with_reducible refine Both.mk ?_ ?_)
      | (with_reducible refine VS.mk ?_)
      | (refine PSem.go (C := seat) seat_ok ?_)
      | (refine And.intro (PlanOK.mk (by kernel_rfl) rfl (by kernel_rfl) (by kernel_rfl)) ?_)
      | (refine And.intro rfl (Exists.intro _ (And.intro (by first | assumption | rfl) ?_)))
      | (refine And.intro ⟨rfl, rfl, rfl⟩ ?_)
      | (refine And.intro (by omega) ?_)
      | (refine BB.mk (fun _h => ?_) (fun _h => ?_) <;> (first | (exact absurd _h (by decide)) | (exfalso; simp only [boolSet] at _h <;> omega) | skip)))
    all_goals (try conv => whnf)
    rw [hall]
    refine Fin.mk ⟨bool_eq ?_, rfl⟩
    rw [Bool.eq_iff_iff]
    simp only [boolSet] <;> omega
theorem mid_eq (lo hi : Nat) (h : lo + hi ≤ 2199023255552) : IntKind.i64.wrap ((IntKind.u64.wrap (IntKind.i64.wrap ((lo : Int) + hi))).fdiv (2 ^ min (1 : Int).toNat IntKind.u64.bits)) = (((lo + hi) / 2 : Nat) : Int) := by
  have h1 : IntKind.i64.wrap ((lo : Int) + hi) = lo + hi := by rw [IntKind.wrap_i64]; omega
  have h2 : IntKind.u64.wrap ((lo : Int) + hi) = lo + hi := by rw [IntKind.wrap_u64]; omega
  have h3 : (2 : Int) ^ min (1 : Int).toNat IntKind.u64.bits = 2 := by decide
  rw [h1, h2, h3, Int.fdiv_eq_ediv_of_nonneg _ (by decide), IntKind.wrap_i64]
  omega
def newB (a b : De) : Bool := decide (b.inc < a.inc) || (decide (a.inc = b.inc) && decide (a.age < b.age))
set_option maxRecDepth 100000 in
set_option maxHeartbeats 4000000 in
theorem newer_ok (a b : De) (c1 c2 : Nat) : FnOK Try.prog GG 51 [] [deS a c1, deS b c2] (fun r _ ext => r = .v (.bool (newB a b)) ∧ ext = []) := by
  refine fn_val (C := seat) seat_ok [] GG_no (Try.func51) rfl rfl rfl rfl rfl (fun _ => rfl) rfl ?_
  repeat' ((try conv => whnf); first
    | (with_reducible refine OKv.go (C := seat) seat_ok ?_)
    | (with_reducible refine BB_true ?_)
    | (with_reducible refine BB_false ?_)
    | (with_reducible refine Both.mk ?_ ?_)
    | (with_reducible refine VS.mk ?_)
    | (refine PSem.go (C := seat) seat_ok ?_)
    | (refine And.intro (PlanOK.mk (by kernel_rfl) rfl (by kernel_rfl) (by kernel_rfl)) ?_)
    | (refine And.intro rfl (Exists.intro _ (And.intro (by first | assumption | rfl) ?_)))
    | (refine And.intro ⟨rfl, rfl, rfl⟩ ?_)
    | (refine And.intro (by omega) ?_)
    | (refine BB.mk (fun _h => ?_) (fun _h => ?_) <;> (first | (exact absurd _h (by decide)) | (exfalso; simp only [boolSet] at _h <;> omega) | skip)))
  all_goals (try conv => whnf)
  all_goals (try (refine Fin.mk ?_))
  all_goals (try (refine Fin.mk ?_))
  all_goals
    refine ⟨bool_eq ?_, rfl⟩
    rw [Bool.eq_iff_iff]
    simp only [newB, boolSet] at * <;> omega
set_option maxRecDepth 100000 in
set_option maxHeartbeats 4000000 in
theorem place1_ok (l : List De) (cap : Nat) (x i : Int) (k : Nat) (hi : i = k) (y : De) (hy : l[k]? = some y) (hl : l.length ≤ 1099511627776) : FnOK Try.prog GG 58 [.box 28 [.s (.o 2) 4 0 l.length cap], .box 5 [.v (.int .u8 x)], .ro 4 (l.map deC)] [.v (.int .i64 i), .p (.o 0) 0 0 0, .p (.o 1) 0 0 0] (fun r bs' ext => bs' = [.box 28 [.s (.o 2) 4 0 l.length cap], .box 5 [.v (.int .u8 x)], .ro 4 (l.map deC)] ∧ r = .v (.bool (decide (x ≤ y.node))) ∧ ext = []) := by
  subst hi
  have hrow := de_at hy
  have hlt := getElem?_lt hy
  refine fn_new2 (C := seat) seat_ok [(1, (.of [(0, .take), (1, .take), (2, .take), (3, .take), (4, .take), (5, .take), (6, .take), (7, .take)]))] GG_no (Try.func58) rfl rfl rfl rfl rfl (fun _ _ => ⟨rfl, rfl, .inr (.inl rfl), trivial⟩) ?_
  repeat' ((try conv => whnf); first
    | (with_reducible refine OKv.go (C := seat) seat_ok ?_)
    | (with_reducible refine BB_true ?_)
    | (with_reducible refine BB_false ?_)
    | (with_reducible refine Both.mk ?_ ?_)
    | (with_reducible refine VS.mk ?_)
    | (refine PSem.go (C := seat) seat_ok ?_)
    | (refine And.intro (PlanOK.mk (by kernel_rfl) rfl (by kernel_rfl) (by kernel_rfl)) ?_)
    | (refine And.intro rfl (Exists.intro _ (And.intro (by first | assumption | rfl) ?_)))
    | (refine And.intro ⟨rfl, rfl, rfl⟩ ?_)
    | (refine And.intro (by omega) ?_)
    | (refine BB.mk (fun _h => ?_) (fun _h => ?_) <;> (first | (exact absurd _h (by decide)) | (exfalso; simp only [boolSet] at _h <;> omega) | skip)))
  all_goals (try conv => whnf)
  exact Fin.mk ⟨⟨[], _, [], by decide, rfl, trivial, rfl, rfl⟩, rfl⟩
end Go.Proofs.Ytocappiebmmpgaa
