/- Descriptors by computing: what they are; filters the same, and copied. -/
import Derived.Test.YtocappiebmmpgaaZW
import Derived.Test.YtocappiebmmpgaaZX
import Derived.Test.YtocappiebmmpgaaTy13
namespace Go.Proofs.Ytocappiebmmpgaa
open Go.RowKit

abbrev GG : List (Nat × SB) := []
theorem GG_no : noOwn GG := noOwn_nil
structure Sp where
  f : Int
  t : Int
  deriving DecidableEq
def spC (s : Sp) : List CV := [.v (.int .i32 s.f), .v (.int .i32 s.t)]
structure De where
  node : Int
  inc : Int
  age : Int
  fl : List Sp
  deriving DecidableEq
def deC (d : De) : List CV := [.v (.int .u8 d.node), .v (.int .u16 d.inc), .v (.int .u8 d.age), .z 2 (d.fl.map spC)]
abbrev deS (d : De) (cap : Nat) : SV := .agg [.v (.int .u8 d.node), .v (.int .u16 d.inc), .v (.int .u8 d.age), .z 2 (d.fl.map spC) cap]
abbrev deN (d : De) (cap : Nat) : SV := .agg [.v (.int .u8 d.node), .v (.int .u16 d.inc), .v (.int .u8 d.age), .s (.n 0) 2 0 d.fl.length cap]
theorem sp_at {l : List Sp} {k : Nat} {y : Sp} (h : l[k]? = some y) : (l.map spC)[(k : Int).toNat]? = some [.v (.int .i32 y.f), .v (.int .i32 y.t)] := by
  rw [Int.toNat_natCast, List.getElem?_map, h]; rfl
theorem de_at {l : List De} {k : Nat} {y : De} (h : l[k]? = some y) : (l.map deC)[0 + (k : Int).toNat]? = some [.v (.int .u8 y.node), .v (.int .u16 y.inc), .v (.int .u8 y.age), .z 2 (y.fl.map spC)] := by
  rw [Nat.zero_add, Int.toNat_natCast, List.getElem?_map, h]; rfl
theorem same_take {α : Type} {l r : List α} {k : Nat} {y : α} (h : l.take k = r.take k) (h1 : l[k]? = some y) (h2 : r[k]? = some y) : l.take (k + 1) = r.take (k + 1) := by
  rw [List.take_add_one, List.take_add_one, h, h1, h2]
theorem same_ne {α : Type} {l r : List α} {k : Nat} {y z : α} (h1 : l[k]? = some y) (h2 : r[k]? = some z) (h : y ≠ z) : l ≠ r := fun e => by
  subst e
  rw [h1] at h2
  exact h (Option.some.inj h2)
set_option maxRecDepth 100000 in
set_option maxHeartbeats 4000000 in
theorem spans_ok (l r : List Sp) (c1 c2 : Nat) (hl : l.length ≤ 1099511627776) : FnOK Try.prog GG 47 [] [.z 2 (l.map spC) c1, .z 2 (r.map spC) c2] (fun rr _ ext => rr = .v (.bool (decide (l = r))) ∧ ext = []) := by
  have hml : (l.map spC).length = l.length := List.length_map _
  have hmr : (r.map spC).length = r.length := List.length_map _
  by_cases hlen : l.length = r.length
  · refine fn_val (C := seat) seat_ok [(6, (.of [(0, .take), (1, .take), (2, .take), (3, .take), (4, .take), (5, .take), (6, .take), (7, .take), (8, .take)]))] GG_no (Try.func47) rfl rfl rfl rfl rfl (fun _ => rfl) rfl ?_
    repeat' ((try conv => whnf); first
      | (with_reducible refine OKv.go (C := seat) seat_ok ?_)
      | (with_reducible refine BB_true ?_)
      | (with_reducible refine BB_false ?_)
      | (with_reducible refine Both.mk ?_ ?_)
      | (with_reducible refine VS.mk ?_)
      | (refine PSem.go (C := seat) seat_ok ?_)
      | (refine And.intro (PlanOK.mk (by kernel_rfl) rfl (by kernel_rfl) (by kernel_rfl)) ?_)
      | (refine And.intro rfl (Exists.intro _ (And.intro (by first | assumption | rfl) ?_)))
      | (refine And.intro ⟨rfl, rfl, rfl⟩ ?_)
      | (refine And.intro ⟨by omega, by simp only [List.length_map]; omega⟩ (Exists.intro _ (And.intro (by first | assumption | rfl) ?_)))
      | (refine And.intro (by omega) ?_)
      | (refine BB.mk (fun _h => ?_) (fun _h => ?_) <;> (first | (exact absurd _h (by decide)) | (exfalso; simp only [boolSet] at _h <;> omega) | skip)))
    all_goals (try conv => whnf)
    refine loop_rule (α := Nat) (fun k => k ≤ l.length ∧ l.take k = r.take k) (fun k => { slots := [(0, .z 2 (l.map spC) c1), (1, .z 2 (r.map spC) c2), (12, .v (.int .i64 (l.map spC).length)), (13, .v (.int .i64 (k : Int)))], nt := 26, mem := ⟨GG, [], []⟩ }) (fun k => l.length - k) 0 ⟨Nat.zero_le _, rfl⟩ ⟨⟨[], List.nodup_nil, GG_no, rfl, (SubOld.refl _ rfl), trivial, ⟨.inl rfl, .inl rfl, .inl rfl, .inl rfl, trivial⟩⟩, rfl⟩ ?_ (fun _ => rfl)
    rintro k ⟨hk, heq⟩
    refine vc_sound (C := seat) seat_ok (pl := [(6, (.of [(0, .take), (1, .take), (2, .take), (3, .take), (4, .take), (5, .take), (6, .take), (7, .take), (8, .take)]))]) ?_
    by_cases hlt : k < l.length
    · obtain ⟨y, hy⟩ : ∃ y, l[k]? = some y := ⟨_, List.getElem?_eq_getElem hlt⟩
      obtain ⟨z, hz⟩ : ∃ z, r[k]? = some z := ⟨_, List.getElem?_eq_getElem (by omega)⟩
      have hrow := sp_at hy
      have hrow2 := sp_at hz
      repeat' ((try conv => whnf); first
        | (with_reducible refine OKv.go (C := seat) seat_ok ?_)
        | (with_reducible refine BB_true ?_)
        | (with_reducible refine BB_false ?_)
        | (with_reducible refine Both.mk ?_ ?_)
        | (with_reducible refine VS.mk ?_)
        | (refine PSem.go (C := seat) seat_ok ?_)
        | (refine And.intro (PlanOK.mk (by kernel_rfl) rfl (by kernel_rfl) (by kernel_rfl)) ?_)
        | (refine And.intro rfl (Exists.intro _ (And.intro (by first | assumption | rfl) ?_)))
        | (refine And.intro ⟨rfl, rfl, rfl⟩ ?_)
        | (refine And.intro ⟨by omega, by simp only [List.length_map]; omega⟩ (Exists.intro _ (And.intro (by first | assumption | rfl) ?_)))
        | (refine And.intro (by omega) ?_)
        | (refine BB.mk (fun _h => ?_) (fun _h => ?_) <;> (first | (exact absurd _h (by decide)) | (exfalso; simp only [boolSet] at _h <;> omega) | skip)))
      all_goals (try conv => whnf)
      all_goals (try (refine Fin.mk ?_))
      all_goals first
        | (have hne : y ≠ z := by intro e; subst e; simp only [boolSet] at * <;> grind
           exact ⟨bool_eq (decide_eq_false (same_ne hy hz hne)).symm, rfl⟩)
        | (have hyz : y = z := by cases y; cases z; simp only [boolSet] at * <;> grind
           subst hyz
           exact ⟨k + 1, ⟨by omega, same_take heq hy hz⟩, by omega, ⟨⟨[], List.nodup_nil, GG_no, rfl, SubOld.refl _ rfl, trivial, ⟨.inl rfl, .inl rfl, .inl rfl, .inl (num_eq (by rw [IntKind.wrap_i64]; omega)), trivial⟩⟩, rfl⟩⟩)
    · have e : l = r := by
        rw [List.take_of_length_le (by omega), List.take_of_length_le (by omega)] at heq
        exact heq
      repeat' ((try conv => whnf); first
        | (with_reducible refine OKv.go (C := seat) seat_ok ?_)
        | (with_reducible refine BB_true ?_)
        | (with_reducible refine BB_false ?_)
        | (with_reducible refine Both.mk ?_ ?_)
        | (with_reducible refine VS.mk ?_)
        | (refine PSem.go (C := seat) seat_ok ?_)
        | (refine And.intro (PlanOK.mk (by kernel_rfl) rfl (by kernel_rfl) (by kernel_rfl)) ?_)
        | (refine And.intro rfl (Exists.intro _ (And.intro (by first | assumption | rfl) ?_)))
        | (refine And.intro ⟨rfl, rfl, rfl⟩ ?_)
        | (refine And.intro (by omega) ?_)
        | (refine BB.mk (fun _h => ?_) (fun _h => ?_) <;> (first | (exact absurd _h (by decide)) | (exfalso; simp only [boolSet] at _h <;> omega) | skip)))
      all_goals (try conv => whnf)
      exact Fin.mk ⟨bool_eq (decide_eq_true e).symm, rfl⟩
  · have e : l ≠ r := fun h => hlen (by rw [h])
    refine fn_val (C := seat) seat_ok [(6, (.of [(0, .take), (1, .take), (2, .take), (3, .take), (4, .take), (5, .take), (6, .take), (7, .take), (8, .take)]))] GG_no (Try.func47) rfl rfl rfl rfl rfl (fun _ => rfl) rfl ?_
    repeat' ((try conv => whnf); first
      | (with_reducible refine OKv.go (C := seat) seat_ok ?_)
      | (with_reducible refine BB_true ?_)
      | (with_reducible refine BB_false ?_)
      | (with_reducible refine Both.mk ?_ ?_)
      | (with_reducible refine VS.mk ?_)
      | (refine PSem.go (C := seat) seat_ok ?_)
      | (refine And.intro (PlanOK.mk (by kernel_rfl) rfl (by kernel_rfl) (by kernel_rfl)) ?_)
      | (refine And.intro rfl (Exists.intro _ (And.intro (by first | assumption | rfl) ?_)))
      | (refine And.intro ⟨rfl, rfl, rfl⟩ ?_)
      | (refine And.intro (by omega) ?_)
      | (refine BB.mk (fun _h => ?_) (fun _h => ?_) <;> (first | (exact absurd _h (by decide)) | (exfalso; simp only [boolSet] at _h <;> omega) | skip)))
    all_goals (try conv => whnf)
    all_goals (try (refine Fin.mk ?_))
    all_goals first
      | exact ⟨bool_eq (decide_eq_false e).symm, rfl⟩
      | (exfalso; simp only [boolSet] at * <;> omega)
set_option maxRecDepth 100000 in
set_option maxHeartbeats 4000000 in
theorem clone_ok (l : List Sp) (cap : Nat) (hc : l.length ≤ cap) (hl : l.length ≤ 1099511627776) : FnOK Try.prog GG 54 [] [.z 2 (l.map spC) cap] (fun r _ ext => ∃ cap', l.length ≤ cap' ∧ r = .s (.n 0) 2 0 l.length cap' ∧ ext = [.row 68 2 cap' (l.map spC)]) := by
  refine fn_newR (C := seat) seat_ok [] GG_no (Try.func54) rfl rfl rfl rfl rfl rfl ?_
  repeat' ((try conv => whnf); first
    | (with_reducible refine OKv.go (C := seat) seat_ok ?_)
    | (with_reducible refine BB_true ?_)
    | (with_reducible refine BB_false ?_)
    | (with_reducible refine Both.mk ?_ ?_)
    | (with_reducible refine VS.mk ?_)
    | (refine PSem.go (C := seat) seat_ok ?_)
    | (refine And.intro (PlanOK.mk (by kernel_rfl) rfl (by kernel_rfl) (by kernel_rfl)) ?_)
    | (refine And.intro rfl (Exists.intro _ (And.intro (by first | assumption | rfl) ?_)))
    | (refine And.intro ⟨rfl, rfl, rfl⟩ ?_)
    | (refine fun (b : Bool) hb => ?_)
    | (refine And.intro ⟨rfl, rfl, rfl, by first | (simp only [chunks_len, List.length_map, List.length_take, List.length_drop, List.length_append, List.length_cons, List.length_nil] <;> omega) | omega | rfl⟩ ?_)
    | (refine And.intro ⟨rfl, by first | (simp only [chunks_len, List.length_map, List.length_take, List.length_drop, List.length_append, List.length_cons, List.length_nil] <;> omega) | omega | rfl⟩ ?_)
    | (refine And.intro (by first | exact ⟨rfl, Nat.le_refl _⟩ | first | (simp only [chunks_len, List.length_map, List.length_take, List.length_drop, List.length_append, List.length_cons, List.length_nil] <;> omega) | omega | rfl) ?_)
    | (refine fun (caps : Nat → Nat) hcaps => ?_; conv at hcaps => whnf)
    | (refine fun (cap' : Nat) hcap' => ?_)
    | (refine And.intro (by omega) ?_)
    | (refine BB.mk (fun _h => ?_) (fun _h => ?_) <;> (first | (exact absurd _h (by decide)) | (exfalso; simp only [boolSet] at _h <;> omega) | skip)))
  all_goals (try conv => whnf)
  · have hl0 : l = [] := by
      by_cases h : (l.map spC).length = 0
      · exact List.map_eq_nil_iff.1 (List.eq_nil_of_length_eq_zero h)
      · rw [hb h] at _h; cases _h
    subst hl0
    exact ⟨⟨[0], .s (.n 0) 2 0 0 0, [.row 68 2 0 []], by decide, .inl (.inr (.inl ⟨_, _, _, rfl, rfl⟩)), ⟨.inl (.inl ⟨rfl, rfl⟩), trivial⟩, 0, Nat.le_refl _, rfl, rfl⟩, rfl⟩
  · refine ⟨⟨[1], .s (.n 0) 2 0 (0 + (l.map spC).length) cap', [.row 68 2 cap' (l.map spC)], by decide, .inl (.inl rfl), ⟨.inr (.inl rfl), trivial⟩, cap', by simp only [chunks_len, List.length_map] at hcap' <;> omega, by rw [Nat.zero_add, List.length_map], rfl⟩, rfl⟩
end Go.Proofs.Ytocappiebmmpgaa
