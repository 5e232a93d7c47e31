/- Descriptors by computing: Oldest, Older, Same, lists the same, Delete, Drop. -/
import Derived.Test.YtfjankcpnhfogaaD09e
namespace Go.Proofs.Ytfjankcpnhfogaa
open Go.RowKit

def oldAt (l : List De) : Nat → Option Nat
  | 0 => none
  | k + 1 => match l[k]?, oldAt l k with
    | some d, some a => match l[a]? with
      | some y => if y.age < d.age then some k else some a
      | none => some a
    | some _, none => some k
    | none, r => r
def oldZ : Option Nat → Int
  | none => -1
  | some a => a
theorem oldAt_spec (l : List De) : ∀ k, k ≤ l.length → (k = 0 ∧ oldAt l k = none) ∨ ∃ a y, oldAt l k = some a ∧ l[a]? = some y ∧ a < k ∧ ∀ i z, i < k → l[i]? = some z → z.age ≤ y.age ∧ (z.age = y.age → a ≤ i)
  | 0, _ => .inl ⟨rfl, rfl⟩
  | k + 1, h => by
    right
    have hk := List.getElem?_eq_getElem (show k < l.length by omega)
    rcases oldAt_spec l k (by omega) with ⟨rfl, h0⟩ | ⟨a, y, h1, h2, h3, h4⟩
    · refine ⟨0, l[0], by simp only [oldAt, hk], hk, by omega, fun i z hi hz => ?_⟩
      obtain rfl : i = 0 := by omega
      rw [hk] at hz
      cases hz
      exact ⟨Int.le_refl _, fun _ => Nat.le_refl _⟩
    · by_cases hlt : y.age < (l[k]).age
      · refine ⟨k, l[k], by simp only [oldAt, hk, h1, h2, if_pos hlt], hk, by omega, fun i z hi hz => ?_⟩
        by_cases hik : i = k
        · subst hik
          rw [hk] at hz
          cases hz
          exact ⟨Int.le_refl _, fun _ => Nat.le_refl _⟩
        · have := (h4 i z (by omega) hz).1
          exact ⟨by omega, fun e => by omega⟩
      · refine ⟨a, y, by simp only [oldAt, hk, h1, h2, if_neg hlt], h2, by omega, fun i z hi hz => ?_⟩
        by_cases hik : i = k
        · subst hik
          rw [hk] at hz
          cases hz
          exact ⟨by omega, fun _ => by omega⟩
        · exact h4 i z (by omega) hz
set_option maxRecDepth 100000 in
set_option maxHeartbeats 4000000 in
theorem oldest_ok (l : List De) (cap : Nat) (hl : l.length ≤ 1099511627776) : FnOK Try.prog GG 27 [.ro 4 (l.map deC)] [.s (.o 0) 4 0 l.length cap] (fun r _ ext => r = .v (.int .i64 (oldZ (oldAt l l.length))) ∧ ext = []) := by
  refine fn_val (C := seat) seat_ok [(5, (.of [(0, .take), (1, .take), (2, .take), (3, .take), (4, .take), (5, .take), (6, .take), (7, .take), (8, .take), (9, .take), (10, .take), (11, .take)]))] GG_no (Try.func27) rfl rfl rfl rfl rfl (fun _ => rfl) rfl ?_
  repeat' ((try conv => whnf); first
    | (with_reducible refine OKv.go (C := seat) seat_ok ?_)
    | (with_reducible refine BB_true ?_)
    | (with_reducible refine BB_false ?_)
    | (with_reducible refine Both.mk ?_ ?_)
    | (with_reducible refine VS.mk ?_)
    | (refine PSem.go (C := seat) seat_ok ?_)
    | (refine And.intro (PlanOK.mk (by kernel_rfl) rfl (by kernel_rfl) (by kernel_rfl)) ?_)
    | (refine And.intro rfl (Exists.intro _ (And.intro (by first | assumption | rfl) ?_)))
    | (refine And.intro ⟨rfl, rfl, rfl⟩ ?_)
    | (refine And.intro (by omega) ?_)
    | (refine BB.mk (fun _h => ?_) (fun _h => ?_) <;> (first | (exact absurd _h (by decide)) | (exfalso; simp only [boolSet] at _h <;> omega) | skip)))
  all_goals (try conv => whnf)
  refine loop_rule (α := Nat) (fun k => k ≤ l.length) (fun k => { slots := [(0, .s (.o 0) 4 0 l.length cap), (3, .v (.int .i64 (oldZ (oldAt l k)))), (6, .s (.o 0) 4 0 l.length cap), (7, .v (.int .i64 l.length)), (8, .v (.int .i64 (k : Int)))], nt := 28, mem := ⟨GG, [.ro 4 (l.map deC)], []⟩ }) (fun k => l.length - k) 0 (Nat.zero_le _) ⟨⟨[], List.nodup_nil, GG_no, rfl, (SubOld.refl _ rfl), trivial, ⟨.inl rfl, .inl rfl, .inl rfl, .inl rfl, .inl rfl, trivial⟩⟩, rfl⟩ ?_ (fun _ => rfl)
  intro k hk
  refine vc_sound (C := seat) seat_ok (pl := [(5, (.of [(0, .take), (1, .take), (2, .take), (3, .take), (4, .take), (5, .take), (6, .take), (7, .take), (8, .take), (9, .take), (10, .take), (11, .take)]))]) ?_
  by_cases hlt : k < l.length
  · obtain ⟨y, hy⟩ : ∃ y, l[k]? = some y := ⟨_, List.getElem?_eq_getElem hlt⟩
    have hrow := de_at hy
    rcases oldAt_spec l k hk with ⟨rfl, h0⟩ | ⟨a, z, h1, h2, h3, h4⟩
    · have hn : oldAt l (0 + 1) = some 0 := by simp only [oldAt, hy]
      rw [h0]
      repeat' ((try conv => whnf); first
        | (with_reducible refine OKv.go (C := seat) seat_ok ?_)
        | (with_reducible refine BB_true ?_)
        | (with_reducible refine BB_false ?_)
        | (with_reducible refine Both.mk ?_ ?_)
        | (with_reducible refine VS.mk ?_)
        | (refine PSem.go (C := seat) seat_ok ?_)
        | (refine And.intro (PlanOK.mk (by kernel_rfl) rfl (by kernel_rfl) (by kernel_rfl)) ?_)
        | (refine And.intro rfl (Exists.intro _ (And.intro (by first | assumption | rfl) ?_)))
        | (refine And.intro ⟨rfl, rfl, rfl⟩ ?_)
        | (refine And.intro ⟨rfl, rfl, rfl, by first | (simp only [chunks_len, List.length_map, List.length_take, List.length_drop, List.length_append, List.length_cons, List.length_nil] <;> omega) | omega | rfl⟩ ?_)
        | (refine And.intro ⟨rfl, by first | (simp only [chunks_len, List.length_map, List.length_take, List.length_drop, List.length_append, List.length_cons, List.length_nil] <;> omega) | omega | rfl⟩ ?_)
        | (refine And.intro (by first | exact ⟨rfl, Nat.le_refl _⟩ | first | (simp only [chunks_len, List.length_map, List.length_take, List.length_drop, List.length_append, List.length_cons, List.length_nil] <;> omega) | omega | rfl) ?_)
        | (refine fun (caps : Nat → Nat) hcaps => ?_; conv at hcaps => whnf)
        | (refine fun (cap' : Nat) hcap' => ?_)
        | (refine And.intro (by omega) ?_)
        | (refine BB.mk (fun _h => ?_) (fun _h => ?_) <;> (first | (exact absurd _h (by decide)) | (exfalso; simp only [boolSet] at _h <;> omega) | skip)))
      all_goals (try conv => whnf)
      all_goals
        refine ⟨0 + 1, by omega, by omega, ⟨⟨[], List.nodup_nil, GG_no, rfl, SubOld.refl _ rfl, trivial, ⟨.inl rfl, .inl ?_, .inl rfl, .inl rfl, .inl (num_eq (by rw [IntKind.wrap_i64]; omega)), trivial⟩⟩, rfl⟩⟩
        rw [hn]
        rfl
    · have hrow2 := de_at h2
      have hn : oldAt l (k + 1) = if z.age < y.age then some k else some a := by simp only [oldAt, hy, h1, h2]
      rw [h1]
      show vc _ _ _ { slots := [_, (3, .v (.int .i64 (a : Int))), _, _, _], nt := _, mem := _ } _
      repeat' ((try conv => whnf); first
        | (with_reducible refine OKv.go (C := seat) seat_ok ?_)
        | (with_reducible refine BB_true ?_)
        | (with_reducible refine BB_false ?_)
        | (with_reducible refine Both.mk ?_ ?_)
        | (with_reducible refine VS.mk ?_)
        | (refine PSem.go (C := seat) seat_ok ?_)
        | (refine And.intro (PlanOK.mk (by kernel_rfl) rfl (by kernel_rfl) (by kernel_rfl)) ?_)
        | (refine And.intro rfl (Exists.intro _ (And.intro (by first | assumption | rfl) ?_)))
        | (refine And.intro ⟨rfl, rfl, rfl⟩ ?_)
        | (refine And.intro ⟨rfl, rfl, rfl, by first | (simp only [chunks_len, List.length_map, List.length_take, List.length_drop, List.length_append, List.length_cons, List.length_nil] <;> omega) | omega | rfl⟩ ?_)
        | (refine And.intro ⟨rfl, by first | (simp only [chunks_len, List.length_map, List.length_take, List.length_drop, List.length_append, List.length_cons, List.length_nil] <;> omega) | omega | rfl⟩ ?_)
        | (refine And.intro (by first | exact ⟨rfl, Nat.le_refl _⟩ | first | (simp only [chunks_len, List.length_map, List.length_take, List.length_drop, List.length_append, List.length_cons, List.length_nil] <;> omega) | omega | rfl) ?_)
        | (refine fun (caps : Nat → Nat) hcaps => ?_; conv at hcaps => whnf)
        | (refine fun (cap' : Nat) hcap' => ?_)
        | (refine And.intro (by omega) ?_)
        | (refine BB.mk (fun _h => ?_) (fun _h => ?_) <;> (first | (exact absurd _h (by decide)) | (exfalso; simp only [boolSet] at _h <;> omega) | skip)))
      all_goals (try conv => whnf)
      · refine ⟨k + 1, by omega, by omega, ⟨⟨[], List.nodup_nil, GG_no, rfl, SubOld.refl _ rfl, trivial, ⟨.inl rfl, .inl ?_, .inl rfl, .inl rfl, .inl (num_eq (by rw [IntKind.wrap_i64]; omega)), trivial⟩⟩, rfl⟩⟩
        rw [hn, if_pos (by simp only [boolSet] at _h <;> omega)]
        rfl
      · refine ⟨k + 1, by omega, by omega, ⟨⟨[], List.nodup_nil, GG_no, rfl, SubOld.refl _ rfl, trivial, ⟨.inl rfl, .inl ?_, .inl rfl, .inl rfl, .inl (num_eq (by rw [IntKind.wrap_i64]; omega)), trivial⟩⟩, rfl⟩⟩
        rw [hn, if_neg (by simp only [boolSet] at _h <;> omega)]
        rfl
  · obtain rfl : k = l.length := by omega
    repeat' ((try conv => whnf); first
      | (with_reducible refine OKv.go (C := seat) seat_ok ?_)
      | (with_reducible refine BB_true ?_)
      | (with_reducible refine BB_false ?_)
      | (with_reducible refine Both.mk ?_ ?_)
      | (with_reducible refine VS.mk ?_)
      | (refine PSem.go (C := seat) seat_ok ?_)
      | (refine And.intro (PlanOK.mk (by kernel_rfl) rfl (by kernel_rfl) (by kernel_rfl)) ?_)
      | (refine And.intro rfl (Exists.intro _ (And.intro (by first | assumption | rfl) ?_)))
      | (refine And.intro ⟨rfl, rfl, rfl⟩ ?_)
      | (refine And.intro (by omega) ?_)
      | (refine BB.mk (fun _h => ?_) (fun _h => ?_) <;> (first | (exact absurd _h (by decide)) | (exfalso; simp only [boolSet] at _h <;> omega) | skip)))
    all_goals (try conv => whnf)
    exact Fin.mk ⟨rfl, rfl⟩
end Go.Proofs.Ytfjankcpnhfogaa
