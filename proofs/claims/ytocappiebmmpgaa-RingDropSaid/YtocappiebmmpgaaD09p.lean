/- Descriptors by computing: slices.Insert. -/
import Derived.Test.YtocappiebmmpgaaD09n
namespace Go.Proofs.Ytocappiebmmpgaa
open Go.RowKit

def insAt (A : List (List CV)) (i : Nat) (x : List CV) : List (List CV) := A.take i ++ x :: A.drop i
theorem insAt_end {A : List (List CV)} {n : Nat} {x : List CV} (h : n = A.length) : insAt A n x = A ++ [x] := by
  subst h
  unfold insAt
  rw [List.take_length, List.drop_length]
set_option maxRecDepth 100000 in
set_option maxHeartbeats 4000000 in
theorem ins_end_grow (A : List (List CV)) (x : List CV) (n i cap cv : Nat) (hn : n = A.length) (hc : n ≤ cap) (hcv : 1 ≤ cv) (hl : n ≤ 1099511627776) (hi : i = n) (hg : cap < n + 1) : FnOK Try.prog GG 52 [.row 27 4 cap A, .row 27 4 cv [x]] [.s (.o 0) 4 0 n cap, .v (.int .i64 i), .s (.o 1) 4 0 1 cv] (fun r bs' ext => ∃ c', n + 1 ≤ c' ∧ r = .s (.n 0) 4 0 (n + 1) c' ∧ bs' = [.row 27 4 cap A, .row 27 4 cv [x]] ∧ ext = [.row 27 4 c' (insAt A i x)]) := by
  have hw0 : IntKind.i64.wrap ((n : Int) + ((1 : Nat) : Int)) = ((n + 1 : Nat) : Int) := by rw [IntKind.wrap_i64]; omega
  have hw1 : IntKind.i64.wrap ((i : Int) + ((1 : Nat) : Int)) = ((i + 1 : Nat) : Int) := by rw [IntKind.wrap_i64]; omega
  refine fn_intro (C := seat) seat_ok [(11, (.of [(0, .take), (1, .take), (2, .take), (3, .take), (4, .take), (5, .take), (6, .take), (7, .take), (8, .last)])), (15, (.of [(0, .take), (1, .take), (2, .take), (3, .take), (4, .take), (5, .take), (6, .take), (7, .take), (8, .last)]))] GG_no (Try.func52) rfl rfl rfl rfl rfl ?_
  repeat' ((try conv => whnf); first
    | (with_reducible refine OKv.go (C := seat) seat_ok ?_)
    | (with_reducible refine BB_true ?_)
    | (with_reducible refine BB_false ?_)
    | (with_reducible refine Both.mk ?_ ?_)
    | (with_reducible refine VS.mk ?_)
    | (refine PSem.go (C := seat) seat_ok ?_)
    | (refine And.intro (PlanOK.mk (by kernel_rfl) rfl (by kernel_rfl) (by kernel_rfl)) ?_)
    | (refine And.intro rfl (Exists.intro _ (And.intro (by first | assumption | rfl) ?_)))
    | (refine And.intro ⟨rfl, rfl, rfl⟩ ?_)
    | (refine Or.inr ?_)
    | (refine op_appN seat_ok rfl ?_)
    | (refine fun (cap' : Nat) hcap' => ?_)
    | (refine And.intro (⟨by omega, by omega, by (show (_ + _) * 32 ≤ 140737488355328; omega)⟩ : _ ∧ _ ∧ _ * _ ≤ 140737488355328) ?_)
    | (refine And.intro (⟨by omega, by (show (_ + _) * 32 ≤ 140737488355328; omega)⟩ : _ ∧ _ * _ ≤ 140737488355328) ?_)
    | (refine And.intro (⟨rfl, by (first | omega | (simp only [hw0, hw1, Int.toNat_natCast, List.length_append, List.length_take, List.length_drop, List.length_replicate, List.length_cons, List.length_nil, chunks_len] <;> omega)), by (first | omega | (simp only [hw0, hw1, Int.toNat_natCast, List.length_append, List.length_take, List.length_drop, List.length_replicate, List.length_cons, List.length_nil, chunks_len] <;> omega))⟩ : _ ∧ _ ≤ _ ∧ _ ≤ _) ?_)
    | (refine And.intro (⟨rfl, by (first | omega | (simp only [hw0, hw1, Int.toNat_natCast, List.length_append, List.length_take, List.length_drop, List.length_replicate, List.length_cons, List.length_nil, chunks_len] <;> omega))⟩ : _ ∧ _ ≤ _) ?_)
    | (refine And.intro (by (first | omega | (simp only [hw0, hw1, Int.toNat_natCast, List.length_append, List.length_take, List.length_drop, List.length_replicate, List.length_cons, List.length_nil, chunks_len] <;> omega)) : _ ≤ _ ∧ _) ?_)
    | (refine BB.mk (fun _h => ?_) (fun _h => ?_) <;> (first | (exact absurd _h (by decide)) | (exfalso; simp only [boolSet, IntKind.wrap_i64] at _h <;> omega) | skip))
    | (refine And.intro (by omega) ?_)
    | (refine BB.mk (fun _h => ?_) (fun _h => ?_) <;> (first | (exact absurd _h (by decide)) | (exfalso; simp only [boolSet] at _h <;> omega) | skip)))
  all_goals (try conv => whnf)
  refine ⟨cap', hcap', rfl, rfl, ?_⟩
  show [SB.row _ 4 cap' ((A.drop 0).take n ++ [x])] = _
  rw [hi, insAt_end hn, List.drop_zero, List.take_of_length_le (by omega)]
set_option maxRecDepth 100000 in
set_option maxHeartbeats 4000000 in
theorem ins_end_room (A : List (List CV)) (x : List CV) (n i cap cv : Nat) (hn : n = A.length) (hc : n ≤ cap) (hcv : 1 ≤ cv) (hl : n ≤ 1099511627776) (hi : i = n) (hg : n + 1 ≤ cap) : FnOK Try.prog GG 52 [.row 27 4 cap A, .row 27 4 cv [x]] [.s (.o 0) 4 0 n cap, .v (.int .i64 i), .s (.o 1) 4 0 1 cv] (fun r bs' ext => r = .s (.o 0) 4 0 (n + 1) cap ∧ bs' = [.row 27 4 cap (insAt A i x), .row 27 4 cv [x]] ∧ ext = []) := by
  have hw0 : IntKind.i64.wrap ((n : Int) + ((1 : Nat) : Int)) = ((n + 1 : Nat) : Int) := by rw [IntKind.wrap_i64]; omega
  have hw1 : IntKind.i64.wrap ((i : Int) + ((1 : Nat) : Int)) = ((i + 1 : Nat) : Int) := by rw [IntKind.wrap_i64]; omega
  refine fn_intro (C := seat) seat_ok [(11, (.of [(0, .take), (1, .take), (2, .take), (3, .take), (4, .take), (5, .take), (6, .take), (7, .take), (8, .last)])), (15, (.of [(0, .take), (1, .take), (2, .take), (3, .take), (4, .take), (5, .take), (6, .take), (7, .take), (8, .last)]))] GG_no (Try.func52) rfl rfl rfl rfl rfl ?_
  repeat' ((try conv => whnf); first
    | (with_reducible refine OKv.go (C := seat) seat_ok ?_)
    | (with_reducible refine BB_true ?_)
    | (with_reducible refine BB_false ?_)
    | (with_reducible refine Both.mk ?_ ?_)
    | (with_reducible refine VS.mk ?_)
    | (refine PSem.go (C := seat) seat_ok ?_)
    | (refine And.intro (PlanOK.mk (by kernel_rfl) rfl (by kernel_rfl) (by kernel_rfl)) ?_)
    | (refine And.intro rfl (Exists.intro _ (And.intro (by first | assumption | rfl) ?_)))
    | (refine And.intro ⟨rfl, rfl, rfl⟩ ?_)
    | (refine Or.inr ?_)
    | (refine op_appI seat_ok rfl ?_)
    | (refine fun (cap' : Nat) hcap' => ?_)
    | (refine And.intro ⟨rfl, rfl, rfl, rfl, by omega, by omega, by omega⟩ ?_)
    | (refine And.intro (⟨by omega, by omega, by (show (_ + _) * 32 ≤ 140737488355328; omega)⟩ : _ ∧ _ ∧ _ * _ ≤ 140737488355328) ?_)
    | (refine And.intro (⟨by omega, by (show (_ + _) * 32 ≤ 140737488355328; omega)⟩ : _ ∧ _ * _ ≤ 140737488355328) ?_)
    | (refine And.intro (⟨rfl, by (first | omega | (simp only [hw0, hw1, Int.toNat_natCast, List.length_append, List.length_take, List.length_drop, List.length_replicate, List.length_cons, List.length_nil, chunks_len] <;> omega)), by (first | omega | (simp only [hw0, hw1, Int.toNat_natCast, List.length_append, List.length_take, List.length_drop, List.length_replicate, List.length_cons, List.length_nil, chunks_len] <;> omega))⟩ : _ ∧ _ ≤ _ ∧ _ ≤ _) ?_)
    | (refine And.intro (⟨rfl, by (first | omega | (simp only [hw0, hw1, Int.toNat_natCast, List.length_append, List.length_take, List.length_drop, List.length_replicate, List.length_cons, List.length_nil, chunks_len] <;> omega))⟩ : _ ∧ _ ≤ _) ?_)
    | (refine And.intro (by (first | omega | (simp only [hw0, hw1, Int.toNat_natCast, List.length_append, List.length_take, List.length_drop, List.length_replicate, List.length_cons, List.length_nil, chunks_len] <;> omega)) : _ ≤ _ ∧ _) ?_)
    | (refine BB.mk (fun _h => ?_) (fun _h => ?_) <;> (first | (exact absurd _h (by decide)) | (exfalso; simp only [boolSet, IntKind.wrap_i64] at _h <;> omega) | skip))
    | (refine And.intro (by omega) ?_)
    | (refine BB.mk (fun _h => ?_) (fun _h => ?_) <;> (first | (exact absurd _h (by decide)) | (exfalso; simp only [boolSet] at _h <;> omega) | skip)))
  all_goals (try conv => whnf)
  refine ⟨rfl, ?_, rfl⟩
  show [SB.row _ 4 cap (A ++ [x]), _] = _
  rw [hi, insAt_end hn]
theorem ins_math {A R : List (List CV)} {x : List CV} {n i q a b c z d e g h j k : Nat} (hn : n = A.length) (hi : i < n) (hq : q = n + 1 - i) (hR : R.length = q) (ha : a = i + 1) (hb : b = i) (hc : c = i) (hz : z = 0) (hd : d = q) (he : e = i + 1) (hg : g = n - i) (hh : h = n - i) (hj : j = i) (hk : k = n + 1) :
    List.take a (List.take b (List.take c (List.drop z A) ++ R) ++ List.take d (List.take 1 (List.drop 0 [x])) ++ List.drop e (List.take c (List.drop z A) ++ R)) ++ List.take g (List.take h (List.drop j A)) ++ List.drop k (List.take b (List.take c (List.drop z A) ++ R) ++ List.take d (List.take 1 (List.drop 0 [x])) ++ List.drop e (List.take c (List.drop z A) ++ R)) = insAt A i x := by
  rw [ha, hb, hc, hz, hd, he, hg, hh, hj, hk]
  rw [List.drop_zero]
  have hP : (A.take i).length = i := by rw [List.length_take]; omega
  have h1 : List.take i (A.take i ++ R) = A.take i := List.take_left' hP
  have h2 : List.take q (List.take 1 (List.drop 0 [x])) = [x] := by
    rw [List.drop_zero, List.take_of_length_le (by rw [List.length_take, List.length_cons]; simp; omega)]
    rfl
  have h3 : (List.drop (i + 1) (A.take i ++ R)).length = q - 1 := by rw [List.length_drop, List.length_append, hP, hR]; omega
  rw [h1, h2]
  generalize List.drop (i + 1) (A.take i ++ R) = D at h3
  have h4 : List.take (i + 1) (A.take i ++ [x] ++ D) = A.take i ++ [x] := List.take_left' (by rw [List.length_append, hP]; rfl)
  have h5 : List.drop (n + 1) (A.take i ++ [x] ++ D) = [] := List.drop_eq_nil_of_le (by rw [List.length_append, List.length_append, hP, h3]; simp; omega)
  have h6 : List.take (n - i) (List.take (n - i) (List.drop i A)) = List.drop i A := by
    rw [List.take_take, List.take_of_length_le (by rw [List.length_drop]; omega)]
  rw [h4, h5, h6]
  unfold insAt
  simp
set_option maxRecDepth 100000 in
set_option maxHeartbeats 4000000 in
theorem ins_grow (A : List (List CV)) (x : List CV) (n i cap cv : Nat) (hn : n = A.length) (hc : n ≤ cap) (hcv : 1 ≤ cv) (hl : n ≤ 1099511627776) (hi : i < n) (hg : cap < n + 1) : FnOK Try.prog GG 52 [.row 27 4 cap A, .row 27 4 cv [x]] [.s (.o 0) 4 0 n cap, .v (.int .i64 i), .s (.o 1) 4 0 1 cv] (fun r bs' ext => ∃ c', n + 1 ≤ c' ∧ r = .s (.n 0) 4 0 (n + 1) c' ∧ bs' = [.row 27 4 cap A, .row 27 4 cv [x]] ∧ ext = [.row 27 4 c' (insAt A i x)]) := by
  have hw1 : IntKind.i64.wrap ((i : Int) + ((1 : Nat) : Int)) = ((i + 1 : Nat) : Int) := by rw [IntKind.wrap_i64]; omega
  obtain ⟨q, hq⟩ : ∃ q, q = n + 1 - i := ⟨_, rfl⟩
  have hz : IntKind.i64.wrap (IntKind.i64.wrap ((n : Int) + ((1 : Nat) : Int)) - (i : Int)) = (q : Int) := by rw [IntKind.wrap_i64, IntKind.wrap_i64]; omega
  refine fn_intro (C := seat) seat_ok [(11, (.of [(0, .take), (1, .take), (2, .take), (3, .take), (4, .take), (5, .take), (6, .take), (7, .take), (8, .last)])), (15, (.of [(0, .take), (1, .take), (2, .take), (3, .take), (4, .take), (5, .take), (6, .take), (7, .take), (8, .last)]))] GG_no (Try.func52) rfl rfl rfl rfl rfl ?_
  repeat' ((try conv => whnf); first
    | (with_reducible refine OKv.go (C := seat) seat_ok ?_)
    | (with_reducible refine BB_true ?_)
    | (with_reducible refine BB_false ?_)
    | (with_reducible refine Both.mk ?_ ?_)
    | (with_reducible refine VS.mk ?_)
    | (refine PSem.go (C := seat) seat_ok ?_)
    | (refine And.intro (PlanOK.mk (by kernel_rfl) rfl (by kernel_rfl) (by kernel_rfl)) ?_)
    | (refine And.intro rfl (Exists.intro _ (And.intro (by first | assumption | rfl) ?_)))
    | (refine And.intro ⟨rfl, rfl, rfl⟩ ?_)
    | (refine op_appZm seat_ok q rfl (congrArg (fun z => SV.v (Value.int .i64 z)) hz) ?_)
    | (refine op_copyX seat_ok rfl ?_)
    | (refine fun (cap' : Nat) hcap' => ?_)
    | (refine And.intro ⟨rfl, Nat.le_refl _⟩ ?_)
    | (refine And.intro (⟨by omega, by omega, by (show (_ + _) * 32 ≤ 140737488355328; omega)⟩ : _ ∧ _ ∧ _ * _ ≤ 140737488355328) ?_)
    | (refine And.intro (⟨by omega, by (show (_ + _) * 32 ≤ 140737488355328; omega)⟩ : _ ∧ _ * _ ≤ 140737488355328) ?_)
    | (refine And.intro (⟨rfl, by (first | omega | (simp only [hw1, Int.toNat_natCast, List.length_append, List.length_take, List.length_drop, List.length_replicate, List.length_cons, List.length_nil, chunks_len] <;> omega)), by (first | omega | (simp only [hw1, Int.toNat_natCast, List.length_append, List.length_take, List.length_drop, List.length_replicate, List.length_cons, List.length_nil, chunks_len] <;> omega))⟩ : _ ∧ _ ≤ _ ∧ _ ≤ _) ?_)
    | (refine And.intro (⟨rfl, by (first | omega | (simp only [hw1, Int.toNat_natCast, List.length_append, List.length_take, List.length_drop, List.length_replicate, List.length_cons, List.length_nil, chunks_len] <;> omega))⟩ : _ ∧ _ ≤ _) ?_)
    | (refine And.intro (by (first | omega | (simp only [hw1, Int.toNat_natCast, List.length_append, List.length_take, List.length_drop, List.length_replicate, List.length_cons, List.length_nil, chunks_len] <;> omega)) : _ ≤ _ ∧ _) ?_)
    | (refine BB.mk (fun _h => ?_) (fun _h => ?_) <;> (first | (exact absurd _h (by decide)) | (exfalso; simp only [boolSet, IntKind.wrap_i64] at _h <;> omega) | skip))
    | (refine And.intro (by omega) ?_)
    | (refine BB.mk (fun _h => ?_) (fun _h => ?_) <;> (first | (exact absurd _h (by decide)) | (exfalso; simp only [boolSet] at _h <;> omega) | skip)))
  all_goals (try conv => whnf)
  refine ⟨cap', by omega, ?_, rfl, congrArg (fun z => [SB.row 27 4 cap' z]) (ins_math (q := q) hn hi hq (by rw [List.length_replicate]; omega) ?_ ?_ ?_ ?_ ?_ ?_ ?_ ?_ ?_ ?_)⟩
  · show SV.s _ 4 0 (i - 0 + q) cap' = _
    congr 1
    omega
  all_goals (first | omega | (simp only [hw1, Int.toNat_natCast, List.length_append, List.length_take, List.length_drop, List.length_replicate, List.length_cons, List.length_nil, chunks_len] <;> omega))
theorem room_math {A : List (List CV)} {x : List CV} {n i a b z c d e g h : Nat} (hn : n = A.length) (hi : i < n) (ha : a = i) (hb : b = 1) (hz : z = 0) (hc : c = i + 1) (hd : d = i + 1) (he : e = n - i) (hg : g = i) (hh : h = n + 1) :
    List.take a (List.take d A ++ List.take e (List.drop g A) ++ List.drop h A) ++ List.take b (List.drop z [x]) ++ List.drop c (List.take d A ++ List.take e (List.drop g A) ++ List.drop h A) = insAt A i x := by
  rw [ha, hb, hz, hc, hd, he, hg, hh]
  have h1 : List.drop (n + 1) A = [] := List.drop_eq_nil_of_le (by omega)
  have h2 : List.take (n - i) (List.drop i A) = List.drop i A := List.take_of_length_le (by rw [List.length_drop]; omega)
  have h3 : (List.take (i + 1) A).length = i + 1 := by rw [List.length_take]; omega
  rw [h1, h2, List.append_nil]
  have h4 : List.drop (i + 1) (List.take (i + 1) A ++ List.drop i A) = List.drop i A := List.drop_left' h3
  have h5 : List.take i (List.take (i + 1) A ++ List.drop i A) = List.take i A := by
    rw [List.take_append_of_le_length (by omega), List.take_take, Nat.min_eq_left (by omega)]
  rw [h4, h5]
  unfold insAt
  simp
set_option maxRecDepth 100000 in
set_option maxHeartbeats 4000000 in
theorem ins_room (A : List (List CV)) (x : List CV) (n i cap cv : Nat) (hn : n = A.length) (hc : n ≤ cap) (hcv : 1 ≤ cv) (hl : n ≤ 1099511627776) (hi : i < n) (hg : n + 1 ≤ cap) : FnOK Try.prog GG 52 [.row 27 4 cap A, .row 27 4 cv [x]] [.s (.o 0) 4 0 n cap, .v (.int .i64 i), .s (.o 1) 4 0 1 cv] (fun r bs' ext => r = .s (.o 0) 4 0 (n + 1) cap ∧ bs' = [.row 27 4 cap (insAt A i x), .row 27 4 cv [x]] ∧ ext = []) := by
  have hw0 : IntKind.i64.wrap ((n : Int) + ((1 : Nat) : Int)) = ((n + 1 : Nat) : Int) := by rw [IntKind.wrap_i64]; omega
  have hw1 : IntKind.i64.wrap ((i : Int) + ((1 : Nat) : Int)) = ((i + 1 : Nat) : Int) := by rw [IntKind.wrap_i64]; omega
  refine fn_intro (C := seat) seat_ok [(11, (.of [(0, .take), (1, .take), (2, .take), (3, .take), (4, .take), (5, .take), (6, .take), (7, .take), (8, .last)])), (15, (.of [(0, .take), (1, .take), (2, .take), (3, .take), (4, .take), (5, .take), (6, .take), (7, .take), (8, .last)]))] GG_no (Try.func52) rfl rfl rfl rfl rfl ?_
  repeat' ((try conv => whnf); first
    | (with_reducible refine OKv.go (C := seat) seat_ok ?_)
    | (with_reducible refine BB_true ?_)
    | (with_reducible refine BB_false ?_)
    | (with_reducible refine Both.mk ?_ ?_)
    | (with_reducible refine VS.mk ?_)
    | (refine PSem.go (C := seat) seat_ok ?_)
    | (refine And.intro (PlanOK.mk (by kernel_rfl) rfl (by kernel_rfl) (by kernel_rfl)) ?_)
    | (refine And.intro rfl (Exists.intro _ (And.intro (by first | assumption | rfl) ?_)))
    | (refine And.intro ⟨rfl, rfl, rfl⟩ ?_)
    | (refine And.intro (⟨by omega, by omega, by (show (_ + _) * 32 ≤ 140737488355328; omega)⟩ : _ ∧ _ ∧ _ * _ ≤ 140737488355328) ?_)
    | (refine And.intro (⟨by omega, by (show (_ + _) * 32 ≤ 140737488355328; omega)⟩ : _ ∧ _ * _ ≤ 140737488355328) ?_)
    | (refine And.intro (⟨rfl, by (first | omega | (simp only [hw0, hw1, Int.toNat_natCast, List.length_append, List.length_take, List.length_drop, List.length_replicate, List.length_cons, List.length_nil, chunks_len] <;> omega)), by (first | omega | (simp only [hw0, hw1, Int.toNat_natCast, List.length_append, List.length_take, List.length_drop, List.length_replicate, List.length_cons, List.length_nil, chunks_len] <;> omega))⟩ : _ ∧ _ ≤ _ ∧ _ ≤ _) ?_)
    | (refine And.intro (⟨rfl, by (first | omega | (simp only [hw0, hw1, Int.toNat_natCast, List.length_append, List.length_take, List.length_drop, List.length_replicate, List.length_cons, List.length_nil, chunks_len] <;> omega))⟩ : _ ∧ _ ≤ _) ?_)
    | (refine And.intro (by (first | omega | (simp only [hw0, hw1, Int.toNat_natCast, List.length_append, List.length_take, List.length_drop, List.length_replicate, List.length_cons, List.length_nil, chunks_len] <;> omega)) : _ ≤ _ ∧ _) ?_)
    | (refine BB.mk (fun _h => ?_) (fun _h => ?_) <;> (first | (exact absurd _h (by decide)) | (exfalso; simp only [boolSet, IntKind.wrap_i64] at _h <;> omega) | skip))
    | (refine And.intro (by omega) ?_)
    | (refine BB.mk (fun _h => ?_) (fun _h => ?_) <;> (first | (exact absurd _h (by decide)) | (exfalso; simp only [boolSet] at _h <;> omega) | skip)))
  all_goals (try conv => whnf)
  refine call_overlaps seat_ok (a := .o 1) (b := .o 0) (tS := 28) (tR := 4) Try.func55 (by kernel_rfl) (by kernel_rfl) (by kernel_rfl) (by kernel_rfl) rfl rfl rfl rfl rfl (by decide) (by omega) (by (first | omega | (simp only [hw0, hw1, Int.toNat_natCast, List.length_append, List.length_take, List.length_drop, List.length_replicate, List.length_cons, List.length_nil, chunks_len] <;> omega))) (by omega) (by omega) (by decide) rfl ?_
  conv => whnf
  repeat ((with_reducible refine OKv.go (C := seat) seat_ok ?_); conv => whnf)
  refine BB_true ?_
  conv => whnf
  repeat ((with_reducible refine OKv.go (C := seat) seat_ok ?_); conv => whnf)
  refine And.intro (PlanOK.mk (by kernel_rfl) rfl (by kernel_rfl) (by kernel_rfl)) ?_
  conv => whnf
  repeat ((with_reducible refine OKv.go (C := seat) seat_ok ?_); conv => whnf)
  refine And.intro (by omega) ?_
  conv => whnf
  repeat ((with_reducible refine OKv.go (C := seat) seat_ok ?_); conv => whnf)
  refine And.intro (by omega) ?_
  conv => whnf
  repeat ((with_reducible refine OKv.go (C := seat) seat_ok ?_); conv => whnf)
  refine op_copyX seat_ok rfl ?_
  conv => whnf
  repeat ((with_reducible refine OKv.go (C := seat) seat_ok ?_); conv => whnf)
  refine And.intro ⟨rfl, by omega⟩ ?_
  conv => whnf
  repeat ((with_reducible refine OKv.go (C := seat) seat_ok ?_); conv => whnf)
  refine And.intro ⟨rfl, by omega, by omega⟩ ?_
  conv => whnf
  repeat ((with_reducible refine OKv.go (C := seat) seat_ok ?_); conv => whnf)
  refine And.intro (by omega) ?_
  conv => whnf
  repeat ((with_reducible refine OKv.go (C := seat) seat_ok ?_); conv => whnf)
  refine op_copyX seat_ok rfl ?_
  conv => whnf
  repeat ((with_reducible refine OKv.go (C := seat) seat_ok ?_); conv => whnf)
  refine And.intro ⟨rfl, ?h1⟩ ?_
  case h1 => simp only [List.length_cons, List.length_nil]; omega
  conv => whnf
  repeat ((with_reducible refine OKv.go (C := seat) seat_ok ?_); conv => whnf)
  refine And.intro ⟨rfl, ?h2, ?h3⟩ ?_
  case h2 => simp only [List.length_append, List.length_take, List.length_drop]; omega
  case h3 => omega
  conv => whnf
  repeat ((with_reducible refine OKv.go (C := seat) seat_ok ?_); conv => whnf)
  refine ⟨?_, congrArg (fun z => [SB.row 27 4 cap z, SB.row 27 4 cv [x]]) (room_math hn hi ?_ ?_ ?_ ?_ ?_ ?_ ?_ ?_), rfl⟩
  · have e1 : ((IntKind.i64.wrap ((n : Int) + ((1 : Nat) : Int))).toNat - Int.toNat 0) = n + 1 := by omega
    rw [e1]
    rfl
  all_goals omega
theorem insert_ok (A : List (List CV)) (x : List CV) (n i cap cv : Nat) (hn : n = A.length) (hc : n ≤ cap) (hcv : 1 ≤ cv) (hl : n ≤ 1099511627776) (hi : i ≤ n) : FnOK Try.prog GG 52 [.row 27 4 cap A, .row 27 4 cv [x]] [.s (.o 0) 4 0 n cap, .v (.int .i64 i), .s (.o 1) 4 0 1 cv] (fun r bs' ext => (n + 1 ≤ cap ∧ r = .s (.o 0) 4 0 (n + 1) cap ∧ bs' = [.row 27 4 cap (insAt A i x), .row 27 4 cv [x]] ∧ ext = []) ∨ ∃ c', n + 1 ≤ c' ∧ r = .s (.n 0) 4 0 (n + 1) c' ∧ bs' = [.row 27 4 cap A, .row 27 4 cv [x]] ∧ ext = [.row 27 4 c' (insAt A i x)]) := by
  by_cases h1 : i = n <;> by_cases h2 : cap < n + 1
  · exact (ins_end_grow A x n i cap cv hn hc hcv hl h1 h2).mono fun _ _ _ h => .inr h
  · exact (ins_end_room A x n i cap cv hn hc hcv hl h1 (by omega)).mono fun _ _ _ h => .inl ⟨by omega, h⟩
  · exact (ins_grow A x n i cap cv hn hc hcv hl (by omega) h2).mono fun _ _ _ h => .inr h
  · exact (ins_room A x n i cap cv hn hc hcv hl (by omega) (by omega)).mono fun _ _ _ h => .inl ⟨by omega, h⟩
end Go.Proofs.Ytocappiebmmpgaa
