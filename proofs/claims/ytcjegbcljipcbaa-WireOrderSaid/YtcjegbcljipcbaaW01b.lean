/- Package wire, by computing: what is put, and taken. -/
import Derived.Test.YtcjegbcljipcbaaW01
namespace Go.Proofs.Ytcjegbcljipcbaa
open Go.RowKit

set_option maxRecDepth 100000 in
set_option maxHeartbeats 4000000 in
theorem within1_ok (n a b : Int) : FnOK Try.prog GG 25 [.ro 1 [[.int .i64 a]], .ro 1 [[.int .i64 b]]] [.v (.int .i64 n), .p (.o 0) 0 0 0, .p (.o 1) 0 0 0] (fun r _ ext => r = .v (.bool (decide (a ≤ n) && decide (n ≤ b))) ∧ ext = []) := by
  refine fn_val (C := seat) seat_ok [] GG_no (Try.func25) rfl rfl rfl rfl rfl (fun _ => rfl) rfl ?_
  repeat' ((try conv => whnf); first
    | (with_reducible refine BB_true ?_)
    | (with_reducible refine BB_false ?_)
    | (with_reducible refine Both.mk ?_ ?_)
    | (with_reducible refine VS.mk ?_)
    | (refine PSem.go (C := seat) seat_ok ?_)
    | (refine And.intro (PlanOK.mk (by kernel_rfl) rfl (by kernel_rfl) (by kernel_rfl)) ?_)
    | (refine And.intro rfl (Exists.intro _ (And.intro (by first | assumption | rfl) ?_)))
    | (refine And.intro ⟨rfl, rfl, rfl⟩ ?_)
    | (refine And.intro (by omega) ?_)
    | (refine BB.mk (fun _h => ?_) (fun _h => ?_) <;> (first | (exact absurd _h (by decide)) | (exfalso; simp only [boolSet] at _h <;> omega) | skip)))
  all_goals (try conv => whnf)
  all_goals (try (refine Fin.mk ?_))
  all_goals (first
  | exact ⟨rfl, rfl⟩
  | (refine ⟨bool_eq ?_, rfl⟩; grind)
  | (exfalso; grind))
theorem within1_is (n a b : Int) (v : Bool) (h : (decide (a ≤ n) && decide (n ≤ b)) = v) : FnOK Try.prog GG 25 [.ro 1 [[.int .i64 a]], .ro 1 [[.int .i64 b]]] [.v (.int .i64 n), .p (.o 0) 0 0 0, .p (.o 1) 0 0 0] (fun r _ ext => r = .v (.bool v) ∧ ext = []) := by
  subst h
  exact within1_ok n a b
set_option maxRecDepth 100000 in
set_option maxHeartbeats 4000000 in
theorem within_ok (a b : Int) : FnOK Try.prog GG 22 [] [.v (.int .i64 a), .v (.int .i64 b)] (fun r _ ext => r = .fn 25 [.p (.n 0) 0 0 0, .p (.n 1) 0 0 0] ∧ ext = [.box 3 [.v (.int .i64 a)], .box 3 [.v (.int .i64 b)]]) := by
  refine fn_new (C := seat) seat_ok [] GG_no (Try.func22) rfl rfl rfl rfl rfl rfl ?_
  repeat' ((try conv => whnf); first
    | (with_reducible refine BB_true ?_)
    | (with_reducible refine BB_false ?_)
    | (with_reducible refine Both.mk ?_ ?_)
    | (with_reducible refine VS.mk ?_)
    | (refine PSem.go (C := seat) seat_ok ?_)
    | (refine And.intro (PlanOK.mk (by kernel_rfl) rfl (by kernel_rfl) (by kernel_rfl)) ?_)
    | (refine And.intro rfl (Exists.intro _ (And.intro (by first | assumption | rfl) ?_)))
    | (refine And.intro ⟨rfl, rfl, rfl⟩ ?_)
    | (refine And.intro (by omega) ?_)
    | (refine BB.mk (fun _h => ?_) (fun _h => ?_) <;> (first | (exact absurd _h (by decide)) | (exfalso; simp only [boolSet] at _h <;> omega) | skip)))
  all_goals (try conv => whnf)
  exact ⟨⟨[0, 1], .fn 25 [.p (.n 0) 0 0 0, .p (.n 1) 0 0 0], [.box 3 [.v (.int .i64 a)], .box 3 [.v (.int .i64 b)]], by decide, rfl, ⟨rfl, rfl, trivial⟩, rfl, rfl⟩, rfl⟩
/-- What is put. -/
def putT (b : List Nat) (x : Nat) (n : Int) : List Nat := b ++ if 1 ≤ n ∧ n ≤ 8 then putB x n.toNat else []
theorem shr_byte {x n k : Nat} (hx : x < 2 ^ 64) (hn : n ≤ 8) (hk : k < n) : IntKind.u8.wrap ((x : Int).fdiv (2 ^ min (IntKind.i64.wrap (8 * IntKind.i64.wrap (IntKind.i64.wrap ((n : Int) - 1) - (k : Int)))).toNat IntKind.u64.bits)) = ((x / 256 ^ (n - 1 - k) % 256 : Nat) : Int) := by
  have e : (IntKind.i64.wrap (8 * IntKind.i64.wrap (IntKind.i64.wrap ((n : Int) - 1) - (k : Int)))).toNat = 8 * (n - 1 - k) := by
    rw [IntKind.wrap_i64, IntKind.wrap_i64, IntKind.wrap_i64]; omega
  rw [e, show min (8 * (n - 1 - k)) IntKind.u64.bits = 8 * (n - 1 - k) from Nat.min_eq_left (by show _ ≤ 64; omega)]
  have e2 : (x : Int).fdiv (2 ^ (8 * (n - 1 - k))) = ((x / 2 ^ (8 * (n - 1 - k)) : Nat) : Int) := by
    rw [Int.fdiv_eq_ediv_of_nonneg _ (by exact_mod_cast Nat.zero_le (2 ^ (8 * (n - 1 - k))))]
    push_cast
    rfl
  rw [e2, Nat.pow_mul, show 2 ^ 8 = 256 from rfl, IntKind.wrap_u8]
  omega
theorem put_step {b : List Nat} {x n k : Nat} (hk : k < n) : (b ++ (putB x n).take (k + 1)) = (b ++ (putB x n).take k) ++ [x / 256 ^ (n - 1 - k) % 256] := by
  rw [List.take_add_one, putB_at x n k hk, List.append_assoc]
  rfl
set_option maxRecDepth 100000 in
set_option maxHeartbeats 4000000 in
theorem put_ok (b : List Nat) (E : List (List Value)) (e m c : Nat) (x : Nat) (n : Int) (h : (E.drop e).take m = b.map bN) (hb : e + m ≤ E.length) (hl : m ≤ 1000000000) (hx : x < 2 ^ 64) : FnOK Try.prog GG 14 [.ro 1 E] [.s (.o 0) 1 e m c, .v (.int .u64 x), .v (.int .i64 n)] (fun r _ ext => ∃ cap, (putT b x n).length ≤ cap ∧ r = .s (.n 0) 1 0 (putT b x n).length cap ∧ ext = [.row 5 1 cap ((putT b x n).map bN)]) := by
  have hm := bN_all h hb
  by_cases hn : 1 ≤ n ∧ n ≤ 8
  · have hw : (decide (1 ≤ n) && decide (n ≤ 8)) = true := by simp [hn]
    obtain ⟨N, rfl⟩ := Int.eq_ofNat_of_zero_le (show 0 ≤ n by omega)
    have hR : putT b x (N : Int) = b ++ putB x N := by rw [putT, if_pos hn]; rfl
    rw [hR]
    refine fn_newR (C := seat) seat_ok [] GG_no (Try.func14) rfl rfl rfl rfl rfl rfl ?_
    repeat' ((try conv => whnf); first
      | (with_reducible refine BB_true ?_)
      | (with_reducible refine BB_false ?_)
      | (with_reducible refine Both.mk ?_ ?_)
      | (with_reducible refine VS.mk ?_)
      | (refine PSem.go (C := seat) seat_ok ?_)
      | (refine And.intro (PlanOK.mk (by kernel_rfl) rfl (by kernel_rfl) (by kernel_rfl)) ?_)
      | (refine And.intro rfl (Exists.intro _ (And.intro (by first | assumption | rfl) ?_)))
      | (refine And.intro ⟨rfl, rfl, rfl⟩ ?_)
      | (refine call_ro [.o 0] (own_ok b _ _ _ _ h hb (by omega)) GG_no rfl rfl rfl ⟨⟨_, rfl, rfl, rfl⟩, trivial⟩ ?_; rintro r bs' ext ⟨ca, hca, rfl, rfl⟩)
      | (refine call_ro [] (within_ok 1 8) GG_no rfl rfl rfl trivial ?_; rintro r bs' ext ⟨rfl, rfl⟩)
      | (refine call_ro [_, _] (within1_is (N : Int) 1 8 true hw) GG_no rfl rfl rfl ⟨⟨_, rfl, _, rfl, rfl, rfl, rfl⟩, ⟨_, rfl, _, rfl, rfl, rfl, rfl⟩, trivial⟩ ?_; rintro r bs' ext ⟨rfl, rfl⟩)
      | (refine And.intro (by omega) ?_)
      | (refine BB.mk (fun _h => ?_) (fun _h => ?_) <;> (first | (exact absurd _h (by decide)) | (exfalso; simp only [boolSet] at _h <;> omega) | skip)))
    all_goals (try conv => whnf)
    refine loop_rule (α := Nat × Nat) (fun p => p.1 ≤ N ∧ (b ++ (putB x N).take p.1).length ≤ p.2) (fun p => { slots := [(1, .v (.int .u64 x)), (2, .v (.int .i64 N)), (7, .s (.n 0) 1 0 (b ++ (putB x N).take p.1).length p.2), (16, .v (.int .i64 N)), (17, .v (.int .i64 p.1))], nt := 33, mem := ⟨GG, [.ro 1 E], [.row 5 1 p.2 ((b ++ (putB x N).take p.1).map bN)]⟩ }) (fun p => N - p.1) (0, ca) ⟨Nat.zero_le _, by simpa using hca⟩ ⟨⟨[0], (by decide), GG_no, rfl, (SubOld.refl _ rfl), ⟨.inr (by dsimp only; rw [List.take_zero, List.append_nil]; rfl), trivial⟩, ⟨.inl rfl, .inl rfl, .inl (by dsimp only; rw [List.take_zero, List.append_nil]; rfl), .inl rfl, .inl rfl, trivial⟩⟩, rfl⟩ ?_ (fun _ => rfl)
    rintro ⟨k, c'⟩ ⟨hk, hc⟩
    dsimp only at hk hc ⊢
    have hF : (b ++ (putB x N).take k).length = b.length + k := by rw [List.length_append, List.length_take, putB_len]; omega
    refine vc_sound (C := seat) seat_ok (pl := []) ?_
    by_cases hlt : k < N
    · have e1 := shr_byte (k := k) hx (show N ≤ 8 by omega) hlt
      have e0 : 0 ≤ IntKind.i64.wrap (8 * IntKind.i64.wrap (IntKind.i64.wrap ((N : Int) - 1) - (k : Int))) := by rw [IntKind.wrap_i64, IntKind.wrap_i64, IntKind.wrap_i64]; omega
      have e2 := put_step (b := b) (x := x) hlt
      have e3 : (b ++ (putB x N).take (k + 1)).map bN = (b ++ (putB x N).take k).map bN ++ [bN (x / 256 ^ (N - 1 - k) % 256)] := by rw [e2, List.map_append]; rfl
      have e4 : (b ++ (putB x N).take (k + 1)).length = (b ++ (putB x N).take k).length + 1 := by rw [e2, List.length_append]; rfl
      repeat' ((try conv => whnf); first
        | (with_reducible refine BB_true ?_)
        | (with_reducible refine BB_false ?_)
        | (with_reducible refine Both.mk ?_ ?_)
        | (with_reducible refine VS.mk ?_)
        | (refine PSem.go (C := seat) seat_ok ?_)
        | (refine And.intro (PlanOK.mk (by kernel_rfl) rfl (by kernel_rfl) (by kernel_rfl)) ?_)
        | (refine And.intro rfl (Exists.intro _ (And.intro (by first | assumption | rfl) ?_)))
        | (refine And.intro ⟨rfl, rfl, rfl⟩ ?_)
        | (refine And.intro ⟨rfl, rfl, rfl, by rw [List.length_map]⟩ ?_)
        | (refine And.intro ⟨rfl, hb⟩ ?_)
        | (refine And.intro (by first | omega | (dsimp only; omega) | exact ⟨rfl, Nat.le_refl _⟩) ?_)
        | (intro cap' hcap')
        | (refine And.intro (by omega) ?_)
        | (refine BB.mk (fun _h => ?_) (fun _h => ?_) <;> (first | (exact absurd _h (by decide)) | (exfalso; simp only [boolSet] at _h <;> omega) | skip)))
      all_goals (try conv => whnf)
      refine ⟨(k + 1, cap'), ⟨by dsimp only; omega, ?_⟩, by dsimp only; omega, ⟨⟨[2], by decide, GG_no, rfl, SubOld.refl _ rfl, ⟨.inr ?_, trivial⟩, ⟨.inl rfl, .inl rfl, .inl ?_, .inl rfl, .inl (num_eq (by rw [IntKind.wrap_i64]; dsimp only; omega)), trivial⟩⟩, rfl⟩⟩
      · dsimp only; rw [e4]; exact hcap'
      · dsimp only; rw [e3]
        show some (SB.row 5 1 cap' (List.map bN (b ++ List.take k (putB x N)) ++ [[.int .u8 (IntKind.u8.wrap ((x : Int).fdiv (2 ^ min (IntKind.i64.wrap (8 * IntKind.i64.wrap (IntKind.i64.wrap ((N : Int) - 1) - (k : Int)))).toNat IntKind.u64.bits)))]])) = _
        rw [e1]; rfl
      · dsimp only; rw [e4]; rfl
    · have hs : (putB x N).take k = putB x N := List.take_of_length_le (by rw [putB_len]; omega)
      rw [hs] at hc hF ⊢
      repeat' ((try conv => whnf); first
        | (with_reducible refine BB_true ?_)
        | (with_reducible refine BB_false ?_)
        | (with_reducible refine Both.mk ?_ ?_)
        | (with_reducible refine VS.mk ?_)
        | (refine PSem.go (C := seat) seat_ok ?_)
        | (refine And.intro (PlanOK.mk (by kernel_rfl) rfl (by kernel_rfl) (by kernel_rfl)) ?_)
        | (refine And.intro rfl (Exists.intro _ (And.intro (by first | assumption | rfl) ?_)))
        | (refine And.intro ⟨rfl, rfl, rfl⟩ ?_)
        | (refine And.intro (by omega) ?_)
        | (refine BB.mk (fun _h => ?_) (fun _h => ?_) <;> (first | (exact absurd _h (by decide)) | (exfalso; simp only [boolSet] at _h <;> omega) | skip)))
      all_goals (try conv => whnf)
      exact ⟨⟨[0], .s (.n 0) 1 0 (b ++ putB x N).length c', [.row 5 1 c' ((b ++ putB x N).map bN)], by decide, .inl (.inl rfl), ⟨.inr rfl, trivial⟩, c', hc, rfl, rfl⟩, rfl⟩
  · have hw : (decide (1 ≤ n) && decide (n ≤ 8)) = false := by simp; omega
    have hR : putT b x n = b := by rw [putT, if_neg hn, List.append_nil]
    rw [hR]
    refine fn_newR (C := seat) seat_ok [] GG_no (Try.func14) rfl rfl rfl rfl rfl rfl ?_
    repeat' ((try conv => whnf); first
      | (with_reducible refine BB_true ?_)
      | (with_reducible refine BB_false ?_)
      | (with_reducible refine Both.mk ?_ ?_)
      | (with_reducible refine VS.mk ?_)
      | (refine PSem.go (C := seat) seat_ok ?_)
      | (refine And.intro (PlanOK.mk (by kernel_rfl) rfl (by kernel_rfl) (by kernel_rfl)) ?_)
      | (refine And.intro rfl (Exists.intro _ (And.intro (by first | assumption | rfl) ?_)))
      | (refine And.intro ⟨rfl, rfl, rfl⟩ ?_)
      | (refine call_ro [.o 0] (own_ok b _ _ _ _ h hb (by omega)) GG_no rfl rfl rfl ⟨⟨_, rfl, rfl, rfl⟩, trivial⟩ ?_; rintro r bs' ext ⟨ca, hca, rfl, rfl⟩)
      | (refine call_ro [] (within_ok 1 8) GG_no rfl rfl rfl trivial ?_; rintro r bs' ext ⟨rfl, rfl⟩)
      | (refine call_ro [_, _] (within1_is n 1 8 false hw) GG_no rfl rfl rfl ⟨⟨_, rfl, _, rfl, rfl, rfl, rfl⟩, ⟨_, rfl, _, rfl, rfl, rfl, rfl⟩, trivial⟩ ?_; rintro r bs' ext ⟨rfl, rfl⟩)
      | (refine And.intro (by omega) ?_)
      | (refine BB.mk (fun _h => ?_) (fun _h => ?_) <;> (first | (exact absurd _h (by decide)) | (exfalso; simp only [boolSet] at _h <;> omega) | skip)))
    all_goals (try conv => whnf)
    exact ⟨⟨[0], .s (.n 0) 1 0 b.length ca, [.row 5 1 ca (b.map bN)], by decide, .inl (.inl rfl), ⟨.inr rfl, trivial⟩, ca, hca, rfl, rfl⟩, rfl⟩
end Go.Proofs.Ytcjegbcljipcbaa
