/- Package wire, by computing: signs; the reference's Put. -/
import Derived.Test.YtcjegbcljipcbaaW01d
namespace Go.Proofs.Ytcjegbcljipcbaa
open Go.RowKit

set_option maxRecDepth 100000 in
set_option maxHeartbeats 4000000 in
theorem unsigned_p (x : Int) (h0 : -2147483648 ≤ x) (h1 : x ≤ 2147483647) : FnOK Try.prog GG 18 [] [.v (.int .i32 x)] (fun r _ ext => r = .v (.int .u64 (x + 2147483648)) ∧ ext = []) := by
  refine fn_val (C := seat) seat_ok [] GG_no (Try.func18) rfl rfl rfl rfl rfl (fun _ => rfl) rfl ?_
  repeat' ((try conv => whnf); first
    | (with_reducible refine BB_true ?_)
    | (with_reducible refine BB_false ?_)
    | (with_reducible refine Both.mk ?_ ?_)
    | (with_reducible refine VS.mk ?_)
    | (refine PSem.go (C := seat) seat_ok ?_)
    | (refine And.intro (PlanOK.mk (by kernel_rfl) rfl (by kernel_rfl) (by kernel_rfl)) ?_)
    | (refine And.intro rfl (Exists.intro _ (And.intro (by first | assumption | rfl) ?_)))
    | (refine And.intro ⟨rfl, rfl, rfl⟩ ?_)
    | (refine And.intro (by omega) ?_)
    | (refine BB.mk (fun _h => ?_) (fun _h => ?_) <;> (first | (exact absurd _h (by decide)) | (exfalso; simp only [boolSet] at _h <;> omega) | skip)))
  all_goals (try conv => whnf)
  all_goals (try (refine Fin.mk ?_))
  all_goals
    refine ⟨num_eq ?_, rfl⟩
    simp only [wrapSet]; omega
set_option maxRecDepth 100000 in
set_option maxHeartbeats 4000000 in
theorem signed_p (x : Nat) (hx : x < 2 ^ 64) : FnOK Try.prog GG 20 [] [.v (.int .u64 x)] (fun r _ ext => r = .v (.int .i32 (((x % 4294967296 : Nat) : Int) - 2147483648)) ∧ ext = []) := by
  refine fn_val (C := seat) seat_ok [] GG_no (Try.func20) rfl rfl rfl rfl rfl (fun _ => rfl) rfl ?_
  repeat' ((try conv => whnf); first
    | (with_reducible refine BB_true ?_)
    | (with_reducible refine BB_false ?_)
    | (with_reducible refine Both.mk ?_ ?_)
    | (with_reducible refine VS.mk ?_)
    | (refine PSem.go (C := seat) seat_ok ?_)
    | (refine And.intro (PlanOK.mk (by kernel_rfl) rfl (by kernel_rfl) (by kernel_rfl)) ?_)
    | (refine And.intro rfl (Exists.intro _ (And.intro (by first | assumption | rfl) ?_)))
    | (refine And.intro ⟨rfl, rfl, rfl⟩ ?_)
    | (refine And.intro (by decide) ?_)
    | (refine And.intro (by omega) ?_)
    | (refine BB.mk (fun _h => ?_) (fun _h => ?_) <;> (first | (exact absurd _h (by decide)) | (exfalso; simp only [boolSet] at _h <;> omega) | skip)))
  all_goals (try conv => whnf)
  all_goals (try (refine Fin.mk ?_))
  all_goals
    refine ⟨num_eq ?_, rfl⟩
    (try rw [Int.tmod_eq_emod_of_nonneg (Int.natCast_nonneg _)])
    simp only [wrapSet]; omega
set_option maxRecDepth 100000 in
set_option maxHeartbeats 4000000 in
theorem unsigned_r (x : Int) (h0 : -2147483648 ≤ x) (h1 : x ≤ 2147483647) : FnOK Try.prog GG 19 [] [.v (.int .i32 x)] (fun r _ ext => r = .v (.int .u64 (x + 2147483648)) ∧ ext = []) := by
  refine fn_val (C := seat) seat_ok [] GG_no (Try.func19) rfl rfl rfl rfl rfl (fun _ => rfl) rfl ?_
  repeat' ((try conv => whnf); first
    | (with_reducible refine BB_true ?_)
    | (with_reducible refine BB_false ?_)
    | (with_reducible refine Both.mk ?_ ?_)
    | (with_reducible refine VS.mk ?_)
    | (refine PSem.go (C := seat) seat_ok ?_)
    | (refine And.intro (PlanOK.mk (by kernel_rfl) rfl (by kernel_rfl) (by kernel_rfl)) ?_)
    | (refine And.intro rfl (Exists.intro _ (And.intro (by first | assumption | rfl) ?_)))
    | (refine And.intro ⟨rfl, rfl, rfl⟩ ?_)
    | (refine And.intro (by omega) ?_)
    | (refine BB.mk (fun _h => ?_) (fun _h => ?_) <;> (first | (exact absurd _h (by decide)) | (exfalso; simp only [boolSet] at _h <;> omega) | skip)))
  all_goals (try conv => whnf)
  all_goals (try (refine Fin.mk ?_))
  all_goals
    refine ⟨num_eq ?_, rfl⟩
    simp only [wrapSet]; omega
set_option maxRecDepth 100000 in
set_option maxHeartbeats 4000000 in
theorem signed_r (x : Nat) (hx : x < 2 ^ 64) : FnOK Try.prog GG 21 [] [.v (.int .u64 x)] (fun r _ ext => r = .v (.int .i32 (((x % 4294967296 : Nat) : Int) - 2147483648)) ∧ ext = []) := by
  refine fn_val (C := seat) seat_ok [] GG_no (Try.func21) rfl rfl rfl rfl rfl (fun _ => rfl) rfl ?_
  repeat' ((try conv => whnf); first
    | (with_reducible refine BB_true ?_)
    | (with_reducible refine BB_false ?_)
    | (with_reducible refine Both.mk ?_ ?_)
    | (with_reducible refine VS.mk ?_)
    | (refine PSem.go (C := seat) seat_ok ?_)
    | (refine And.intro (PlanOK.mk (by kernel_rfl) rfl (by kernel_rfl) (by kernel_rfl)) ?_)
    | (refine And.intro rfl (Exists.intro _ (And.intro (by first | assumption | rfl) ?_)))
    | (refine And.intro ⟨rfl, rfl, rfl⟩ ?_)
    | (refine And.intro (by decide) ?_)
    | (refine And.intro (by omega) ?_)
    | (refine BB.mk (fun _h => ?_) (fun _h => ?_) <;> (first | (exact absurd _h (by decide)) | (exfalso; simp only [boolSet] at _h <;> omega) | skip)))
  all_goals (try conv => whnf)
  all_goals (try (refine Fin.mk ?_))
  all_goals
    refine ⟨num_eq ?_, rfl⟩
    (try rw [Int.tmod_eq_emod_of_nonneg (Int.natCast_nonneg _)])
    simp only [wrapSet]; omega
set_option maxRecDepth 100000 in
set_option maxHeartbeats 4000000 in
theorem rest_ok (l : List Nat) (E : List (List Value)) (e m c k : Nat) (h : (E.drop e).take m = l.map bN) (hb : e + m ≤ E.length) (hc : m ≤ c) (hl : m ≤ 1099511627776) (hk : k ≤ m) : FnOK Try.prog GG 24 [.ro 1 E] [.s (.o 0) 1 e m c, .v (.int .i64 k)] (fun r _ ext => ∃ cap, (l.drop k).length ≤ cap ∧ r = .s (.n 0) 1 0 (l.drop k).length cap ∧ ext = [.row 5 1 cap ((l.drop k).map bN)]) := by
  have hm := bN_all h hb
  have hs : (E.drop (e + k)).take (m - k) = (l.drop k).map bN := by
    rw [sub_row (a := k) (k := m - k) h (by omega), List.take_of_length_le (l := l.drop k) (by rw [List.length_drop]; omega)]
  refine fn_newR (C := seat) seat_ok [] GG_no (Try.func24) rfl rfl rfl rfl rfl rfl ?_
  repeat' ((try conv => whnf); first
    | (with_reducible refine BB_true ?_)
    | (with_reducible refine BB_false ?_)
    | (with_reducible refine Both.mk ?_ ?_)
    | (with_reducible refine VS.mk ?_)
    | (refine PSem.go (C := seat) seat_ok ?_)
    | (refine And.intro (PlanOK.mk (by kernel_rfl) rfl (by kernel_rfl) (by kernel_rfl)) ?_)
    | (refine And.intro rfl (Exists.intro _ (And.intro (by first | assumption | rfl) ?_)))
    | (refine And.intro ⟨rfl, rfl, rfl⟩ ?_)
    | (refine And.intro ⟨by omega, by omega, by omega⟩ ?_)
    | (refine And.intro ⟨rfl, by omega⟩ ?_)
    | (refine And.intro (by first | omega | (dsimp only; omega)) ?_)
    | (intro cap' hcap')
    | (refine And.intro (by omega) ?_)
    | (refine BB.mk (fun _h => ?_) (fun _h => ?_) <;> (first | (exact absurd _h (by decide)) | (exfalso; simp only [boolSet] at _h <;> omega) | skip)))
  all_goals (try conv => whnf)
  all_goals
    have hd : (l.drop k).length = m - k := by rw [List.length_drop]; omega
    refine ⟨⟨[0], .s (.n 0) 1 0 (0 + (m - k)) cap', [.row 5 1 cap' ((l.drop k).map bN)], by decide, .inl (.inl rfl), ⟨.inr ?_, trivial⟩, cap', ?_, by rw [Nat.zero_add, hd], rfl⟩, rfl⟩
    · show some (SB.row 5 1 cap' ([] ++ (E.drop (e + k)).take (m - k))) = _
      rw [List.nil_append, hs]
    · have : 0 + (m - k) ≤ cap' := hcap'
      omega
theorem quo_pow {x j : Nat} (hx : x < 2 ^ 64) : IntKind.u64.wrap (((x / 256 ^ j : Nat) : Int).tdiv 256) = ((x / 256 ^ (j + 1) : Nat) : Int) := by
  have h1 : x / 256 ^ j < 2 ^ 64 := Nat.lt_of_le_of_lt (Nat.div_le_self _ _) hx
  rw [Int.tdiv_eq_ediv_of_nonneg (Int.natCast_nonneg _), Nat.pow_succ, ← Nat.div_div_eq_div_mul, IntKind.wrap_u64]
  generalize x / 256 ^ j = m at h1
  omega
theorem rem_byte (x : Nat) : IntKind.u8.wrap ((x : Int).tmod 256) = ((x % 256 : Nat) : Int) := by
  rw [Int.tmod_eq_emod_of_nonneg (Int.natCast_nonneg _), IntKind.wrap_u8]
  omega
set_option maxRecDepth 100000 in
set_option maxHeartbeats 4000000 in
theorem putR_ok (b : List Nat) (E : List (List Value)) (e m c : Nat) (x : Nat) (n : Int) (h : (E.drop e).take m = b.map bN) (hb : e + m ≤ E.length) (hl : m ≤ 1000000000) (hx : x < 2 ^ 64) (hn0 : -9223372036854775808 ≤ n) : FnOK Try.prog GG 15 [.ro 1 E] [.s (.o 0) 1 e m c, .v (.int .u64 x), .v (.int .i64 n)] (fun r _ ext => ∃ cap, (putT b x n).length ≤ cap ∧ r = .s (.n 0) 1 0 (putT b x n).length cap ∧ ext = [.row 5 1 cap ((putT b x n).map bN)]) := by
  have hm := bN_all h hb
  by_cases hn : 1 ≤ n ∧ n ≤ 8
  · obtain ⟨N, rfl⟩ := Int.eq_ofNat_of_zero_le (show 0 ≤ n by omega)
    have hR : putT b x (N : Int) = b ++ putB x N := by rw [putT, if_pos hn]; rfl
    rw [hR]
    refine fn_newR (C := seat) seat_ok [] GG_no (Try.func15) rfl rfl rfl rfl rfl rfl ?_
    repeat' ((try conv => whnf); first
      | (with_reducible refine BB_true ?_)
      | (with_reducible refine BB_false ?_)
      | (with_reducible refine Both.mk ?_ ?_)
      | (with_reducible refine VS.mk ?_)
      | (refine PSem.go (C := seat) seat_ok ?_)
      | (refine And.intro (PlanOK.mk (by kernel_rfl) rfl (by kernel_rfl) (by kernel_rfl)) ?_)
      | (refine And.intro rfl (Exists.intro _ (And.intro (by first | assumption | rfl) ?_)))
      | (refine And.intro ⟨rfl, rfl, rfl⟩ ?_)
      | (refine And.intro ⟨rfl, hb⟩ ?_)
      | (refine And.intro ⟨rfl, rfl, rfl, by rw [List.length_map]⟩ ?_)
      | (refine And.intro (by first | omega | (dsimp only; omega) | exact ⟨rfl, Nat.le_refl _⟩) ?_)
      | (intro cap' hcap')
      | (refine And.intro (by decide) ?_)
      | (refine And.intro (by omega) ?_)
      | (refine BB.mk (fun _h => ?_) (fun _h => ?_) <;> (first | (exact absurd _h (by decide)) | (exfalso; simp only [boolSet] at _h <;> omega) | skip)))
    all_goals (try conv => whnf)
    refine loop_rule (α := Nat × Nat) (fun p => p.1 ≤ N ∧ (b ++ (putB x N).take p.1).length ≤ p.2) (fun p => { slots := [(1, .v (.int .u64 x)), (7, .s (.n 0) 1 0 (b ++ (putB x N).take p.1).length p.2), (8, .v (.int .i64 ((N : Int) - 1 - (p.1 : Int))))], nt := 42, mem := ⟨GG, [.ro 1 E], [.row 5 1 p.2 ((b ++ (putB x N).take p.1).map bN)]⟩ }) (fun p => N - p.1) (0, cap') ⟨Nat.zero_le _, by rw [List.take_zero, List.append_nil]; show b.length ≤ cap'; omega⟩ ⟨⟨[0], (by decide), GG_no, rfl, (SubOld.refl _ rfl), ⟨.inr (by dsimp only; rw [List.take_zero, List.append_nil, ← h]; rfl), trivial⟩, ⟨.inl rfl, .inl (by dsimp only; rw [List.take_zero, List.append_nil, hm]; show SV.s (.n 0) 1 0 (0 + m) cap' = .s (.n 0) 1 0 m cap'; rw [Nat.zero_add]), .inl (num_eq (by rw [IntKind.wrap_i64]; dsimp only; omega)), trivial⟩⟩, rfl⟩ ?_ (fun _ => rfl)
    rintro ⟨k, c'⟩ ⟨hk, hc⟩
    dsimp only at hk hc ⊢
    have hF : (b ++ (putB x N).take k).length = b.length + k := by rw [List.length_append, List.length_take, putB_len]; omega
    refine vc_sound (C := seat) seat_ok (pl := []) ?_
    by_cases hlt : k < N
    · have e2 := put_step (b := b) (x := x) hlt
      have e3 : (b ++ (putB x N).take (k + 1)).map bN = (b ++ (putB x N).take k).map bN ++ [bN (x / 256 ^ (N - 1 - k) % 256)] := by rw [e2, List.map_append]; rfl
      have e4 : (b ++ (putB x N).take (k + 1)).length = (b ++ (putB x N).take k).length + 1 := by rw [e2, List.length_append]; rfl
      repeat' ((try conv => whnf); first
        | (with_reducible refine BB_true ?_)
        | (with_reducible refine BB_false ?_)
        | (with_reducible refine Both.mk ?_ ?_)
        | (with_reducible refine VS.mk ?_)
        | (refine PSem.go (C := seat) seat_ok ?_)
        | (refine And.intro (PlanOK.mk (by kernel_rfl) rfl (by kernel_rfl) (by kernel_rfl)) ?_)
        | (refine And.intro rfl (Exists.intro _ (And.intro (by first | assumption | rfl) ?_)))
        | (refine And.intro ⟨rfl, rfl, rfl⟩ ?_)
        | (refine And.intro ⟨rfl, hb⟩ ?_)
        | (refine And.intro ⟨rfl, rfl, rfl, by rw [List.length_map]⟩ ?_)
        | (refine And.intro (by first | omega | (dsimp only; omega) | exact ⟨rfl, Nat.le_refl _⟩) ?_)
        | (intro cap' hcap')
        | (refine And.intro (by decide) ?_)
        | (refine And.intro (by omega) ?_)
        | (refine BB.mk (fun _h => ?_) (fun _h => ?_) <;> (first | (exact absurd _h (by decide)) | (exfalso; simp only [boolSet] at _h <;> omega) | skip)))
      all_goals (try conv => whnf)
      refine loop_rule (α := Nat) (fun j => j ≤ N - 1 - k) (fun j => { slots := [(1, .v (.int .u64 x)), (7, .s (.n 0) 1 0 (b ++ (putB x N).take k).length c'), (8, .v (.int .i64 ((N : Int) - 1 - (k : Int)))), (9, .v (.int .u64 ((x / 256 ^ j : Nat) : Int))), (10, .v (.int .i64 (j : Int)))], nt := 42, mem := ⟨GG, [.ro 1 E], [.row 5 1 c' ((b ++ (putB x N).take k).map bN)]⟩ }) (fun j => N - 1 - k - j) 0 (Nat.zero_le _) ⟨⟨[0], (by decide), GG_no, rfl, (SubOld.refl _ rfl), ⟨.inr rfl, trivial⟩, ⟨.inl rfl, .inl rfl, .inl rfl, .inl (num_eq (by rw [Nat.pow_zero, Nat.div_one])), .inl rfl, trivial⟩⟩, rfl⟩ ?_ (fun _ => rfl)
      rintro j hj
      refine vc_sound (C := seat) seat_ok (pl := []) ?_
      by_cases hjl : j < N - 1 - k
      · have eq := quo_pow (j := j) hx
        repeat' ((try conv => whnf); first
          | (with_reducible refine BB_true ?_)
          | (with_reducible refine BB_false ?_)
          | (with_reducible refine Both.mk ?_ ?_)
          | (with_reducible refine VS.mk ?_)
          | (refine PSem.go (C := seat) seat_ok ?_)
          | (refine And.intro (PlanOK.mk (by kernel_rfl) rfl (by kernel_rfl) (by kernel_rfl)) ?_)
          | (refine And.intro rfl (Exists.intro _ (And.intro (by first | assumption | rfl) ?_)))
          | (refine And.intro ⟨rfl, rfl, rfl⟩ ?_)
          | (refine And.intro (by decide) ?_)
          | (refine And.intro (by omega) ?_)
          | (refine BB.mk (fun _h => ?_) (fun _h => ?_) <;> (first | (exact absurd _h (by decide)) | (exfalso; simp only [boolSet] at _h <;> omega) | skip)))
        all_goals (try conv => whnf)
        exact ⟨j + 1, by omega, by omega, ⟨⟨[0], by decide, GG_no, rfl, SubOld.refl _ rfl, ⟨.inr rfl, trivial⟩, ⟨.inl rfl, .inl rfl, .inl rfl, .inl (num_eq eq), .inl (num_eq (by rw [IntKind.wrap_i64]; omega)), trivial⟩⟩, rfl⟩⟩
      · obtain rfl : j = N - 1 - k := by omega
        have er := rem_byte (x / 256 ^ (N - 1 - k))
        repeat' ((try conv => whnf); first
          | (with_reducible refine BB_true ?_)
          | (with_reducible refine BB_false ?_)
          | (with_reducible refine Both.mk ?_ ?_)
          | (with_reducible refine VS.mk ?_)
          | (refine PSem.go (C := seat) seat_ok ?_)
          | (refine And.intro (PlanOK.mk (by kernel_rfl) rfl (by kernel_rfl) (by kernel_rfl)) ?_)
          | (refine And.intro rfl (Exists.intro _ (And.intro (by first | assumption | rfl) ?_)))
          | (refine And.intro ⟨rfl, rfl, rfl⟩ ?_)
          | (refine And.intro ⟨rfl, hb⟩ ?_)
          | (refine And.intro ⟨rfl, rfl, rfl, by rw [List.length_map]⟩ ?_)
          | (refine And.intro (by first | omega | (dsimp only; omega) | exact ⟨rfl, Nat.le_refl _⟩) ?_)
          | (intro cap' hcap')
          | (refine And.intro (by decide) ?_)
          | (refine And.intro (by omega) ?_)
          | (refine BB.mk (fun _h => ?_) (fun _h => ?_) <;> (first | (exact absurd _h (by decide)) | (exfalso; simp only [boolSet] at _h <;> omega) | skip)))
        all_goals (try conv => whnf)
        refine ⟨(k + 1, cap'), ⟨by dsimp only; omega, ?_⟩, by dsimp only; omega, ⟨⟨[2], by decide, GG_no, rfl, SubOld.refl _ rfl, ⟨.inr ?_, trivial⟩, ⟨.inl rfl, .inl ?_, .inl (num_eq (by rw [IntKind.wrap_i64]; dsimp only; omega)), trivial⟩⟩, rfl⟩⟩
        · dsimp only; rw [e4]; exact hcap'
        · dsimp only; rw [e3]
          show some (SB.row 5 1 cap' (List.map bN (b ++ List.take k (putB x N)) ++ [[.int .u8 (IntKind.u8.wrap (((x / 256 ^ (N - 1 - k) : Nat) : Int).tmod 256))]])) = _
          rw [er]; rfl
        · dsimp only; rw [e4]; rfl
    · have hs : (putB x N).take k = putB x N := List.take_of_length_le (by rw [putB_len]; omega)
      rw [hs] at hc hF ⊢
      repeat' ((try conv => whnf); first
        | (with_reducible refine BB_true ?_)
        | (with_reducible refine BB_false ?_)
        | (with_reducible refine Both.mk ?_ ?_)
        | (with_reducible refine VS.mk ?_)
        | (refine PSem.go (C := seat) seat_ok ?_)
        | (refine And.intro (PlanOK.mk (by kernel_rfl) rfl (by kernel_rfl) (by kernel_rfl)) ?_)
        | (refine And.intro rfl (Exists.intro _ (And.intro (by first | assumption | rfl) ?_)))
        | (refine And.intro ⟨rfl, rfl, rfl⟩ ?_)
        | (refine And.intro (by omega) ?_)
        | (refine BB.mk (fun _h => ?_) (fun _h => ?_) <;> (first | (exact absurd _h (by decide)) | (exfalso; simp only [boolSet] at _h <;> omega) | skip)))
      all_goals (try conv => whnf)
      exact ⟨⟨[0], .s (.n 0) 1 0 (b ++ putB x N).length c', [.row 5 1 c' ((b ++ putB x N).map bN)], by decide, .inl (.inl rfl), ⟨.inr rfl, trivial⟩, c', hc, rfl, rfl⟩, rfl⟩
  · have hR : putT b x n = b := by rw [putT, if_neg hn, List.append_nil]
    rw [hR]
    refine fn_newR (C := seat) seat_ok [] GG_no (Try.func15) rfl rfl rfl rfl rfl rfl ?_
    repeat' ((try conv => whnf); first
      | (with_reducible refine BB_true ?_)
      | (with_reducible refine BB_false ?_)
      | (with_reducible refine Both.mk ?_ ?_)
      | (with_reducible refine VS.mk ?_)
      | (refine PSem.go (C := seat) seat_ok ?_)
      | (refine And.intro (PlanOK.mk (by kernel_rfl) rfl (by kernel_rfl) (by kernel_rfl)) ?_)
      | (refine And.intro rfl (Exists.intro _ (And.intro (by first | assumption | rfl) ?_)))
      | (refine And.intro ⟨rfl, rfl, rfl⟩ ?_)
      | (refine And.intro ⟨rfl, hb⟩ ?_)
      | (refine And.intro ⟨rfl, rfl, rfl, by rw [List.length_map]⟩ ?_)
      | (refine And.intro (by first | omega | (dsimp only; omega) | exact ⟨rfl, Nat.le_refl _⟩) ?_)
      | (intro cap' hcap')
      | (refine And.intro (by decide) ?_)
      | (refine And.intro (by omega) ?_)
      | (refine BB.mk (fun _h => ?_) (fun _h => ?_) <;> (first | (exact absurd _h (by decide)) | (exfalso; simp only [boolSet] at _h <;> omega) | skip)))
    all_goals (try conv => whnf)
    all_goals first
      | (exfalso; simp only [boolSet] at * <;> omega)
      | skip
    all_goals
      refine ⟨⟨[0], .s (.n 0) 1 0 (0 + m) cap', [.row 5 1 cap' (b.map bN)], by decide, .inl (.inl rfl), ⟨.inr ?_, trivial⟩, cap', by omega, by rw [Nat.zero_add, hm], rfl⟩, rfl⟩
      show some (SB.row 5 1 cap' ([] ++ (E.drop e).take m)) = _
      rw [List.nil_append, h]
end Go.Proofs.Ytcjegbcljipcbaa
