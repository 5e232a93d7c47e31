/- Package wire, by computing: the reference's Take, PutText, TakeText. -/
import Derived.Test.YtcjegbcljipcbaaW01e
namespace Go.Proofs.Ytcjegbcljipcbaa
open Go.RowKit

theorem mul_byte {x y : Nat} (hx : x < 2 ^ 56) (hy : y < 256) : IntKind.u64.wrap (IntKind.u64.wrap ((x : Int) * 256) + IntKind.u64.wrap (y : Int)) = ((x * 256 + y : Nat) : Int) := by
  rw [IntKind.wrap_u64, IntKind.wrap_u64, IntKind.wrap_u64]; omega
theorem mul_byte2 {x y : Nat} (hx : x < 256) (hy : y < 256) : IntKind.i64.wrap (IntKind.i64.wrap (IntKind.i64.wrap (x : Int) * 256) + IntKind.i64.wrap (y : Int)) = ((x * 256 + y : Nat) : Int) := by
  rw [IntKind.wrap_i64, IntKind.wrap_i64, IntKind.wrap_i64, IntKind.wrap_i64]; omega
theorem rest_at (l o : List Nat) (E : List (List Value)) (e m c k : Nat) (m' : Nat) (k' : Int) (hm' : m' = m) (hk' : k' = k) (ho : l.drop k = o) (h : (E.drop e).take m = l.map bN) (hb : e + m ≤ E.length) (hc : m ≤ c) (hl : m ≤ 1099511627776) (hk : k ≤ m) : FnOK Try.prog GG 24 [.ro 1 E] [.s (.o 0) 1 e m' c, .v (.int .i64 k')] (fun r _ ext => ∃ cap, o.length ≤ cap ∧ r = .s (.n 0) 1 0 o.length cap ∧ ext = [.row 5 1 cap (o.map bN)]) := by
  subst hm' hk' ho
  exact rest_ok l E e _ c k h hb hc hl hk
set_option maxRecDepth 100000 in
set_option maxHeartbeats 4000000 in
theorem takeR_ok (l : List Nat) (E : List (List Value)) (e m c : Nat) (n : Int) (h : (E.drop e).take m = l.map bN) (hb : e + m ≤ E.length) (hc : m ≤ c) (hl : m ≤ 1000000000) (hl8 : ∀ x ∈ l, x < 256) : FnOK Try.prog GG 10 [.ro 1 E] [.s (.o 0) 1 e m c, .v (.int .i64 n)] (fun r _ ext => ∃ cap, (takeT l n).2.1.length ≤ cap ∧ r = .tup [.v (.int .u64 ((takeT l n).1 : Nat)), .s (.n 0) 1 0 (takeT l n).2.1.length cap, .v (.bool (takeT l n).2.2)] ∧ ext = [.row 5 1 cap ((takeT l n).2.1.map bN)]) := by
  have hm := bN_all h hb
  by_cases hn : 1 ≤ n ∧ n ≤ 8 ∧ n ≤ l.length
  · obtain ⟨N, rfl⟩ := Int.eq_ofNat_of_zero_le (show 0 ≤ n by omega)
    have hR : takeT l (N : Int) = (takeN (l.take N), l.drop N, true) := by rw [takeT, if_pos hn]; rfl
    rw [hR]
    refine fn_newR (C := seat) seat_ok [] GG_no (Try.func10) rfl rfl rfl rfl rfl rfl ?_
    repeat' ((try conv => whnf); first
      | (with_reducible refine BB_true ?_)
      | (with_reducible refine BB_false ?_)
      | (with_reducible refine Both.mk ?_ ?_)
      | (with_reducible refine VS.mk ?_)
      | (refine PSem.go (C := seat) seat_ok ?_)
      | (refine And.intro (PlanOK.mk (by kernel_rfl) rfl (by kernel_rfl) (by kernel_rfl)) ?_)
      | (refine And.intro rfl (Exists.intro _ (And.intro (by first | assumption | rfl) ?_)))
      | (refine And.intro ⟨rfl, rfl, rfl⟩ ?_)
      | (refine And.intro (by omega) ?_)
      | (refine BB.mk (fun _h => ?_) (fun _h => ?_) <;> (first | (exact absurd _h (by decide)) | (exfalso; simp only [boolSet] at _h <;> omega) | skip)))
    all_goals (try conv => whnf)
    refine loop_rule (α := Nat) (fun k => k ≤ N) (fun k => { slots := [(0, .s (.o 0) 1 e m c), (1, .v (.int .i64 N)), (7, .v (.int .u64 (takeN (l.take k) : Nat))), (8, .v (.int .i64 (k : Int)))], nt := 38, mem := ⟨GG, [.ro 1 E], []⟩ }) (fun k => N - k) 0 (Nat.zero_le _) ⟨⟨[], List.nodup_nil, GG_no, rfl, (SubOld.refl _ rfl), trivial, ⟨.inl rfl, .inl rfl, .inl rfl, .inl rfl, trivial⟩⟩, rfl⟩ ?_ (fun _ => rfl)
    rintro k hk
    refine vc_sound (C := seat) seat_ok (pl := []) ?_
    by_cases hlt : k < N
    · obtain ⟨y, hy⟩ : ∃ y, l[k]? = some y := ⟨_, List.getElem?_eq_getElem (by omega)⟩
      have hrow := at_row h hy
      have hy8 := hl8 y (List.mem_of_getElem? hy)
      have e1 := mul_byte (take_lt (k := k) hl8 (by omega)) hy8
      have e2 := take_next hy
      repeat' ((try conv => whnf); first
        | (with_reducible refine BB_true ?_)
        | (with_reducible refine BB_false ?_)
        | (with_reducible refine Both.mk ?_ ?_)
        | (with_reducible refine VS.mk ?_)
        | (refine PSem.go (C := seat) seat_ok ?_)
        | (refine And.intro (PlanOK.mk (by kernel_rfl) rfl (by kernel_rfl) (by kernel_rfl)) ?_)
        | (refine And.intro rfl (Exists.intro _ (And.intro (by first | assumption | rfl) ?_)))
        | (refine And.intro ⟨rfl, rfl, rfl⟩ ?_)
        | (refine And.intro ⟨by omega, by omega⟩ ?_)
        | (refine And.intro (by omega) ?_)
        | (refine BB.mk (fun _h => ?_) (fun _h => ?_) <;> (first | (exact absurd _h (by decide)) | (exfalso; simp only [boolSet] at _h <;> omega) | skip)))
      all_goals (try conv => whnf)
      exact ⟨k + 1, by omega, by omega, ⟨⟨[], List.nodup_nil, GG_no, rfl, SubOld.refl _ rfl, trivial, ⟨.inl rfl, .inl rfl, .inl (num_eq (by rw [e1, e2])), .inl (num_eq (by rw [IntKind.wrap_i64]; omega)), trivial⟩⟩, rfl⟩⟩
    · obtain rfl : k = N := by omega
      repeat' ((try conv => whnf); first
        | (with_reducible refine BB_true ?_)
        | (with_reducible refine BB_false ?_)
        | (with_reducible refine Both.mk ?_ ?_)
        | (with_reducible refine VS.mk ?_)
        | (refine PSem.go (C := seat) seat_ok ?_)
        | (refine And.intro (PlanOK.mk (by kernel_rfl) rfl (by kernel_rfl) (by kernel_rfl)) ?_)
        | (refine And.intro rfl (Exists.intro _ (And.intro (by first | assumption | rfl) ?_)))
        | (refine And.intro ⟨rfl, rfl, rfl⟩ ?_)
        | (refine call_ro [.o 0] (rest_at l (l.drop k) E e m _ k _ _ ?_ ?_ ?_ h (by omega) (by omega) (by omega) (by omega)) GG_no rfl rfl rfl ⟨⟨_, rfl, rfl, rfl⟩, trivial⟩ ?_; (· rfl); (· rfl); (· rfl); rintro r bs' ext ⟨ca, hca, rfl, rfl⟩)
        | (refine And.intro (by omega) ?_)
        | (refine BB.mk (fun _h => ?_) (fun _h => ?_) <;> (first | (exact absurd _h (by decide)) | (exfalso; simp only [boolSet] at _h <;> omega) | skip)))
      all_goals (try conv => whnf)
      have hd : (l.drop k).length = m - k := by rw [List.length_drop]; omega
      exact ⟨⟨[0], .tup [.v (.int .u64 (takeN (l.take k) : Nat)), .s (.n 0) 1 0 (l.drop k).length ca, .v (.bool true)], [.row 5 1 ca ((l.drop k).map bN)], by decide, .inr ⟨_, _, rfl, rfl, .inl rfl, .inl rfl, .inl rfl, trivial⟩, ⟨.inr rfl, trivial⟩, ca, hca, rfl, rfl⟩, rfl⟩
  · have hR : takeT l n = (0, [], false) := by rw [takeT, if_neg hn]
    rw [hR]
    refine fn_newR (C := seat) seat_ok [] GG_no (Try.func10) rfl rfl rfl rfl rfl rfl ?_
    repeat' ((try conv => whnf); first
      | (with_reducible refine BB_true ?_)
      | (with_reducible refine BB_false ?_)
      | (with_reducible refine Both.mk ?_ ?_)
      | (with_reducible refine VS.mk ?_)
      | (refine PSem.go (C := seat) seat_ok ?_)
      | (refine And.intro (PlanOK.mk (by kernel_rfl) rfl (by kernel_rfl) (by kernel_rfl)) ?_)
      | (refine And.intro rfl (Exists.intro _ (And.intro (by first | assumption | rfl) ?_)))
      | (refine And.intro ⟨rfl, rfl, rfl⟩ ?_)
      | (refine And.intro (by omega) ?_)
      | (refine BB.mk (fun _h => ?_) (fun _h => ?_) <;> (first | (exact absurd _h (by decide)) | (exfalso; simp only [boolSet] at _h <;> omega) | skip)))
    all_goals (try conv => whnf)
    all_goals first
      | (exfalso; simp only [boolSet] at * <;> omega)
      | exact ⟨⟨[0], .tup [.v (.int .u64 (0 : Nat)), .s (.n 0) 1 0 0 0, .v (.bool false)], [.row 5 1 0 []], by decide, .inr ⟨_, _, rfl, rfl, .inl rfl, .inr ⟨_, _, _, rfl, rfl⟩, .inl rfl, trivial⟩, ⟨.inl (.inl ⟨rfl, rfl⟩), trivial⟩, 0, Nat.le_refl _, rfl, rfl⟩, rfl⟩
theorem putR_at (b : List Nat) (E : List (List Value)) (e m c : Nat) (x : Nat) (x' : Int) (n : Int) (hx' : x' = x) (h : (E.drop e).take m = b.map bN) (hb : e + m ≤ E.length) (hl : m ≤ 1000000000) (hx : x < 2 ^ 64) (hn0 : -9223372036854775808 ≤ n) : FnOK Try.prog GG 15 [.ro 1 E] [.s (.o 0) 1 e m c, .v (.int .u64 x'), .v (.int .i64 n)] (fun r _ ext => ∃ cap, (putT b x n).length ≤ cap ∧ r = .s (.n 0) 1 0 (putT b x n).length cap ∧ ext = [.row 5 1 cap ((putT b x n).map bN)]) := by
  subst hx'
  exact putR_ok b E e m c x n h hb hl hx hn0
set_option maxRecDepth 100000 in
set_option maxHeartbeats 4000000 in
theorem putTextR_ok (b s : List Nat) (E1 E2 : List (List Value)) (e1 m1 c1 e2 m2 c2 : Nat) (h1 : (E1.drop e1).take m1 = b.map bN) (hb1 : e1 + m1 ≤ E1.length) (h2 : (E2.drop e2).take m2 = s.map bN) (hb2 : e2 + m2 ≤ E2.length) (hl1 : m1 ≤ 1000000) (hl2 : m2 ≤ 1000000) (hc1 : m1 ≤ c1) : FnOK Try.prog GG 17 [.ro 1 E1, .ro 1 E2] [.s (.o 0) 1 e1 m1 c1, .s (.o 1) 1 e2 m2 c2] (fun r _ ext => ∃ cap, (putText b s).length ≤ cap ∧ r = .s (.n 0) 1 0 (putText b s).length cap ∧ ext = [.row 5 1 cap ((putText b s).map bN)]) := by
  have hm1 := bN_all h1 hb1
  have hm2 := bN_all h2 hb2
  by_cases hs : s.length ≤ 65535
  · have hR : putText b s = putT b m2 2 ++ s := by rw [putText, if_pos hs, putT, if_pos (by decide), hm2]; rfl
    have hL : (putT b m2 2).length = b.length + 2 := by rw [putT, if_pos (by decide), List.length_append, putB_len]; rfl
    have ew : IntKind.u64.wrap (m2 : Int) = (m2 : Int) := by rw [IntKind.wrap_u64]; omega
    rw [hR]
    refine fn_newR (C := seat) seat_ok [] GG_no (Try.func17) rfl rfl rfl rfl rfl rfl ?_
    repeat' ((try conv => whnf); first
      | (with_reducible refine BB_true ?_)
      | (with_reducible refine BB_false ?_)
      | (with_reducible refine Both.mk ?_ ?_)
      | (with_reducible refine VS.mk ?_)
      | (refine PSem.go (C := seat) seat_ok ?_)
      | (refine And.intro (PlanOK.mk (by kernel_rfl) rfl (by kernel_rfl) (by kernel_rfl)) ?_)
      | (refine And.intro rfl (Exists.intro _ (And.intro (by first | assumption | rfl) ?_)))
      | (refine And.intro ⟨rfl, rfl, rfl⟩ ?_)
      | (refine call_ro [.o 0] (putR_at b E1 e1 m1 c1 m2 _ 2 ew h1 hb1 (by omega) (by omega) (by decide)) GG_no rfl rfl rfl ⟨⟨_, rfl, rfl, rfl⟩, trivial⟩ ?_; rintro r bs' ext ⟨cp, hcp, rfl, rfl⟩)
      | (refine And.intro ⟨rfl, hb2⟩ ?_)
      | (refine And.intro ⟨rfl, rfl, rfl, by rw [List.length_map]⟩ ?_)
      | (refine And.intro (by first | omega | (dsimp only; omega)) ?_)
      | (intro cap' hcap')
      | (refine And.intro (by omega) ?_)
      | (refine BB.mk (fun _h => ?_) (fun _h => ?_) <;> (first | (exact absurd _h (by decide)) | (exfalso; simp only [boolSet] at _h <;> omega) | skip)))
    all_goals (try conv => whnf)
    refine ⟨⟨[1], .s (.n 0) 1 0 ((putT b m2 2).length + m2) cap', [.row 5 1 cap' ((putT b m2 2 ++ s).map bN)], by decide, .inl (.inl rfl), ⟨.inr ?_, trivial⟩, cap', ?_, ?_, rfl⟩, rfl⟩
    · show some (SB.row 5 1 cap' ((putT b m2 2).map bN ++ (E2.drop e2).take m2)) = _
      rw [h2, List.map_append]
    · rw [List.length_append]; omega
    · rw [List.length_append, hm2]
  · have hR : putText b s = b := by rw [putText, if_neg hs]
    rw [hR]
    refine fn_newR (C := seat) seat_ok [] GG_no (Try.func17) rfl rfl rfl rfl rfl rfl ?_
    repeat' ((try conv => whnf); first
      | (with_reducible refine BB_true ?_)
      | (with_reducible refine BB_false ?_)
      | (with_reducible refine Both.mk ?_ ?_)
      | (with_reducible refine VS.mk ?_)
      | (refine PSem.go (C := seat) seat_ok ?_)
      | (refine And.intro (PlanOK.mk (by kernel_rfl) rfl (by kernel_rfl) (by kernel_rfl)) ?_)
      | (refine And.intro rfl (Exists.intro _ (And.intro (by first | assumption | rfl) ?_)))
      | (refine And.intro ⟨rfl, rfl, rfl⟩ ?_)
      | (refine call_ro [.o 0] (rest_at b b E1 e1 m1 _ 0 _ _ ?_ ?_ ?_ h1 (by omega) (by omega) (by omega) (by omega)) GG_no rfl rfl rfl ⟨⟨_, rfl, rfl, rfl⟩, trivial⟩ ?_; (· rfl); (· rfl); (· rfl); rintro r bs' ext ⟨ca, hca, rfl, rfl⟩)
      | (refine And.intro (by omega) ?_)
      | (refine BB.mk (fun _h => ?_) (fun _h => ?_) <;> (first | (exact absurd _h (by decide)) | (exfalso; simp only [boolSet] at _h <;> omega) | skip)))
    all_goals (try conv => whnf)
    exact ⟨⟨[0], .s (.n 0) 1 0 b.length ca, [.row 5 1 ca (b.map bN)], by decide, .inl (.inl rfl), ⟨.inr rfl, trivial⟩, ca, hca, rfl, rfl⟩, rfl⟩
set_option maxRecDepth 100000 in
set_option maxHeartbeats 4000000 in
theorem takeTextR_ok (l : List Nat) (E : List (List Value)) (e m c : Nat) (most : Int) (h : (E.drop e).take m = l.map bN) (hb : e + m ≤ E.length) (hc : m ≤ c) (hl : m ≤ 1000000000) (hl8 : ∀ x ∈ l, x < 256) : FnOK Try.prog GG 12 [.ro 1 E] [.s (.o 0) 1 e m c, .v (.int .i64 most)] (fun r _ ext => ∃ c1 c2, (textT l most).1.length ≤ c1 ∧ (textT l most).2.1.length ≤ c2 ∧ r = .tup [.s (.n 0) 1 0 (textT l most).1.length c1, .s (.n 1) 1 0 (textT l most).2.1.length c2, .v (.bool (textT l most).2.2)] ∧ ext = [.row 5 1 c1 ((textT l most).1.map bN), .row 5 1 c2 ((textT l most).2.1.map bN)]) := by
  have hm := bN_all h hb
  have hw2 : IntKind.i64.wrap ((m : Int) - 2) = (m : Int) - 2 := by rw [IntKind.wrap_i64]; omega
  by_cases h2 : 2 ≤ m
  · obtain ⟨x, hx⟩ : ∃ x, l[0]? = some x := ⟨_, List.getElem?_eq_getElem (by omega)⟩
    obtain ⟨y, hy⟩ : ∃ y, l[1]? = some y := ⟨_, List.getElem?_eq_getElem (by omega)⟩
    have hrow0 := at_row h hx
    have hrow1 := at_row h hy
    have hx8 := hl8 x (List.mem_of_getElem? hx)
    have hy8 := hl8 y (List.mem_of_getElem? hy)
    have eo := mul_byte2 hx8 hy8
    rw [← take_two hx hy] at eo
    obtain ⟨z, hz⟩ : ∃ z, takeN (l.take 2) = z := ⟨_, rfl⟩
    rw [hz] at eo
    by_cases hn : (z : Int) ≤ most ∧ z + 2 ≤ l.length
    · have hR : textT l most = ((l.drop 2).take z, l.drop (2 + z), true) := by rw [textT, hz, if_pos ⟨by omega, hn⟩]
      have ez : IntKind.i64.wrap (2 + (z : Int)) = 2 + z := by rw [IntKind.wrap_i64]; omega
      have hs0 : (E.drop e).take (2 + z) = (l.take (2 + z)).map bN := by
        have := sub_row (a := 0) (k := 2 + z) h (by omega)
        rwa [Nat.add_zero, List.drop_zero] at this
      have hdt : (l.take (2 + z)).drop 2 = (l.drop 2).take z := by rw [List.drop_take, show 2 + z - 2 = z by omega]
      rw [hR]
      refine fn_newR (C := seat) seat_ok [(3, (.of [(0, .take), (1, .take), (2, .take), (3, .take), (4, .take), (5, .take), (6, .take), (7, .take), (8, .take), (9, .take), (10, .take)]))] GG_no (Try.func12) rfl rfl rfl rfl rfl rfl ?_
      repeat' ((try conv => whnf); first
        | (with_reducible refine BB_true ?_)
        | (with_reducible refine BB_false ?_)
        | (with_reducible refine Both.mk ?_ ?_)
        | (with_reducible refine VS.mk ?_)
        | (refine PSem.go (C := seat) seat_ok ?_)
        | (refine And.intro (PlanOK.mk (by kernel_rfl) rfl (by kernel_rfl) (by kernel_rfl)) ?_)
        | (refine And.intro rfl (Exists.intro _ (And.intro (by first | assumption | rfl) ?_)))
        | (refine And.intro ⟨rfl, rfl, rfl⟩ ?_)
        | (refine And.intro ⟨by (try rw [eo, ez]); omega, by (try rw [eo, ez]); omega, by (try rw [eo, ez]); omega⟩ ?_)
        | (refine call_ro [.o 0] (rest_at (l.take (2 + z)) ((l.drop 2).take z) E e (2 + z) _ 2 _ _ ?_ ?_ ?_ hs0 (by omega) (by omega) (by omega) (by omega)) GG_no rfl rfl rfl ⟨⟨_, rfl, rfl, rfl⟩, trivial⟩ ?_; (· ((try rw [eo, ez]); omega)); (· rfl); (· exact hdt); rintro r bs' ext ⟨cx, hcx, rfl, rfl⟩)
        | (refine call_ro [.o 0] (rest_at l (l.drop (2 + z)) E e m _ (2 + z) _ _ ?_ ?_ ?_ h (by omega) (by omega) (by omega) (by omega)) GG_no rfl rfl rfl ⟨⟨_, rfl, rfl, rfl⟩, trivial⟩ ?_; (· rfl); (· ((try rw [eo, ez]); omega)); (· rfl); rintro r bs' ext ⟨cy, hcy, rfl, rfl⟩)
        | (refine And.intro (by omega) ?_)
        | (refine BB.mk (fun _h => ?_) (fun _h => ?_) <;> (first | (exact absurd _h (by decide)) | (exfalso; simp only [eo, hw2, boolSet] at _h <;> omega) | skip)))
      all_goals (try conv => whnf)
      all_goals first
        | (exfalso; rw [eo] at *; simp only [boolSet] at * <;> omega)
        | (exfalso; rw [eo, hw2] at *; simp only [boolSet] at * <;> omega)
        | exact ⟨⟨[0, 1], .tup [.s (.n 0) 1 0 ((l.drop 2).take z).length cx, .s (.n 1) 1 0 (l.drop (2 + z)).length cy, .v (.bool true)], [.row 5 1 cx (((l.drop 2).take z).map bN), .row 5 1 cy ((l.drop (2 + z)).map bN)], by decide, .inr ⟨_, _, rfl, rfl, .inl rfl, .inl rfl, .inl rfl, trivial⟩, ⟨.inr rfl, .inr rfl, trivial⟩, cx, cy, hcx, hcy, rfl, rfl⟩, rfl⟩
        | exact ⟨⟨[1, 0], .tup [.s (.n 0) 1 0 ((l.drop 2).take z).length cx, .s (.n 1) 1 0 (l.drop (2 + z)).length cy, .v (.bool true)], [.row 5 1 cx (((l.drop 2).take z).map bN), .row 5 1 cy ((l.drop (2 + z)).map bN)], by decide, .inr ⟨_, _, rfl, rfl, .inl rfl, .inl rfl, .inl rfl, trivial⟩, ⟨.inr rfl, .inr rfl, trivial⟩, cx, cy, hcx, hcy, rfl, rfl⟩, rfl⟩
    · have hR : textT l most = ([], [], false) := by rw [textT, hz, if_neg (by omega)]
      rw [hR]
      rcases (show ¬ (z : Int) ≤ most ∨ ¬ z + 2 ≤ l.length by omega) with hn2 | hn2
      all_goals
        refine fn_newR (C := seat) seat_ok [(3, (.of [(0, .take), (1, .take), (2, .take), (3, .take), (4, .take), (5, .take), (6, .take), (7, .take), (8, .take), (9, .take), (10, .take)]))] GG_no (Try.func12) rfl rfl rfl rfl rfl rfl ?_
        repeat' ((try conv => whnf); first
          | (with_reducible refine BB_true ?_)
          | (with_reducible refine BB_false ?_)
          | (with_reducible refine Both.mk ?_ ?_)
          | (with_reducible refine VS.mk ?_)
          | (refine PSem.go (C := seat) seat_ok ?_)
          | (refine And.intro (PlanOK.mk (by kernel_rfl) rfl (by kernel_rfl) (by kernel_rfl)) ?_)
          | (refine And.intro rfl (Exists.intro _ (And.intro (by first | assumption | rfl) ?_)))
          | (refine And.intro ⟨rfl, rfl, rfl⟩ ?_)
          | (refine And.intro (by omega) ?_)
          | (refine BB.mk (fun _h => ?_) (fun _h => ?_) <;> (first | (exact absurd _h (by decide)) | (exfalso; simp only [eo, hw2, boolSet] at _h <;> omega) | skip)))
        all_goals (try conv => whnf)
        all_goals first
          | (exfalso; simp only [eo, hw2, boolSet] at * <;> omega)
          | exact ⟨⟨[0, 1], .tup [.s (.n 0) 1 0 0 0, .s (.n 1) 1 0 0 0, .v (.bool false)], [.row 5 1 0 [], .row 5 1 0 []], by decide, .inr ⟨_, _, rfl, rfl, .inr ⟨_, _, _, rfl, rfl⟩, .inr ⟨_, _, _, rfl, rfl⟩, .inl rfl, trivial⟩, ⟨.inl (.inl ⟨rfl, rfl⟩), .inl (.inl ⟨rfl, rfl⟩), trivial⟩, 0, 0, Nat.le_refl _, Nat.le_refl _, rfl, rfl⟩, rfl⟩
  · have hR : textT l most = ([], [], false) := by rw [textT, if_neg (by omega)]
    rw [hR]
    refine fn_newR (C := seat) seat_ok [(3, (.of [(0, .take), (1, .take), (2, .take), (3, .take), (4, .take), (5, .take), (6, .take), (7, .take), (8, .take), (9, .take), (10, .take)]))] GG_no (Try.func12) rfl rfl rfl rfl rfl rfl ?_
    repeat' ((try conv => whnf); first
      | (with_reducible refine BB_true ?_)
      | (with_reducible refine BB_false ?_)
      | (with_reducible refine Both.mk ?_ ?_)
      | (with_reducible refine VS.mk ?_)
      | (refine PSem.go (C := seat) seat_ok ?_)
      | (refine And.intro (PlanOK.mk (by kernel_rfl) rfl (by kernel_rfl) (by kernel_rfl)) ?_)
      | (refine And.intro rfl (Exists.intro _ (And.intro (by first | assumption | rfl) ?_)))
      | (refine And.intro ⟨rfl, rfl, rfl⟩ ?_)
      | (refine And.intro (by omega) ?_)
      | (refine BB.mk (fun _h => ?_) (fun _h => ?_) <;> (first | (exact absurd _h (by decide)) | (exfalso; simp only [boolSet] at _h <;> omega) | skip)))
    all_goals (try conv => whnf)
    all_goals exact ⟨⟨[0, 1], .tup [.s (.n 0) 1 0 0 0, .s (.n 1) 1 0 0 0, .v (.bool false)], [.row 5 1 0 [], .row 5 1 0 []], by decide, .inr ⟨_, _, rfl, rfl, .inr ⟨_, _, _, rfl, rfl⟩, .inr ⟨_, _, _, rfl, rfl⟩, .inl rfl, trivial⟩, ⟨.inl (.inl ⟨rfl, rfl⟩), .inl (.inl ⟨rfl, rfl⟩), trivial⟩, 0, 0, Nat.le_refl _, Nat.le_refl _, rfl, rfl⟩, rfl⟩
end Go.Proofs.Ytcjegbcljipcbaa
