/- Law IdentSets, by computing: the walk. -/
import Derived.Test.YtoigdnfepmbpbaaI07l
namespace Go.Proofs.Ytoigdnfepmbpbaa
open Go.RowKit

theorem rising_yes (l : List Id_) (cap : Nat) (hl : l.length ≤ 1099511627776) (hr : risingB l = true) : FnOK Try.prog GG 15 [.ro 3 (l.map idC)] [.s (.o 0) 3 0 l.length cap] (fun r _ ext => r = .v (.bool true) ∧ ext = []) := by
  refine (rising_p l cap hl).mono ?_
  rintro r bs' ext ⟨rfl, rfl⟩
  exact ⟨by rw [hr], rfl⟩
set_option maxRecDepth 100000 in
set_option maxHeartbeats 4000000 in
theorem identSets_ok (l : List Id_) (cap : Nat) (tn : Int) (x : Id_) (hc : l.length ≤ cap) (h0 : 0 ≤ tn) (h1 : tn ≤ 255) : FnOK Try.prog GG 4 [.ro 3 (l.map idC)] [.s (.o 0) 3 0 l.length cap, .v (.int .u8 tn), idS x] (fun r _ ext => r = .v (.bool true) ∧ ext = []) := by
  by_cases hlen : l.length ≤ 100
  · have hml := madeL_len l
    have hpl := putL_len (madeL l) x
    have hdl := dropL_len (madeL l) x
    have hup := up_made l
    have hur : risingB (madeL l) = true := (rising_up _).2 hup
    have hup2 : risingB (putL (madeL l) x) = true := (rising_up _).2 (up_put hup)
    have hud : risingB (dropL (madeL l) x) = true := (rising_up _).2 (up_drop hup)
    have hk0 := Int.tmod_nonneg (IntKind.i64.wrap ((l.length : Int) + 1)) (show 0 ≤ IntKind.i64.wrap tn by rw [IntKind.wrap_i64]; omega)
    have hk1 : ((IntKind.i64.wrap tn).tmod (IntKind.i64.wrap ((l.length : Int) + 1))) ≤ l.length := by
      have h2 : 0 < IntKind.i64.wrap ((l.length : Int) + 1) := by rw [IntKind.wrap_i64]; omega
      have := Int.tmod_lt_of_pos (IntKind.i64.wrap tn) h2
      have h3 : IntKind.i64.wrap ((l.length : Int) + 1) = l.length + 1 := by rw [IntKind.wrap_i64]; omega
      omega
    refine fn_val (C := seat) seat_ok [(4, (.op 0 .take (.op 3 .take (.op 4 .take (.op 5 .take (.op 7 .take (.op 8 .take (.op 9 .take (.seq 5 [true, true, true, true, true, true, false, true, true, true, false, false, false, false] (.fork 1 (.of [(2, .do_)]) (.of [(2, .do_), (1, .do_)])) (.of [(6, .do_), (10, .last), (11, .last), (12, .last), (13, .last)])))))))))), (8, (.of [(0, .take), (1, .take), (3, .take), (4, .take), (2, .do_), (5, .do_), (6, .take), (7, .take)])), (14, (.of [(0, .take), (1, .take), (2, .do_), (3, .take), (4, .take), (5, .take), (6, .take), (7, .do_), (8, .take), (9, .take), (10, .take), (11, .take), (12, .take), (14, .take), (15, .take), (16, .take), (13, .do_), (17, .take), (18, .take)]))] GG_no (Try.func4) rfl rfl rfl rfl rfl (fun _ => rfl) rfl ?_
    repeat' ((try conv => whnf); first
      | (with_reducible refine BB_true ?_)
      | (with_reducible refine BB_false ?_)
      | (with_reducible refine Both.mk ?_ ?_)
      | (refine And.intro (PlanOK.mk (by kernel_rfl) rfl (by kernel_rfl) (by kernel_rfl)) ?_)
      | (refine And.intro rfl (Exists.intro _ (And.intro (by first | assumption | rfl) ?_)))
      | (refine call_ro [] (awake_ok) GG_no rfl rfl rfl trivial ?_; rintro r bs' ext ⟨rfl, rfl⟩)
      | (refine And.intro (show _ ≠ (0 : Int) by simp only [IntKind.wrap_i64] <;> omega) ?_)
      | (refine And.intro ⟨by first | omega | decide, by first | omega | exact Int.le_refl _, by first | omega | (show ((_ : Nat) : Int) ≤ _; omega)⟩ ?_)
      | (refine And.intro (by omega) ?_)
      | (refine BB.mk (fun _h => ?_) (fun _h => ?_) <;> (first | (exact absurd _h (by decide)) | (exfalso; simp only [boolSet] at _h <;> omega) | skip)))
    all_goals (try conv => whnf)
    refine VS.cut (fun c1 : Nat => { slots := [(0, .s (.o 0) 3 0 l.length cap), (5, .p (.n 0) 0 0 0), (26, .s (.n 1) 3 0 (madeL l).length c1), (27, .s (.n 2) 3 0 0 0), (30, .s (.o 0) 3 (0 + ((IntKind.i64.wrap tn).tmod (IntKind.i64.wrap ((l.length : Int) + 1))).toNat) ((l.length : Int).toNat - ((IntKind.i64.wrap tn).tmod (IntKind.i64.wrap ((l.length : Int) + 1))).toNat) (cap - ((IntKind.i64.wrap tn).tmod (IntKind.i64.wrap ((l.length : Int) + 1))).toNat)), (34, .s (.o 0) 3 0 (((IntKind.i64.wrap tn).tmod (IntKind.i64.wrap ((l.length : Int) + 1))).toNat - 0) (cap - 0))], nt := 131, mem := ⟨GG, [.ro 3 (l.map idC)], [.box 25 [.v (.int .u8 x.n), .v (.int .u16 x.i), .v (.int .u32 x.s)], .row 25 3 c1 ((madeL l).map idC), .row 25 3 0 []]⟩ }) (fun c1 => (madeL l).length ≤ c1) ?_ ?_
    · intro c1 hc1
      have hlen' : l.length ≤ 1000000 := by omega
      repeat' ((try conv => whnf); first
        | (with_reducible refine BB_true ?_)
        | (with_reducible refine BB_false ?_)
        | (with_reducible refine Both.mk ?_ ?_)
        | (with_reducible refine VS.mk ?_)
        | (refine PSem.go (C := seat) seat_ok ?_)
        | (refine And.intro (PlanOK.mk (by kernel_rfl) rfl (by kernel_rfl) (by kernel_rfl)) ?_)
        | (refine And.intro rfl (Exists.intro _ (And.intro (by first | assumption | rfl) ?_)))
        | (refine call_ro [_] (rising_yes (madeL l) _ (by omega) hur) GG_no rfl rfl rfl ⟨⟨_, rfl, rfl, rfl⟩, trivial⟩ ?_; rintro r bs' ext ⟨rfl, rfl⟩)
        | (refine call_ro [_] (rising_yes (putL (madeL l) x) _ (by omega) hup2) GG_no rfl rfl rfl ⟨⟨_, rfl, rfl, rfl⟩, trivial⟩ ?_; rintro r bs' ext ⟨rfl, rfl⟩)
        | (refine call_ro [_] (rising_yes (dropL (madeL l) x) _ (by omega) hud) GG_no rfl rfl rfl ⟨⟨_, rfl, rfl, rfl⟩, trivial⟩ ?_; rintro r bs' ext ⟨rfl, rfl⟩)
        | (refine call_ro [_] (made_rot_ok l ((IntKind.i64.wrap tn).tmod (IntKind.i64.wrap ((l.length : Int) + 1))).toNat _ _ hlen' (by simp only [rotL, List.length_append, List.length_take, List.length_drop]; omega)) GG_no rfl rfl rfl ⟨⟨_, rfl, rfl, by simp only [rotL, List.map_append, List.map_drop, List.map_take, List.nil_append, Nat.zero_add, List.drop_zero, Nat.sub_zero]; rw [List.take_of_length_le (by simp)]⟩, trivial⟩ ?_; rintro r bs' ext ⟨c2, hc2, rfl, rfl⟩)
        | (refine call_ro [_, _] (same_self (madeL l) _ _ (by omega)) GG_no rfl rfl rfl ⟨⟨_, rfl, rfl, rfl⟩, ⟨_, rfl, rfl, rfl⟩, trivial⟩ ?_; rintro r bs' ext ⟨rfl, rfl⟩)
        | (refine call_ro [_] (put_p (madeL l) x c1 (by omega) hc1) GG_no rfl rfl rfl ⟨⟨_, rfl, rfl, rfl⟩, trivial⟩ ?_; rintro r bs' ext ⟨c3, hc3, rfl, rfl⟩)
        | (refine call_ro [_] (drop_q (madeL l) x c1 (by omega)) GG_no rfl rfl rfl ⟨⟨_, rfl, rfl, rfl⟩, trivial⟩ ?_; rintro r bs' ext ⟨c4, rfl, rfl⟩)
        | (refine call_ro [_] (has_is (putL (madeL l) x) x c3 (by omega) true (has_put x (.inl rfl))) GG_no rfl rfl rfl ⟨⟨_, rfl, rfl, rfl⟩, trivial⟩ ?_; rintro r bs' ext ⟨rfl, rfl⟩)
        | (refine call_ro [_] (has_is (dropL (madeL l) x) x c4 (by omega) false (has_gone _ x)) GG_no rfl rfl rfl ⟨⟨_, rfl, rfl, rfl⟩, trivial⟩ ?_; rintro r bs' ext ⟨rfl, rfl⟩)
        | (refine call_ro [_, _] (same_len (madeL l) _ _ _ _ (by omega) rfl (by omega)) GG_no rfl rfl rfl ⟨⟨_, rfl, rfl, rfl⟩, ⟨_, rfl, rfl, by show [] ++ List.take (madeL l).length (List.drop 0 (List.map idC (madeL l))) = _; rw [List.nil_append, List.drop_zero, List.take_of_length_le (by rw [List.length_map]; omega)]⟩, trivial⟩ ?_; rintro r bs' ext ⟨rfl, rfl⟩)
        | (refine call_ro [_] (put_again (madeL l) x c3 (by omega) hc3) GG_no rfl rfl rfl ⟨⟨_, rfl, rfl, rfl⟩, trivial⟩ ?_; rintro r bs' ext ⟨c5, hc5, rfl, rfl⟩)
        | (refine call_ro [_, _] (same_self (putL (madeL l) x) _ _ (by omega)) GG_no rfl rfl rfl ⟨⟨_, rfl, rfl, rfl⟩, ⟨_, rfl, rfl, rfl⟩, trivial⟩ ?_; rintro r bs' ext ⟨rfl, rfl⟩)
        | (refine call_ro [_] (drop_again (madeL l) x c4 (by omega)) GG_no rfl rfl rfl ⟨⟨_, rfl, rfl, rfl⟩, trivial⟩ ?_; rintro r bs' ext ⟨c6, rfl, rfl⟩)
        | (refine call_ro [_, _] (same_self (dropL (madeL l) x) _ _ (by omega)) GG_no rfl rfl rfl ⟨⟨_, rfl, rfl, rfl⟩, ⟨_, rfl, rfl, rfl⟩, trivial⟩ ?_; rintro r bs' ext ⟨rfl, rfl⟩)
        | (refine call_ro [_] (drop_more (madeL l) x c3 hup (by omega)) GG_no rfl rfl rfl ⟨⟨_, rfl, rfl, rfl⟩, trivial⟩ ?_; rintro r bs' ext ⟨c7, rfl, rfl⟩)
        | (refine call_ro [] (awake_ok) GG_no rfl rfl rfl trivial ?_; rintro r bs' ext ⟨rfl, rfl⟩)
        | (refine And.intro ⟨rfl, rfl, rfl, by first | rfl | (simp only [List.length_append, List.length_take, List.length_drop, List.length_map, List.length_nil] <;> omega)⟩ ?_)
        | (refine And.intro ⟨rfl, by rw [List.length_map]; omega⟩ ?_)
        | (refine And.intro (by first | omega | (dsimp only; omega)) ?_)
        | (intro cap' hcap')
        | (refine And.intro (by omega) ?_)
        | (refine BB.mk (fun _h => ?_) (fun _h => ?_) <;> (first | (exact absurd _h (by decide)) | (exfalso; simp only [boolSet] at _h <;> omega) | skip)))
      all_goals (try conv => whnf)
      refine loop_rule (α := Nat) (fun k => k ≤ l.length) (fun k => { slots := [(0, .s (.o 0) 3 0 l.length cap), (5, .p (.n 0) 0 0 0), (8, .s (.n 1) 3 0 (madeL l).length c1), (11, .s (.n 2) 3 0 (putL (madeL l) x).length c3), (12, .s (.n 3) 3 0 (dropL (madeL l) x).length c4), (104, .s (.o 0) 3 0 l.length cap), (105, .v (.int .i64 l.length)), (106, .v (.int .i64 k))], nt := 131, mem := ⟨GG, [.ro 3 (l.map idC)], [.box 25 [.v (.int .u8 x.n), .v (.int .u16 x.i), .v (.int .u32 x.s)], .row 25 3 c1 ((madeL l).map idC), .row 25 3 c3 ((putL (madeL l) x).map idC), .row 25 3 c4 ((dropL (madeL l) x).map idC)]⟩ }) (fun k => l.length - k) 0 (Nat.zero_le _) ⟨⟨[0, 1, 8, 9], (by decide), GG_no, rfl, (SubOld.refl _ rfl), ⟨rfl, .inr rfl, .inr rfl, .inr rfl, trivial⟩, ⟨.inl rfl, .inl rfl, .inl rfl, .inl rfl, .inl rfl, .inl rfl, .inl rfl, .inl rfl, trivial⟩⟩, rfl⟩ ?_ (fun _ => rfl)
      rintro k hk
      refine vc_sound (C := seat) seat_ok (pl := [(4, (.op 0 .take (.op 3 .take (.op 4 .take (.op 5 .take (.op 7 .take (.op 8 .take (.op 9 .take (.seq 5 [true, true, true, true, true, true, false, true, true, true, false, false, false, false] (.fork 1 (.of [(2, .do_)]) (.of [(2, .do_), (1, .do_)])) (.of [(6, .do_), (10, .last), (11, .last), (12, .last), (13, .last)])))))))))), (8, (.of [(0, .take), (1, .take), (3, .take), (4, .take), (2, .do_), (5, .do_), (6, .take), (7, .take)])), (14, (.of [(0, .take), (1, .take), (2, .do_), (3, .take), (4, .take), (5, .take), (6, .take), (7, .do_), (8, .take), (9, .take), (10, .take), (11, .take), (12, .take), (14, .take), (15, .take), (16, .take), (13, .do_), (17, .take), (18, .take)]))]) ?_
      by_cases hlt : k < l.length
      · obtain ⟨y, hy⟩ : ∃ y, l[k]? = some y := ⟨_, List.getElem?_eq_getElem hlt⟩
        have hrow := row_at hy
        have hm := List.mem_of_getElem? hy
        repeat' ((try conv => whnf); first
          | (with_reducible refine BB_true ?_)
          | (with_reducible refine BB_false ?_)
          | (with_reducible refine Both.mk ?_ ?_)
          | (with_reducible refine VS.mk ?_)
          | (refine PSem.go (C := seat) seat_ok ?_)
          | (refine And.intro (PlanOK.mk (by kernel_rfl) rfl (by kernel_rfl) (by kernel_rfl)) ?_)
          | (refine And.intro rfl (Exists.intro _ (And.intro (by first | assumption | rfl) ?_)))
          | (refine call_ro [_] (has_is (madeL l) y c1 (by omega) true (has_made hm)) GG_no rfl rfl rfl ⟨⟨_, rfl, rfl, rfl⟩, trivial⟩ ?_; rintro r bs' ext ⟨rfl, rfl⟩)
          | (refine call_ro [_] (has_is (putL (madeL l) x) y c3 (by omega) true (has_put x (.inr (mem_made.2 hm)))) GG_no rfl rfl rfl ⟨⟨_, rfl, rfl, rfl⟩, trivial⟩ ?_; rintro r bs' ext ⟨rfl, rfl⟩)
          | (refine call_ro [_] (has_is (dropL (madeL l) x) y c4 (by omega) (!eqB y x) (has_drop (mem_made.2 hm))) GG_no rfl rfl rfl ⟨⟨_, rfl, rfl, rfl⟩, trivial⟩ ?_; rintro r bs' ext ⟨rfl, rfl⟩)
          | (refine And.intro (by omega) ?_)
          | (refine BB.mk (fun _h => ?_) (fun _h => ?_) <;> (first | (exact absurd _h (by decide)) | (exfalso; simp only [eqB, boolSet] at _h <;> omega) | skip)))
        all_goals (try conv => whnf)
        all_goals (refine ⟨k + 1, by omega, by omega, ⟨⟨[0, 1, 2, 3], by decide, GG_no, rfl, SubOld.refl _ rfl, ⟨rfl, .inr rfl, .inr rfl, .inr rfl, trivial⟩, ⟨.inl rfl, .inl rfl, .inl rfl, .inl rfl, .inl rfl, .inl rfl, .inl rfl, .inl (num_eq (by rw [IntKind.wrap_i64]; omega)), trivial⟩⟩, rfl⟩⟩)
      ·
        repeat' ((try conv => whnf); first
          | (with_reducible refine BB_true ?_)
          | (with_reducible refine BB_false ?_)
          | (with_reducible refine Both.mk ?_ ?_)
          | (with_reducible refine VS.mk ?_)
          | (refine PSem.go (C := seat) seat_ok ?_)
          | (refine And.intro (PlanOK.mk (by kernel_rfl) rfl (by kernel_rfl) (by kernel_rfl)) ?_)
          | (refine And.intro rfl (Exists.intro _ (And.intro (by first | assumption | rfl) ?_)))
          | (refine call_ro [] (awake_ok) GG_no rfl rfl rfl trivial ?_; rintro r bs' ext ⟨rfl, rfl⟩)
          | (refine And.intro (by omega) ?_)
          | (refine BB.mk (fun _h => ?_) (fun _h => ?_) <;> (first | (exact absurd _h (by decide)) | (exfalso; simp only [eqB, boolSet] at _h <;> omega) | skip)))
        all_goals (try conv => whnf)
        all_goals exact ⟨rfl, rfl⟩
    · intro hJ
      repeat' ((try conv => whnf); first
        | (with_reducible refine BB_true ?_)
        | (with_reducible refine BB_false ?_)
        | (with_reducible refine Both.mk ?_ ?_)
        | (refine And.intro (PlanOK.mk (by kernel_rfl) rfl (by kernel_rfl) (by kernel_rfl)) ?_)
        | (refine And.intro rfl (Exists.intro _ (And.intro (by first | assumption | rfl) ?_)))
        | (refine call_ro [_] (made_ok l cap (by omega)) GG_no rfl rfl rfl ⟨⟨_, rfl, rfl, rfl⟩, trivial⟩ ?_; rintro r bs' ext ⟨c1, hc1, rfl, rfl⟩)
        | (refine And.intro (by omega) ?_)
        | (refine BB.mk (fun _h => ?_) (fun _h => ?_) <;> (first | (exact absurd _h (by decide)) | (exfalso; simp only [boolSet] at _h <;> omega) | skip)))
      all_goals (try conv => whnf)
      all_goals (refine PSem.join ?_ (hJ c1 hc1))
      all_goals first
      | exact ⟨⟨[0, 1, 2], by decide, rfl, GG_no, rfl, SubOld.refl _ rfl, ⟨rfl, .inr rfl, .inl (.inl ⟨rfl, rfl⟩), trivial⟩, ⟨.inl rfl, .inl rfl, .inl rfl, .inl rfl, .inl rfl, .inl rfl, trivial⟩⟩, rfl⟩
      | exact ⟨⟨[0, 2, 1], by decide, rfl, GG_no, rfl, SubOld.refl _ rfl, ⟨rfl, .inr rfl, .inl (.inl ⟨rfl, rfl⟩), trivial⟩, ⟨.inl rfl, .inl rfl, .inl rfl, .inl rfl, .inl rfl, .inl rfl, trivial⟩⟩, rfl⟩
  · refine fn_val (C := seat) seat_ok [(4, (.op 0 .take (.op 3 .take (.op 4 .take (.op 5 .take (.op 7 .take (.op 8 .take (.op 9 .take (.seq 5 [true, true, true, true, true, true, false, true, true, true, false, false, false, false] (.fork 1 (.of [(2, .do_)]) (.of [(2, .do_), (1, .do_)])) (.of [(6, .do_), (10, .last), (11, .last), (12, .last), (13, .last)])))))))))), (8, (.of [(0, .take), (1, .take), (3, .take), (4, .take), (2, .do_), (5, .do_), (6, .take), (7, .take)])), (14, (.of [(0, .take), (1, .take), (2, .do_), (3, .take), (4, .take), (5, .take), (6, .take), (7, .do_), (8, .take), (9, .take), (10, .take), (11, .take), (12, .take), (14, .take), (15, .take), (16, .take), (13, .do_), (17, .take), (18, .take)]))] GG_no (Try.func4) rfl rfl rfl rfl rfl (fun _ => rfl) rfl ?_
    repeat' ((try conv => whnf); first
      | (with_reducible refine BB_true ?_)
      | (with_reducible refine BB_false ?_)
      | (with_reducible refine Both.mk ?_ ?_)
      | (with_reducible refine VS.mk ?_)
      | (refine PSem.go (C := seat) seat_ok ?_)
      | (refine And.intro (PlanOK.mk (by kernel_rfl) rfl (by kernel_rfl) (by kernel_rfl)) ?_)
      | (refine And.intro rfl (Exists.intro _ (And.intro (by first | assumption | rfl) ?_)))
      | (refine call_ro [] (awake_ok) GG_no rfl rfl rfl trivial ?_; rintro r bs' ext ⟨rfl, rfl⟩)
      | (refine And.intro (by omega) ?_)
      | (refine BB.mk (fun _h => ?_) (fun _h => ?_) <;> (first | (exact absurd _h (by decide)) | (exfalso; simp only [boolSet] at _h <;> omega) | skip)))
    all_goals (try conv => whnf)
    all_goals exact ⟨rfl, rfl⟩
end Go.Proofs.Ytoigdnfepmbpbaa
