/- Package wire, by computing: texts; signs. -/
import Derived.Test.YtcjegbcljipcbaaW01c
namespace Go.Proofs.Ytcjegbcljipcbaa
open Go.RowKit

def putText (b t : List Nat) : List Nat := if t.length ≤ 65535 then b ++ putB t.length 2 ++ t else b
def textT (l : List Nat) (most : Int) : List Nat × List Nat × Bool :=
  if 2 ≤ l.length ∧ (takeN (l.take 2) : Int) ≤ most ∧ takeN (l.take 2) + 2 ≤ l.length then ((l.drop 2).take (takeN (l.take 2)), l.drop (2 + takeN (l.take 2)), true) else ([], [], false)
theorem or_byte2 {x y : Nat} (hx : x < 256) (hy : y < 256) : IntKind.i64.wrap ((BitVec.ofInt IntKind.i64.bits (IntKind.i64.wrap (IntKind.i64.wrap (x : Int) * 2 ^ min (Int.toNat 8) IntKind.i64.bits)) ||| BitVec.ofInt IntKind.i64.bits (IntKind.i64.wrap (y : Int))).toNat : Int) = ((x * 256 + y : Nat) : Int) := by
  have e1 : IntKind.i64.wrap (IntKind.i64.wrap (x : Int) * 2 ^ min (Int.toNat 8) IntKind.i64.bits) = ((x * 256 : Nat) : Int) := by
    show IntKind.i64.wrap (IntKind.i64.wrap (x : Int) * 256) = _
    rw [IntKind.wrap_i64, IntKind.wrap_i64]; omega
  have e2 : IntKind.i64.wrap (y : Int) = (y : Int) := by rw [IntKind.wrap_i64]; omega
  rw [e1, e2]
  show IntKind.i64.wrap ((BitVec.ofInt 64 ((x * 256 : Nat) : Int) ||| BitVec.ofInt 64 (y : Int)).toNat : Int) = _
  have e3 : x * 256 ||| y = x * 256 + y := by
    have := Nat.shiftLeft_add_eq_or_of_lt (b := y) (i := 8) (by omega) x
    rw [Nat.shiftLeft_eq] at this
    exact this.symm
  rw [BitVec.toNat_or, BitVec.toNat_ofInt, BitVec.toNat_ofInt, show (((x * 256 : Nat) : Int) % ((2 ^ 64 : Nat) : Int)).toNat = x * 256 by omega, show ((y : Int) % ((2 ^ 64 : Nat) : Int)).toNat = y by omega, e3, IntKind.wrap_i64]
  omega
theorem take_two {l : List Nat} {x y : Nat} (h0 : l[0]? = some x) (h1 : l[1]? = some y) : takeN (l.take 2) = x * 256 + y := by
  rw [take_next h1, take_next h0]
  simp [takeN]
theorem put_at (b : List Nat) (E : List (List Value)) (e m c : Nat) (x : Nat) (x' : Int) (n : Int) (hx' : x' = x) (h : (E.drop e).take m = b.map bN) (hb : e + m ≤ E.length) (hl : m ≤ 1000000000) (hx : x < 2 ^ 64) : FnOK Try.prog GG 14 [.ro 1 E] [.s (.o 0) 1 e m c, .v (.int .u64 x'), .v (.int .i64 n)] (fun r _ ext => ∃ cap, (putT b x n).length ≤ cap ∧ r = .s (.n 0) 1 0 (putT b x n).length cap ∧ ext = [.row 5 1 cap ((putT b x n).map bN)]) := by
  subst hx'
  exact put_ok b E e m c x n h hb hl hx
set_option maxRecDepth 100000 in
set_option maxHeartbeats 4000000 in
theorem putText_ok (b s : List Nat) (E1 E2 : List (List Value)) (e1 m1 c1 e2 m2 c2 : Nat) (h1 : (E1.drop e1).take m1 = b.map bN) (hb1 : e1 + m1 ≤ E1.length) (h2 : (E2.drop e2).take m2 = s.map bN) (hb2 : e2 + m2 ≤ E2.length) (hl1 : m1 ≤ 1000000) (hl2 : m2 ≤ 1000000) : FnOK Try.prog GG 16 [.ro 1 E1, .ro 1 E2] [.s (.o 0) 1 e1 m1 c1, .s (.o 1) 1 e2 m2 c2] (fun r _ ext => ∃ cap, (putText b s).length ≤ cap ∧ r = .s (.n 0) 1 0 (putText b s).length cap ∧ ext = [.row 5 1 cap ((putText b s).map bN)]) := by
  have hm1 := bN_all h1 hb1
  have hm2 := bN_all h2 hb2
  by_cases hs : s.length ≤ 65535
  · have hw : (decide ((0 : Int) ≤ (m2 : Int)) && decide ((m2 : Int) ≤ 65535)) = true := by simp; omega
    have hR : putText b s = putT b m2 2 ++ s := by rw [putText, if_pos hs, putT, if_pos (by decide), hm2]; rfl
    have hL : (putT b m2 2).length = b.length + 2 := by rw [putT, if_pos (by decide), List.length_append, putB_len]; rfl
    have ew : IntKind.u64.wrap (m2 : Int) = (m2 : Int) := by rw [IntKind.wrap_u64]; omega
    rw [hR]
    refine fn_newR (C := seat) seat_ok [] GG_no (Try.func16) rfl rfl rfl rfl rfl rfl ?_
    repeat' ((try conv => whnf); first
      | (with_reducible refine BB_true ?_)
      | (with_reducible refine BB_false ?_)
      | (with_reducible refine Both.mk ?_ ?_)
      | (with_reducible refine VS.mk ?_)
      | (refine PSem.go (C := seat) seat_ok ?_)
      | (refine And.intro (PlanOK.mk (by kernel_rfl) rfl (by kernel_rfl) (by kernel_rfl)) ?_)
      | (refine And.intro rfl (Exists.intro _ (And.intro (by first | assumption | rfl) ?_)))
      | (refine And.intro ⟨rfl, rfl, rfl⟩ ?_)
      | (refine call_ro [] (within_ok 0 65535) GG_no rfl rfl rfl trivial ?_; rintro r bs' ext ⟨rfl, rfl⟩)
      | (refine call_ro [_, _] (within1_is (m2 : Int) 0 65535 true hw) GG_no rfl rfl rfl ⟨⟨_, rfl, _, rfl, rfl, rfl, rfl⟩, ⟨_, rfl, _, rfl, rfl, rfl, rfl⟩, trivial⟩ ?_; rintro r bs' ext ⟨rfl, rfl⟩)
      | (refine call_ro [.o 0] (put_at b E1 e1 m1 c1 m2 _ 2 ew h1 hb1 (by omega) (by omega)) GG_no rfl rfl rfl ⟨⟨_, rfl, rfl, rfl⟩, trivial⟩ ?_; rintro r bs' ext ⟨cp, hcp, rfl, rfl⟩)
      | (refine And.intro ⟨rfl, hb2⟩ ?_)
      | (refine And.intro ⟨rfl, rfl, rfl, by rw [List.length_map]⟩ ?_)
      | (refine And.intro (by first | omega | (dsimp only; omega)) ?_)
      | (intro cap' hcap')
      | (refine And.intro (by omega) ?_)
      | (refine BB.mk (fun _h => ?_) (fun _h => ?_) <;> (first | (exact absurd _h (by decide)) | (exfalso; simp only [boolSet] at _h <;> omega) | skip)))
    all_goals (try conv => whnf)
    refine ⟨⟨[3], .s (.n 0) 1 0 ((putT b m2 2).length + m2) cap', [.row 5 1 cap' ((putT b m2 2 ++ s).map bN)], by decide, .inl (.inl rfl), ⟨.inr ?_, trivial⟩, cap', ?_, ?_, rfl⟩, rfl⟩
    · show some (SB.row 5 1 cap' ((putT b m2 2).map bN ++ (E2.drop e2).take m2)) = _
      rw [h2, List.map_append]
    · rw [List.length_append]; omega
    · rw [List.length_append, hm2]
  · have hw : (decide ((0 : Int) ≤ (m2 : Int)) && decide ((m2 : Int) ≤ 65535)) = false := by simp; omega
    have hR : putText b s = b := by rw [putText, if_neg hs]
    rw [hR]
    refine fn_newR (C := seat) seat_ok [] GG_no (Try.func16) rfl rfl rfl rfl rfl rfl ?_
    repeat' ((try conv => whnf); first
      | (with_reducible refine BB_true ?_)
      | (with_reducible refine BB_false ?_)
      | (with_reducible refine Both.mk ?_ ?_)
      | (with_reducible refine VS.mk ?_)
      | (refine PSem.go (C := seat) seat_ok ?_)
      | (refine And.intro (PlanOK.mk (by kernel_rfl) rfl (by kernel_rfl) (by kernel_rfl)) ?_)
      | (refine And.intro rfl (Exists.intro _ (And.intro (by first | assumption | rfl) ?_)))
      | (refine And.intro ⟨rfl, rfl, rfl⟩ ?_)
      | (refine call_ro [] (within_ok 0 65535) GG_no rfl rfl rfl trivial ?_; rintro r bs' ext ⟨rfl, rfl⟩)
      | (refine call_ro [_, _] (within1_is (m2 : Int) 0 65535 false hw) GG_no rfl rfl rfl ⟨⟨_, rfl, _, rfl, rfl, rfl, rfl⟩, ⟨_, rfl, _, rfl, rfl, rfl, rfl⟩, trivial⟩ ?_; rintro r bs' ext ⟨rfl, rfl⟩)
      | (refine call_ro [.o 0] (own_ok b E1 e1 m1 c1 h1 hb1 (by omega)) GG_no rfl rfl rfl ⟨⟨_, rfl, rfl, rfl⟩, trivial⟩ ?_; rintro r bs' ext ⟨ca, hca, rfl, rfl⟩)
      | (refine And.intro (by omega) ?_)
      | (refine BB.mk (fun _h => ?_) (fun _h => ?_) <;> (first | (exact absurd _h (by decide)) | (exfalso; simp only [boolSet] at _h <;> omega) | skip)))
    all_goals (try conv => whnf)
    exact ⟨⟨[2], .s (.n 0) 1 0 b.length ca, [.row 5 1 ca (b.map bN)], by decide, .inl (.inl rfl), ⟨.inr rfl, trivial⟩, ca, hca, rfl, rfl⟩, rfl⟩
theorem own_at (l : List Nat) (E : List (List Value)) (e n c e' n' : Nat) (he : e' = e) (hn : n' = n) (h : (E.drop e).take n = l.map bN) (hb : e + n ≤ E.length) (hl : n ≤ 1099511627776) : FnOK Try.prog GG 23 [.ro 1 E] [.s (.o 0) 1 e' n' c] (fun r _ ext => ∃ cap, l.length ≤ cap ∧ r = .s (.n 0) 1 0 l.length cap ∧ ext = [.row 5 1 cap (l.map bN)]) := by
  subst he hn
  exact own_ok l E _ _ c h hb hl
set_option maxRecDepth 100000 in
set_option maxHeartbeats 4000000 in
theorem takeText_ok (l : List Nat) (E : List (List Value)) (e m c : Nat) (most : Int) (h : (E.drop e).take m = l.map bN) (hb : e + m ≤ E.length) (hc : m ≤ c) (hl : m ≤ 1000000000) (hl8 : ∀ x ∈ l, x < 256) : FnOK Try.prog GG 11 [.ro 1 E] [.s (.o 0) 1 e m c, .v (.int .i64 most)] (fun r _ ext => ∃ c1 c2, (textT l most).1.length ≤ c1 ∧ (textT l most).2.1.length ≤ c2 ∧ r = .tup [.s (.n 0) 1 0 (textT l most).1.length c1, .s (.n 1) 1 0 (textT l most).2.1.length c2, .v (.bool (textT l most).2.2)] ∧ ext = [.row 5 1 c1 ((textT l most).1.map bN), .row 5 1 c2 ((textT l most).2.1.map bN)]) := by
  have hm := bN_all h hb
  by_cases h2 : 2 ≤ m
  · obtain ⟨x, hx⟩ : ∃ x, l[0]? = some x := ⟨_, List.getElem?_eq_getElem (by omega)⟩
    obtain ⟨y, hy⟩ : ∃ y, l[1]? = some y := ⟨_, List.getElem?_eq_getElem (by omega)⟩
    have hrow0 := at_row h hx
    have hrow1 := at_row h hy
    have hx8 := hl8 x (List.mem_of_getElem? hx)
    have hy8 := hl8 y (List.mem_of_getElem? hy)
    have eo := or_byte2 hx8 hy8
    rw [← take_two hx hy] at eo
    have hmin : (bif false then (if IntKind.i64.wrap ((m : Int) - 2) > most then IntKind.i64.wrap ((m : Int) - 2) else most) else (if IntKind.i64.wrap ((m : Int) - 2) < most then IntKind.i64.wrap ((m : Int) - 2) else most)) = min most ((m : Int) - 2) := by
      rw [show IntKind.i64.wrap ((m : Int) - 2) = (m : Int) - 2 by rw [IntKind.wrap_i64]; omega]
      simp only [cond_false]; split <;> omega
    obtain ⟨z, hz⟩ : ∃ z, takeN (l.take 2) = z := ⟨_, rfl⟩
    rw [hz] at eo
    by_cases hn : (z : Int) ≤ most ∧ z + 2 ≤ l.length
    · have hR : textT l most = ((l.drop 2).take z, l.drop (2 + z), true) := by rw [textT, hz, if_pos ⟨by omega, hn⟩]
      have hw : (decide ((0 : Int) ≤ (IntKind.i64.wrap ((BitVec.ofInt IntKind.i64.bits (IntKind.i64.wrap (IntKind.i64.wrap (x : Int) * 2 ^ min (Int.toNat 8) IntKind.i64.bits)) ||| BitVec.ofInt IntKind.i64.bits (IntKind.i64.wrap (y : Int))).toNat : Int))) && decide ((IntKind.i64.wrap ((BitVec.ofInt IntKind.i64.bits (IntKind.i64.wrap (IntKind.i64.wrap (x : Int) * 2 ^ min (Int.toNat 8) IntKind.i64.bits)) ||| BitVec.ofInt IntKind.i64.bits (IntKind.i64.wrap (y : Int))).toNat : Int)) ≤ (bif false then (if IntKind.i64.wrap ((m : Int) - 2) > most then IntKind.i64.wrap ((m : Int) - 2) else most) else (if IntKind.i64.wrap ((m : Int) - 2) < most then IntKind.i64.wrap ((m : Int) - 2) else most)))) = true := by rw [eo, hmin]; simp; omega
      have ez : IntKind.i64.wrap (2 + (z : Int)) = 2 + z := by rw [IntKind.wrap_i64]; omega
      have hs1 := sub_row (a := 2) (k := z) h (by omega)
      have hs2 : (E.drop (e + (2 + z))).take (m - (2 + z)) = (l.drop (2 + z)).map bN := by
        rw [sub_row (a := 2 + z) (k := m - (2 + z)) h (by omega), List.take_of_length_le (l := l.drop (2 + z)) (by rw [List.length_drop]; omega)]
      have ht : (2 + (z : Int)).toNat = 2 + z := by omega
      rw [hR]
      refine fn_newR (C := seat) seat_ok [(3, (.of [(0, .take), (1, .take), (2, .take), (3, .take), (4, .take), (5, .take), (6, .take), (7, .take), (8, .take), (9, .take), (10, .take)])), (6, (.of [(0, .take), (1, .take), (2, .take), (3, .take), (5, .take), (6, .take), (7, .take), (8, .take), (4, .do_), (9, .do_), (10, .take), (11, .take), (12, .take)]))] GG_no (Try.func11) rfl rfl rfl rfl rfl rfl ?_
      repeat' ((try conv => whnf); first
        | (with_reducible refine BB_true ?_)
        | (with_reducible refine BB_false ?_)
        | (with_reducible refine Both.mk ?_ ?_)
        | (with_reducible refine VS.mk ?_)
        | (refine PSem.go (C := seat) seat_ok ?_)
        | (refine And.intro (PlanOK.mk (by kernel_rfl) rfl (by kernel_rfl) (by kernel_rfl)) ?_)
        | (refine And.intro rfl (Exists.intro _ (And.intro (by first | assumption | rfl) ?_)))
        | (refine And.intro ⟨rfl, rfl, rfl⟩ ?_)
        | (refine call_ro [] (within_ok _ _) GG_no rfl rfl rfl trivial ?_; rintro r bs' ext ⟨rfl, rfl⟩)
        | (refine call_ro [_, _] (within1_is _ _ _ true hw) GG_no rfl rfl rfl ⟨⟨_, rfl, _, rfl, rfl, rfl, rfl⟩, ⟨_, rfl, _, rfl, rfl, rfl, rfl⟩, trivial⟩ ?_; rintro r bs' ext ⟨rfl, rfl⟩)
        | (refine And.intro ⟨by (try rw [eo, ez]); omega, by (try rw [eo, ez]); omega, by (try rw [eo, ez]); omega⟩ ?_)
        | (refine call_ro [.o 0] (own_at ((l.drop 2).take z) E (e + 2) z _ _ _ ?_ ?_ hs1 (by omega) (by omega)) GG_no rfl rfl rfl ⟨⟨_, rfl, rfl, rfl⟩, trivial⟩ ?_; (· rfl); (· (rw [eo, ez]; omega)); rintro r bs' ext ⟨cx, hcx, rfl, rfl⟩)
        | (refine call_ro [.o 0] (own_at (l.drop (2 + z)) E (e + (2 + z)) (m - (2 + z)) _ _ _ ?_ ?_ hs2 (by omega) (by omega)) GG_no rfl rfl rfl ⟨⟨_, rfl, rfl, rfl⟩, trivial⟩ ?_; (· (rw [eo, ez]; omega)); (· (rw [eo, ez]; omega)); rintro r bs' ext ⟨cy, hcy, rfl, rfl⟩)
        | (refine And.intro (by omega) ?_)
        | (refine BB.mk (fun _h => ?_) (fun _h => ?_) <;> (first | (exact absurd _h (by decide)) | (exfalso; simp only [boolSet] at _h <;> omega) | skip)))
      all_goals (try conv => whnf)
      all_goals
        have hl1 : ((l.drop 2).take z).length = z := by rw [List.length_take, List.length_drop]; omega
        first
          | exact ⟨⟨[2, 3], .tup [.s (.n 0) 1 0 ((l.drop 2).take z).length cx, .s (.n 1) 1 0 (l.drop (2 + z)).length cy, .v (.bool true)], [.row 5 1 cx (((l.drop 2).take z).map bN), .row 5 1 cy ((l.drop (2 + z)).map bN)], by decide, .inr ⟨_, _, rfl, rfl, .inl rfl, .inl rfl, .inl rfl, trivial⟩, ⟨.inr rfl, .inr rfl, trivial⟩, cx, cy, hcx, hcy, rfl, rfl⟩, rfl⟩
          | exact ⟨⟨[3, 2], .tup [.s (.n 0) 1 0 ((l.drop 2).take z).length cx, .s (.n 1) 1 0 (l.drop (2 + z)).length cy, .v (.bool true)], [.row 5 1 cx (((l.drop 2).take z).map bN), .row 5 1 cy ((l.drop (2 + z)).map bN)], by decide, .inr ⟨_, _, rfl, rfl, .inl rfl, .inl rfl, .inl rfl, trivial⟩, ⟨.inr rfl, .inr rfl, trivial⟩, cx, cy, hcx, hcy, rfl, rfl⟩, rfl⟩
    · have hR : textT l most = ([], [], false) := by rw [textT, hz, if_neg (by omega)]
      have hw : (decide ((0 : Int) ≤ (IntKind.i64.wrap ((BitVec.ofInt IntKind.i64.bits (IntKind.i64.wrap (IntKind.i64.wrap (x : Int) * 2 ^ min (Int.toNat 8) IntKind.i64.bits)) ||| BitVec.ofInt IntKind.i64.bits (IntKind.i64.wrap (y : Int))).toNat : Int))) && decide ((IntKind.i64.wrap ((BitVec.ofInt IntKind.i64.bits (IntKind.i64.wrap (IntKind.i64.wrap (x : Int) * 2 ^ min (Int.toNat 8) IntKind.i64.bits)) ||| BitVec.ofInt IntKind.i64.bits (IntKind.i64.wrap (y : Int))).toNat : Int)) ≤ (bif false then (if IntKind.i64.wrap ((m : Int) - 2) > most then IntKind.i64.wrap ((m : Int) - 2) else most) else (if IntKind.i64.wrap ((m : Int) - 2) < most then IntKind.i64.wrap ((m : Int) - 2) else most)))) = false := by rw [eo, hmin, ← Bool.not_eq_true]; simp; omega
      rw [hR]
      refine fn_newR (C := seat) seat_ok [(3, (.of [(0, .take), (1, .take), (2, .take), (3, .take), (4, .take), (5, .take), (6, .take), (7, .take), (8, .take), (9, .take), (10, .take)])), (6, (.of [(0, .take), (1, .take), (2, .take), (3, .take), (5, .take), (6, .take), (7, .take), (8, .take), (4, .do_), (9, .do_), (10, .take), (11, .take), (12, .take)]))] GG_no (Try.func11) rfl rfl rfl rfl rfl rfl ?_
      repeat' ((try conv => whnf); first
        | (with_reducible refine BB_true ?_)
        | (with_reducible refine BB_false ?_)
        | (with_reducible refine Both.mk ?_ ?_)
        | (with_reducible refine VS.mk ?_)
        | (refine PSem.go (C := seat) seat_ok ?_)
        | (refine And.intro (PlanOK.mk (by kernel_rfl) rfl (by kernel_rfl) (by kernel_rfl)) ?_)
        | (refine And.intro rfl (Exists.intro _ (And.intro (by first | assumption | rfl) ?_)))
        | (refine And.intro ⟨rfl, rfl, rfl⟩ ?_)
        | (refine call_ro [] (within_ok _ _) GG_no rfl rfl rfl trivial ?_; rintro r bs' ext ⟨rfl, rfl⟩)
        | (refine call_ro [_, _] (within1_is _ _ _ false hw) GG_no rfl rfl rfl ⟨⟨_, rfl, _, rfl, rfl, rfl, rfl⟩, ⟨_, rfl, _, rfl, rfl, rfl, rfl⟩, trivial⟩ ?_; rintro r bs' ext ⟨rfl, rfl⟩)
        | (refine And.intro ⟨by (try rw [eo, ez]); omega, by (try rw [eo, ez]); omega, by (try rw [eo, ez]); omega⟩ ?_)
        | (refine call_ro [.o 0] (own_at ((l.drop 2).take z) E (e + 2) z _ _ _ ?_ ?_ hs1 (by omega) (by omega)) GG_no rfl rfl rfl ⟨⟨_, rfl, rfl, rfl⟩, trivial⟩ ?_; (· rfl); (· (rw [eo, ez]; omega)); rintro r bs' ext ⟨cx, hcx, rfl, rfl⟩)
        | (refine call_ro [.o 0] (own_at (l.drop (2 + z)) E (e + (2 + z)) (m - (2 + z)) _ _ _ ?_ ?_ hs2 (by omega) (by omega)) GG_no rfl rfl rfl ⟨⟨_, rfl, rfl, rfl⟩, trivial⟩ ?_; (· (rw [eo, ez]; omega)); (· (rw [eo, ez]; omega)); rintro r bs' ext ⟨cy, hcy, rfl, rfl⟩)
        | (refine And.intro (by omega) ?_)
        | (refine BB.mk (fun _h => ?_) (fun _h => ?_) <;> (first | (exact absurd _h (by decide)) | (exfalso; simp only [boolSet] at _h <;> omega) | skip)))
      all_goals (try conv => whnf)
      all_goals exact ⟨⟨[0, 1], .tup [.s (.n 0) 1 0 0 0, .s (.n 1) 1 0 0 0, .v (.bool false)], [.row 5 1 0 [], .row 5 1 0 []], by decide, .inr ⟨_, _, rfl, rfl, .inr ⟨_, _, _, rfl, rfl⟩, .inr ⟨_, _, _, rfl, rfl⟩, .inl rfl, trivial⟩, ⟨.inl (.inl ⟨rfl, rfl⟩), .inl (.inl ⟨rfl, rfl⟩), trivial⟩, 0, 0, Nat.le_refl _, Nat.le_refl _, rfl, rfl⟩, rfl⟩
  · have hR : textT l most = ([], [], false) := by rw [textT, if_neg (by omega)]
    rw [hR]
    refine fn_newR (C := seat) seat_ok [(3, (.of [(0, .take), (1, .take), (2, .take), (3, .take), (4, .take), (5, .take), (6, .take), (7, .take), (8, .take), (9, .take), (10, .take)])), (6, (.of [(0, .take), (1, .take), (2, .take), (3, .take), (5, .take), (6, .take), (7, .take), (8, .take), (4, .do_), (9, .do_), (10, .take), (11, .take), (12, .take)]))] GG_no (Try.func11) rfl rfl rfl rfl rfl rfl ?_
    repeat' ((try conv => whnf); first
      | (with_reducible refine BB_true ?_)
      | (with_reducible refine BB_false ?_)
      | (with_reducible refine Both.mk ?_ ?_)
      | (with_reducible refine VS.mk ?_)
      | (refine PSem.go (C := seat) seat_ok ?_)
      | (refine And.intro (PlanOK.mk (by kernel_rfl) rfl (by kernel_rfl) (by kernel_rfl)) ?_)
      | (refine And.intro rfl (Exists.intro _ (And.intro (by first | assumption | rfl) ?_)))
      | (refine And.intro ⟨rfl, rfl, rfl⟩ ?_)
      | (refine And.intro (by omega) ?_)
      | (refine BB.mk (fun _h => ?_) (fun _h => ?_) <;> (first | (exact absurd _h (by decide)) | (exfalso; simp only [boolSet] at _h <;> omega) | skip)))
    all_goals (try conv => whnf)
    all_goals exact ⟨⟨[0, 1], .tup [.s (.n 0) 1 0 0 0, .s (.n 1) 1 0 0 0, .v (.bool false)], [.row 5 1 0 [], .row 5 1 0 []], by decide, .inr ⟨_, _, rfl, rfl, .inr ⟨_, _, _, rfl, rfl⟩, .inr ⟨_, _, _, rfl, rfl⟩, .inl rfl, trivial⟩, ⟨.inl (.inl ⟨rfl, rfl⟩), .inl (.inl ⟨rfl, rfl⟩), trivial⟩, 0, 0, Nat.le_refl _, Nat.le_refl _, rfl, rfl⟩, rfl⟩
end Go.Proofs.Ytcjegbcljipcbaa
