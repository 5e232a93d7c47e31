/- Package wire, by computing: what is taken. -/
import Derived.Test.YtcjegbcljipcbaaW01b
namespace Go.Proofs.Ytcjegbcljipcbaa
open Go.RowKit

theorem sub_row {l : List Nat} {E : List (List Value)} {e m a k : Nat} (h : (E.drop e).take m = l.map bN) (hk : a + k ≤ m) : (E.drop (e + a)).take k = ((l.drop a).take k).map bN := by
  rw [List.map_take, List.map_drop, ← h, List.drop_take, List.take_take, List.drop_drop, Nat.min_eq_left (by omega)]
theorem at_row {l : List Nat} {E : List (List Value)} {e m k y : Nat} (h : (E.drop e).take m = l.map bN) (hy : l[k]? = some y) : E[e + (k : Int).toNat]? = some [.int .u8 (y : Int)] := by
  have h1 : ((E.drop e).take m)[k]? = some (bN y) := by rw [h, List.getElem?_map, hy]; rfl
  rw [List.getElem?_take] at h1
  split at h1
  · rw [List.getElem?_drop] at h1
    rw [Int.toNat_natCast, h1]
    rfl
  · cases h1
theorem or_byte {x y : Nat} (hx : x < 2 ^ 56) (hy : y < 256) : IntKind.u64.wrap ((BitVec.ofInt IntKind.u64.bits (IntKind.u64.wrap ((x : Int) * 2 ^ min (Int.toNat 8) IntKind.u64.bits)) ||| BitVec.ofInt IntKind.u64.bits (IntKind.u64.wrap (y : Int))).toNat : Int) = ((x * 256 + y : Nat) : Int) := by
  have e1 : IntKind.u64.wrap ((x : Int) * 2 ^ min (Int.toNat 8) IntKind.u64.bits) = ((x * 256 : Nat) : Int) := by
    show IntKind.u64.wrap ((x : Int) * 256) = _
    rw [IntKind.wrap_u64]; omega
  have e2 : IntKind.u64.wrap (y : Int) = (y : Int) := by rw [IntKind.wrap_u64]; omega
  rw [e1, e2]
  show IntKind.u64.wrap ((BitVec.ofInt 64 ((x * 256 : Nat) : Int) ||| BitVec.ofInt 64 (y : Int)).toNat : Int) = _
  have e3 : x * 256 ||| y = x * 256 + y := by
    have := Nat.shiftLeft_add_eq_or_of_lt (b := y) (i := 8) (by omega) x
    rw [Nat.shiftLeft_eq] at this
    exact this.symm
  rw [BitVec.toNat_or, BitVec.toNat_ofInt, BitVec.toNat_ofInt, show (((x * 256 : Nat) : Int) % ((2 ^ 64 : Nat) : Int)).toNat = x * 256 by omega, show ((y : Int) % ((2 ^ 64 : Nat) : Int)).toNat = y by omega, e3, IntKind.wrap_u64]
  omega
def takeT (l : List Nat) (n : Int) : Nat × List Nat × Bool := if 1 ≤ n ∧ n ≤ 8 ∧ n ≤ l.length then (takeN (l.take n.toNat), l.drop n.toNat, true) else (0, [], false)
theorem take_lt {l : List Nat} {k : Nat} (hl : ∀ x ∈ l, x < 256) (hk : k ≤ 7) : takeN (l.take k) < 2 ^ 56 := by
  have h1 := takeN_lt (l.take k) (fun x hx => hl x (List.mem_of_mem_take hx))
  have h2 : 256 ^ (l.take k).length ≤ 256 ^ 7 := Nat.pow_le_pow_right (by decide) (by rw [List.length_take]; omega)
  exact Nat.lt_of_lt_of_le h1 h2
theorem take_next {l : List Nat} {k y : Nat} (hy : l[k]? = some y) : takeN (l.take (k + 1)) = takeN (l.take k) * 256 + y := by
  rw [List.take_add_one, hy, Option.toList_some, takeN_snoc]
set_option maxRecDepth 100000 in
set_option maxHeartbeats 4000000 in
theorem take_ok (l : List Nat) (E : List (List Value)) (e m c : Nat) (n : Int) (h : (E.drop e).take m = l.map bN) (hb : e + m ≤ E.length) (hc : m ≤ c) (hl : m ≤ 1000000000) (hl8 : ∀ x ∈ l, x < 256) : FnOK Try.prog GG 9 [.ro 1 E] [.s (.o 0) 1 e m c, .v (.int .i64 n)] (fun r _ ext => ∃ cap, (takeT l n).2.1.length ≤ cap ∧ r = .tup [.v (.int .u64 ((takeT l n).1 : Nat)), .s (.n 0) 1 0 (takeT l n).2.1.length cap, .v (.bool (takeT l n).2.2)] ∧ ext = [.row 5 1 cap ((takeT l n).2.1.map bN)]) := by
  have hm := bN_all h hb
  have hmin : (bif false then (if (m : Int) > 8 then (m : Int) else 8) else (if (m : Int) < 8 then (m : Int) else 8)) = min (8 : Int) m := by simp only [cond_false]; split <;> omega
  by_cases hn : 1 ≤ n ∧ n ≤ 8 ∧ n ≤ l.length
  · have hw : (decide (1 ≤ n) && decide (n ≤ (bif false then (if (m : Int) > 8 then (m : Int) else 8) else (if (m : Int) < 8 then (m : Int) else 8)))) = true := by rw [hmin]; simp; omega
    obtain ⟨N, rfl⟩ := Int.eq_ofNat_of_zero_le (show 0 ≤ n by omega)
    have hR : takeT l (N : Int) = (takeN (l.take N), l.drop N, true) := by rw [takeT, if_pos hn]; rfl
    rw [hR]
    refine fn_newR (C := seat) seat_ok [] GG_no (Try.func9) rfl rfl rfl rfl rfl rfl ?_
    repeat' ((try conv => whnf); first
      | (with_reducible refine BB_true ?_)
      | (with_reducible refine BB_false ?_)
      | (with_reducible refine Both.mk ?_ ?_)
      | (with_reducible refine VS.mk ?_)
      | (refine PSem.go (C := seat) seat_ok ?_)
      | (refine And.intro (PlanOK.mk (by kernel_rfl) rfl (by kernel_rfl) (by kernel_rfl)) ?_)
      | (refine And.intro rfl (Exists.intro _ (And.intro (by first | assumption | rfl) ?_)))
      | (refine And.intro ⟨rfl, rfl, rfl⟩ ?_)
      | (refine call_ro [] (within_ok _ _) GG_no rfl rfl rfl trivial ?_; rintro r bs' ext ⟨rfl, rfl⟩)
      | (refine call_ro [_, _] (within1_is (N : Int) _ _ true hw) GG_no rfl rfl rfl ⟨⟨_, rfl, _, rfl, rfl, rfl, rfl⟩, ⟨_, rfl, _, rfl, rfl, rfl, rfl⟩, trivial⟩ ?_; rintro r bs' ext ⟨rfl, rfl⟩)
      | (refine And.intro (by omega) ?_)
      | (refine BB.mk (fun _h => ?_) (fun _h => ?_) <;> (first | (exact absurd _h (by decide)) | (exfalso; simp only [boolSet] at _h <;> omega) | skip)))
    all_goals (try conv => whnf)
    refine loop_rule (α := Nat) (fun k => k ≤ N) (fun k => { slots := [(0, .s (.o 0) 1 e m c), (1, .v (.int .i64 N)), (7, .v (.int .u64 (takeN (l.take k) : Nat))), (16, .v (.int .i64 N)), (17, .v (.int .i64 (k : Int)))], nt := 34, mem := ⟨GG, [.ro 1 E], []⟩ }) (fun k => N - k) 0 (Nat.zero_le _) ⟨⟨[], List.nodup_nil, GG_no, rfl, (SubOld.refl _ rfl), trivial, ⟨.inl rfl, .inl rfl, .inl rfl, .inl rfl, .inl rfl, trivial⟩⟩, rfl⟩ ?_ (fun _ => rfl)
    rintro k hk
    refine vc_sound (C := seat) seat_ok (pl := []) ?_
    by_cases hlt : k < N
    · obtain ⟨y, hy⟩ : ∃ y, l[k]? = some y := ⟨_, List.getElem?_eq_getElem (by omega)⟩
      have hrow := at_row h hy
      have hy8 := hl8 y (List.mem_of_getElem? hy)
      have e1 := or_byte (take_lt (k := k) hl8 (by omega)) hy8
      have e2 := take_next hy
      repeat' ((try conv => whnf); first
        | (with_reducible refine BB_true ?_)
        | (with_reducible refine BB_false ?_)
        | (with_reducible refine Both.mk ?_ ?_)
        | (with_reducible refine VS.mk ?_)
        | (refine PSem.go (C := seat) seat_ok ?_)
        | (refine And.intro (PlanOK.mk (by kernel_rfl) rfl (by kernel_rfl) (by kernel_rfl)) ?_)
        | (refine And.intro rfl (Exists.intro _ (And.intro (by first | assumption | rfl) ?_)))
        | (refine And.intro ⟨rfl, rfl, rfl⟩ ?_)
        | (refine And.intro ⟨by omega, by omega⟩ ?_)
        | (refine And.intro (by omega) ?_)
        | (refine BB.mk (fun _h => ?_) (fun _h => ?_) <;> (first | (exact absurd _h (by decide)) | (exfalso; simp only [boolSet] at _h <;> omega) | skip)))
      all_goals (try conv => whnf)
      exact ⟨k + 1, by omega, by omega, ⟨⟨[], List.nodup_nil, GG_no, rfl, SubOld.refl _ rfl, trivial, ⟨.inl rfl, .inl rfl, .inl (num_eq (by rw [e1, e2])), .inl rfl, .inl (num_eq (by rw [IntKind.wrap_i64]; omega)), trivial⟩⟩, rfl⟩⟩
    · obtain rfl : k = N := by omega
      have hsub : (E.drop (e + k)).take (m - k) = (l.drop k).map bN := by
        rw [sub_row (a := k) (k := m - k) h (by omega), List.take_of_length_le (l := l.drop k) (by rw [List.length_drop]; omega)]
      repeat' ((try conv => whnf); first
        | (with_reducible refine BB_true ?_)
        | (with_reducible refine BB_false ?_)
        | (with_reducible refine Both.mk ?_ ?_)
        | (with_reducible refine VS.mk ?_)
        | (refine PSem.go (C := seat) seat_ok ?_)
        | (refine And.intro (PlanOK.mk (by kernel_rfl) rfl (by kernel_rfl) (by kernel_rfl)) ?_)
        | (refine And.intro rfl (Exists.intro _ (And.intro (by first | assumption | rfl) ?_)))
        | (refine And.intro ⟨rfl, rfl, rfl⟩ ?_)
        | (refine And.intro ⟨by omega, by omega, by omega⟩ ?_)
        | (refine call_ro [.o 0] (own_ok (l.drop k) _ _ _ _ hsub (by omega) (by omega)) GG_no rfl rfl rfl ⟨⟨_, rfl, rfl, rfl⟩, trivial⟩ ?_; rintro r bs' ext ⟨ca, hca, rfl, rfl⟩)
        | (refine And.intro (by omega) ?_)
        | (refine BB.mk (fun _h => ?_) (fun _h => ?_) <;> (first | (exact absurd _h (by decide)) | (exfalso; simp only [boolSet] at _h <;> omega) | skip)))
      all_goals (try conv => whnf)
      have hd : (l.drop k).length = m - k := by rw [List.length_drop]; omega
      exact ⟨⟨[0], .tup [.v (.int .u64 (takeN (l.take k) : Nat)), .s (.n 0) 1 0 (l.drop k).length ca, .v (.bool true)], [.row 5 1 ca ((l.drop k).map bN)], by decide, .inr ⟨_, _, rfl, rfl, .inl rfl, .inl rfl, .inl rfl, trivial⟩, ⟨.inr rfl, trivial⟩, ca, hca, rfl, rfl⟩, rfl⟩
  · have hw : (decide (1 ≤ n) && decide (n ≤ (bif false then (if (m : Int) > 8 then (m : Int) else 8) else (if (m : Int) < 8 then (m : Int) else 8)))) = false := by rw [hmin, ← Bool.not_eq_true]; simp; omega
    have hR : takeT l n = (0, [], false) := by rw [takeT, if_neg hn]
    rw [hR]
    refine fn_newR (C := seat) seat_ok [] GG_no (Try.func9) rfl rfl rfl rfl rfl rfl ?_
    repeat' ((try conv => whnf); first
      | (with_reducible refine BB_true ?_)
      | (with_reducible refine BB_false ?_)
      | (with_reducible refine Both.mk ?_ ?_)
      | (with_reducible refine VS.mk ?_)
      | (refine PSem.go (C := seat) seat_ok ?_)
      | (refine And.intro (PlanOK.mk (by kernel_rfl) rfl (by kernel_rfl) (by kernel_rfl)) ?_)
      | (refine And.intro rfl (Exists.intro _ (And.intro (by first | assumption | rfl) ?_)))
      | (refine And.intro ⟨rfl, rfl, rfl⟩ ?_)
      | (refine call_ro [] (within_ok _ _) GG_no rfl rfl rfl trivial ?_; rintro r bs' ext ⟨rfl, rfl⟩)
      | (refine call_ro [_, _] (within1_is n _ _ false hw) GG_no rfl rfl rfl ⟨⟨_, rfl, _, rfl, rfl, rfl, rfl⟩, ⟨_, rfl, _, rfl, rfl, rfl, rfl⟩, trivial⟩ ?_; rintro r bs' ext ⟨rfl, rfl⟩)
      | (refine And.intro (by omega) ?_)
      | (refine BB.mk (fun _h => ?_) (fun _h => ?_) <;> (first | (exact absurd _h (by decide)) | (exfalso; simp only [boolSet] at _h <;> omega) | skip)))
    all_goals (try conv => whnf)
    exact ⟨⟨[0], .tup [.v (.int .u64 (0 : Nat)), .s (.n 0) 1 0 0 0, .v (.bool false)], [.row 5 1 0 []], by decide, .inr ⟨_, _, rfl, rfl, .inl rfl, .inr ⟨_, _, _, rfl, rfl⟩, .inl rfl, trivial⟩, ⟨.inl (.inl ⟨rfl, rfl⟩), trivial⟩, 0, Nat.le_refl _, rfl, rfl⟩, rfl⟩
end Go.Proofs.Ytcjegbcljipcbaa
