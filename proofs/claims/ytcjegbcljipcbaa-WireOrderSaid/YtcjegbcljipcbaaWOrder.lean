/- Law WireOrder, by computing. -/
import Derived.Test.YtcjegbcljipcbaaWBack
namespace Go.Proofs.Ytcjegbcljipcbaa
open Go.RowKit

theorem mod_two (a : Int) (X : Int) (h0 : 0 ≤ a) (h1 : a < 4294967296) (V : Int) (hV : V = (a + X * 4294967296) % 18446744073709551616) : ((V.toNat % 4294967296 : Nat) : Int) = a := by
  have hq : V = a + 4294967296 * (X - 4294967296 * ((a + X * 4294967296) / 18446744073709551616)) := by
    have := Int.emod_add_mul_ediv (a + X * 4294967296) 18446744073709551616
    generalize (a + X * 4294967296) / 18446744073709551616 = q at *
    omega
  have hv : 0 ≤ V := by rw [hV]; exact Int.emod_nonneg _ (by decide)
  clear hV
  generalize X - 4294967296 * ((a + X * 4294967296) / 18446744073709551616) = z at hq
  have h3 : ((V.toNat % 4294967296 : Nat) : Int) = V % 4294967296 := by rw [Int.natCast_emod, Int.toNat_of_nonneg hv]; rfl
  rw [h3, hq]
  omega
theorem sg_back (s : Int) (X : Nat) (h0 : -2147483648 ≤ s) (h1 : s ≤ 2147483647) : (((IntKind.u64.wrap (s + 2147483648 + IntKind.u64.wrap ((X : Int) * 2 ^ min (Int.toNat 32) IntKind.u64.bits))).toNat % 4294967296 : Nat) : Int) - 2147483648 = s := by
  have hV : IntKind.u64.wrap (s + 2147483648 + IntKind.u64.wrap ((X : Int) * 2 ^ min (Int.toNat 32) IntKind.u64.bits)) = (s + 2147483648 + (X : Int) * 4294967296) % 18446744073709551616 := by
    show IntKind.u64.wrap (s + 2147483648 + IntKind.u64.wrap ((X : Int) * 4294967296)) = _
    rw [IntKind.wrap_u64, IntKind.wrap_u64]; exact Int.add_emod_emod _ _ _
  rw [mod_two (s + 2147483648) (X : Int) (by omega) (by omega) _ hV]; omega
theorem sg_mod (X : Nat) : (X : Int).tmod 4294967296 = ((X % 4294967296 : Nat) : Int) := by
  rw [Int.tmod_eq_emod_of_nonneg (Int.natCast_nonneg X)]; omega
set_option maxRecDepth 100000 in
set_option maxHeartbeats 4000000 in
theorem wireOrder_few (x y n : Nat) (s t : Int) (hx : x < 2 ^ 64) (hy : y < 2 ^ 64) (hn : n ≤ 255) (hs0 : -2147483648 ≤ s) (hs1 : s ≤ 2147483647) (ht0 : -2147483648 ≤ t) (ht1 : t ≤ 2147483647) (K : Nat) (hK1 : 1 ≤ K) (hK2 : K ≤ 8) (ek : (IntKind.i64.wrap (1 + IntKind.i64.wrap ((n : Int).tmod 8))) = (K : Int)) (hk8 : K < 8) : FnOK Try.prog GG 5 [] [.v (.int .u64 x), .v (.int .u64 y), .v (.int .u8 n), .v (.int .i32 s), .v (.int .i32 t)] (fun r _ ext => r = .v (.bool true) ∧ ext = []) := by
  have e8 := e8_of ek hk8
  have e8z : 0 ≤ IntKind.i64.wrap (8 * (IntKind.i64.wrap (1 + IntKind.i64.wrap ((n : Int).tmod 8)))) := by rw [ek, IntKind.wrap_i64]; omega
  have e8n : IntKind.u64.wrap (1 * 2 ^ min (IntKind.i64.wrap (8 * (IntKind.i64.wrap (1 + IntKind.i64.wrap ((n : Int).tmod 8))))).toNat IntKind.u64.bits) ≠ 0 := by rw [e8]; have := Nat.pow_pos (n := K) (show 0 < 256 by decide); omega
  have hp := Nat.pow_pos (n := K) (show 0 < 256 by decide)
  have hX0 : (x % 256 ^ K) < 256 ^ K := Nat.mod_lt _ hp
  have hY0 : (y % 256 ^ K) < 256 ^ K := Nat.mod_lt _ hp
  have hXx : (x % 256 ^ K) ≤ x := Nat.mod_le _ _
  have hYy : (y % 256 ^ K) ≤ y := Nat.mod_le _ _
  have hX : ((x : Int).tmod (IntKind.u64.wrap (1 * 2 ^ min (IntKind.i64.wrap (8 * (IntKind.i64.wrap (1 + IntKind.i64.wrap ((n : Int).tmod 8))))).toNat IntKind.u64.bits))) = (((x % 256 ^ K) : Nat) : Int) := by rw [e8, tmod_nat]
  have hY : ((y : Int).tmod (IntKind.u64.wrap (1 * 2 ^ min (IntKind.i64.wrap (8 * (IntKind.i64.wrap (1 + IntKind.i64.wrap ((n : Int).tmod 8))))).toNat IntKind.u64.bits))) = (((y % 256 ^ K) : Nat) : Int) := by rw [e8, tmod_nat]
  obtain ⟨X, hXe⟩ : ∃ X, X = (x % 256 ^ K) := ⟨_, rfl⟩
  obtain ⟨Y, hYe⟩ : ∃ Y, Y = (y % 256 ^ K) := ⟨_, rfl⟩
  rw [← hXe] at hX hX0 hXx
  rw [← hYe] at hY hY0 hYy
  have hX64 : X < 2 ^ 64 := Nat.lt_of_le_of_lt hXx hx
  have hY64 : Y < 2 ^ 64 := Nat.lt_of_le_of_lt hYy hy
  have hput : ∀ y, putT [] y (IntKind.i64.wrap (1 + IntKind.i64.wrap ((n : Int).tmod 8))) = putB y K := fun y => by rw [ek, putT, if_pos ⟨by omega, by omega⟩]; rfl
  have hltS : Op.bytesLess (strOfNums (intsN (putB X K))).toList (strOfNums (intsN (putB Y K))).toList = decide (X < Y) := by
    rw [str_list, str_list, str_lt (putB_byte _ _) (putB_byte _ _), put_lt hX0 hY0]
  have heqS : ((strOfNums (intsN (putB X K))).toList == (strOfNums (intsN (putB Y K))).toList) = decide (X = Y) := by
    rw [str_eq (putB_byte _ _) (putB_byte _ _), decide_eq_decide]
    exact ⟨put_inj hX0 hY0, fun h => by rw [h]⟩
  have hlenS : ((strOfNums (intsN (putB X K))).size : Int) = K := by rw [strOfNums_size, List.length_map, putB_len]
  have hc1 : (((s + 2147483648).toNat % 4294967296 : Nat) : Int) - 2147483648 = s := by omega
  have hV : (IntKind.u64.wrap (s + 2147483648 + IntKind.u64.wrap (((x : Int).tmod (IntKind.u64.wrap (1 * 2 ^ min (IntKind.i64.wrap (8 * (IntKind.i64.wrap (1 + IntKind.i64.wrap ((n : Int).tmod 8))))).toNat IntKind.u64.bits))) * 2 ^ min (Int.toNat 32) IntKind.u64.bits))) = (s + 2147483648 + (X : Int) * 4294967296) % 18446744073709551616 := by
    rw [hX]
    show IntKind.u64.wrap (s + 2147483648 + IntKind.u64.wrap ((X : Int) * 4294967296)) = _
    rw [IntKind.wrap_u64, IntKind.wrap_u64]; exact Int.add_emod_emod _ _ _
  have hV0 : 0 ≤ (IntKind.u64.wrap (s + 2147483648 + IntKind.u64.wrap (((x : Int).tmod (IntKind.u64.wrap (1 * 2 ^ min (IntKind.i64.wrap (8 * (IntKind.i64.wrap (1 + IntKind.i64.wrap ((n : Int).tmod 8))))).toNat IntKind.u64.bits))) * 2 ^ min (Int.toNat 32) IntKind.u64.bits))) := by rw [hV]; exact Int.emod_nonneg _ (by decide)
  have hV1 : ((IntKind.u64.wrap (s + 2147483648 + IntKind.u64.wrap (((x : Int).tmod (IntKind.u64.wrap (1 * 2 ^ min (IntKind.i64.wrap (8 * (IntKind.i64.wrap (1 + IntKind.i64.wrap ((n : Int).tmod 8))))).toNat IntKind.u64.bits))) * 2 ^ min (Int.toNat 32) IntKind.u64.bits)))).toNat < 2 ^ 64 := by
    have h1 := Int.emod_lt_of_pos (s + 2147483648 + (X : Int) * 4294967296) (show (0 : Int) < 18446744073709551616 by decide)
    rw [← hV] at h1
    clear hV
    omega
  have gX := hX
  have gY := hY
  rw [ek] at gX gY
  refine fn_val (C := seat) seat_ok [(3, (.of [(0, .take), (1, .take), (2, .take), (3, .take), (4, .take), (5, .take), (6, .take), (7, .take), (8, .take), (9, .take), (10, .take), (11, .take)])), (4, (.op 0 .take (.op 1 .take (.op 4 .take (.op 5 .take (.op 2 .do_ (.fork 3 (.of [(6, .do_), (8, .take), (7, .do_), (9, .take)]) (.op 6 .do_ (.fork 3 (.of [(8, .take), (7, .do_), (9, .take)]) (.of [(7, .do_), (3, .do_), (8, .take), (9, .take)]))))))))))] GG_no (Try.func5) rfl rfl rfl rfl rfl (fun _ => rfl) rfl ?_
  repeat' ((try conv => whnf); first
    | (with_reducible refine BB_true ?_)
    | (with_reducible refine BB_false ?_)
    | (with_reducible refine Both.mk ?_ ?_)
    | (with_reducible refine VS.mk ?_)
    | (refine PSem.go (C := seat) seat_ok ?_)
    | (refine And.intro (PlanOK.mk (by kernel_rfl) rfl (by kernel_rfl) (by kernel_rfl)) ?_)
    | (refine And.intro rfl (Exists.intro _ (And.intro (by first | assumption | rfl) ?_)))
    | (refine And.intro ⟨rfl, rfl, rfl⟩ ?_)
    | (refine call_roN [.g 0] (put_is [] [] 0 0 0 X _ _ hX rfl (by decide) (by decide) hX64 (putB X K) (hput X)) GG_no rfl rfl ⟨.inr ⟨_, _, _, rfl, rfl⟩, .inl rfl, .inl rfl, trivial⟩ ⟨.inr ⟨rfl, _, rfl⟩, trivial⟩ ?_; rintro r bs' ext ⟨cp, hcp, rfl, rfl⟩)
    | (refine call_roN [.g 0] (put_is [] [] 0 0 0 Y _ _ hY rfl (by decide) (by decide) hY64 (putB Y K) (hput Y)) GG_no rfl rfl ⟨.inr ⟨_, _, _, rfl, rfl⟩, .inl rfl, .inl rfl, trivial⟩ ⟨.inr ⟨rfl, _, rfl⟩, trivial⟩ ?_; rintro r bs' ext ⟨cq, hcq, rfl, rfl⟩)
    | (refine Exists.intro (intsN (putB X K)) (And.intro ((all_row (putB X K)).trans (bN_ints _)) ?_))
    | (refine Exists.intro (intsN (putB Y K)) (And.intro ((all_row (putB Y K)).trans (bN_ints _)) ?_))
    | (refine And.intro ⟨rfl, by rw [List.length_map]; omega⟩ ?_)
    | (refine call_ro [] (unsigned_p s hs0 hs1) GG_no rfl rfl rfl trivial ?_; rintro r bs' ext ⟨rfl, rfl⟩)
    | (refine call_ro [] (unsigned_p t ht0 ht1) GG_no rfl rfl rfl trivial ?_; rintro r bs' ext ⟨rfl, rfl⟩)
    | (refine call_ro [] (signed_at (s + 2147483648).toNat (s + 2147483648) (by omega) (by omega)) GG_no rfl rfl rfl trivial ?_; rintro r bs' ext ⟨rfl, rfl⟩)
    | (refine call_ro [] (signed_at X ((x : Int).tmod (IntKind.u64.wrap (1 * 2 ^ min (IntKind.i64.wrap (8 * (IntKind.i64.wrap (1 + IntKind.i64.wrap ((n : Int).tmod 8))))).toNat IntKind.u64.bits))) hX hX64) GG_no rfl rfl rfl trivial ?_; rintro r bs' ext ⟨rfl, rfl⟩)
    | (refine call_ro [] (signed_at ((IntKind.u64.wrap (s + 2147483648 + IntKind.u64.wrap (((x : Int).tmod (IntKind.u64.wrap (1 * 2 ^ min (IntKind.i64.wrap (8 * (IntKind.i64.wrap (1 + IntKind.i64.wrap ((n : Int).tmod 8))))).toNat IntKind.u64.bits))) * 2 ^ min (Int.toNat 32) IntKind.u64.bits)))).toNat _ (Int.toNat_of_nonneg hV0).symm hV1) GG_no rfl rfl rfl trivial ?_; rintro r bs' ext ⟨rfl, rfl⟩)
    | (refine call_ro [] (unsigned_p (((X % 4294967296 : Nat) : Int) - 2147483648) (by omega) (by omega)) GG_no rfl rfl rfl trivial ?_; rintro r bs' ext ⟨rfl, rfl⟩)
    | (refine call_ro [] (awake_ok) GG_no rfl rfl rfl trivial ?_; rintro r bs' ext ⟨rfl, rfl⟩)
    | (refine And.intro e8z ?_)
    | (refine And.intro e8n ?_)
    | (refine And.intro (by decide) ?_)
    | (refine And.intro (by omega) ?_)
    | (refine BB.mk (fun _h => ?_) (fun _h => ?_) <;> (first | (exact absurd _h (by decide)) | (exfalso; simp only [ek, hltS, heqS, hlenS, hc1, sg_back s X hs0 hs1, sg_mod X, gX, gY, boolSet] at _h <;> omega) | skip)))
  all_goals (try conv => whnf)
  all_goals first
    | exact Fin.mk ⟨rfl, rfl⟩
    | (exfalso; simp only [ek, hltS, heqS, hlenS, hc1, sg_back s X hs0 hs1, sg_mod X, gX, gY, boolSet] at _h <;> omega)
set_option maxRecDepth 100000 in
set_option maxHeartbeats 4000000 in
theorem wireOrder_all (x y n : Nat) (s t : Int) (hx : x < 2 ^ 64) (hy : y < 2 ^ 64) (hn : n ≤ 255) (hs0 : -2147483648 ≤ s) (hs1 : s ≤ 2147483647) (ht0 : -2147483648 ≤ t) (ht1 : t ≤ 2147483647) (K : Nat) (hK1 : 1 ≤ K) (hK2 : K ≤ 8) (ek : (IntKind.i64.wrap (1 + IntKind.i64.wrap ((n : Int).tmod 8))) = (K : Int)) (hk8 : ¬ K < 8) : FnOK Try.prog GG 5 [] [.v (.int .u64 x), .v (.int .u64 y), .v (.int .u8 n), .v (.int .i32 s), .v (.int .i32 t)] (fun r _ ext => r = .v (.bool true) ∧ ext = []) := by
  have e8z : True := trivial
  have e8n : True := trivial
  have hK8 : K = 8 := by omega
  have hX0 : x < 256 ^ K := by rw [hK8]; exact hx
  have hY0 : y < 256 ^ K := by rw [hK8]; exact hy
  have hXx : x ≤ x := Nat.le_refl _
  have hYy : y ≤ y := Nat.le_refl _
  have hX : (x : Int) = ((x : Nat) : Int) := rfl
  have hY : (y : Int) = ((y : Nat) : Int) := rfl
  have hX64 : x < 2 ^ 64 := hx
  have hY64 : y < 2 ^ 64 := hy
  have hput : ∀ y, putT [] y (IntKind.i64.wrap (1 + IntKind.i64.wrap ((n : Int).tmod 8))) = putB y K := fun y => by rw [ek, putT, if_pos ⟨by omega, by omega⟩]; rfl
  have hltS : Op.bytesLess (strOfNums (intsN (putB x K))).toList (strOfNums (intsN (putB y K))).toList = decide (x < y) := by
    rw [str_list, str_list, str_lt (putB_byte _ _) (putB_byte _ _), put_lt hX0 hY0]
  have heqS : ((strOfNums (intsN (putB x K))).toList == (strOfNums (intsN (putB y K))).toList) = decide (x = y) := by
    rw [str_eq (putB_byte _ _) (putB_byte _ _), decide_eq_decide]
    exact ⟨put_inj hX0 hY0, fun h => by rw [h]⟩
  have hlenS : ((strOfNums (intsN (putB x K))).size : Int) = K := by rw [strOfNums_size, List.length_map, putB_len]
  have hc1 : (((s + 2147483648).toNat % 4294967296 : Nat) : Int) - 2147483648 = s := by omega
  have hV : (IntKind.u64.wrap (s + 2147483648 + IntKind.u64.wrap ((x : Int) * 2 ^ min (Int.toNat 32) IntKind.u64.bits))) = (s + 2147483648 + (x : Int) * 4294967296) % 18446744073709551616 := by
    rw [hX]
    show IntKind.u64.wrap (s + 2147483648 + IntKind.u64.wrap ((x : Int) * 4294967296)) = _
    rw [IntKind.wrap_u64, IntKind.wrap_u64]; exact Int.add_emod_emod _ _ _
  have hV0 : 0 ≤ (IntKind.u64.wrap (s + 2147483648 + IntKind.u64.wrap ((x : Int) * 2 ^ min (Int.toNat 32) IntKind.u64.bits))) := by rw [hV]; exact Int.emod_nonneg _ (by decide)
  have hV1 : ((IntKind.u64.wrap (s + 2147483648 + IntKind.u64.wrap ((x : Int) * 2 ^ min (Int.toNat 32) IntKind.u64.bits)))).toNat < 2 ^ 64 := by
    have h1 := Int.emod_lt_of_pos (s + 2147483648 + (x : Int) * 4294967296) (show (0 : Int) < 18446744073709551616 by decide)
    rw [← hV] at h1
    clear hV
    omega
  refine fn_val (C := seat) seat_ok [(3, (.of [(0, .take), (1, .take), (2, .take), (3, .take), (4, .take), (5, .take), (6, .take), (7, .take), (8, .take), (9, .take), (10, .take), (11, .take)])), (4, (.op 0 .take (.op 1 .take (.op 4 .take (.op 5 .take (.op 2 .do_ (.fork 3 (.of [(6, .do_), (8, .take), (7, .do_), (9, .take)]) (.op 6 .do_ (.fork 3 (.of [(8, .take), (7, .do_), (9, .take)]) (.of [(7, .do_), (3, .do_), (8, .take), (9, .take)]))))))))))] GG_no (Try.func5) rfl rfl rfl rfl rfl (fun _ => rfl) rfl ?_
  repeat' ((try conv => whnf); first
    | (with_reducible refine BB_true ?_)
    | (with_reducible refine BB_false ?_)
    | (with_reducible refine Both.mk ?_ ?_)
    | (with_reducible refine VS.mk ?_)
    | (refine PSem.go (C := seat) seat_ok ?_)
    | (refine And.intro (PlanOK.mk (by kernel_rfl) rfl (by kernel_rfl) (by kernel_rfl)) ?_)
    | (refine And.intro rfl (Exists.intro _ (And.intro (by first | assumption | rfl) ?_)))
    | (refine And.intro ⟨rfl, rfl, rfl⟩ ?_)
    | (refine call_roN [.g 0] (put_is [] [] 0 0 0 x _ _ hX rfl (by decide) (by decide) hX64 (putB x K) (hput x)) GG_no rfl rfl ⟨.inr ⟨_, _, _, rfl, rfl⟩, .inl rfl, .inl rfl, trivial⟩ ⟨.inr ⟨rfl, _, rfl⟩, trivial⟩ ?_; rintro r bs' ext ⟨cp, hcp, rfl, rfl⟩)
    | (refine call_roN [.g 0] (put_is [] [] 0 0 0 y _ _ hY rfl (by decide) (by decide) hY64 (putB y K) (hput y)) GG_no rfl rfl ⟨.inr ⟨_, _, _, rfl, rfl⟩, .inl rfl, .inl rfl, trivial⟩ ⟨.inr ⟨rfl, _, rfl⟩, trivial⟩ ?_; rintro r bs' ext ⟨cq, hcq, rfl, rfl⟩)
    | (refine Exists.intro (intsN (putB x K)) (And.intro ((all_row (putB x K)).trans (bN_ints _)) ?_))
    | (refine Exists.intro (intsN (putB y K)) (And.intro ((all_row (putB y K)).trans (bN_ints _)) ?_))
    | (refine And.intro ⟨rfl, by rw [List.length_map]; omega⟩ ?_)
    | (refine call_ro [] (unsigned_p s hs0 hs1) GG_no rfl rfl rfl trivial ?_; rintro r bs' ext ⟨rfl, rfl⟩)
    | (refine call_ro [] (unsigned_p t ht0 ht1) GG_no rfl rfl rfl trivial ?_; rintro r bs' ext ⟨rfl, rfl⟩)
    | (refine call_ro [] (signed_at (s + 2147483648).toNat (s + 2147483648) (by omega) (by omega)) GG_no rfl rfl rfl trivial ?_; rintro r bs' ext ⟨rfl, rfl⟩)
    | (refine call_ro [] (signed_at x (x : Int) hX hX64) GG_no rfl rfl rfl trivial ?_; rintro r bs' ext ⟨rfl, rfl⟩)
    | (refine call_ro [] (signed_at ((IntKind.u64.wrap (s + 2147483648 + IntKind.u64.wrap ((x : Int) * 2 ^ min (Int.toNat 32) IntKind.u64.bits)))).toNat _ (Int.toNat_of_nonneg hV0).symm hV1) GG_no rfl rfl rfl trivial ?_; rintro r bs' ext ⟨rfl, rfl⟩)
    | (refine call_ro [] (unsigned_p (((x % 4294967296 : Nat) : Int) - 2147483648) (by omega) (by omega)) GG_no rfl rfl rfl trivial ?_; rintro r bs' ext ⟨rfl, rfl⟩)
    | (refine call_ro [] (awake_ok) GG_no rfl rfl rfl trivial ?_; rintro r bs' ext ⟨rfl, rfl⟩)
    | (refine And.intro e8z ?_)
    | (refine And.intro e8n ?_)
    | (refine And.intro (by decide) ?_)
    | (refine And.intro (by omega) ?_)
    | (refine BB.mk (fun _h => ?_) (fun _h => ?_) <;> (first | (exact absurd _h (by decide)) | (exfalso; simp only [ek, hltS, heqS, hlenS, hc1, sg_back s x hs0 hs1, sg_mod x, boolSet] at _h <;> omega) | skip)))
  all_goals (try conv => whnf)
  all_goals first
    | exact Fin.mk ⟨rfl, rfl⟩
    | (exfalso; simp only [ek, hltS, heqS, hlenS, hc1, sg_back s x hs0 hs1, sg_mod x, boolSet] at _h <;> omega)
set_option maxRecDepth 100000 in
set_option maxHeartbeats 4000000 in
theorem wireOrder_ok (x y n : Nat) (s t : Int) (hx : x < 2 ^ 64) (hy : y < 2 ^ 64) (hn : n ≤ 255) (hs0 : -2147483648 ≤ s) (hs1 : s ≤ 2147483647) (ht0 : -2147483648 ≤ t) (ht1 : t ≤ 2147483647) : FnOK Try.prog GG 5 [] [.v (.int .u64 x), .v (.int .u64 y), .v (.int .u8 n), .v (.int .i32 s), .v (.int .i32 t)] (fun r _ ext => r = .v (.bool true) ∧ ext = []) := by
  have ek := ek_of n
  by_cases hk8 : 1 + n % 8 < 8
  · exact wireOrder_few x y n s t hx hy hn hs0 hs1 ht0 ht1 _ (by omega) (by omega) ek hk8
  · exact wireOrder_all x y n s t hx hy hn hs0 hs1 ht0 ht1 _ (by omega) (by omega) ek hk8
end Go.Proofs.Ytcjegbcljipcbaa
