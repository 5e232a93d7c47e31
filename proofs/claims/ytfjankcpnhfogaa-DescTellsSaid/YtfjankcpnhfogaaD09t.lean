/- Law DescNewer, by computing. -/
import Derived.Test.YtfjankcpnhfogaaD09s
namespace Go.Proofs.Ytfjankcpnhfogaa
open Go.RowKit

theorem row_cut {ρ : Plc} {b : Nat × Nat} {t sz cap : Nat} {X Y : List (List CV)} {w : World} (h : BlkOK ρ b (.row t sz cap (X ++ Y)) w) : BlkOK ρ b (.row t sz cap X) w := by
  obtain ⟨raw, hR, h0, h1, h2⟩ := h
  have hl := hR.1
  rw [List.length_append] at hl
  have hX : (raw.take X.length).length = X.length := by rw [List.length_take]; omega
  have hRX := hR.take X.length
  rw [List.take_left' rfl] at hRX
  refine ⟨raw.take X.length, hRX, by rw [hX]; omega, fun c hc => h1 c (List.mem_of_mem_take hc), fun hc0 => ?_⟩
  obtain ⟨e0, hcm, cur, hw, hcs, htk⟩ := h2 hc0
  refine ⟨e0, hcm, cur, hw, hcs, ?_⟩
  rw [hX, ← (flat_take (fun d hd => (h1 d hd).1) X.length (by omega)).1, ← htk, List.take_take, Nat.min_eq_left (Nat.mul_le_mul_right _ (by omega))]
/-- What lies behind a row's first elements is no more told. -/
theorem call_cut {P : Program} {keep : Bool} {m : Mem} {n : Nat} {f : Nat} {args : List SV} {K : SV → Mem → Prop} (b : Nat) {t sz cap : Nat} {X Y : List (List CV)} (hl : m.look (.n b) = some (.row t sz cap (X ++ Y))) (h : CallSem P keep (m.set (.n b) (.row t sz cap X)) n f args K) : CallSem P keep m n f args K :=
  ⟨fun E ρ w us hE hH hr => h.out E ρ w us hE (hH.set (by simp) hl (.inr rfl) (fun h => h) (fun h => h) (row_cut (hH.mem.blk _ _ hl)) rfl rfl rfl rfl (fun _ _ => rfl)) hr⟩
abbrev mxI (z : Int) : Int := bif true then (if (1 : Int) > z then 1 else z) else (if (1 : Int) < z then 1 else z)
theorem mxI_ne {z : Int} (h : 0 ≤ z) : mxI z ≠ 0 := by
  unfold mxI
  simp only [cond_true]
  split <;> omega
abbrev xD (a : De) : De := ⟨a.node, mxI a.inc, a.age, a.fl⟩
abbrev yD (a b : De) : De := ⟨a.node, mxI b.inc, b.age, b.fl⟩
set_option maxRecDepth 100000 in
set_option maxHeartbeats 4000000 in
theorem newerBad (l : List De) (cap : Nat) (a b : De) (ca cb : Nat) (self : Int) (hl : l.length ≤ 9223372036854775807) (hok : ∀ y ∈ l, DeOk y) (ha : DeOk a) (hb : DeOk b) (hca : a.fl.length ≤ ca) (hcb : b.fl.length ≤ cb) (hbad : (l.all (fun d => decide (d.fl.length ≤ 8)) && decide (l.length ≤ 20)) = false ∨ 8 < a.fl.length ∨ 8 < b.fl.length) : FnOK Try.prog GG 5 [.ro 4 (l.map deC)] [.s (.o 0) 4 0 l.length cap, deS a ca, deS b cb, .v (.int .u8 self)] (fun r _ ext => r = .v (.bool true) ∧ ext = []) := by
  cases hfew : (l.all (fun d => decide (d.fl.length ≤ 8)) && decide (l.length ≤ 20)) with
  | false =>
    refine fn_val (C := seat) seat_ok [(3, (.of [(0, .take), (1, .take), (2, .take), (3, .take), (4, .take), (5, .take), (6, .take), (7, .take), (8, .take), (9, .do_), (10, .take), (11, .do_), (12, .take), (13, .last)])), (6, (.op 0 .take (.op 1 .take (.op 3 .take (.op 4 .take (.seq 1 [true, true, true, true, true, true, true, false] (.fork 2 (.fork 5 (.of [(6, .do_)]) (.of [(6, .do_), (5, .do_)])) (.of [(6, .do_), (2, .do_), (5, .do_)])) (.of [(7, .last)]))))))), (8, (.of [(0, .take), (1, .take), (2, .take), (4, .take), (5, .take), (6, .take), (3, .last), (7, .last), (8, .last), (9, .last)])), (17, (.of [(0, .take), (1, .take), (2, .take), (3, .take), (4, .take), (5, .do_), (6, .take), (7, .take), (8, .take), (9, .take), (10, .take), (11, .take), (12, .take), (13, .take), (14, .take), (15, .take), (16, .take), (17, .do_), (18, .take), (19, .take), (20, .take), (21, .take), (22, .do_), (23, .take), (24, .take), (25, .do_), (26, .take), (27, .take)]))] GG_no (Try.func5) rfl rfl rfl rfl rfl (fun _ => rfl) rfl ?_
    repeat' ((try conv => whnf); first
      | (with_reducible refine OKv.go (C := seat) seat_ok ?_)
      | (with_reducible refine BB_true ?_)
      | (with_reducible refine BB_false ?_)
      | (with_reducible refine Both.mk ?_ ?_)
      | (with_reducible refine VS.mk ?_)
      | (refine PSem.go (C := seat) seat_ok ?_)
      | (refine And.intro (PlanOK.mk (by kernel_rfl) rfl (by kernel_rfl) (by kernel_rfl)) ?_)
      | (refine And.intro rfl (Exists.intro _ (And.intro (by first | assumption | rfl) ?_)))
      | (refine And.intro ⟨rfl, rfl, rfl⟩ ?_)
      | (refine call_ro [.o 0] (few_b l cap _ hl hfew) GG_no rfl rfl rfl ⟨⟨_, rfl, rfl, rfl⟩, trivial⟩ ?_; rintro r bs' ext ⟨rfl, rfl⟩)
      | (refine call_ro [] (awake_ok) GG_no rfl rfl rfl trivial ?_; rintro r bs' ext ⟨rfl, rfl⟩)
      | (refine And.intro (by omega) ?_)
      | (refine BB.mk (fun _h => ?_) (fun _h => ?_) <;> (first | (exact absurd _h (by decide)) | (exfalso; simp only [boolSet] at _h <;> omega) | skip)))
    all_goals (try conv => whnf)
    exact Fin.mk ⟨rfl, rfl⟩
  | true =>
    rw [hfew] at hbad
    rcases hbad with hbad | hbad | hbad
    · cases hbad
    · refine fn_val (C := seat) seat_ok [(3, (.of [(0, .take), (1, .take), (2, .take), (3, .take), (4, .take), (5, .take), (6, .take), (7, .take), (8, .take), (9, .do_), (10, .take), (11, .do_), (12, .take), (13, .last)])), (6, (.op 0 .take (.op 1 .take (.op 3 .take (.op 4 .take (.seq 1 [true, true, true, true, true, true, true, false] (.fork 2 (.fork 5 (.of [(6, .do_)]) (.of [(6, .do_), (5, .do_)])) (.of [(6, .do_), (2, .do_), (5, .do_)])) (.of [(7, .last)]))))))), (8, (.of [(0, .take), (1, .take), (2, .take), (4, .take), (5, .take), (6, .take), (3, .last), (7, .last), (8, .last), (9, .last)])), (17, (.of [(0, .take), (1, .take), (2, .take), (3, .take), (4, .take), (5, .do_), (6, .take), (7, .take), (8, .take), (9, .take), (10, .take), (11, .take), (12, .take), (13, .take), (14, .take), (15, .take), (16, .take), (17, .do_), (18, .take), (19, .take), (20, .take), (21, .take), (22, .do_), (23, .take), (24, .take), (25, .do_), (26, .take), (27, .take)]))] GG_no (Try.func5) rfl rfl rfl rfl rfl (fun _ => rfl) rfl ?_
      repeat' ((try conv => whnf); first
        | (with_reducible refine OKv.go (C := seat) seat_ok ?_)
        | (with_reducible refine BB_true ?_)
        | (with_reducible refine BB_false ?_)
        | (with_reducible refine Both.mk ?_ ?_)
        | (with_reducible refine VS.mk ?_)
        | (refine PSem.go (C := seat) seat_ok ?_)
        | (refine And.intro (PlanOK.mk (by kernel_rfl) rfl (by kernel_rfl) (by kernel_rfl)) ?_)
        | (refine And.intro rfl (Exists.intro _ (And.intro (by first | assumption | rfl) ?_)))
        | (refine And.intro ⟨rfl, rfl, rfl⟩ ?_)
        | (refine call_ro [.o 0] (few_b l cap _ hl hfew) GG_no rfl rfl rfl ⟨⟨_, rfl, rfl, rfl⟩, trivial⟩ ?_; rintro r bs' ext ⟨rfl, rfl⟩)
        | (refine call_ro [] (awake_ok) GG_no rfl rfl rfl trivial ?_; rintro r bs' ext ⟨rfl, rfl⟩)
        | (refine BB.mk (fun _h => ?_) (fun _h => ?_) <;> (first | (exact absurd _h (by decide)) | (exfalso; simp only [boolSet, List.length_map] at _h <;> omega) | skip))
        | (refine And.intro (by omega) ?_)
        | (refine BB.mk (fun _h => ?_) (fun _h => ?_) <;> (first | (exact absurd _h (by decide)) | (exfalso; simp only [boolSet] at _h <;> omega) | skip)))
      all_goals (try conv => whnf)
      all_goals exact Fin.mk ⟨rfl, rfl⟩
    · refine fn_val (C := seat) seat_ok [(3, (.of [(0, .take), (1, .take), (2, .take), (3, .take), (4, .take), (5, .take), (6, .take), (7, .take), (8, .take), (9, .do_), (10, .take), (11, .do_), (12, .take), (13, .last)])), (6, (.op 0 .take (.op 1 .take (.op 3 .take (.op 4 .take (.seq 1 [true, true, true, true, true, true, true, false] (.fork 2 (.fork 5 (.of [(6, .do_)]) (.of [(6, .do_), (5, .do_)])) (.of [(6, .do_), (2, .do_), (5, .do_)])) (.of [(7, .last)]))))))), (8, (.of [(0, .take), (1, .take), (2, .take), (4, .take), (5, .take), (6, .take), (3, .last), (7, .last), (8, .last), (9, .last)])), (17, (.of [(0, .take), (1, .take), (2, .take), (3, .take), (4, .take), (5, .do_), (6, .take), (7, .take), (8, .take), (9, .take), (10, .take), (11, .take), (12, .take), (13, .take), (14, .take), (15, .take), (16, .take), (17, .do_), (18, .take), (19, .take), (20, .take), (21, .take), (22, .do_), (23, .take), (24, .take), (25, .do_), (26, .take), (27, .take)]))] GG_no (Try.func5) rfl rfl rfl rfl rfl (fun _ => rfl) rfl ?_
      repeat' ((try conv => whnf); first
        | (with_reducible refine OKv.go (C := seat) seat_ok ?_)
        | (with_reducible refine BB_true ?_)
        | (with_reducible refine BB_false ?_)
        | (with_reducible refine Both.mk ?_ ?_)
        | (with_reducible refine VS.mk ?_)
        | (refine PSem.go (C := seat) seat_ok ?_)
        | (refine And.intro (PlanOK.mk (by kernel_rfl) rfl (by kernel_rfl) (by kernel_rfl)) ?_)
        | (refine And.intro rfl (Exists.intro _ (And.intro (by first | assumption | rfl) ?_)))
        | (refine And.intro ⟨rfl, rfl, rfl⟩ ?_)
        | (refine call_ro [.o 0] (few_b l cap _ hl hfew) GG_no rfl rfl rfl ⟨⟨_, rfl, rfl, rfl⟩, trivial⟩ ?_; rintro r bs' ext ⟨rfl, rfl⟩)
        | (refine call_ro [] (awake_ok) GG_no rfl rfl rfl trivial ?_; rintro r bs' ext ⟨rfl, rfl⟩)
        | (refine BB.mk (fun _h => ?_) (fun _h => ?_) <;> (first | (exact absurd _h (by decide)) | (exfalso; simp only [boolSet, List.length_map] at _h <;> omega) | skip))
        | (refine And.intro (by omega) ?_)
        | (refine BB.mk (fun _h => ?_) (fun _h => ?_) <;> (first | (exact absurd _h (by decide)) | (exfalso; simp only [boolSet] at _h <;> omega) | skip)))
      all_goals (try conv => whnf)
      all_goals exact Fin.mk ⟨rfl, rfl⟩
end Go.Proofs.Ytfjankcpnhfogaa
