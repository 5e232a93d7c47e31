/- Reference of layer 6: keys. -/
import Derived.Test.YtkmnglgjbmipgaaDoorS06h
namespace Go.Proofs.YtkmnglgjbmipgaaDoor
open Go.RowKit

theorem tmod2 (n : Int) : -1 ≤ n.tmod 2 ∧ n.tmod 2 ≤ 1 := by
  rw [Int.tmod_eq_emod]
  split
  · omega
  · simp only [show ((2 : Int).natAbs : Int) = 2 from rfl]
    omega
set_option maxRecDepth 100000 in
set_option maxHeartbeats 4000000 in
theorem rkey_z (l r : List Sp) (ca cb : Nat) (hl : l.length ≤ 1099511627776) (hr : r.length ≤ 1099511627776) (hol : ∀ y ∈ l, SpOk y) (hor : ∀ y ∈ r, SpOk y) (hsch : schB l = true) (hrt : rightB l r = true) : FnOK Tryd.prog GG 15 [] [.z 2 (l.map spC) ca, .z 2 (r.map spC) cb] (fun rr _ ext => (rr = .v (.int .u8 (keyW l r (min l.length r.length)))) ∧ ext = []) := by
  have hml : (l.map spC).length = l.length := List.length_map _
  have hmr : (r.map spC).length = r.length := List.length_map _
  have hsb := schB_iff.1 hsch
  by_cases h0 : r.length = 0
  · refine FnOK.pure GG_no rfl (fn_intro (C := seat) seat_ok [(7, (.of [(0, .take), (1, .take), (2, .take), (3, .take), (4, .take), (5, .take), (6, .take), (7, .take), (8, .take), (9, .take), (10, .take), (11, .take), (12, .take), (13, .take)])), (11, (.of [(0, .take), (1, .take), (2, .take), (3, .take), (4, .take), (5, .take), (6, .take), (7, .take), (8, .take), (9, .take), (10, .take), (11, .take), (12, .take), (13, .take), (14, .take)]))] GG_no (Tryd.func15) rfl rfl rfl rfl rfl ?_)
    repeat' ((try conv => whnf); first
      | (with_reducible refine OKv.go (C := seat) seat_ok ?_)
      | (with_reducible refine BB_true ?_)
      | (with_reducible refine BB_false ?_)
      | (with_reducible refine Both.mk ?_ ?_)
      | (with_reducible refine VS.mk ?_)
      | (refine PSem.go (C := seat) seat_ok ?_)
      | (refine And.intro (PlanOK.mk (by kernel_rfl) rfl (by kernel_rfl) (by kernel_rfl)) ?_)
      | (refine And.intro rfl (Exists.intro _ (And.intro (by first | assumption | rfl) ?_)))
      | (refine And.intro ⟨rfl, rfl, rfl⟩ ?_)
      | (refine BB.mk (fun _h => ?_) (fun _h => ?_) <;> (first | (exact absurd _h (by decide)) | (exfalso; simp only [boolSet, hml, hmr] at _h <;> omega) | (simp only [boolSet, hml, hmr] at _h) | skip))
      | (refine And.intro (by omega) ?_)
      | (refine BB.mk (fun _h => ?_) (fun _h => ?_) <;> (first | (exact absurd _h (by decide)) | (exfalso; simp only [boolSet] at _h <;> omega) | skip)))
    all_goals (try conv => whnf)
    all_goals exact ⟨_, _, FrzV.refl _ _, rfl, rfl, fun _ => rfl, num_eq (by rw [h0, Nat.min_zero]; rfl)⟩
  · obtain ⟨hlr, hrig⟩ := (rightB_iff.1 hrt).resolve_left h0
    refine FnOK.pure GG_no rfl (fn_intro (C := seat) seat_ok [(7, (.of [(0, .take), (1, .take), (2, .take), (3, .take), (4, .take), (5, .take), (6, .take), (7, .take), (8, .take), (9, .take), (10, .take), (11, .take), (12, .take), (13, .take)])), (11, (.of [(0, .take), (1, .take), (2, .take), (3, .take), (4, .take), (5, .take), (6, .take), (7, .take), (8, .take), (9, .take), (10, .take), (11, .take), (12, .take), (13, .take), (14, .take)]))] GG_no (Tryd.func15) rfl rfl rfl rfl rfl ?_)
    repeat' ((try conv => whnf); first
      | (with_reducible refine OKv.go (C := seat) seat_ok ?_)
      | (with_reducible refine BB_true ?_)
      | (with_reducible refine BB_false ?_)
      | (with_reducible refine Both.mk ?_ ?_)
      | (with_reducible refine VS.mk ?_)
      | (refine PSem.go (C := seat) seat_ok ?_)
      | (refine And.intro (PlanOK.mk (by kernel_rfl) rfl (by kernel_rfl) (by kernel_rfl)) ?_)
      | (refine And.intro rfl (Exists.intro _ (And.intro (by first | assumption | rfl) ?_)))
      | (refine And.intro ⟨rfl, rfl, rfl⟩ ?_)
      | (refine BB.mk (fun _h => ?_) (fun _h => ?_) <;> (first | (exact absurd _h (by decide)) | (exfalso; simp only [boolSet, hml, hmr] at _h <;> omega) | (simp only [boolSet, hml, hmr] at _h) | skip))
      | (refine And.intro (by omega) ?_)
      | (refine BB.mk (fun _h => ?_) (fun _h => ?_) <;> (first | (exact absurd _h (by decide)) | (exfalso; simp only [boolSet] at _h <;> omega) | skip)))
    all_goals (try conv => whnf)
    refine loop_rule (α := Nat) (fun k => k ≤ r.length) (fun k => { slots := [(0, .z 2 (l.map spC) ca), (1, .z 2 (r.map spC) cb), (5, .v (.int .i64 (keyN l r k))), (6, .v (.int .i64 (k : Int)))], nt := 80, mem := ⟨GG, [], []⟩ }) (fun k => r.length - k) 0 (Nat.zero_le _) ⟨⟨[], List.nodup_nil, GG_no, rfl, (SubOld.refl _ rfl), trivial, ⟨.inl rfl, .inl rfl, .inl rfl, .inl rfl, trivial⟩⟩, rfl⟩ ?_ (fun _ => rfl)
    intro k hk
    refine vc_sound (C := seat) seat_ok (pl := [(7, (.of [(0, .take), (1, .take), (2, .take), (3, .take), (4, .take), (5, .take), (6, .take), (7, .take), (8, .take), (9, .take), (10, .take), (11, .take), (12, .take), (13, .take)])), (11, (.of [(0, .take), (1, .take), (2, .take), (3, .take), (4, .take), (5, .take), (6, .take), (7, .take), (8, .take), (9, .take), (10, .take), (11, .take), (12, .take), (13, .take), (14, .take)]))]) ?_
    have hkn := keyN_eq hol hor k (by omega) (by omega) hk (fun j hj => hrig j (by omega))
    by_cases hlt : k < r.length
    · have hrow := atC (l := l) (k := k) (by omega)
      have hrow2 := atC (l := r) (k := k) hlt
      have hR := hol _ (atD_mem (l := l) (j := k) (by omega))
      have hX := hor _ (atD_mem (l := r) (j := k) (by omega))
      have hri := hrig k (by omega)
      have hmid := mid_in hri
      have hqn := qN_in hri
      have hst := fun q => q_step hri (q := q)
      have hks : keyN l r (k + 1) = 4 * keyN l r k + qN (atD l k) (atD r k) := rfl
      generalize atD l k = R at *
      generalize atD r k = X at *
      have hhalf := half_of (X.a + X.b)
      have hme : mid X = (X.a + X.b) / 2 := rfl
      unfold SpOk at hR hX
      have hS : IntKind.i64.wrap (IntKind.i64.wrap X.a + IntKind.i64.wrap X.b) = X.a + X.b := by rw [w64 (x := X.a) (by omega), w64 (x := X.b) (by omega), w64 (by omega)]
      have htm : -1 ≤ (X.a + X.b).tmod 2 ∧ (X.a + X.b).tmod 2 ≤ 1 := tmod2 _
      have hT : IntKind.i64.wrap ((X.a + X.b).tmod 2) = (X.a + X.b).tmod 2 := w64 (by omega)
      have hD : IntKind.i64.wrap ((X.a + X.b).tdiv 2) = (X.a + X.b).tdiv 2 := w64 (by omega)
      have hD1 : IntKind.i64.wrap ((X.a + X.b).tdiv 2 - 1) = (X.a + X.b).tdiv 2 - 1 := w64 (by omega)
      have hL : IntKind.i64.wrap (IntKind.i64.wrap (IntKind.i64.wrap R.b - IntKind.i64.wrap R.a) + 1) = R.b - R.a + 1 := by rw [w64 (x := R.a) (by omega), w64 (x := R.b) (by omega), w64 (x := R.b - R.a) (by omega), w64 (by omega)]
      have hW1 : IntKind.i64.wrap (4 * IntKind.i64.wrap (mid X - IntKind.i64.wrap R.a)) = 4 * (mid X - R.a) := by rw [w64 (x := R.a) (by omega), w64 (x := mid X - R.a) (by omega), w64 (by omega)]
      repeat' ((try conv => whnf); first
        | (with_reducible refine OKv.go (C := seat) seat_ok ?_)
        | (with_reducible refine BB_true ?_)
        | (with_reducible refine BB_false ?_)
        | (with_reducible refine Both.mk ?_ ?_)
        | (with_reducible refine VS.mk ?_)
        | (refine PSem.go (C := seat) seat_ok ?_)
        | (refine And.intro (PlanOK.mk (by kernel_rfl) rfl (by kernel_rfl) (by kernel_rfl)) ?_)
        | (refine And.intro rfl (Exists.intro _ (And.intro (by first | assumption | rfl) ?_)))
        | (refine And.intro ⟨rfl, rfl, rfl⟩ ?_)
        | (refine And.intro ⟨by omega, by first | (rw [hml]; omega) | (rw [hmr]; omega)⟩ (Exists.intro _ (And.intro (by first | assumption | rfl) ?_)))
        | (refine BB.mk (fun _h => ?_) (fun _h => ?_) <;> (first | (exact absurd _h (by decide)) | (exfalso; simp only [boolSet, hml, hmr] at _h <;> omega) | (simp only [boolSet, hml, hmr, hS, hT] at _h) | skip))
        | (refine And.intro (by omega) ?_)
        | (refine BB.mk (fun _h => ?_) (fun _h => ?_) <;> (first | (exact absurd _h (by decide)) | (exfalso; simp only [boolSet] at _h <;> omega) | skip)))
      all_goals (try conv => whnf)
      all_goals
        refine loop_rule (α := Nat) (fun q => (q : Int) ≤ qN R X) (fun q => { slots := [(0, .z 2 (l.map spC) ca), (1, .z 2 (r.map spC) cb), (5, .v (.int .i64 (keyN l r k))), (6, .v (.int .i64 (k : Int))), (8, .v (.int .i64 (mid X))), (9, .v (.int .i64 (R.b - R.a + 1))), (10, .v (.int .i64 (q : Int)))], nt := 80, mem := ⟨GG, [], []⟩ }) (fun q => (qN R X).toNat - q) 0 (by exact hqn.1) ⟨⟨[], List.nodup_nil, GG_no, rfl, (SubOld.refl _ rfl), trivial, ⟨.inl rfl, .inl rfl, .inl rfl, .inl rfl, .inl (num_eq (by rw [hS, hD, hme]; first | omega | (rw [hD1]; omega))), .inl (num_eq hL), .inl rfl, trivial⟩⟩, rfl⟩ ?_ (fun _ => rfl)
        intro q hq
        refine vc_sound (C := seat) seat_ok (pl := [(7, (.of [(0, .take), (1, .take), (2, .take), (3, .take), (4, .take), (5, .take), (6, .take), (7, .take), (8, .take), (9, .take), (10, .take), (11, .take), (12, .take), (13, .take)])), (11, (.of [(0, .take), (1, .take), (2, .take), (3, .take), (4, .take), (5, .take), (6, .take), (7, .take), (8, .take), (9, .take), (10, .take), (11, .take), (12, .take), (13, .take), (14, .take)]))]) ?_
        have hq1 : IntKind.i64.wrap ((q : Int) + 1) = (q : Int) + 1 := w64 (by omega)
        have hb : 0 ≤ ((q : Int) + 1) * (R.b - R.a + 1) ∧ ((q : Int) + 1) * (R.b - R.a + 1) ≤ 4 * (R.b - R.a + 1) := ⟨Int.mul_nonneg (by omega) (by omega), Int.mul_le_mul_of_nonneg_right (by omega) (by omega)⟩
        have hW2 : IntKind.i64.wrap (IntKind.i64.wrap ((q : Int) + 1) * (R.b - R.a + 1)) = ((q : Int) + 1) * (R.b - R.a + 1) := by rw [hq1, w64 (by omega)]
        have hq2 := hst q
        generalize hGP : ((q : Int) + 1) * (R.b - R.a + 1) = GP at hW2 hq2 hb
        by_cases hlq : (q : Int) < qN R X
        · repeat' ((try conv => whnf); first
            | (with_reducible refine OKv.go (C := seat) seat_ok ?_)
            | (with_reducible refine BB_true ?_)
            | (with_reducible refine BB_false ?_)
            | (with_reducible refine Both.mk ?_ ?_)
            | (with_reducible refine VS.mk ?_)
            | (refine PSem.go (C := seat) seat_ok ?_)
            | (refine And.intro (PlanOK.mk (by kernel_rfl) rfl (by kernel_rfl) (by kernel_rfl)) ?_)
            | (refine And.intro rfl (Exists.intro _ (And.intro (by first | assumption | rfl) ?_)))
            | (refine And.intro ⟨rfl, rfl, rfl⟩ ?_)
            | (refine And.intro ⟨by omega, by first | (rw [hml]; omega) | (rw [hmr]; omega)⟩ (Exists.intro _ (And.intro (by first | assumption | rfl) ?_)))
            | (refine BB.mk (fun _h => ?_) (fun _h => ?_) <;> (first | (exact absurd _h (by decide)) | (exfalso; simp only [boolSet, hml, hmr, hW1, hW2] at _h <;> omega) | (simp only [boolSet] at _h) | skip))
            | (refine And.intro (by omega) ?_)
            | (refine BB.mk (fun _h => ?_) (fun _h => ?_) <;> (first | (exact absurd _h (by decide)) | (exfalso; simp only [boolSet] at _h <;> omega) | skip)))
          all_goals (try conv => whnf)
          exact ⟨q + 1, by omega, by omega, ⟨⟨[], by decide, GG_no, rfl, SubOld.refl _ rfl, trivial, ⟨.inl rfl, .inl rfl, .inl rfl, .inl rfl, .inl rfl, .inl rfl, .inl (num_eq (by rw [hq1]; omega)), trivial⟩⟩, rfl⟩⟩
        · have hqe : (q : Int) = qN R X := by omega
          repeat' ((try conv => whnf); first
            | (with_reducible refine OKv.go (C := seat) seat_ok ?_)
            | (with_reducible refine BB_true ?_)
            | (with_reducible refine BB_false ?_)
            | (with_reducible refine Both.mk ?_ ?_)
            | (with_reducible refine VS.mk ?_)
            | (refine PSem.go (C := seat) seat_ok ?_)
            | (refine And.intro (PlanOK.mk (by kernel_rfl) rfl (by kernel_rfl) (by kernel_rfl)) ?_)
            | (refine And.intro rfl (Exists.intro _ (And.intro (by first | assumption | rfl) ?_)))
            | (refine And.intro ⟨rfl, rfl, rfl⟩ ?_)
            | (refine And.intro ⟨by omega, by first | (rw [hml]; omega) | (rw [hmr]; omega)⟩ (Exists.intro _ (And.intro (by first | assumption | rfl) ?_)))
            | (refine BB.mk (fun _h => ?_) (fun _h => ?_) <;> (first | (exact absurd _h (by decide)) | (exfalso; simp only [boolSet, hml, hmr, hW1, hW2] at _h <;> omega) | (simp only [boolSet] at _h) | skip))
            | (refine And.intro (by omega) ?_)
            | (refine BB.mk (fun _h => ?_) (fun _h => ?_) <;> (first | (exact absurd _h (by decide)) | (exfalso; simp only [boolSet] at _h <;> omega) | skip)))
          all_goals (try conv => whnf)
          exact ⟨k + 1, by omega, by omega, ⟨⟨[], by decide, GG_no, rfl, SubOld.refl _ rfl, trivial, ⟨.inl rfl, .inl rfl, .inl (num_eq (by rw [hks, w64 (x := 4 * keyN l r k) (by omega), hqe, w64 (by omega)])), .inl (num_eq (by rw [IntKind.wrap_i64]; omega)), trivial⟩⟩, rfl⟩⟩
    · obtain rfl : k = r.length := by omega
      repeat' ((try conv => whnf); first
        | (with_reducible refine OKv.go (C := seat) seat_ok ?_)
        | (with_reducible refine BB_true ?_)
        | (with_reducible refine BB_false ?_)
        | (with_reducible refine Both.mk ?_ ?_)
        | (with_reducible refine VS.mk ?_)
        | (refine PSem.go (C := seat) seat_ok ?_)
        | (refine And.intro (PlanOK.mk (by kernel_rfl) rfl (by kernel_rfl) (by kernel_rfl)) ?_)
        | (refine And.intro rfl (Exists.intro _ (And.intro (by first | assumption | rfl) ?_)))
        | (refine And.intro ⟨rfl, rfl, rfl⟩ ?_)
        | (refine BB.mk (fun _h => ?_) (fun _h => ?_) <;> (first | (exact absurd _h (by decide)) | (exfalso; simp only [boolSet, hml, hmr] at _h <;> omega) | (simp only [boolSet, hml, hmr] at _h) | skip))
        | (refine And.intro (by omega) ?_)
        | (refine BB.mk (fun _h => ?_) (fun _h => ?_) <;> (first | (exact absurd _h (by decide)) | (exfalso; simp only [boolSet] at _h <;> omega) | skip)))
      all_goals (try conv => whnf)
      exact ⟨_, _, FrzV.refl _ _, rfl, rfl, fun _ => rfl, num_eq (by rw [show min l.length r.length = r.length by omega, hkn.1, IntKind.wrap_u8]; omega)⟩
end Go.Proofs.YtkmnglgjbmipgaaDoor
