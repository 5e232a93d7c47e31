/- Law TapeNone. -/
import Derived.Test.YtigmgdfplhfdpaaT23e
namespace Go.Proofs.Ytigmgdfplhfdpaa
open Go.RowKit

theorem dr_nil (p : Nat) {n : Int} : drI [] p n = 0 := by
  unfold drI
  split
  · rfl
  · rw [numK_nil rfl, Int.zero_emod]
theorem drp_nil (n : Int) (a : Int) : (drP [] (plI [] a) n : Int) = 0 := by
  unfold drP
  split
  · unfold plI
    rw [if_pos (by simp; omega)]; rfl
  · rw [posK_nil rfl]; rfl
theorem dr_one (x : Int) (p : Nat) {n : Int} (h : 1 ≤ n) : drI [x] p n = x % n := by
  unfold drI
  rw [if_neg (by omega), numK_pos (by simp)]
  have : posK [x] p 0 = 0 := by
    have := posK_lt (l := [x]) (by simp) p 0
    simp at this
    exact this
  rw [this]; rfl
theorem drp_one (x : Int) (p : Nat) {n : Int} (h : 1 ≤ n) : (drP [x] p n : Int) = 0 := by
  unfold drP
  rw [if_neg (by omega)]
  have := posK_lt (l := [x]) (by simp) p 1
  simp at this
  rw [this]; rfl
set_option maxRecDepth 100000 in
set_option maxHeartbeats 4000000 in
theorem tapeNone_ok (at_ x th many : Int) (hx : NuOk x) (hth : 0 ≤ th ∧ th ≤ 65535) (hmany : 0 ≤ many ∧ many ≤ 255) : FnOK Try.prog GG 7 [] [.v (.int .i64 at_), .v (.int .u32 x), .v (.int .u16 th), .v (.int .u8 many)] (fun r _ ext => (r = .v (.bool true)) ∧ ext = []) := by
  obtain ⟨n, hn⟩ : ∃ n, (IntKind.i64.wrap (IntKind.i64.wrap th + 1)) = n := ⟨_, rfl⟩
  have hn1 : 1 ≤ n ∧ n ≤ 65536 := by rw [← hn]; simp only [IntKind.wrap_i64]; omega
  obtain ⟨T, hT⟩ : ∃ T : Nat, many.tmod 101 = (T : Int) := ⟨(many % 101).toNat, by rw [Int.tmod_eq_emod_of_nonneg hmany.1]; omega⟩
  have hT2 : T ≤ 255 := by rw [Int.tmod_eq_emod_of_nonneg hmany.1] at hT; omega
  obtain ⟨r0, hr0⟩ : ∃ r0, x % n = r0 := ⟨_, rfl⟩
  have hrem : IntKind.i64.wrap (x.tmod (IntKind.u32.wrap n)) = r0 := by
    have e2 : IntKind.u32.wrap n = n := by rw [IntKind.wrap_u32]; omega
    rw [e2, Int.tmod_eq_emod_of_nonneg hx.1, IntKind.wrap_i64, hr0]
    have := Int.emod_nonneg x (show n ≠ 0 by omega)
    have := Int.emod_lt_of_pos x (show 0 < n by omega)
    omega
  refine FnOK.pure GG_no rfl (fn_intro (C := seat) seat_ok [(9, (.of [(0, .take), (1, .take), (2, .do_), (3, .last)]))] GG_no (Try.func7) rfl rfl rfl rfl rfl ?_)
  repeat' ((try conv => whnf); first
    | (with_reducible refine OKv.go (C := seat) seat_ok ?_)
    | (with_reducible refine BB_true ?_)
    | (with_reducible refine BB_false ?_)
    | (with_reducible refine Both.mk ?_ ?_)
    | (with_reducible refine VS.mk ?_)
    | (refine PSem.go (C := seat) seat_ok ?_)
    | (refine And.intro (PlanOK.mk (by kernel_rfl) rfl (by kernel_rfl) (by kernel_rfl)) ?_)
    | (refine And.intro rfl (Exists.intro _ (And.intro (by first | assumption | rfl) ?_)))
    | (refine And.intro ⟨rfl, rfl, rfl⟩ ?_)
    | (refine And.intro (by decide) ?_)
    | (refine And.intro (by omega) ?_)
    | (refine BB.mk (fun _h => ?_) (fun _h => ?_) <;> (first | (exact absurd _h (by decide)) | (exfalso; simp only [boolSet] at _h <;> omega) | skip)))
  all_goals (try conv => whnf)
  refine loop_ruleP (α := Nat × Nat × Int × Nat × Int) (fun p => p.1 ≤ T ∧ 1 ≤ p.2.2.2.1) (fun p => { slots := [(1, .v (.int .u32 x)), (9, .v (.int .i64 n)), (10, .p (.n 0) 0 0 0), (11, .p (.n 1) 0 0 0), (26, .v (.int .u8 (many.tmod 101))), (27, .v (.int .u8 (p.1 : Int)))], nt := 80, mem := ⟨GG, [], [.box 24 [.z 1 ([] : List (List CV)) p.2.1, .v (.int .i64 p.2.2.1)], .box 24 [.z 1 ([x].map nuC) p.2.2.2.1, .v (.int .i64 p.2.2.2.2)]]⟩ }) (fun p => T - p.1) (0, 0, at_, 1, at_) ⟨Nat.zero_le _, Nat.le_refl _⟩
    (((pass_box (t := 24) (cells := [.v (.slice none 0 0), .v (.int .i64 at_)]) (cells' := [.z 1 [] 0, .v (.int .i64 at_)]) 1 0 rfl rfl (frz_nil _ 1) rfl rfl).trans (pass_box (t := 24) (cells := [.s (.n 0) 1 0 1 1, .v (.int .i64 at_)]) (cells' := [.z 1 ([x].map nuC) 1, .v (.int .i64 at_)]) 2 0 rfl rfl (frz_row (b := 0) (by rfl) rfl) rfl rfl)).trans (Ref.pass ⟨⟨[1, 2], by decide, GG_no, rfl, SubOld.refl _ rfl, ⟨rfl, rfl, trivial⟩, ⟨.inl rfl, .inl (num_eq hn), .inl rfl, .inl rfl, .inl rfl, .inl rfl, trivial⟩⟩, rfl⟩)) ?_ (fun _ => rfl)
  rintro ⟨k, c, a, d, b⟩ ⟨hk, hd⟩
  dsimp only at hk hd ⊢
  refine vc_sound (C := seat) seat_ok (pl := [(9, (.of [(0, .take), (1, .take), (2, .do_), (3, .last)]))]) ?_
  by_cases hlt : k < T
  · repeat' ((try conv => whnf); first
      | (with_reducible refine OKv.go (C := seat) seat_ok ?_)
      | (with_reducible refine BB_true ?_)
      | (with_reducible refine BB_false ?_)
      | (with_reducible refine Both.mk ?_ ?_)
      | (with_reducible refine VS.mk ?_)
      | (refine PSem.go (C := seat) seat_ok ?_)
      | (refine And.intro (PlanOK.mk (by kernel_rfl) rfl (by kernel_rfl) (by kernel_rfl)) ?_)
      | (refine And.intro rfl (Exists.intro _ (And.intro (by first | assumption | rfl) ?_)))
      | (refine And.intro ⟨rfl, rfl, rfl⟩ ?_)
      | (refine call_ro [] (draw_b [] c a (by decide) (Nat.zero_le _) n (by omega) (by simp) 0 0 (dr_nil _) (drp_nil _ _)) GG_no rfl rfl rfl trivial ?_; rintro r bs' ext ⟨⟨c1, hc1, rfl⟩, rfl⟩)
      | (refine call_ro [] (draw_b [x] d b (by simp) hd n (by omega) (by simpa using hx) r0 0 ((dr_one x _ hn1.1).trans hr0) (drp_one x _ hn1.1)) GG_no rfl rfl rfl trivial ?_; rintro r bs' ext ⟨⟨c2, hc2, rfl⟩, rfl⟩)
      | ((try (first | refine call_frz 0 rfl (frz_nil _ 1) ?_ | refine call_frz 0 rfl (frz_row rfl (by first | rfl | exact (List.length_map _).symm)) ?_ | refine call_frz 0 rfl (frz_ro rfl (by first | rfl | exact (List.length_map _).symm)) ?_)); (try (first | refine call_frz 1 rfl (frz_nil _ 1) ?_ | refine call_frz 1 rfl (frz_row rfl (by first | rfl | exact (List.length_map _).symm)) ?_ | refine call_frz 1 rfl (frz_ro rfl (by first | rfl | exact (List.length_map _).symm)) ?_)); refine call_ro [] (nums_b [x] [x] _ _ (by simp) true (by simp)) GG_no rfl rfl rfl trivial ?_; rintro r bs' ext ⟨rfl, rfl⟩)
      | (refine And.intro (by rw [IntKind.wrap_u32]; omega) ?_)
      | (refine BB.mk (fun _h => ?_) (fun _h => ?_) <;> (first | (exact absurd _h (by decide)) | (exfalso; simp only [boolSet, hT, hrem, not_true_eq_false, List.length_map, List.length_nil] at _h <;> omega) | (simp only [boolSet, hT] at _h) | skip))
      | (refine And.intro (by omega) ?_)
      | (refine BB.mk (fun _h => ?_) (fun _h => ?_) <;> (first | (exact absurd _h (by decide)) | (exfalso; simp only [boolSet] at _h <;> omega) | skip)))
    all_goals (try conv => whnf)
    all_goals exact ⟨(k + 1, c1, 0, c2, 0), ⟨by dsimp only; omega, hc2⟩, by dsimp only; omega, Ref.pass ⟨⟨[0, 1], by decide, GG_no, rfl, SubOld.refl _ rfl, ⟨rfl, rfl, trivial⟩, ⟨.inl rfl, .inl rfl, .inl rfl, .inl rfl, .inl rfl, .inl (num_eq (by rw [IntKind.wrap_u8]; omega)), trivial⟩⟩, rfl⟩⟩
  · obtain rfl : k = T := by omega
    repeat' ((try conv => whnf); first
      | (with_reducible refine OKv.go (C := seat) seat_ok ?_)
      | (with_reducible refine BB_true ?_)
      | (with_reducible refine BB_false ?_)
      | (with_reducible refine Both.mk ?_ ?_)
      | (with_reducible refine VS.mk ?_)
      | (refine PSem.go (C := seat) seat_ok ?_)
      | (refine And.intro (PlanOK.mk (by kernel_rfl) rfl (by kernel_rfl) (by kernel_rfl)) ?_)
      | (refine And.intro rfl (Exists.intro _ (And.intro (by first | assumption | rfl) ?_)))
      | (refine And.intro ⟨rfl, rfl, rfl⟩ ?_)
      | (refine call_ro [] (awake_ok) GG_no rfl rfl rfl trivial ?_; rintro r bs' ext ⟨rfl, rfl⟩)
      | (refine BB.mk (fun _h => ?_) (fun _h => ?_) <;> (first | (exact absurd _h (by decide)) | (exfalso; simp only [boolSet, hT, hrem, not_true_eq_false, List.length_map, List.length_nil] at _h <;> omega) | (simp only [boolSet, hT] at _h) | skip))
      | (refine And.intro (by omega) ?_)
      | (refine BB.mk (fun _h => ?_) (fun _h => ?_) <;> (first | (exact absurd _h (by decide)) | (exfalso; simp only [boolSet] at _h <;> omega) | skip)))
    all_goals (try conv => whnf)
    exact ⟨_, _, FrzV.refl _ _, rfl, rfl, fun _ => rfl, rfl⟩
end Go.Proofs.Ytigmgdfplhfdpaa
