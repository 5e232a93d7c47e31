/- Law PulseUp, by computing. -/
import Derived.Test.YtnkhdnmilncidaaU14g
namespace Go.Proofs.Ytnkhdnmilncidaa
open Go.RowKit

theorem up_get {q : Nat → Bool} {k n : Nat} (h : k < n) (hq : q k = true) : ((List.range n).filter q)[((List.range k).filter q).length]? = some k := by
  induction n with
  | zero => omega
  | succ n ih =>
    by_cases hkn : k = n
    · subst hkn
      rw [range_in hq, List.getElem?_append_right (Nat.le_refl _)]
      simp
    · have := ih (by omega)
      rw [List.range_succ, List.filter_append, List.getElem?_append_left (getElem?_lt this)]
      exact this
theorem bK_at {l : List Nat} {k y : Nat} (h : l[k]? = some y) : (l.map bK)[0 + (k : Int).toNat]? = some [.int .u8 (y : Int)] := by
  rw [Nat.zero_add, Int.toNat_natCast, List.getElem?_map, h]; rfl
theorem modL_same {l : List Mb} {k : Nat} {q : Mb → Mb} (h : ∀ y ∈ l, q y = y) : modL l k q = l := by
  unfold modL
  split
  · rename_i y hy
    rw [h y (List.mem_of_getElem? hy)]
    apply List.ext_getElem?
    intro i
    rw [List.getElem?_set]
    by_cases hi : k = i
    · subst hi
      rw [if_pos rfl, if_pos (getElem?_lt hy), hy]
    · rw [if_neg hi]
  · rfl
theorem modL_at {l : List Mb} {k : Nat} {y : Mb} (q : Mb → Mb) (h : l[k]? = some y) : (modL l k q)[k]? = some (q y) := by
  rw [modL_in q h, List.getElem?_set_self (getElem?_lt h)]
theorem heard0 {m : Mb} (h : valM m) : heardM 0 m = m := by
  unfold valM at h
  exact if_neg (by omega)
theorem left0 (m : Mb) : leftM 0 m = m := if_pos (.inl rfl)
theorem mx_is (nd n : Nat) (hn : n ≤ 255) (hd : nd ≤ 255) : ∃ fr : Nat, (bif true then if IntKind.u8.wrap (n : Int) > (nd : Int) then IntKind.u8.wrap (n : Int) else (nd : Int) else if IntKind.u8.wrap (n : Int) < (nd : Int) then IntKind.u8.wrap (n : Int) else (nd : Int)) = (fr : Int) ∧ n ≤ fr ∧ fr ≤ 255 := by
  have e : IntKind.u8.wrap (n : Int) = n := by rw [IntKind.wrap_u8]; omega
  refine ⟨max nd n, ?_, by omega, by omega⟩
  rw [e]
  simp only [cond_true]
  split <;> omega
set_option maxRecDepth 100000 in
set_option maxHeartbeats 4000000 in
theorem pulseUp_ok (a : List Mb) (ca nd : Nat) (v : Int) (ha : a.length ≤ ca) (oa : ∀ y ∈ a, y.ok) (hnd : nd ≤ 255) (hv0 : 0 ≤ v) (hv1 : v ≤ 65535) : FnOK Try.prog GG 7 [.ro 3 (a.map mbC)] [.s (.o 0) 3 0 a.length ca, .v (.int .u8 (nd : Int)), .v (.int .u16 v)] (fun r _ ext => r = .v (.bool true) ∧ ext = []) := by
  refine fn_val (C := seat) seat_ok [] GG_no (Try.func7) rfl rfl rfl rfl rfl (fun _ => rfl) rfl ?_
  repeat' ((try conv => whnf); first
    | (with_reducible refine OKv.go (C := seat) seat_ok ?_)
    | (with_reducible refine BB_true ?_)
    | (with_reducible refine BB_false ?_)
    | (with_reducible refine Both.mk ?_ ?_)
    | (with_reducible refine VS.mk ?_)
    | (refine PSem.go (C := seat) seat_ok ?_)
    | (refine And.intro (PlanOK.mk (by kernel_rfl) rfl (by kernel_rfl) (by kernel_rfl)) ?_)
    | (refine And.intro rfl (Exists.intro _ (And.intro (by first | assumption | rfl) ?_)))
    | (refine And.intro ⟨rfl, rfl, rfl⟩ ?_)
    | (refine And.intro (by omega) ?_)
    | (refine BB.mk (fun _h => ?_) (fun _h => ?_) <;> (first | (exact absurd _h (by decide)) | (exfalso; simp only [boolSet] at _h <;> omega) | skip)))
  all_goals (try conv => whnf)
  have h2 := mn_le (a.length : Int) (20 : Int)
  generalize (bif false then if (20 : Int) > (a.length : Int) then (20 : Int) else (a.length : Int) else if (20 : Int) < (a.length : Int) then (20 : Int) else (a.length : Int)) = N at *
  have hN0 : 0 ≤ N := by omega
  obtain ⟨n, rfl⟩ := Int.eq_ofNat_of_zero_le hN0
  have hn20 : n ≤ 20 := by omega
  have hna : n ≤ a.length := by omega
  clear h2
  have h256 : n ≤ 256 := by omega
  have h300 : n ≤ 300 := by omega
  have h1000 : n ≤ 1000 := by omega
  obtain ⟨X, hX⟩ : ∃ X, ((a.drop 0).take n).map tabM = X := ⟨_, rfl⟩
  have lX : X.length = n := by rw [← hX, List.length_map, List.length_take, List.length_drop]; omega
  have vX : ∀ m ∈ X, valM m := by rw [← hX]; exact tabs_val fun y hy => oa y (List.mem_of_mem_drop (List.mem_of_mem_take hy))
  repeat' ((try conv => whnf); first
    | (with_reducible refine OKv.go (C := seat) seat_ok ?_)
    | (with_reducible refine BB_true ?_)
    | (with_reducible refine BB_false ?_)
    | (with_reducible refine Both.mk ?_ ?_)
    | (with_reducible refine VS.mk ?_)
    | (refine PSem.go (C := seat) seat_ok ?_)
    | (refine And.intro (PlanOK.mk (by kernel_rfl) rfl (by kernel_rfl) (by kernel_rfl)) ?_)
    | (refine And.intro rfl (Exists.intro _ (And.intro (by first | assumption | rfl) ?_)))
    | (refine And.intro ⟨rfl, rfl, rfl⟩ ?_)
    | (refine And.intro ⟨Int.le_refl 0, by omega, by omega⟩ ?_)
    | (refine call_ro [.o 0] (table_is a _ _ _ X hX (by omega) (by omega)) GG_no rfl rfl rfl ⟨⟨_, rfl, rfl, rfl⟩, trivial⟩ ?_; rintro r bs' ext ⟨cX, hcX, rfl, rfl⟩)
    | (refine call_ro [_] (up3_is X (upL X) _ _ lX h256 rfl) GG_no rfl rfl rfl ⟨⟨_, rfl, rfl, rfl⟩, trivial⟩ ?_; rintro r bs' ext ⟨cU, hcU, rfl, rfl⟩)
    | (refine And.intro (by omega) ?_)
    | (refine BB.mk (fun _h => ?_) (fun _h => ?_) <;> (first | (exact absurd _h (by decide)) | (exfalso; simp only [boolSet] at _h <;> omega) | skip)))
  all_goals (try conv => whnf)
  refine loop_rule (α := Nat) (fun k => k ≤ n) (fun k => { slots := [(1, .v (.int .u8 (nd : Int))), (2, .v (.int .u16 v)), (7, .s (.n 0) 3 0 n cX), (8, .s (.n 1) 1 0 (upL X).length cU), (9, .v (.int .i64 (((List.range k).filter (upAt X)).length : Int))), (24, .s (.n 0) 3 0 n cX), (25, .v (.int .i64 n)), (26, .v (.int .i64 (k : Int)))], nt := 155, mem := ⟨GG, [.ro 3 (a.map mbC)], [.row 26 3 cX (X.map mbC), .row 5 1 cU ((upL X).map bK)]⟩ }) (fun k => n - k) 0 (Nat.zero_le _) ⟨⟨[0, 1], (by decide), GG_no, rfl, (SubOld.refl _ rfl), ⟨.inr rfl, .inr rfl, trivial⟩, ⟨.inl rfl, .inl rfl, .inl rfl, .inl rfl, .inl rfl, .inl rfl, .inl rfl, .inl rfl, trivial⟩⟩, rfl⟩ ?_ (fun _ => rfl)
  rintro k hkn
  refine vc_sound (C := seat) seat_ok (pl := []) ?_
  by_cases hlt : k < n
  · obtain ⟨x, hx⟩ : ∃ x, X[k]? = some x := ⟨_, List.getElem?_eq_getElem (by omega)⟩
    have hrow := mb_at hx
    have hu := upAt_in hx
    have hwk : IntKind.i64.wrap (k : Int) = k := by rw [IntKind.wrap_i64]; omega
    have hcl := range_le (upAt X) k
    cases hh : upB x with
    | true =>
      rw [hh] at hu
      have hg : (upL X)[((List.range k).filter (upAt X)).length]? = some k := by rw [upL, lX]; exact up_get hlt hu
      have hgl := getElem?_lt hg
      have hrow2 := bK_at hg
      have hs : x.s = 1 ∨ x.s = 2 := by simpa [upB] using hh
      have hin : (((List.range k).filter (upAt X)).length : Int) + 1 = (((List.range (k + 1)).filter (upAt X)).length : Int) := by rw [range_in hu, List.length_append]; rfl
      rcases hs with hs | hs
      all_goals
        repeat' ((try conv => whnf); first
          | (with_reducible refine OKv.go (C := seat) seat_ok ?_)
          | (with_reducible refine BB_true ?_)
          | (with_reducible refine BB_false ?_)
          | (with_reducible refine Both.mk ?_ ?_)
          | (with_reducible refine VS.mk ?_)
          | (refine PSem.go (C := seat) seat_ok ?_)
          | (refine And.intro (PlanOK.mk (by kernel_rfl) rfl (by kernel_rfl) (by kernel_rfl)) ?_)
          | (refine And.intro rfl (Exists.intro _ (And.intro (by first | assumption | rfl) ?_)))
          | (refine And.intro ⟨rfl, rfl, rfl⟩ ?_)
          | (refine And.intro (by omega) ?_)
          | (refine BB.mk (fun _h => ?_) (fun _h => ?_) <;> (first | (exact absurd _h (by decide)) | (exfalso; simp only [hwk, boolSet] at _h <;> omega) | skip)))
        all_goals (try conv => whnf)
      all_goals exact ⟨k + 1, by omega, by omega, ⟨⟨[0, 1], by decide, GG_no, rfl, SubOld.refl _ rfl, ⟨.inr rfl, .inr rfl, trivial⟩, ⟨.inl rfl, .inl rfl, .inl rfl, .inl rfl, .inl (num_eq (by rw [IntKind.wrap_i64]; omega)), .inl rfl, .inl rfl, .inl (num_eq (by rw [IntKind.wrap_i64]; omega)), trivial⟩⟩, rfl⟩⟩
    | false =>
      rw [hh] at hu
      have hs : ¬ (x.s = 1 ∨ x.s = 2) := by simpa [upB] using hh
      have hout : ((List.range k).filter (upAt X)).length = ((List.range (k + 1)).filter (upAt X)).length := by rw [range_out hu]
      repeat' ((try conv => whnf); first
        | (with_reducible refine OKv.go (C := seat) seat_ok ?_)
        | (with_reducible refine BB_true ?_)
        | (with_reducible refine BB_false ?_)
        | (with_reducible refine Both.mk ?_ ?_)
        | (with_reducible refine VS.mk ?_)
        | (refine PSem.go (C := seat) seat_ok ?_)
        | (refine And.intro (PlanOK.mk (by kernel_rfl) rfl (by kernel_rfl) (by kernel_rfl)) ?_)
        | (refine And.intro rfl (Exists.intro _ (And.intro (by first | assumption | rfl) ?_)))
        | (refine And.intro ⟨rfl, rfl, rfl⟩ ?_)
        | (refine And.intro (by omega) ?_)
        | (refine BB.mk (fun _h => ?_) (fun _h => ?_) <;> (first | (exact absurd _h (by decide)) | (exfalso; simp only [hwk, boolSet] at _h <;> omega) | skip)))
      all_goals (try conv => whnf)
      all_goals exact ⟨k + 1, by omega, by omega, ⟨⟨[0, 1], by decide, GG_no, rfl, SubOld.refl _ rfl, ⟨.inr rfl, .inr rfl, trivial⟩, ⟨.inl rfl, .inl rfl, .inl rfl, .inl rfl, .inl (num_eq (congrArg _ hout)), .inl rfl, .inl rfl, .inl (num_eq (by rw [IntKind.wrap_i64]; omega)), trivial⟩⟩, rfl⟩⟩
  · obtain rfl : k = n := by omega
    have hcU2 : ((List.range k).filter (upAt X)).length = (upL X).length := by rw [upL, lX]
    obtain ⟨fr, hf0, hf1, hf2⟩ := mx_is nd k (by omega) hnd
    have e1 : modL X fr (heardM v) = X := modL_out _ (by omega)
    have e2 : modL X fr (leftM v) = X := modL_out _ (by omega)
    have e3 : modL X nd (heardM 0) = X := modL_same fun y hy => heard0 (vX y hy)
    have e4 : modL X nd (leftM 0) = X := modL_same fun y _ => left0 y
    have hwd : IntKind.i64.wrap (nd : Int) = nd := by rw [IntKind.wrap_i64]; omega
    have hwn : IntKind.u8.wrap (k : Int) = k := by rw [IntKind.wrap_u8]; omega
    by_cases hA : k ≤ nd
    · 
      repeat' ((try conv => whnf); first
        | (with_reducible refine OKv.go (C := seat) seat_ok ?_)
        | (with_reducible refine BB_true ?_)
        | (with_reducible refine BB_false ?_)
        | (with_reducible refine Both.mk ?_ ?_)
        | (with_reducible refine VS.mk ?_)
        | (refine PSem.go (C := seat) seat_ok ?_)
        | (refine And.intro (PlanOK.mk (by kernel_rfl) rfl (by kernel_rfl) (by kernel_rfl)) ?_)
        | (refine And.intro rfl (Exists.intro _ (And.intro (by first | assumption | rfl) ?_)))
        | (refine And.intro ⟨rfl, rfl, rfl⟩ ?_)
        | (refine call_ro [_] (heard_is (X) (X) _ _ fr _ hf0 v lX hcX h300 hf2 e1) GG_no rfl rfl rfl ⟨⟨_, rfl, rfl, rfl⟩, trivial⟩ ?_; rintro r bs' ext ⟨c1, hc1, rfl, rfl⟩)
        | (refine call_ro [_] (left_is (X) (X) _ _ fr _ hf0 v lX hcX h300 hf2 e2) GG_no rfl rfl rfl ⟨⟨_, rfl, rfl, rfl⟩, trivial⟩ ?_; rintro r bs' ext ⟨c2, hc2, rfl, rfl⟩)
        | (refine call_ro [_] (heard_is (X) (X) _ _ nd _ rfl 0 lX hcX h300 hnd e3) GG_no rfl rfl rfl ⟨⟨_, rfl, rfl, rfl⟩, trivial⟩ ?_; rintro r bs' ext ⟨c3, hc3, rfl, rfl⟩)
        | (refine call_ro [_] (left_is (X) (X) _ _ nd _ rfl 0 lX hcX h300 hnd e4) GG_no rfl rfl rfl ⟨⟨_, rfl, rfl, rfl⟩, trivial⟩ ?_; rintro r bs' ext ⟨c4, hc4, rfl, rfl⟩)
        | (refine call_ro [_, _] (memb_yes X X _ _ _ lX h1000 rfl) GG_no rfl rfl rfl ⟨⟨_, rfl, rfl, rfl⟩, ⟨_, rfl, rfl, rfl⟩, trivial⟩ ?_; rintro r bs' ext ⟨rfl, rfl⟩)
        | (refine call_ro [] (awake_ok ()) GG_no rfl rfl rfl trivial ?_; rintro r bs' ext ⟨rfl, rfl⟩)
        | (refine And.intro (by dsimp only; omega) ?_)
        | (refine And.intro (by omega) ?_)
        | (refine BB.mk (fun _h => ?_) (fun _h => ?_) <;> (first | (exact absurd _h (by decide)) | (exfalso; simp only [h00, hwn, hwd, boolSet] at _h <;> omega) | skip)))
      all_goals (try conv => whnf)
      all_goals first
        | exact Fin.mk ⟨rfl, rfl⟩
        | (exfalso; simp only [h00, hwn, hwd, boolSet] at * <;> omega)
    · obtain ⟨x, hx⟩ : ∃ x, X[nd]? = some x := ⟨_, List.getElem?_eq_getElem (by omega)⟩
      have hrow := mb_at hx
      by_cases hB : v = 0 ∨ v < x.i
      · 
        repeat' ((try conv => whnf); first
          | (with_reducible refine OKv.go (C := seat) seat_ok ?_)
          | (with_reducible refine BB_true ?_)
          | (with_reducible refine BB_false ?_)
          | (with_reducible refine Both.mk ?_ ?_)
          | (with_reducible refine VS.mk ?_)
          | (refine PSem.go (C := seat) seat_ok ?_)
          | (refine And.intro (PlanOK.mk (by kernel_rfl) rfl (by kernel_rfl) (by kernel_rfl)) ?_)
          | (refine And.intro rfl (Exists.intro _ (And.intro (by first | assumption | rfl) ?_)))
          | (refine And.intro ⟨rfl, rfl, rfl⟩ ?_)
          | (refine call_ro [_] (heard_is (X) (X) _ _ fr _ hf0 v lX hcX h300 hf2 e1) GG_no rfl rfl rfl ⟨⟨_, rfl, rfl, rfl⟩, trivial⟩ ?_; rintro r bs' ext ⟨c1, hc1, rfl, rfl⟩)
          | (refine call_ro [_] (left_is (X) (X) _ _ fr _ hf0 v lX hcX h300 hf2 e2) GG_no rfl rfl rfl ⟨⟨_, rfl, rfl, rfl⟩, trivial⟩ ?_; rintro r bs' ext ⟨c2, hc2, rfl, rfl⟩)
          | (refine call_ro [_] (heard_is (X) (X) _ _ nd _ rfl 0 lX hcX h300 hnd e3) GG_no rfl rfl rfl ⟨⟨_, rfl, rfl, rfl⟩, trivial⟩ ?_; rintro r bs' ext ⟨c3, hc3, rfl, rfl⟩)
          | (refine call_ro [_] (left_is (X) (X) _ _ nd _ rfl 0 lX hcX h300 hnd e4) GG_no rfl rfl rfl ⟨⟨_, rfl, rfl, rfl⟩, trivial⟩ ?_; rintro r bs' ext ⟨c4, hc4, rfl, rfl⟩)
          | (refine call_ro [_, _] (memb_yes X X _ _ _ lX h1000 rfl) GG_no rfl rfl rfl ⟨⟨_, rfl, rfl, rfl⟩, ⟨_, rfl, rfl, rfl⟩, trivial⟩ ?_; rintro r bs' ext ⟨rfl, rfl⟩)
          | (refine call_ro [] (awake_ok ()) GG_no rfl rfl rfl trivial ?_; rintro r bs' ext ⟨rfl, rfl⟩)
          | (refine And.intro (by dsimp only; omega) ?_)
          | (refine And.intro (by omega) ?_)
          | (refine BB.mk (fun _h => ?_) (fun _h => ?_) <;> (first | (exact absurd _h (by decide)) | (exfalso; simp only [h00, hwn, hwd, boolSet] at _h <;> omega) | skip)))
        all_goals (try conv => whnf)
        all_goals first
          | exact Fin.mk ⟨rfl, rfl⟩
          | (exfalso; simp only [h00, hwn, hwd, boolSet] at * <;> omega)
      · have lM : (modL X nd (leftM v)).length = k := by rw [modL_len]; exact lX
        have hxm := modL_at (leftM v) hx
        obtain ⟨z, hz, hzi, hzs⟩ : ∃ z, z = leftM v x ∧ z.i = v ∧ z.s = 3 := by
          refine ⟨_, rfl, ?_⟩
          rw [leftM, if_neg hB]
          split <;> exact ⟨rfl, rfl⟩
        rw [← hz] at hxm
        have hrow2 := mb_at hxm
        have hno : upAt (modL X nd (leftM v)) nd = false := by
          rw [upAt_in hxm]
          simp [upB, hzs]
        repeat' ((try conv => whnf); first
          | (with_reducible refine OKv.go (C := seat) seat_ok ?_)
          | (with_reducible refine BB_true ?_)
          | (with_reducible refine BB_false ?_)
          | (with_reducible refine Both.mk ?_ ?_)
          | (with_reducible refine VS.mk ?_)
          | (refine PSem.go (C := seat) seat_ok ?_)
          | (refine And.intro (PlanOK.mk (by kernel_rfl) rfl (by kernel_rfl) (by kernel_rfl)) ?_)
          | (refine And.intro rfl (Exists.intro _ (And.intro (by first | assumption | rfl) ?_)))
          | (refine And.intro ⟨rfl, rfl, rfl⟩ ?_)
          | (refine call_ro [_] (heard_is (X) (X) _ _ fr _ hf0 v lX hcX h300 hf2 e1) GG_no rfl rfl rfl ⟨⟨_, rfl, rfl, rfl⟩, trivial⟩ ?_; rintro r bs' ext ⟨c1, hc1, rfl, rfl⟩)
          | (refine call_ro [_] (left_is (X) (X) _ _ fr _ hf0 v lX hcX h300 hf2 e2) GG_no rfl rfl rfl ⟨⟨_, rfl, rfl, rfl⟩, trivial⟩ ?_; rintro r bs' ext ⟨c2, hc2, rfl, rfl⟩)
          | (refine call_ro [_] (heard_is (X) (X) _ _ nd _ rfl 0 lX hcX h300 hnd e3) GG_no rfl rfl rfl ⟨⟨_, rfl, rfl, rfl⟩, trivial⟩ ?_; rintro r bs' ext ⟨c3, hc3, rfl, rfl⟩)
          | (refine call_ro [_] (left_is (X) (X) _ _ nd _ rfl 0 lX hcX h300 hnd e4) GG_no rfl rfl rfl ⟨⟨_, rfl, rfl, rfl⟩, trivial⟩ ?_; rintro r bs' ext ⟨c4, hc4, rfl, rfl⟩)
          | (refine call_ro [_, _] (memb_yes X X _ _ _ lX h1000 rfl) GG_no rfl rfl rfl ⟨⟨_, rfl, rfl, rfl⟩, ⟨_, rfl, rfl, rfl⟩, trivial⟩ ?_; rintro r bs' ext ⟨rfl, rfl⟩)
          | (refine call_ro [] (awake_ok ()) GG_no rfl rfl rfl trivial ?_; rintro r bs' ext ⟨rfl, rfl⟩)
          | (refine And.intro (by dsimp only; omega) ?_)
          | (refine call_ro [_] (left_is X (modL X nd (leftM v)) _ _ nd _ rfl v lX hcX h300 hnd rfl) GG_no rfl rfl rfl ⟨⟨_, rfl, rfl, rfl⟩, trivial⟩ ?_; rintro r bs' ext ⟨c5, hc5, rfl, rfl⟩)
          | (refine call_ro [_] (up3_is (modL X nd (leftM v)) (upL (modL X nd (leftM v))) _ _ lM h256 rfl) GG_no rfl rfl rfl ⟨⟨_, rfl, rfl, rfl⟩, trivial⟩ ?_; rintro r bs' ext ⟨cV, hcV, rfl, rfl⟩)
          | (refine And.intro (by omega) ?_)
          | (refine BB.mk (fun _h => ?_) (fun _h => ?_) <;> (first | (exact absurd _h (by decide)) | (exfalso; simp only [h00, hwn, hwd, boolSet] at _h <;> omega) | skip)))
        all_goals (try conv => whnf)
        refine loop_rule (α := Nat) (fun j => j ≤ (upL (modL X nd (leftM v))).length) (fun j => { slots := [(1, .v (.int .u8 (nd : Int))), (144, .s (.n 0) 1 0 (upL (modL X nd (leftM v))).length cV), (145, .v (.int .i64 ((upL (modL X nd (leftM v))).length : Int))), (146, .v (.int .i64 (j : Int)))], nt := 155, mem := ⟨GG, [.ro 3 (a.map mbC)], [.row 5 1 cV ((upL (modL X nd (leftM v))).map bK)]⟩ }) (fun j => (upL (modL X nd (leftM v))).length - j) 0 (Nat.zero_le _) ⟨⟨[7], (by decide), GG_no, rfl, (SubOld.refl _ rfl), ⟨.inr rfl, trivial⟩, ⟨.inl rfl, .inl rfl, .inl rfl, .inl rfl, trivial⟩⟩, rfl⟩ ?_ (fun _ => rfl)
        rintro j hj
        have hlW : (upL (modL X nd (leftM v))).length ≤ k := by rw [upL, lM]; exact range_le _ _
        refine vc_sound (C := seat) seat_ok (pl := []) ?_
        by_cases hlt : j < (upL (modL X nd (leftM v))).length
        · obtain ⟨u, hu⟩ : ∃ u, (upL (modL X nd (leftM v)))[j]? = some u := ⟨_, List.getElem?_eq_getElem hlt⟩
          have hrow3 := bK_at hu
          have hune : u ≠ nd := fun e => by
            have h := (List.mem_filter.1 (List.mem_of_getElem? hu)).2
            rw [e, hno] at h
            cases h
          repeat' ((try conv => whnf); first
            | (with_reducible refine OKv.go (C := seat) seat_ok ?_)
            | (with_reducible refine BB_true ?_)
            | (with_reducible refine BB_false ?_)
            | (with_reducible refine Both.mk ?_ ?_)
            | (with_reducible refine VS.mk ?_)
            | (refine PSem.go (C := seat) seat_ok ?_)
            | (refine And.intro (PlanOK.mk (by kernel_rfl) rfl (by kernel_rfl) (by kernel_rfl)) ?_)
            | (refine And.intro rfl (Exists.intro _ (And.intro (by first | assumption | rfl) ?_)))
            | (refine And.intro ⟨rfl, rfl, rfl⟩ ?_)
            | (refine And.intro (by omega) ?_)
            | (refine BB.mk (fun _h => ?_) (fun _h => ?_) <;> (first | (exact absurd _h (by decide)) | (exfalso; simp only [boolSet] at _h <;> omega) | skip)))
          all_goals (try conv => whnf)
          exact ⟨j + 1, by omega, by omega, ⟨⟨[0], by decide, GG_no, rfl, SubOld.refl _ rfl, ⟨.inr rfl, trivial⟩, ⟨.inl rfl, .inl rfl, .inl rfl, .inl (num_eq (by rw [IntKind.wrap_i64]; omega)), trivial⟩⟩, rfl⟩⟩
        · 
          repeat' ((try conv => whnf); first
            | (with_reducible refine OKv.go (C := seat) seat_ok ?_)
            | (with_reducible refine BB_true ?_)
            | (with_reducible refine BB_false ?_)
            | (with_reducible refine Both.mk ?_ ?_)
            | (with_reducible refine VS.mk ?_)
            | (refine PSem.go (C := seat) seat_ok ?_)
            | (refine And.intro (PlanOK.mk (by kernel_rfl) rfl (by kernel_rfl) (by kernel_rfl)) ?_)
            | (refine And.intro rfl (Exists.intro _ (And.intro (by first | assumption | rfl) ?_)))
            | (refine And.intro ⟨rfl, rfl, rfl⟩ ?_)
            | (refine call_ro [] (awake_ok ()) GG_no rfl rfl rfl trivial ?_; rintro r bs' ext ⟨rfl, rfl⟩)
            | (refine And.intro (by omega) ?_)
            | (refine BB.mk (fun _h => ?_) (fun _h => ?_) <;> (first | (exact absurd _h (by decide)) | (exfalso; simp only [boolSet] at _h <;> omega) | skip)))
          all_goals (try conv => whnf)
          exact Fin.mk ⟨rfl, rfl⟩
end Go.Proofs.Ytnkhdnmilncidaa
