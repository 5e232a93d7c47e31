/- Law FilterNormal. -/
import Derived.Test.YtlclimhimiladaaDoorF05j
import Derived.Test.YtlclimhimiladaaDoorSCHb
namespace Go.Proofs.YtlclimhimiladaaDoor
open Go.RowKit

theorem metP_yes {x y : Sp} : metP x y = true ↔ max x.a y.a ≤ min x.b y.b := by
  unfold metP
  rw [decide_eq_true_eq]
theorem rigP_iff {x y : Sp} : rigP x y = true ↔ y.a ≤ y.b ∧ x.a ≤ y.a ∧ y.b ≤ x.b := by
  unfold rigP covT
  simp only [Bool.and_eq_true, Bool.or_eq_true, decide_eq_true_eq]
  omega
theorem rightB_iff {s g : List Sp} : rightB s g = true ↔ g.length = 0 ∨ (s.length = g.length ∧ ∀ j, j < s.length → rigP (atD s j) (atD g j) = true) := by
  unfold rightB
  rw [Bool.or_eq_true, Bool.and_eq_true, decide_eq_true_eq, decide_eq_true_eq, allP_iff]
  constructor
  · rintro (h | ⟨h, k⟩)
    · exact .inl h
    · exact .inr ⟨h, fun j hj => k j (by omega)⟩
  · rintro (h | ⟨h, k⟩)
    · exact .inl h
    · exact .inr ⟨h, fun j hj => k j (by omega)⟩
theorem right_meet (s g : List Sp) : rightB s (meetF s g) = true := by
  rw [rightB_iff]
  rcases meetF_cases s g with ⟨h1, h2, h3⟩ | ⟨h1, h2⟩
  · refine .inr ⟨by rw [h3, mtL_len], fun j hj => ?_⟩
    have := h2 j hj
    rw [metP_yes] at this
    rw [h3, mtL_at hj, rigP_iff]
    simp only [mtP]
    omega
  · exact .inl (by rw [h1]; rfl)
theorem meet_meet (s g : List Sp) : meetF s (meetF s g) = meetF s g := by
  rcases meetF_cases s g with ⟨h1, h2, h3⟩ | ⟨h1, h2⟩
  · rw [h3]
    have hl : (mtL s g s.length).length = s.length := mtL_len s g s.length
    rw [meetF_yes hl.symm (fun j hj => by
      have hj : j < s.length := by omega
      have := h2 j hj
      rw [metP_yes] at this ⊢
      rw [mtL_at hj]
      simp only [mtP]
      omega)]
    rw [hl, Nat.min_self]
    refine atD_ext (by rw [mtL_len, mtL_len]) fun j hj => ?_
    rw [mtL_len] at hj
    rw [mtL_at hj, mtL_at hj, sp_eq]
    simp only [mtP]
    omega
  · rw [h1]
    exact meetF_nil rfl
theorem right_same (s g : List Sp) : rightB s g = decide (meetF s g = g) := by
  apply bool_iff
  rw [decide_eq_true_eq]
  constructor
  · intro h
    rw [rightB_iff] at h
    rcases h with h | ⟨h, k⟩
    · rw [meetF_nil h]
      exact (List.eq_nil_of_length_eq_zero h).symm
    · rw [meetF_yes h (fun j hj => by
        have := k j (by omega)
        rw [rigP_iff] at this
        rw [metP_yes]
        omega)]
      refine atD_ext (by rw [mtL_len]; omega) fun j hj => ?_
      rw [mtL_len] at hj
      have := k j (by omega)
      rw [rigP_iff] at this
      rw [mtL_at hj, sp_eq]
      simp only [mtP]
      omega
  · intro h
    exact h ▸ right_meet s g
theorem sch_bnd {s : List Sp} (h : schB s = true) : (∀ j, j < s.length → (atD s j).a ≤ (atD s j).b) ∧ 0 < s.length ∧ s.length < 5 := schB_iff.1 h
theorem match_bring {s : List Sp} (h : schB s = true) (v : List Int) : matchB s (bringL s v) = true := by
  have h := sch_bnd h
  rw [matchB_iff]
  refine ⟨by omega, (bringL_len s v).symm, fun j hj => ?_⟩
  have := h.1 j hj
  rw [bringL_at hj, hasP_iff]
  unfold brI bndI
  omega
theorem match_norm {s : List Sp} (h : schB s = true) (g : List Sp) (v : List Int) {x : Bool} (hx : matchB g (bringL s v) = x) : matchB (meetF s g) (bringL s v) = x := by
  rw [match_meet, match_bring h, hx, Bool.true_and]
theorem norm_norm (s g : List Sp) : normE s (meetF s g) = 0 := by
  unfold normE
  rcases meetF_cases s g with ⟨h1, h2, h3⟩ | ⟨h1, h2⟩
  · rw [if_pos (.inr (by rw [h3, mtL_len]))]
  · rw [if_pos (.inl (by rw [h1]; rfl))]
theorem spOk_at {l : List Sp} (h : ∀ y ∈ l, SpOk y) : ∀ k, k < l.length → SpOk (atD l k) := fun k hk => h _ (List.mem_of_getElem? (atD_some hk))
theorem spOk_meet {s g : List Sp} (hs : ∀ y ∈ s, SpOk y) (hg : ∀ y ∈ g, SpOk y) : ∀ k, k < (meetF s g).length → SpOk (atD (meetF s g) k) := by
  intro k hk
  rcases meetF_cases s g with ⟨h1, h2, h3⟩ | ⟨h1, h2⟩
  · rw [h3, mtL_len] at hk
    rw [h3, mtL_at hk]
    have e1 := spOk_at hs k hk
    have e2 := spOk_at hg k (by omega)
    unfold SpOk at *
    simp only [mtP]
    omega
  · rw [h1] at hk
    cases hk
theorem sright_zb (l : List Sp) (ca : Nat) (hl : l.length ≤ 1099511627776) (b : Bool) (hb : schB l = b) : FnOK Tryd.prog GG 25 [] [.z 2 (l.map spC) ca] (fun r _ ext => (r = .v (.bool b)) ∧ ext = []) := hb ▸ sright_z l ca hl
set_option maxRecDepth 100000 in
set_option maxHeartbeats 4000000 in
theorem filterNormal_ok (s g : List Sp) (v : List Int) (cs cg cv : Nat) (hs : s.length ≤ 9223372036854775807) (hg : g.length ≤ 9223372036854775807) (hv : v.length ≤ 9223372036854775807) (hsok : ∀ y ∈ s, SpOk y) (hok : ∀ y ∈ g, SpOk y) : FnOK Tryd.prog GG 4 [] [.z 2 (s.map spC) cs, .z 2 (g.map spC) cg, .z 1 (v.map nuC) cv] (fun r _ ext => (r = .v (.bool true)) ∧ ext = []) := by
  have hms : (s.map spC).length = s.length := List.length_map _
  have hma : (g.map spC).length = g.length := List.length_map _
  by_cases h0 : 8 < s.length
  · refine FnOK.pure GG_no rfl (fn_intro (C := seat) seat_ok [] GG_no (Tryd.func4) rfl rfl rfl rfl rfl ?_)
    repeat' ((try conv => whnf); first
      | (with_reducible refine OKv.go (C := seat) seat_ok ?_)
      | (with_reducible refine BB_true ?_)
      | (with_reducible refine BB_false ?_)
      | (with_reducible refine Both.mk ?_ ?_)
      | (with_reducible refine VS.mk ?_)
      | (refine PSem.go (C := seat) seat_ok ?_)
      | (refine And.intro (PlanOK.mk (by kernel_rfl) rfl (by kernel_rfl) (by kernel_rfl)) ?_)
      | (refine And.intro rfl (Exists.intro _ (And.intro (by first | assumption | rfl) ?_)))
      | (refine And.intro ⟨rfl, rfl, rfl⟩ ?_)
      | (refine call_ro [] (awake_ok) GG_no rfl rfl rfl trivial ?_; rintro r bs' ext ⟨rfl, rfl⟩)
      | (refine BB.mk (fun _h => ?_) (fun _h => ?_) <;> (first | (exact absurd _h (by decide)) | (exfalso; simp only [bne_self_eq_false, beq_self_eq_true, Bool.false_eq_true, Bool.true_eq_false] at _h; done) | (exfalso; simp only [boolSet, hms, hma] at _h <;> omega) | (simp only [boolSet, hms, hma] at _h) | skip))
      | (refine And.intro (by omega) ?_)
      | (refine BB.mk (fun _h => ?_) (fun _h => ?_) <;> (first | (exact absurd _h (by decide)) | (exfalso; simp only [boolSet] at _h <;> omega) | skip)))
    all_goals (try conv => whnf)
    all_goals exact ⟨_, _, FrzV.refl _ _, rfl, rfl, fun _ => rfl, rfl⟩
  · cases hfew : fewB g [] v with
    | false =>
      refine FnOK.pure GG_no rfl (fn_intro (C := seat) seat_ok [] GG_no (Tryd.func4) rfl rfl rfl rfl rfl ?_)
      repeat' ((try conv => whnf); first
        | (with_reducible refine OKv.go (C := seat) seat_ok ?_)
        | (with_reducible refine BB_true ?_)
        | (with_reducible refine BB_false ?_)
        | (with_reducible refine Both.mk ?_ ?_)
        | (with_reducible refine VS.mk ?_)
        | (refine PSem.go (C := seat) seat_ok ?_)
        | (refine And.intro (PlanOK.mk (by kernel_rfl) rfl (by kernel_rfl) (by kernel_rfl)) ?_)
        | (refine And.intro rfl (Exists.intro _ (And.intro (by first | assumption | rfl) ?_)))
        | (refine And.intro ⟨rfl, rfl, rfl⟩ ?_)
        | ((try (first | refine call_frz 1 rfl (frz_nil _ 2) ?_ | refine call_frz 1 rfl (frz_row rfl (by first | rfl | exact (List.length_map _).symm)) ?_ | refine call_frz 1 rfl (frz_ro rfl (by first | rfl | exact (List.length_map _).symm)) ?_)); refine call_ro [] (few_z g [] v _ 0 _ false hfew) GG_no rfl rfl rfl trivial ?_; rintro r bs' ext ⟨rfl, rfl⟩)
        | (refine call_ro [] (awake_ok) GG_no rfl rfl rfl trivial ?_; rintro r bs' ext ⟨rfl, rfl⟩)
        | (refine BB.mk (fun _h => ?_) (fun _h => ?_) <;> (first | (exact absurd _h (by decide)) | (exfalso; simp only [bne_self_eq_false, beq_self_eq_true, Bool.false_eq_true, Bool.true_eq_false] at _h; done) | (exfalso; simp only [boolSet, hms, hma] at _h <;> omega) | (simp only [boolSet, hms, hma] at _h) | skip))
        | (refine And.intro (by omega) ?_)
        | (refine BB.mk (fun _h => ?_) (fun _h => ?_) <;> (first | (exact absurd _h (by decide)) | (exfalso; simp only [boolSet] at _h <;> omega) | skip)))
      all_goals (try conv => whnf)
      all_goals exact ⟨_, _, FrzV.refl _ _, rfl, rfl, fun _ => rfl, rfl⟩
    | true =>
      have h8 := of_decide_eq_true hfew
      cases hsch : schB s with
      | false =>
        refine FnOK.pure GG_no rfl (fn_intro (C := seat) seat_ok [] GG_no (Tryd.func4) rfl rfl rfl rfl rfl ?_)
        repeat' ((try conv => whnf); first
          | (with_reducible refine OKv.go (C := seat) seat_ok ?_)
          | (with_reducible refine BB_true ?_)
          | (with_reducible refine BB_false ?_)
          | (with_reducible refine Both.mk ?_ ?_)
          | (with_reducible refine VS.mk ?_)
          | (refine PSem.go (C := seat) seat_ok ?_)
          | (refine And.intro (PlanOK.mk (by kernel_rfl) rfl (by kernel_rfl) (by kernel_rfl)) ?_)
          | (refine And.intro rfl (Exists.intro _ (And.intro (by first | assumption | rfl) ?_)))
          | (refine And.intro ⟨rfl, rfl, rfl⟩ ?_)
          | ((try (first | refine call_frz 1 rfl (frz_nil _ 2) ?_ | refine call_frz 1 rfl (frz_row rfl (by first | rfl | exact (List.length_map _).symm)) ?_ | refine call_frz 1 rfl (frz_ro rfl (by first | rfl | exact (List.length_map _).symm)) ?_)); refine call_ro [] (few_z g [] v _ 0 _ true hfew) GG_no rfl rfl rfl trivial ?_; rintro r bs' ext ⟨rfl, rfl⟩)
          | (refine call_ro [] (sright_zb s _ (by omega) false hsch) GG_no rfl rfl rfl trivial ?_; rintro r bs' ext ⟨rfl, rfl⟩)
          | (refine call_ro [] (awake_ok) GG_no rfl rfl rfl trivial ?_; rintro r bs' ext ⟨rfl, rfl⟩)
          | (refine BB.mk (fun _h => ?_) (fun _h => ?_) <;> (first | (exact absurd _h (by decide)) | (exfalso; simp only [bne_self_eq_false, beq_self_eq_true, Bool.false_eq_true, Bool.true_eq_false] at _h; done) | (exfalso; simp only [boolSet, hms, hma] at _h <;> omega) | (simp only [boolSet, hms, hma] at _h) | skip))
          | (refine And.intro (by omega) ?_)
          | (refine BB.mk (fun _h => ?_) (fun _h => ?_) <;> (first | (exact absurd _h (by decide)) | (exfalso; simp only [boolSet] at _h <;> omega) | skip)))
        all_goals (try conv => whnf)
        all_goals exact ⟨_, _, FrzV.refl _ _, rfl, rfl, fun _ => rfl, rfl⟩
      | true =>
        have hsb := sch_bnd hsch
        have hm := meetF_len s g
        have hbl := bringL_len s v
        obtain ⟨y, hy⟩ : ∃ y, rightB s g = y := ⟨_, rfl⟩
        have hy2 : decide (meetF s g = g) = y := by rw [← right_same, hy]
        by_cases hq : g.length = 0 ∨ g.length = s.length
        · refine FnOK.pure GG_no rfl (fn_intro (C := seat) seat_ok [] GG_no (Tryd.func4) rfl rfl rfl rfl rfl ?_)
          repeat' ((try conv => whnf); first
            | (with_reducible refine OKv.go (C := seat) seat_ok ?_)
            | (with_reducible refine BB_true ?_)
            | (with_reducible refine BB_false ?_)
            | (with_reducible refine Both.mk ?_ ?_)
            | (with_reducible refine VS.mk ?_)
            | (refine PSem.go (C := seat) seat_ok ?_)
            | (refine And.intro (PlanOK.mk (by kernel_rfl) rfl (by kernel_rfl) (by kernel_rfl)) ?_)
            | (refine And.intro rfl (Exists.intro _ (And.intro (by first | assumption | rfl) ?_)))
            | (refine And.intro ⟨rfl, rfl, rfl⟩ ?_)
            | ((try (first | refine call_frz 1 rfl (frz_nil _ 2) ?_ | refine call_frz 1 rfl (frz_row rfl (by first | rfl | exact (List.length_map _).symm)) ?_ | refine call_frz 1 rfl (frz_ro rfl (by first | rfl | exact (List.length_map _).symm)) ?_)); refine call_ro [] (few_z g [] v _ 0 _ true hfew) GG_no rfl rfl rfl trivial ?_; rintro r bs' ext ⟨rfl, rfl⟩)
            | (refine call_ro [] (sright_zb s _ (by omega) true hsch) GG_no rfl rfl rfl trivial ?_; rintro r bs' ext ⟨rfl, rfl⟩)
            | (refine call_ro [] (awake_ok) GG_no rfl rfl rfl trivial ?_; rintro r bs' ext ⟨rfl, rfl⟩)
            | (refine call_ro [] (norm_zo s g _ _ (by omega) (by omega) (meetF s g) 0 rfl (by unfold normE; rw [if_pos hq])) GG_no rfl rfl rfl trivial ?_; rintro r bs' ext ⟨⟨c1, hc1, rfl⟩, rfl⟩)
            | (refine call_ro [] (bring_z s v _ _ (by omega) (by omega)) GG_no rfl rfl rfl trivial ?_; rintro r bs' ext ⟨⟨c2, hc2, rfl⟩, rfl⟩)
            | (refine call_ro [] (norm_zo s (meetF s g) _ _ (by omega) (by omega) (meetF s g) 0 (meet_meet s g) (norm_norm s g)) GG_no rfl rfl rfl trivial ?_; rintro r bs' ext ⟨⟨c3, hc3, rfl⟩, rfl⟩)
            | (refine call_ro [] (right_zb s (meetF s g) _ _ (by omega) (by omega) (spOk_meet hsok hok) true (right_meet s g)) GG_no rfl rfl rfl trivial ?_; rintro r bs' ext ⟨rfl, rfl⟩)
            | (refine call_ro [] (right_zb s g _ _ (by omega) (by omega) (spOk_at hok) y hy) GG_no rfl rfl rfl trivial ?_; rintro r bs' ext ⟨rfl, rfl⟩)
            | (refine call_ro [] (match_zb (meetF s g) (bringL s v) _ _ (by omega) (by omega) (matchB g (bringL s v)) (match_norm hsch g v rfl)) GG_no rfl rfl rfl trivial ?_; rintro r bs' ext ⟨rfl, rfl⟩)
            | (refine call_ro [] (match_zb g (bringL s v) _ _ (by omega) (by omega) (matchB g (bringL s v)) rfl) GG_no rfl rfl rfl trivial ?_; rintro r bs' ext ⟨rfl, rfl⟩)
            | (refine call_ro [] (same_z (meetF s g) (meetF s g) _ _ (by omega) true (by simp)) GG_no rfl rfl rfl trivial ?_; rintro r bs' ext ⟨rfl, rfl⟩)
            | (refine call_ro [] (same_z (meetF s g) g _ _ (by omega) y hy2) GG_no rfl rfl rfl trivial ?_; rintro r bs' ext ⟨rfl, rfl⟩)
            | (refine BB.mk (fun _h => ?_) (fun _h => ?_) <;> (first | (exact absurd _h (by decide)) | (exfalso; simp only [bne_self_eq_false, beq_self_eq_true, Bool.false_eq_true, Bool.true_eq_false] at _h; done) | (exfalso; simp only [boolSet, hms, hma] at _h <;> omega) | (simp only [boolSet, hms, hma] at _h) | skip))
            | (refine And.intro (by omega) ?_)
            | (refine BB.mk (fun _h => ?_) (fun _h => ?_) <;> (first | (exact absurd _h (by decide)) | (exfalso; simp only [boolSet] at _h <;> omega) | skip)))
          all_goals (try conv => whnf)
          all_goals first
            | exact ⟨_, _, FrzV.refl _ _, rfl, rfl, fun _ => rfl, rfl⟩
            | (exfalso; simp_all; done)
            | trace_state
        · have hn0 : meetF s g = [] := meetF_ne (by omega)
          have hnl : ((meetF s g).map spC).length = 0 := by rw [hn0]; rfl
          refine FnOK.pure GG_no rfl (fn_intro (C := seat) seat_ok [] GG_no (Tryd.func4) rfl rfl rfl rfl rfl ?_)
          repeat' ((try conv => whnf); first
            | (with_reducible refine OKv.go (C := seat) seat_ok ?_)
            | (with_reducible refine BB_true ?_)
            | (with_reducible refine BB_false ?_)
            | (with_reducible refine Both.mk ?_ ?_)
            | (with_reducible refine VS.mk ?_)
            | (refine PSem.go (C := seat) seat_ok ?_)
            | (refine And.intro (PlanOK.mk (by kernel_rfl) rfl (by kernel_rfl) (by kernel_rfl)) ?_)
            | (refine And.intro rfl (Exists.intro _ (And.intro (by first | assumption | rfl) ?_)))
            | (refine And.intro ⟨rfl, rfl, rfl⟩ ?_)
            | ((try (first | refine call_frz 1 rfl (frz_nil _ 2) ?_ | refine call_frz 1 rfl (frz_row rfl (by first | rfl | exact (List.length_map _).symm)) ?_ | refine call_frz 1 rfl (frz_ro rfl (by first | rfl | exact (List.length_map _).symm)) ?_)); refine call_ro [] (few_z g [] v _ 0 _ true hfew) GG_no rfl rfl rfl trivial ?_; rintro r bs' ext ⟨rfl, rfl⟩)
            | (refine call_ro [] (sright_zb s _ (by omega) true hsch) GG_no rfl rfl rfl trivial ?_; rintro r bs' ext ⟨rfl, rfl⟩)
            | (refine call_ro [] (awake_ok) GG_no rfl rfl rfl trivial ?_; rintro r bs' ext ⟨rfl, rfl⟩)
            | (refine call_ro [] (norm_zo s g _ _ (by omega) (by omega) (meetF s g) 50 rfl (by unfold normE; rw [if_neg hq])) GG_no rfl rfl rfl trivial ?_; rintro r bs' ext ⟨⟨c1, hc1, rfl⟩, rfl⟩)
            | (refine BB.mk (fun _h => ?_) (fun _h => ?_) <;> (first | (exact absurd _h (by decide)) | (exfalso; simp only [bne_self_eq_false, beq_self_eq_true, Bool.false_eq_true, Bool.true_eq_false] at _h; done) | (exfalso; simp only [boolSet, hms, hma, hnl] at _h <;> omega) | (simp only [boolSet, hms, hma, hnl] at _h) | skip))
            | (refine And.intro (by omega) ?_)
            | (refine BB.mk (fun _h => ?_) (fun _h => ?_) <;> (first | (exact absurd _h (by decide)) | (exfalso; simp only [boolSet] at _h <;> omega) | skip)))
          all_goals (try conv => whnf)
          all_goals first
            | exact ⟨_, _, FrzV.refl _ _, rfl, rfl, fun _ => rfl, rfl⟩
            | trace_state
end Go.Proofs.YtlclimhimiladaaDoor
