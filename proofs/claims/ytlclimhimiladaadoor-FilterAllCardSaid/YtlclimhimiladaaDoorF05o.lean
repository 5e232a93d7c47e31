/- Law FilterAll. -/
import Derived.Test.YtlclimhimiladaaDoorF05n
namespace Go.Proofs.YtlclimhimiladaaDoor
open Go.RowKit

def wide : Sp := ⟨-2147483648, 2147483647⟩
def wideL (n : Nat) : List Sp := List.replicate n wide
theorem wideL_len (n : Nat) : (wideL n).length = n := List.length_replicate
theorem wideL_succ (n : Nat) : wideL (n + 1) = wideL n ++ [wide] := List.replicate_succ'
theorem wideL_at {n j : Nat} (h : j < n) : atD (wideL n) j = wide := by
  unfold atD wideL
  rw [List.getD_eq_getElem?_getD, List.getElem?_replicate, if_pos h]; rfl
theorem meet_wide {s : List Sp} (h : schB s = true) (hs : ∀ y ∈ s, SpOk y) : meetF s (wideL s.length) = s := by
  have h := sch_bnd h
  have e : ∀ j, j < s.length → max (atD s j).a wide.a = (atD s j).a ∧ min (atD s j).b wide.b = (atD s j).b := fun j hj => by
    have := spOk_at hs j hj
    unfold SpOk at this
    unfold wide
    dsimp only
    omega
  rw [meetF_yes (wideL_len _).symm (fun j hj => by
    have hj : j < s.length := by rw [wideL_len] at hj; omega
    have := e j hj
    have := h.1 j hj
    rw [metP_yes, wideL_at hj]
    omega)]
  rw [wideL_len, Nat.min_self]
  refine atD_ext (mtL_len _ _ _) fun j hj => ?_
  rw [mtL_len] at hj
  rw [mtL_at hj, wideL_at hj, sp_eq]
  exact e j hj
theorem norm_wide (s : List Sp) : normE s (wideL s.length) = 0 := by
  unfold normE
  rw [if_pos (.inr (wideL_len _))]
theorem right_self {s : List Sp} (h : schB s = true) : rightB s s = true := by
  have h := sch_bnd h
  rw [rightB_iff]
  refine .inr ⟨rfl, fun j hj => ?_⟩
  have := h.1 j hj
  rw [rigP_iff]
  omega
def firstL (g : List Sp) (k : Nat) : List Int := (g.take k).map (fun x => x.a)
theorem firstL_len {g : List Sp} {k : Nat} (h : k ≤ g.length) : (firstL g k).length = k := by
  unfold firstL
  rw [List.length_map, List.length_take]
  omega
theorem firstL_succ {g : List Sp} {k : Nat} (h : k < g.length) : firstL g (k + 1) = firstL g k ++ [(atD g k).a] := by
  unfold firstL
  rw [take_at h, List.map_append]; rfl
theorem firstL_at {g : List Sp} {j : Nat} (h : j < g.length) : atD (firstL g g.length) j = (atD g j).a := by
  unfold firstL
  rw [List.take_length]
  unfold atD
  rw [List.getD_eq_getElem?_getD, List.getD_eq_getElem?_getD, List.getElem?_map, List.getElem?_eq_getElem h]; rfl
theorem first_match {s g : List Sp} (h : rightB s g = true) (h0 : g.length ≠ 0) : matchB g (firstL g g.length) = true := by
  rw [rightB_iff] at h
  rcases h with h | ⟨h, k⟩
  · exact (h0 h).elim
  rw [matchB_iff]
  refine ⟨h0, (firstL_len (Nat.le_refl _)).symm, fun j hj => ?_⟩
  have := k j (by omega)
  rw [rigP_iff] at this
  rw [hasP_iff, firstL_at hj]
  omega
theorem first_fits {s g : List Sp} (h : rightB s g = true) (h0 : g.length ≠ 0) : fitsB s (firstL g g.length) = true := by
  rw [rightB_iff] at h
  rcases h with h | ⟨h, k⟩
  · exact (h0 h).elim
  have hl := firstL_len (Nat.le_refl g.length)
  unfold fitsB
  rw [decide_eq_true (by omega), Bool.true_and]
  refine allP_yes fun j hj => ?_
  have := k j (by omega)
  rw [rigP_iff] at this
  unfold fitP bndI
  rw [decide_eq_true_eq, firstL_at (by omega)]
  omega
theorem right_covers {s g : List Sp} (h : rightB s g = true) : coversB s g = true := by
  rw [rightB_iff] at h
  rw [coversB_iff]
  rcases h with h | ⟨h, k⟩
  · exact .inl h
  refine .inr ⟨h, fun j hj => ?_⟩
  have := k j hj
  rw [rigP_iff] at this
  rw [covP_iff]
  omega
theorem fits_zb (l : List Sp) (r : List Int) (ca cb : Nat) (hl : l.length ≤ 1099511627776) (hr : r.length ≤ 1099511627776) (b : Bool) (hb : fitsB l r = b) : FnOK Tryd.prog GG 27 [] [.z 2 (l.map spC) ca, .z 1 (r.map nuC) cb] (fun rr _ ext => (rr = .v (.bool b)) ∧ ext = []) := hb ▸ fits_z l r ca cb hl hr
set_option maxRecDepth 100000 in
set_option maxHeartbeats 4000000 in
theorem filterAll_ok (s g : List Sp) (v : List Int) (cs cg cv : Nat) (hs : s.length ≤ 9223372036854775807) (hg : g.length ≤ 9223372036854775807) (hv : v.length ≤ 9223372036854775807) (hsok : ∀ y ∈ s, SpOk y) (hok : ∀ y ∈ g, SpOk y) : FnOK Tryd.prog GG 7 [] [.z 2 (s.map spC) cs, .z 1 (v.map nuC) cv, .z 2 (g.map spC) cg] (fun r _ ext => (r = .v (.bool true)) ∧ ext = []) := by
  have hms : (s.map spC).length = s.length := List.length_map _
  have hma : (g.map spC).length = g.length := List.length_map _
  by_cases h0 : 8 < s.length
  · refine FnOK.pure GG_no rfl (fn_intro (C := seat) seat_ok [] GG_no (Tryd.func7) rfl rfl rfl rfl rfl ?_)
    repeat' ((try conv => whnf); first
      | (with_reducible refine OKv.go (C := seat) seat_ok ?_)
      | (with_reducible refine BB_true ?_)
      | (with_reducible refine BB_false ?_)
      | (with_reducible refine Both.mk ?_ ?_)
      | (with_reducible refine VS.mk ?_)
      | (refine PSem.go (C := seat) seat_ok ?_)
      | (refine And.intro (PlanOK.mk (by kernel_rfl) rfl (by kernel_rfl) (by kernel_rfl)) ?_)
      | (refine And.intro rfl (Exists.intro _ (And.intro (by first | assumption | rfl) ?_)))
      | (refine And.intro ⟨rfl, rfl, rfl⟩ ?_)
      | (refine call_ro [] (awake_ok) GG_no rfl rfl rfl trivial ?_; rintro r bs' ext ⟨rfl, rfl⟩)
      | (refine BB.mk (fun _h => ?_) (fun _h => ?_) <;> (first | (exact absurd _h (by decide)) | (exfalso; simp only [bne_self_eq_false, beq_self_eq_true, Bool.false_eq_true, Bool.true_eq_false] at _h; done) | (exfalso; simp only [boolSet, hms, hma] at _h <;> omega) | (simp only [boolSet, hms, hma] at _h) | skip))
      | (refine And.intro (by omega) ?_)
      | (refine BB.mk (fun _h => ?_) (fun _h => ?_) <;> (first | (exact absurd _h (by decide)) | (exfalso; simp only [boolSet] at _h <;> omega) | skip)))
    all_goals (try conv => whnf)
    all_goals exact ⟨_, _, FrzV.refl _ _, rfl, rfl, fun _ => rfl, rfl⟩
  · cases hfew : fewB g [] v with
    | false =>
      refine FnOK.pure GG_no rfl (fn_intro (C := seat) seat_ok [] GG_no (Tryd.func7) rfl rfl rfl rfl rfl ?_)
      repeat' ((try conv => whnf); first
        | (with_reducible refine OKv.go (C := seat) seat_ok ?_)
        | (with_reducible refine BB_true ?_)
        | (with_reducible refine BB_false ?_)
        | (with_reducible refine Both.mk ?_ ?_)
        | (with_reducible refine VS.mk ?_)
        | (refine PSem.go (C := seat) seat_ok ?_)
        | (refine And.intro (PlanOK.mk (by kernel_rfl) rfl (by kernel_rfl) (by kernel_rfl)) ?_)
        | (refine And.intro rfl (Exists.intro _ (And.intro (by first | assumption | rfl) ?_)))
        | (refine And.intro ⟨rfl, rfl, rfl⟩ ?_)
        | ((try (first | refine call_frz 1 rfl (frz_nil _ 2) ?_ | refine call_frz 1 rfl (frz_row rfl (by first | rfl | exact (List.length_map _).symm)) ?_ | refine call_frz 1 rfl (frz_ro rfl (by first | rfl | exact (List.length_map _).symm)) ?_)); refine call_ro [] (few_z g [] v _ 0 _ false hfew) GG_no rfl rfl rfl trivial ?_; rintro r bs' ext ⟨rfl, rfl⟩)
        | (refine call_ro [] (awake_ok) GG_no rfl rfl rfl trivial ?_; rintro r bs' ext ⟨rfl, rfl⟩)
        | (refine BB.mk (fun _h => ?_) (fun _h => ?_) <;> (first | (exact absurd _h (by decide)) | (exfalso; simp only [bne_self_eq_false, beq_self_eq_true, Bool.false_eq_true, Bool.true_eq_false] at _h; done) | (exfalso; simp only [boolSet, hms, hma] at _h <;> omega) | (simp only [boolSet, hms, hma] at _h) | skip))
        | (refine And.intro (by omega) ?_)
        | (refine BB.mk (fun _h => ?_) (fun _h => ?_) <;> (first | (exact absurd _h (by decide)) | (exfalso; simp only [boolSet] at _h <;> omega) | skip)))
      all_goals (try conv => whnf)
      all_goals exact ⟨_, _, FrzV.refl _ _, rfl, rfl, fun _ => rfl, rfl⟩
    | true =>
      have h8 := of_decide_eq_true hfew
      cases hsch : schB s with
      | false =>
        refine FnOK.pure GG_no rfl (fn_intro (C := seat) seat_ok [] GG_no (Tryd.func7) rfl rfl rfl rfl rfl ?_)
        repeat' ((try conv => whnf); first
          | (with_reducible refine OKv.go (C := seat) seat_ok ?_)
          | (with_reducible refine BB_true ?_)
          | (with_reducible refine BB_false ?_)
          | (with_reducible refine Both.mk ?_ ?_)
          | (with_reducible refine VS.mk ?_)
          | (refine PSem.go (C := seat) seat_ok ?_)
          | (refine And.intro (PlanOK.mk (by kernel_rfl) rfl (by kernel_rfl) (by kernel_rfl)) ?_)
          | (refine And.intro rfl (Exists.intro _ (And.intro (by first | assumption | rfl) ?_)))
          | (refine And.intro ⟨rfl, rfl, rfl⟩ ?_)
          | ((try (first | refine call_frz 1 rfl (frz_nil _ 2) ?_ | refine call_frz 1 rfl (frz_row rfl (by first | rfl | exact (List.length_map _).symm)) ?_ | refine call_frz 1 rfl (frz_ro rfl (by first | rfl | exact (List.length_map _).symm)) ?_)); refine call_ro [] (few_z g [] v _ 0 _ true hfew) GG_no rfl rfl rfl trivial ?_; rintro r bs' ext ⟨rfl, rfl⟩)
          | (refine call_ro [] (sright_zb s _ (by omega) false hsch) GG_no rfl rfl rfl trivial ?_; rintro r bs' ext ⟨rfl, rfl⟩)
          | (refine call_ro [] (awake_ok) GG_no rfl rfl rfl trivial ?_; rintro r bs' ext ⟨rfl, rfl⟩)
          | (refine BB.mk (fun _h => ?_) (fun _h => ?_) <;> (first | (exact absurd _h (by decide)) | (exfalso; simp only [bne_self_eq_false, beq_self_eq_true, Bool.false_eq_true, Bool.true_eq_false] at _h; done) | (exfalso; simp only [boolSet, hms, hma] at _h <;> omega) | (simp only [boolSet, hms, hma] at _h) | skip))
          | (refine And.intro (by omega) ?_)
          | (refine BB.mk (fun _h => ?_) (fun _h => ?_) <;> (first | (exact absurd _h (by decide)) | (exfalso; simp only [boolSet] at _h <;> omega) | skip)))
        all_goals (try conv => whnf)
        all_goals exact ⟨_, _, FrzV.refl _ _, rfl, rfl, fun _ => rfl, rfl⟩
      | true =>
        have hsb := sch_bnd hsch
        have hbl := bringL_len s v
        refine FnOK.pure GG_no rfl (fn_intro (C := seat) seat_ok [] GG_no (Tryd.func7) rfl rfl rfl rfl rfl ?_)
        repeat' ((try conv => whnf); first
          | (with_reducible refine OKv.go (C := seat) seat_ok ?_)
          | (with_reducible refine BB_true ?_)
          | (with_reducible refine BB_false ?_)
          | (with_reducible refine Both.mk ?_ ?_)
          | (with_reducible refine VS.mk ?_)
          | (refine PSem.go (C := seat) seat_ok ?_)
          | (refine And.intro (PlanOK.mk (by kernel_rfl) rfl (by kernel_rfl) (by kernel_rfl)) ?_)
          | (refine And.intro rfl (Exists.intro _ (And.intro (by first | assumption | rfl) ?_)))
          | (refine And.intro ⟨rfl, rfl, rfl⟩ ?_)
          | ((try (first | refine call_frz 1 rfl (frz_nil _ 2) ?_ | refine call_frz 1 rfl (frz_row rfl (by first | rfl | exact (List.length_map _).symm)) ?_ | refine call_frz 1 rfl (frz_ro rfl (by first | rfl | exact (List.length_map _).symm)) ?_)); refine call_ro [] (few_z g [] v _ 0 _ true hfew) GG_no rfl rfl rfl trivial ?_; rintro r bs' ext ⟨rfl, rfl⟩)
          | (refine call_ro [] (sright_zb s _ (by omega) true hsch) GG_no rfl rfl rfl trivial ?_; rintro r bs' ext ⟨rfl, rfl⟩)
          | (refine call_ro [] (awake_ok) GG_no rfl rfl rfl trivial ?_; rintro r bs' ext ⟨rfl, rfl⟩)
          | (refine call_ro [] (bring_z s v _ _ (by omega) (by omega)) GG_no rfl rfl rfl trivial ?_; rintro r bs' ext ⟨⟨c2, hc2, rfl⟩, rfl⟩)
          | (refine BB.mk (fun _h => ?_) (fun _h => ?_) <;> (first | (exact absurd _h (by decide)) | (exfalso; simp only [bne_self_eq_false, beq_self_eq_true, Bool.false_eq_true, Bool.true_eq_false] at _h; done) | (exfalso; simp only [boolSet, hms, hma] at _h <;> omega) | (simp only [boolSet, hms, hma] at _h) | skip))
          | (refine And.intro (by omega) ?_)
          | (refine BB.mk (fun _h => ?_) (fun _h => ?_) <;> (first | (exact absurd _h (by decide)) | (exfalso; simp only [boolSet] at _h <;> omega) | skip)))
        all_goals (try conv => whnf)
        refine loop_rule (α := Nat × Nat) (fun p => p.1 ≤ s.length ∧ p.1 ≤ p.2) (fun p => { slots := [(0, .z 2 (s.map spC) cs), (2, .z 2 (g.map spC) cg), (7, .z 2 (s.map spC) cs), (8, .z 1 ((bringL s v).map nuC) c2), (9, .s (.n 0) 2 0 p.1 p.2), (35, .v (.int .i64 (s.map spC).length)), (36, .v (.int .i64 (p.1 : Int)))], nt := 116, mem := ⟨GG, [], [.row 42 2 p.2 ((wideL p.1).map spC)]⟩ }) (fun p => s.length - p.1) (0, 0) ⟨Nat.zero_le _, Nat.zero_le _⟩ ⟨⟨[0], (by decide), GG_no, rfl, (SubOld.refl _ rfl), ⟨.inl (.inl ⟨rfl, rfl⟩), trivial⟩, ⟨.inl rfl, .inl rfl, .inl rfl, .inl rfl, .inr (.inl ⟨_, _, _, rfl, rfl⟩), .inl rfl, .inl rfl, trivial⟩⟩, rfl⟩ ?_ (fun _ => rfl)
        rintro ⟨k, c⟩ ⟨hk, hc⟩
        dsimp only at hk hc ⊢
        refine vc_sound (C := seat) seat_ok (pl := []) ?_
        have hwl := wideL_len k
        have hmm : ((wideL k).map spC).length = k := by rw [List.length_map, hwl]
        by_cases hlt : k < s.length
        · repeat' ((try conv => whnf); first
            | (with_reducible refine OKv.go (C := seat) seat_ok ?_)
            | (with_reducible refine BB_true ?_)
            | (with_reducible refine BB_false ?_)
            | (with_reducible refine Both.mk ?_ ?_)
            | (with_reducible refine VS.mk ?_)
            | (refine PSem.go (C := seat) seat_ok ?_)
            | (refine And.intro (PlanOK.mk (by kernel_rfl) rfl (by kernel_rfl) (by kernel_rfl)) ?_)
            | (refine And.intro rfl (Exists.intro _ (And.intro (by first | assumption | rfl) ?_)))
            | (refine And.intro ⟨rfl, rfl, rfl⟩ ?_)
            | (refine And.intro ⟨rfl, rfl, rfl, by first | (simp only [chunks_len, List.length_map, List.length_take, List.length_drop, List.length_append, List.length_cons, List.length_nil] <;> omega) | omega | rfl⟩ ?_)
            | (refine And.intro ⟨rfl, by first | (simp only [chunks_len, List.length_map, List.length_take, List.length_drop, List.length_append, List.length_cons, List.length_nil] <;> omega) | omega | rfl⟩ ?_)
            | (refine And.intro (by first | exact ⟨rfl, Nat.le_refl _⟩ | first | (simp only [chunks_len, List.length_map, List.length_take, List.length_drop, List.length_append, List.length_cons, List.length_nil] <;> omega) | omega | rfl) ?_)
            | (refine fun (caps : Nat → Nat) hcaps => ?_; conv at hcaps => whnf)
            | (refine fun (cap' : Nat) hcap' => ?_)
            | (refine BB.mk (fun _h => ?_) (fun _h => ?_) <;> (first | (exact absurd _h (by decide)) | (exfalso; simp only [bne_self_eq_false, beq_self_eq_true, Bool.false_eq_true, Bool.true_eq_false] at _h; done) | (exfalso; simp only [boolSet, hms, hma] at _h <;> omega) | (simp only [boolSet, hms, hma] at _h) | skip))
            | (refine And.intro (by omega) ?_)
            | (refine BB.mk (fun _h => ?_) (fun _h => ?_) <;> (first | (exact absurd _h (by decide)) | (exfalso; simp only [boolSet] at _h <;> omega) | skip)))
          all_goals (try conv => whnf)
          refine ⟨(k + 1, cap'), ⟨by dsimp only; omega, by dsimp only; omega⟩, by dsimp only; omega, ⟨⟨[2], by decide, GG_no, rfl, SubOld.refl _ rfl, ⟨.inr (.inl ?_), trivial⟩, ⟨.inl rfl, .inl rfl, .inl rfl, .inl rfl, .inl rfl, .inl rfl, .inl (num_eq (by rw [IntKind.wrap_i64]; omega)), trivial⟩⟩, rfl⟩⟩
          dsimp only
          rw [wideL_succ, List.map_append]
          rfl
        · obtain rfl : k = s.length := by omega
          cases hy : rightB s g with
          | false =>
            repeat' ((try conv => whnf); first
              | (with_reducible refine OKv.go (C := seat) seat_ok ?_)
              | (with_reducible refine BB_true ?_)
              | (with_reducible refine BB_false ?_)
              | (with_reducible refine Both.mk ?_ ?_)
              | (with_reducible refine VS.mk ?_)
              | (refine PSem.go (C := seat) seat_ok ?_)
              | (refine And.intro (PlanOK.mk (by kernel_rfl) rfl (by kernel_rfl) (by kernel_rfl)) ?_)
              | (refine And.intro rfl (Exists.intro _ (And.intro (by first | assumption | rfl) ?_)))
              | (refine And.intro ⟨rfl, rfl, rfl⟩ ?_)
              | ((first | refine call_frz 1 rfl (frz_row rfl hmm.symm) ?_ | refine call_frz 1 rfl (frz_ro rfl hmm.symm) ?_); refine call_ro [] (norm_zo s (wideL s.length) _ _ (by omega) (by omega) s 0 (meet_wide hsch hsok) (norm_wide s)) GG_no rfl rfl rfl trivial ?_; rintro r bs' ext ⟨⟨c3, hc3, rfl⟩, rfl⟩)
              | (refine call_ro [] (right_zb s s _ _ (by omega) (by omega) (spOk_at hsok) true (right_self hsch)) GG_no rfl rfl rfl trivial ?_; rintro r bs' ext ⟨rfl, rfl⟩)
              | (refine call_ro [] (match_zb s (bringL s v) _ _ (by omega) (by omega) true (match_bring hsch v)) GG_no rfl rfl rfl trivial ?_; rintro r bs' ext ⟨rfl, rfl⟩)
              | ((try (first | refine call_frz 1 rfl (frz_nil _ 2) ?_ | refine call_frz 1 rfl (frz_row rfl (by first | rfl | exact (List.length_map _).symm)) ?_ | refine call_frz 1 rfl (frz_ro rfl (by first | rfl | exact (List.length_map _).symm)) ?_)); refine call_ro [] (right_zb s [] _ 0 (by omega) (by decide) (fun k hk => by cases hk) true rfl) GG_no rfl rfl rfl trivial ?_; rintro r bs' ext ⟨rfl, rfl⟩)
              | ((try (first | refine call_frz 0 rfl (frz_nil _ 2) ?_ | refine call_frz 0 rfl (frz_row rfl (by first | rfl | exact (List.length_map _).symm)) ?_ | refine call_frz 0 rfl (frz_ro rfl (by first | rfl | exact (List.length_map _).symm)) ?_)); refine call_ro [] (match_zb [] (bringL s v) 0 _ (by decide) (by omega) false rfl) GG_no rfl rfl rfl trivial ?_; rintro r bs' ext ⟨rfl, rfl⟩)
              | (refine call_ro [] (same_z s s _ _ (by omega) true (by simp)) GG_no rfl rfl rfl trivial ?_; rintro r bs' ext ⟨rfl, rfl⟩)
              | (refine call_ro [] (right_zb s g _ _ (by omega) (by omega) (spOk_at hok) false hy) GG_no rfl rfl rfl trivial ?_; rintro r bs' ext ⟨rfl, rfl⟩)
              | (refine call_ro [] (awake_ok) GG_no rfl rfl rfl trivial ?_; rintro r bs' ext ⟨rfl, rfl⟩)
              | (refine BB.mk (fun _h => ?_) (fun _h => ?_) <;> (first | (exact absurd _h (by decide)) | (exfalso; simp only [bne_self_eq_false, beq_self_eq_true, Bool.false_eq_true, Bool.true_eq_false] at _h; done) | (exfalso; simp only [boolSet, hms, hma] at _h <;> omega) | (simp only [boolSet, hms, hma] at _h) | skip))
              | (refine And.intro (by omega) ?_)
              | (refine BB.mk (fun _h => ?_) (fun _h => ?_) <;> (first | (exact absurd _h (by decide)) | (exfalso; simp only [boolSet] at _h <;> omega) | skip)))
            all_goals (try conv => whnf)
            all_goals exact ⟨_, _, FrzV.refl _ _, rfl, rfl, fun _ => rfl, rfl⟩
          | true =>
            by_cases hg0 : g.length = 0
            · repeat' ((try conv => whnf); first
                | (with_reducible refine OKv.go (C := seat) seat_ok ?_)
                | (with_reducible refine BB_true ?_)
                | (with_reducible refine BB_false ?_)
                | (with_reducible refine Both.mk ?_ ?_)
                | (with_reducible refine VS.mk ?_)
                | (refine PSem.go (C := seat) seat_ok ?_)
                | (refine And.intro (PlanOK.mk (by kernel_rfl) rfl (by kernel_rfl) (by kernel_rfl)) ?_)
                | (refine And.intro rfl (Exists.intro _ (And.intro (by first | assumption | rfl) ?_)))
                | (refine And.intro ⟨rfl, rfl, rfl⟩ ?_)
                | ((first | refine call_frz 1 rfl (frz_row rfl hmm.symm) ?_ | refine call_frz 1 rfl (frz_ro rfl hmm.symm) ?_); refine call_ro [] (norm_zo s (wideL s.length) _ _ (by omega) (by omega) s 0 (meet_wide hsch hsok) (norm_wide s)) GG_no rfl rfl rfl trivial ?_; rintro r bs' ext ⟨⟨c3, hc3, rfl⟩, rfl⟩)
                | (refine call_ro [] (right_zb s s _ _ (by omega) (by omega) (spOk_at hsok) true (right_self hsch)) GG_no rfl rfl rfl trivial ?_; rintro r bs' ext ⟨rfl, rfl⟩)
                | (refine call_ro [] (match_zb s (bringL s v) _ _ (by omega) (by omega) true (match_bring hsch v)) GG_no rfl rfl rfl trivial ?_; rintro r bs' ext ⟨rfl, rfl⟩)
                | ((try (first | refine call_frz 1 rfl (frz_nil _ 2) ?_ | refine call_frz 1 rfl (frz_row rfl (by first | rfl | exact (List.length_map _).symm)) ?_ | refine call_frz 1 rfl (frz_ro rfl (by first | rfl | exact (List.length_map _).symm)) ?_)); refine call_ro [] (right_zb s [] _ 0 (by omega) (by decide) (fun k hk => by cases hk) true rfl) GG_no rfl rfl rfl trivial ?_; rintro r bs' ext ⟨rfl, rfl⟩)
                | ((try (first | refine call_frz 0 rfl (frz_nil _ 2) ?_ | refine call_frz 0 rfl (frz_row rfl (by first | rfl | exact (List.length_map _).symm)) ?_ | refine call_frz 0 rfl (frz_ro rfl (by first | rfl | exact (List.length_map _).symm)) ?_)); refine call_ro [] (match_zb [] (bringL s v) 0 _ (by decide) (by omega) false rfl) GG_no rfl rfl rfl trivial ?_; rintro r bs' ext ⟨rfl, rfl⟩)
                | (refine call_ro [] (same_z s s _ _ (by omega) true (by simp)) GG_no rfl rfl rfl trivial ?_; rintro r bs' ext ⟨rfl, rfl⟩)
                | (refine call_ro [] (right_zb s g _ _ (by omega) (by omega) (spOk_at hok) true hy) GG_no rfl rfl rfl trivial ?_; rintro r bs' ext ⟨rfl, rfl⟩)
                | (refine call_ro [] (awake_ok) GG_no rfl rfl rfl trivial ?_; rintro r bs' ext ⟨rfl, rfl⟩)
                | (refine BB.mk (fun _h => ?_) (fun _h => ?_) <;> (first | (exact absurd _h (by decide)) | (exfalso; simp only [bne_self_eq_false, beq_self_eq_true, Bool.false_eq_true, Bool.true_eq_false] at _h; done) | (exfalso; simp only [boolSet, hms, hma] at _h <;> omega) | (simp only [boolSet, hms, hma] at _h) | skip))
                | (refine And.intro (by omega) ?_)
                | (refine BB.mk (fun _h => ?_) (fun _h => ?_) <;> (first | (exact absurd _h (by decide)) | (exfalso; simp only [boolSet] at _h <;> omega) | skip)))
              all_goals (try conv => whnf)
              all_goals exact ⟨_, _, FrzV.refl _ _, rfl, rfl, fun _ => rfl, rfl⟩
            · repeat' ((try conv => whnf); first
                | (with_reducible refine OKv.go (C := seat) seat_ok ?_)
                | (with_reducible refine BB_true ?_)
                | (with_reducible refine BB_false ?_)
                | (with_reducible refine Both.mk ?_ ?_)
                | (with_reducible refine VS.mk ?_)
                | (refine PSem.go (C := seat) seat_ok ?_)
                | (refine And.intro (PlanOK.mk (by kernel_rfl) rfl (by kernel_rfl) (by kernel_rfl)) ?_)
                | (refine And.intro rfl (Exists.intro _ (And.intro (by first | assumption | rfl) ?_)))
                | (refine And.intro ⟨rfl, rfl, rfl⟩ ?_)
                | ((first | refine call_frz 1 rfl (frz_row rfl hmm.symm) ?_ | refine call_frz 1 rfl (frz_ro rfl hmm.symm) ?_); refine call_ro [] (norm_zo s (wideL s.length) _ _ (by omega) (by omega) s 0 (meet_wide hsch hsok) (norm_wide s)) GG_no rfl rfl rfl trivial ?_; rintro r bs' ext ⟨⟨c3, hc3, rfl⟩, rfl⟩)
                | (refine call_ro [] (right_zb s s _ _ (by omega) (by omega) (spOk_at hsok) true (right_self hsch)) GG_no rfl rfl rfl trivial ?_; rintro r bs' ext ⟨rfl, rfl⟩)
                | (refine call_ro [] (match_zb s (bringL s v) _ _ (by omega) (by omega) true (match_bring hsch v)) GG_no rfl rfl rfl trivial ?_; rintro r bs' ext ⟨rfl, rfl⟩)
                | ((try (first | refine call_frz 1 rfl (frz_nil _ 2) ?_ | refine call_frz 1 rfl (frz_row rfl (by first | rfl | exact (List.length_map _).symm)) ?_ | refine call_frz 1 rfl (frz_ro rfl (by first | rfl | exact (List.length_map _).symm)) ?_)); refine call_ro [] (right_zb s [] _ 0 (by omega) (by decide) (fun k hk => by cases hk) true rfl) GG_no rfl rfl rfl trivial ?_; rintro r bs' ext ⟨rfl, rfl⟩)
                | ((try (first | refine call_frz 0 rfl (frz_nil _ 2) ?_ | refine call_frz 0 rfl (frz_row rfl (by first | rfl | exact (List.length_map _).symm)) ?_ | refine call_frz 0 rfl (frz_ro rfl (by first | rfl | exact (List.length_map _).symm)) ?_)); refine call_ro [] (match_zb [] (bringL s v) 0 _ (by decide) (by omega) false rfl) GG_no rfl rfl rfl trivial ?_; rintro r bs' ext ⟨rfl, rfl⟩)
                | (refine call_ro [] (same_z s s _ _ (by omega) true (by simp)) GG_no rfl rfl rfl trivial ?_; rintro r bs' ext ⟨rfl, rfl⟩)
                | (refine call_ro [] (right_zb s g _ _ (by omega) (by omega) (spOk_at hok) true hy) GG_no rfl rfl rfl trivial ?_; rintro r bs' ext ⟨rfl, rfl⟩)
                | (refine call_ro [] (awake_ok) GG_no rfl rfl rfl trivial ?_; rintro r bs' ext ⟨rfl, rfl⟩)
                | (refine BB.mk (fun _h => ?_) (fun _h => ?_) <;> (first | (exact absurd _h (by decide)) | (exfalso; simp only [bne_self_eq_false, beq_self_eq_true, Bool.false_eq_true, Bool.true_eq_false] at _h; done) | (exfalso; simp only [boolSet, hms, hma] at _h <;> omega) | (simp only [boolSet, hms, hma] at _h) | skip))
                | (refine And.intro (by omega) ?_)
                | (refine BB.mk (fun _h => ?_) (fun _h => ?_) <;> (first | (exact absurd _h (by decide)) | (exfalso; simp only [boolSet] at _h <;> omega) | skip)))
              all_goals (try conv => whnf)
              refine loop_rule (α := Nat × Nat) (fun p => p.1 ≤ g.length ∧ p.1 ≤ p.2) (fun p => { slots := [(0, .z 2 (s.map spC) cs), (2, .z 2 (g.map spC) cg), (7, .z 2 (s.map spC) cs), (12, .s (.n 0) 1 0 p.1 p.2), (88, .z 2 (g.map spC) cg), (89, .v (.int .i64 (g.map spC).length)), (90, .v (.int .i64 (p.1 : Int)))], nt := 116, mem := ⟨GG, [], [.row 21 1 p.2 ((firstL g p.1).map nuC)]⟩ }) (fun p => g.length - p.1) (0, 0) ⟨Nat.zero_le _, Nat.zero_le _⟩ ⟨⟨[7], (by decide), GG_no, rfl, (SubOld.refl _ rfl), ⟨.inl (.inl ⟨rfl, rfl⟩), trivial⟩, ⟨.inl rfl, .inl rfl, .inl rfl, .inr (.inl ⟨_, _, _, rfl, rfl⟩), .inl rfl, .inl rfl, .inl rfl, trivial⟩⟩, rfl⟩ ?_ (fun _ => rfl)
              rintro ⟨k2, d⟩ ⟨hk2, hd⟩
              dsimp only at hk2 hd ⊢
              refine vc_sound (C := seat) seat_ok (pl := []) ?_
              have hfl := firstL_len hk2
              have hff : ((firstL g k2).map nuC).length = k2 := by rw [List.length_map, hfl]
              by_cases hlt : k2 < g.length
              · have hrow := atC hlt
                repeat' ((try conv => whnf); first
                  | (with_reducible refine OKv.go (C := seat) seat_ok ?_)
                  | (with_reducible refine BB_true ?_)
                  | (with_reducible refine BB_false ?_)
                  | (with_reducible refine Both.mk ?_ ?_)
                  | (with_reducible refine VS.mk ?_)
                  | (refine PSem.go (C := seat) seat_ok ?_)
                  | (refine And.intro (PlanOK.mk (by kernel_rfl) rfl (by kernel_rfl) (by kernel_rfl)) ?_)
                  | (refine And.intro rfl (Exists.intro _ (And.intro (by first | assumption | rfl) ?_)))
                  | (refine And.intro ⟨rfl, rfl, rfl⟩ ?_)
                  | (refine And.intro ⟨by omega, by simp only [List.length_map]; omega⟩ (Exists.intro _ (And.intro (by first | assumption | rfl) ?_)))
                  | (refine And.intro ⟨rfl, rfl, rfl, by first | (simp only [chunks_len, List.length_map, List.length_take, List.length_drop, List.length_append, List.length_cons, List.length_nil] <;> omega) | omega | rfl⟩ ?_)
                  | (refine And.intro ⟨rfl, by first | (simp only [chunks_len, List.length_map, List.length_take, List.length_drop, List.length_append, List.length_cons, List.length_nil] <;> omega) | omega | rfl⟩ ?_)
                  | (refine And.intro (by first | exact ⟨rfl, Nat.le_refl _⟩ | first | (simp only [chunks_len, List.length_map, List.length_take, List.length_drop, List.length_append, List.length_cons, List.length_nil] <;> omega) | omega | rfl) ?_)
                  | (refine fun (caps : Nat → Nat) hcaps => ?_; conv at hcaps => whnf)
                  | (refine fun (cap' : Nat) hcap' => ?_)
                  | (refine BB.mk (fun _h => ?_) (fun _h => ?_) <;> (first | (exact absurd _h (by decide)) | (exfalso; simp only [bne_self_eq_false, beq_self_eq_true, Bool.false_eq_true, Bool.true_eq_false] at _h; done) | (exfalso; simp only [boolSet, hms, hma] at _h <;> omega) | (simp only [boolSet, hms, hma] at _h) | skip))
                  | (refine And.intro (by omega) ?_)
                  | (refine BB.mk (fun _h => ?_) (fun _h => ?_) <;> (first | (exact absurd _h (by decide)) | (exfalso; simp only [boolSet] at _h <;> omega) | skip)))
                all_goals (try conv => whnf)
                refine ⟨(k2 + 1, cap'), ⟨by dsimp only; omega, by dsimp only; omega⟩, by dsimp only; omega, ⟨⟨[3], by decide, GG_no, rfl, SubOld.refl _ rfl, ⟨.inr (.inl ?_), trivial⟩, ⟨.inl rfl, .inl rfl, .inl rfl, .inl rfl, .inl rfl, .inl rfl, .inl (num_eq (by rw [IntKind.wrap_i64]; omega)), trivial⟩⟩, rfl⟩⟩
                dsimp only
                rw [firstL_succ hlt, List.map_append]
                rfl
              · obtain rfl : k2 = g.length := by omega
                repeat' ((try conv => whnf); first
                  | (with_reducible refine OKv.go (C := seat) seat_ok ?_)
                  | (with_reducible refine BB_true ?_)
                  | (with_reducible refine BB_false ?_)
                  | (with_reducible refine Both.mk ?_ ?_)
                  | (with_reducible refine VS.mk ?_)
                  | (refine PSem.go (C := seat) seat_ok ?_)
                  | (refine And.intro (PlanOK.mk (by kernel_rfl) rfl (by kernel_rfl) (by kernel_rfl)) ?_)
                  | (refine And.intro rfl (Exists.intro _ (And.intro (by first | assumption | rfl) ?_)))
                  | (refine And.intro ⟨rfl, rfl, rfl⟩ ?_)
                  | ((first | refine call_frz 1 rfl (frz_row rfl hff.symm) ?_ | refine call_frz 1 rfl (frz_ro rfl hff.symm) ?_); refine call_ro [] (match_zb g (firstL g g.length) _ _ (by omega) (by omega) true (first_match hy hg0)) GG_no rfl rfl rfl trivial ?_; rintro r bs' ext ⟨rfl, rfl⟩)
                  | ((first | refine call_frz 1 rfl (frz_row rfl hff.symm) ?_ | refine call_frz 1 rfl (frz_ro rfl hff.symm) ?_); refine call_ro [] (fits_zb s (firstL g g.length) _ _ (by omega) (by omega) true (first_fits hy hg0)) GG_no rfl rfl rfl trivial ?_; rintro r bs' ext ⟨rfl, rfl⟩)
                  | (refine call_ro [] (covers_zb s g _ _ (by omega) (by omega) true (right_covers hy)) GG_no rfl rfl rfl trivial ?_; rintro r bs' ext ⟨rfl, rfl⟩)
                  | (refine call_ro [] (awake_ok) GG_no rfl rfl rfl trivial ?_; rintro r bs' ext ⟨rfl, rfl⟩)
                  | (refine BB.mk (fun _h => ?_) (fun _h => ?_) <;> (first | (exact absurd _h (by decide)) | (exfalso; simp only [bne_self_eq_false, beq_self_eq_true, Bool.false_eq_true, Bool.true_eq_false] at _h; done) | (exfalso; simp only [boolSet, hms, hma] at _h <;> omega) | (simp only [boolSet, hms, hma] at _h) | skip))
                  | (refine And.intro (by omega) ?_)
                  | (refine BB.mk (fun _h => ?_) (fun _h => ?_) <;> (first | (exact absurd _h (by decide)) | (exfalso; simp only [boolSet] at _h <;> omega) | skip)))
                all_goals (try conv => whnf)
                all_goals first
                  | exact ⟨_, _, FrzV.refl _ _, rfl, rfl, fun _ => rfl, rfl⟩
                  | trace_state
end Go.Proofs.YtlclimhimiladaaDoor
