/- Law ScoreKeys. -/
import Derived.Test.YtkmnglgjbmipgaaDoorS06k
namespace Go.Proofs.YtkmnglgjbmipgaaDoor
open Go.RowKit

theorem cut1 {l : List Sp} {k : Nat} {w : Int} (hw : w = (k : Int) + 1) (h : k < l.length) : List.take (w.toNat - (k : Int).toNat) (List.drop (k : Int).toNat (l.map spC)) = [atD l k].map spC := by
  subst hw
  have h2 := atD_some h
  rw [List.getElem?_eq_getElem h] at h2
  rw [Int.toNat_natCast, show ((k : Int) + 1).toNat - k = 1 by omega, List.drop_eq_getElem_cons (by rw [List.length_map]; exact h), List.take_succ_cons, List.take_zero, List.getElem_map, Option.some.inj h2]
  rfl
theorem mid_pt (x : Int) : mid (ptS x) = x := by
  unfold mid ptS
  dsimp only
  omega
theorem rig_pt {R : Sp} {x : Int} (h : R.a ≤ x ∧ x ≤ R.b) : rigP R (ptS x) = true := by
  unfold rigP covT ptS
  simp only [Bool.and_eq_true, Bool.or_eq_true, decide_eq_true_eq]
  omega
theorem brI_in {s : List Sp} {v : List Int} {k : Nat} (h : (atD s k).a ≤ (atD s k).b) : (atD s k).a ≤ brI s v k ∧ brI s v k ≤ (atD s k).b := by
  unfold brI bndI
  omega
theorem qN_mono {R : Sp} {x y : Int} (hR : R.a ≤ R.b) (h : x ≤ y) : qN R (ptS x) ≤ qN R (ptS y) := by
  unfold qN
  rw [mid_pt, mid_pt]
  exact Int.ediv_le_ediv (by omega) (by omega)
theorem qN_first (R : Sp) : qN R (ptS R.a) = 0 := by
  unfold qN
  rw [mid_pt, Int.sub_self, Int.mul_zero, Int.zero_ediv]
theorem qN_last {R : Sp} (hR : 3 ≤ R.b - R.a) : qN R (ptS R.b) = 3 := by
  have h1 := qN_in (rig_pt (R := R) (x := R.b) (by omega))
  have h2 := (q_step (rig_pt (R := R) (x := R.b) (by omega)) (q := 2)).1 (by rw [mid_pt]; omega)
  omega
theorem key1 {R X : Sp} (hR : SpOk R) (hX : SpOk X) (h : rigP R X = true) {q : Int} (hq : qN R X = q) : keyW [R] [X] (min [R].length [X].length) = q := by
  have h1 := (keyN_eq (s := [R]) (g := [X]) (fun y hy => by rw [List.mem_singleton.1 hy]; exact hR) (fun y hy => by rw [List.mem_singleton.1 hy]; exact hX) 1 (by omega) (Nat.le_refl _) (Nat.le_refl _) (fun j hj => by
    obtain rfl : j = 0 := by omega
    exact h)).1
  show keyW [R] [X] 1 = q
  rw [h1]
  show 4 * 0 + qN R X = q
  omega
theorem pt_rig {s : List Sp} (hsb : ∀ j, j < s.length → (atD s j).a ≤ (atD s j).b) (v : List Int) : ∀ j, j < s.length → rigP (atD s j) (atD (ptL s v) j) = true := fun j hj => by
  rw [ptL_at hj]
  exact rig_pt (brI_in (hsb j hj))
theorem pt_ok {s : List Sp} (hsb : ∀ j, j < s.length → (atD s j).a ≤ (atD s j).b) (hs : ∀ y ∈ s, SpOk y) (v : List Int) : ∀ y ∈ ptL s v, SpOk y := by
  refine mem_ok fun j hj => ?_
  rw [ptL_len] at hj
  rw [ptL_at hj]
  have h1 := brI_in (v := v) (hsb j hj)
  have h2 := hs _ (atD_mem hj)
  unfold SpOk at *
  unfold ptS
  dsimp only
  omega
theorem sright_zb (l : List Sp) (ca : Nat) (hl : l.length ≤ 1099511627776) (b : Bool) (hb : schB l = b) : FnOK Tryd.prog GG 21 [] [.z 2 (l.map spC) ca] (fun r _ ext => (r = .v (.bool b)) ∧ ext = []) := hb ▸ sright_z l ca hl
set_option maxRecDepth 100000 in
set_option maxHeartbeats 4000000 in
theorem scoreKeys_ok (s : List Sp) (va vb : List Int) (cs ca cb : Nat) (hs : s.length ≤ 9223372036854775807) (ha : va.length ≤ 9223372036854775807) (hb : vb.length ≤ 9223372036854775807) (hos : ∀ y ∈ s, SpOk y) : FnOK Tryd.prog GG 8 [] [.z 2 (s.map spC) cs, .z 1 (va.map nuC) ca, .z 1 (vb.map nuC) cb] (fun r _ ext => (r = .v (.bool true)) ∧ ext = []) := by
  have hml : (va.map nuC).length = va.length := List.length_map _
  have hmr : (vb.map nuC).length = vb.length := List.length_map _
  have hms : (s.map spC).length = s.length := List.length_map _
  by_cases h8 : s.length ≤ 8 ∧ va.length ≤ 20 ∧ vb.length ≤ 20
  · cases hsch : schB s with
    | false =>
      refine FnOK.pure GG_no rfl (fn_intro (C := seat) seat_ok [(11, (.of [(0, .take), (1, .take), (2, .take), (3, .take), (4, .take), (5, .take), (6, .take), (7, .take), (8, .take), (9, .take), (12, .take), (13, .take), (14, .take), (15, .take), (16, .take), (17, .take), (18, .take), (19, .take), (20, .take), (21, .take), (10, .do_), (11, .take), (22, .do_), (23, .take), (24, .take), (25, .take)])), (12, (.of [(0, .take), (1, .take), (2, .take), (3, .take), (4, .take), (5, .take), (6, .take), (7, .take), (8, .take), (9, .take), (10, .take), (11, .take), (12, .take), (13, .take), (14, .take), (15, .take), (16, .take), (17, .take), (18, .take), (19, .take), (20, .take), (21, .take), (22, .take), (23, .take)])), (14, (.of [(0, .take), (1, .take), (2, .take), (3, .take), (4, .take), (5, .take), (6, .take), (7, .take), (8, .take), (9, .take), (10, .take), (11, .do_), (12, .take)])), (15, (.of [(0, .take), (1, .take), (2, .take), (3, .take), (4, .take), (5, .take), (6, .take), (7, .take), (8, .take), (9, .take), (10, .take), (11, .do_), (12, .take)])), (16, (.of [(0, .take), (1, .take), (2, .take), (3, .take), (4, .take), (5, .take), (6, .do_), (7, .take), (8, .take), (9, .take), (10, .take), (11, .take), (12, .take), (13, .take), (14, .take), (15, .take), (16, .take), (17, .take), (18, .take), (19, .take), (20, .take), (21, .take), (22, .take), (23, .take), (24, .take), (25, .take), (26, .take), (27, .take), (28, .do_), (29, .take), (30, .take), (31, .take)]))] GG_no (Tryd.func8) rfl rfl rfl rfl rfl ?_)
      repeat' ((try conv => whnf); first
        | (with_reducible refine OKv.go (C := seat) seat_ok ?_)
        | (with_reducible refine BB_true ?_)
        | (with_reducible refine BB_false ?_)
        | (with_reducible refine Both.mk ?_ ?_)
        | (with_reducible refine VS.mk ?_)
        | (refine PSem.go (C := seat) seat_ok ?_)
        | (refine And.intro (PlanOK.mk (by kernel_rfl) rfl (by kernel_rfl) (by kernel_rfl)) ?_)
        | (refine And.intro rfl (Exists.intro _ (And.intro (by first | assumption | rfl) ?_)))
        | (refine And.intro ⟨rfl, rfl, rfl⟩ ?_)
        | (refine call_ro [] (sright_zb s _ (by omega) false hsch) GG_no rfl rfl rfl trivial ?_; rintro r bs' ext ⟨rfl, rfl⟩)
        | (refine call_ro [] (awake_ok) GG_no rfl rfl rfl trivial ?_; rintro r bs' ext ⟨rfl, rfl⟩)
        | (refine BB.mk (fun _h => ?_) (fun _h => ?_) <;> (first | (exact absurd _h (by decide)) | (exfalso; simp only [bne_self_eq_false, beq_self_eq_true, Bool.false_eq_true, Bool.true_eq_false] at _h; done) | (exfalso; simp only [boolSet, hml, hmr, hms] at _h <;> omega) | (simp only [boolSet, hml, hmr, hms] at _h) | skip))
        | (refine And.intro (by omega) ?_)
        | (refine BB.mk (fun _h => ?_) (fun _h => ?_) <;> (first | (exact absurd _h (by decide)) | (exfalso; simp only [boolSet] at _h <;> omega) | skip)))
      all_goals (try conv => whnf)
      all_goals exact ⟨_, _, FrzV.refl _ _, rfl, rfl, fun _ => rfl, rfl⟩
    | true =>
      have hsb := schB_iff.1 hsch
      have hpx : ((ptL s va).map spC).length = s.length := by rw [List.length_map, ptL_len]
      have hpy : ((ptL s vb).map spC).length = s.length := by rw [List.length_map, ptL_len]
      refine FnOK.pure GG_no rfl (fn_intro (C := seat) seat_ok [(11, (.of [(0, .take), (1, .take), (2, .take), (3, .take), (4, .take), (5, .take), (6, .take), (7, .take), (8, .take), (9, .take), (12, .take), (13, .take), (14, .take), (15, .take), (16, .take), (17, .take), (18, .take), (19, .take), (20, .take), (21, .take), (10, .do_), (11, .take), (22, .do_), (23, .take), (24, .take), (25, .take)])), (12, (.of [(0, .take), (1, .take), (2, .take), (3, .take), (4, .take), (5, .take), (6, .take), (7, .take), (8, .take), (9, .take), (10, .take), (11, .take), (12, .take), (13, .take), (14, .take), (15, .take), (16, .take), (17, .take), (18, .take), (19, .take), (20, .take), (21, .take), (22, .take), (23, .take)])), (14, (.of [(0, .take), (1, .take), (2, .take), (3, .take), (4, .take), (5, .take), (6, .take), (7, .take), (8, .take), (9, .take), (10, .take), (11, .do_), (12, .take)])), (15, (.of [(0, .take), (1, .take), (2, .take), (3, .take), (4, .take), (5, .take), (6, .take), (7, .take), (8, .take), (9, .take), (10, .take), (11, .do_), (12, .take)])), (16, (.of [(0, .take), (1, .take), (2, .take), (3, .take), (4, .take), (5, .take), (6, .do_), (7, .take), (8, .take), (9, .take), (10, .take), (11, .take), (12, .take), (13, .take), (14, .take), (15, .take), (16, .take), (17, .take), (18, .take), (19, .take), (20, .take), (21, .take), (22, .take), (23, .take), (24, .take), (25, .take), (26, .take), (27, .take), (28, .do_), (29, .take), (30, .take), (31, .take)]))] GG_no (Tryd.func8) rfl rfl rfl rfl rfl ?_)
      repeat' ((try conv => whnf); first
        | (with_reducible refine OKv.go (C := seat) seat_ok ?_)
        | (with_reducible refine BB_true ?_)
        | (with_reducible refine BB_false ?_)
        | (with_reducible refine Both.mk ?_ ?_)
        | (with_reducible refine VS.mk ?_)
        | (refine PSem.go (C := seat) seat_ok ?_)
        | (refine And.intro (PlanOK.mk (by kernel_rfl) rfl (by kernel_rfl) (by kernel_rfl)) ?_)
        | (refine And.intro rfl (Exists.intro _ (And.intro (by first | assumption | rfl) ?_)))
        | (refine And.intro ⟨rfl, rfl, rfl⟩ ?_)
        | (refine call_ro [] (sright_zb s _ (by omega) true hsch) GG_no rfl rfl rfl trivial ?_; rintro r bs' ext ⟨rfl, rfl⟩)
        | (refine call_roZ [.n 0] (point_ok s va cs ca (by omega) (by omega)) GG_no rfl rfl rfl ⟨⟨_, rfl, _, _, rfl, cellsZ_z cellsZ_nil, rfl⟩, trivial⟩ ?_; rintro r bs' ext ⟨rfl, ⟨cx, hcx, rfl⟩, rfl⟩)
        | (refine call_roZ [.n 0] (point_ok s vb cs cb (by omega) (by omega)) GG_no rfl rfl rfl ⟨⟨_, rfl, _, _, rfl, cellsZ_z cellsZ_nil, rfl⟩, trivial⟩ ?_; rintro r bs' ext ⟨rfl, ⟨cy, hcy, rfl⟩, rfl⟩)
        | (refine BB.mk (fun _h => ?_) (fun _h => ?_) <;> (first | (exact absurd _h (by decide)) | (exfalso; simp only [bne_self_eq_false, beq_self_eq_true, Bool.false_eq_true, Bool.true_eq_false] at _h; done) | (exfalso; simp only [boolSet, hml, hmr, hms, hpx, hpy] at _h <;> omega) | (simp only [boolSet, hml, hmr, hms, hpx, hpy] at _h) | skip))
        | (refine And.intro (by omega) ?_)
        | (refine BB.mk (fun _h => ?_) (fun _h => ?_) <;> (first | (exact absurd _h (by decide)) | (exfalso; simp only [boolSet] at _h <;> omega) | skip)))
      all_goals (try conv => whnf)
      refine loop_rule (α := Nat) (fun k => k ≤ s.length) (fun k => { slots := [(3, .p (.n 0) 0 0 0), (8, .z 2 ((ptL s va).map spC) cx), (9, .z 2 ((ptL s vb).map spC) cy), (10, .v (.int .i64 (keyN s (ptL s va) k))), (11, .v (.int .i64 (keyN s (ptL s vb) k))), (56, .v (.int .i64 (s.map spC).length)), (57, .v (.int .i64 (k : Int)))], nt := 195, mem := ⟨GG, [], [.box 23 [.z 2 (s.map spC) cs]]⟩ }) (fun k => s.length - k) 0 (Nat.zero_le _) ⟨⟨[0], (by decide), GG_no, rfl, (SubOld.refl _ rfl), ⟨rfl, trivial⟩, ⟨.inl rfl, .inl rfl, .inl rfl, .inl rfl, .inl rfl, .inl rfl, .inl rfl, trivial⟩⟩, rfl⟩ ?_ (fun _ => rfl)
      intro k hk
      refine vc_sound (C := seat) seat_ok (pl := [(11, (.of [(0, .take), (1, .take), (2, .take), (3, .take), (4, .take), (5, .take), (6, .take), (7, .take), (8, .take), (9, .take), (12, .take), (13, .take), (14, .take), (15, .take), (16, .take), (17, .take), (18, .take), (19, .take), (20, .take), (21, .take), (10, .do_), (11, .take), (22, .do_), (23, .take), (24, .take), (25, .take)])), (12, (.of [(0, .take), (1, .take), (2, .take), (3, .take), (4, .take), (5, .take), (6, .take), (7, .take), (8, .take), (9, .take), (10, .take), (11, .take), (12, .take), (13, .take), (14, .take), (15, .take), (16, .take), (17, .take), (18, .take), (19, .take), (20, .take), (21, .take), (22, .take), (23, .take)])), (14, (.of [(0, .take), (1, .take), (2, .take), (3, .take), (4, .take), (5, .take), (6, .take), (7, .take), (8, .take), (9, .take), (10, .take), (11, .do_), (12, .take)])), (15, (.of [(0, .take), (1, .take), (2, .take), (3, .take), (4, .take), (5, .take), (6, .take), (7, .take), (8, .take), (9, .take), (10, .take), (11, .do_), (12, .take)])), (16, (.of [(0, .take), (1, .take), (2, .take), (3, .take), (4, .take), (5, .take), (6, .do_), (7, .take), (8, .take), (9, .take), (10, .take), (11, .take), (12, .take), (13, .take), (14, .take), (15, .take), (16, .take), (17, .take), (18, .take), (19, .take), (20, .take), (21, .take), (22, .take), (23, .take), (24, .take), (25, .take), (26, .take), (27, .take), (28, .do_), (29, .take), (30, .take), (31, .take)]))]) ?_
      have hkx := keyN_eq hos (pt_ok hsb.1 hos va) k (by omega) hk (by rw [ptL_len]; exact hk) (fun j hj => pt_rig hsb.1 va j (by omega))
      have hky := keyN_eq hos (pt_ok hsb.1 hos vb) k (by omega) hk (by rw [ptL_len]; exact hk) (fun j hj => pt_rig hsb.1 vb j (by omega))
      by_cases hlt : k < s.length
      · have hw : IntKind.i64.wrap ((k : Int) + 1) = (k : Int) + 1 := w64 (by omega)
        have hrow := atC (l := s) (k := k) hlt
        have hrowx := atC (l := ptL s va) (k := k) (by rw [ptL_len]; exact hlt)
        have hrowy := atC (l := ptL s vb) (k := k) (by rw [ptL_len]; exact hlt)
        have hcs := cut1 (l := s) hw hlt
        have hcx := cut1 (l := ptL s va) hw (by rw [ptL_len]; exact hlt)
        have hcy := cut1 (l := ptL s vb) hw (by rw [ptL_len]; exact hlt)
        have hsx : keyN s (ptL s va) (k + 1) = 4 * keyN s (ptL s va) k + qN (atD s k) (atD (ptL s va) k) := rfl
        have hsy : keyN s (ptL s vb) (k + 1) = 4 * keyN s (ptL s vb) k + qN (atD s k) (atD (ptL s vb) k) := rfl
        have hba := brI_in (v := va) (hsb.1 k hlt)
        have hbb := brI_in (v := vb) (hsb.1 k hlt)
        have hab := hsb.1 k hlt
        have hSo := hos _ (atD_mem hlt)
        rw [ptL_at hlt] at hrowx hcx hsx
        rw [ptL_at hlt] at hrowy hcy hsy
        generalize brI s va k = x at *
        generalize brI s vb k = y at *
        generalize atD s k = R at *
        have hxo : SpOk (ptS x) := by unfold SpOk at *; unfold ptS; dsimp only; omega
        have hyo : SpOk (ptS y) := by unfold SpOk at *; unfold ptS; dsimp only; omega
        have hao : SpOk (ptS R.a) := ⟨hSo.1, hSo.1⟩
        have hbo : SpOk (ptS R.b) := ⟨hSo.2, hSo.2⟩
        have hm1 : (ptS x).a ≤ (ptS y).a → qN R (ptS x) ≤ qN R (ptS y) := fun h => qN_mono (R := R) hab h
        have hlast := fun h : 3 ≤ R.b - R.a => qN_last h
        have hq1 := qN_in (rig_pt hba)
        have hq2 := qN_in (rig_pt hbb)
        have hq3 := qN_in (rig_pt (R := R) (x := R.b) ⟨hab, Int.le_refl _⟩)
        obtain ⟨qx, hqx⟩ : ∃ q, qN R (ptS x) = q := ⟨_, rfl⟩
        obtain ⟨qy, hqy⟩ : ∃ q, qN R (ptS y) = q := ⟨_, rfl⟩
        obtain ⟨qz, hqz⟩ : ∃ q, qN R (ptS R.b) = q := ⟨_, rfl⟩
        rw [hqx] at hsx hm1 hq1
        rw [hqy] at hsy hm1 hq2
        rw [hqz] at hlast hq3
        have hwx : IntKind.i64.wrap qx = qx := w64 (by omega)
        have hwy : IntKind.i64.wrap qy = qy := w64 (by omega)
        have h32 : IntKind.i32.wrap (R.b - R.a) ≥ 3 → 3 ≤ R.b - R.a := fun h => by
          unfold SpOk at hSo
          rw [IntKind.wrap_i32] at h
          omega
        repeat' ((try conv => whnf); first
          | (with_reducible refine OKv.go (C := seat) seat_ok ?_)
          | (with_reducible refine BB_true ?_)
          | (with_reducible refine BB_false ?_)
          | (with_reducible refine Both.mk ?_ ?_)
          | (with_reducible refine VS.mk ?_)
          | (refine PSem.go (C := seat) seat_ok ?_)
          | (refine And.intro (PlanOK.mk (by kernel_rfl) rfl (by kernel_rfl) (by kernel_rfl)) ?_)
          | (refine And.intro rfl (Exists.intro _ (And.intro (by first | assumption | rfl) ?_)))
          | (refine And.intro ⟨rfl, rfl, rfl⟩ ?_)
          | (refine call_frz 0 rfl (frz_z (els' := [R].map spC) hcs) ?_; refine call_frz 1 rfl (frz_z (els' := [ptS x].map spC) hcx) ?_; refine call_ro [] (key_zb [R] [ptS x] _ _ (by simp) (by simp) qx (key1 hSo hxo (rig_pt hba) hqx)) GG_no rfl rfl rfl trivial ?_; rintro r bs' ext ⟨rfl, rfl⟩)
          | (refine call_frz 0 rfl (frz_z (els' := [R].map spC) hcs) ?_; refine call_frz 1 rfl (frz_z (els' := [ptS y].map spC) hcy) ?_; refine call_ro [] (key_zb [R] [ptS y] _ _ (by simp) (by simp) qy (key1 hSo hyo (rig_pt hbb) hqy)) GG_no rfl rfl rfl trivial ?_; rintro r bs' ext ⟨rfl, rfl⟩)
          | (refine call_frz 0 rfl (frz_z (els' := [R].map spC) hcs) ?_; (first | refine call_frz 1 rfl (frz_rowF (els' := [ptS R.a].map spC) (by rfl) (by rfl) (by rfl)) ?_ | refine call_frz 1 rfl (frz_ro (els := [ptS R.a].map spC) (by rfl) (by rfl)) ?_); refine call_ro [] (key_zb [R] [ptS R.a] _ _ (by simp) (by simp) 0 (key1 hSo hao (rig_pt ⟨Int.le_refl _, hab⟩) (qN_first R))) GG_no rfl rfl rfl trivial ?_; rintro r bs' ext ⟨rfl, rfl⟩)
          | (refine call_frz 0 rfl (frz_z (els' := [R].map spC) hcs) ?_; (first | refine call_frz 1 rfl (frz_rowF (els' := [ptS R.b].map spC) (by rfl) (by rfl) (by rfl)) ?_ | refine call_frz 1 rfl (frz_ro (els := [ptS R.b].map spC) (by rfl) (by rfl)) ?_); refine call_ro [] (key_zb [R] [ptS R.b] _ _ (by simp) (by simp) qz (key1 hSo hbo (rig_pt ⟨hab, Int.le_refl _⟩) hqz)) GG_no rfl rfl rfl trivial ?_; rintro r bs' ext ⟨rfl, rfl⟩)
          | (refine And.intro ⟨by omega, by omega⟩ (Exists.intro _ (And.intro (by assumption) ?_)))
          | (refine And.intro ⟨by omega, by omega, by omega⟩ ?_)
          | (refine BB.mk (fun _h => ?_) (fun _h => ?_) <;> (first | (exact absurd _h (by decide)) | (exfalso; simp only [bne_self_eq_false, beq_self_eq_true, Bool.false_eq_true, Bool.true_eq_false] at _h; done) | (exfalso; simp only [boolSet, hml, hmr, hms, hpx, hpy] at _h <;> omega) | (simp only [boolSet] at _h) | skip))
          | (refine And.intro (by omega) ?_)
          | (refine BB.mk (fun _h => ?_) (fun _h => ?_) <;> (first | (exact absurd _h (by decide)) | (exfalso; simp only [boolSet] at _h <;> omega) | skip)))
        all_goals (try conv => whnf)
        all_goals first
          | exact ⟨k + 1, by omega, by omega, ⟨⟨[0], by decide, GG_no, rfl, SubOld.refl _ rfl, ⟨rfl, trivial⟩, ⟨.inl rfl, .inl rfl, .inl rfl, .inl (num_eq (by rw [hsx, hwx, w64 (x := 4 * keyN s (ptL s va) k) (by omega), w64 (by omega)])), .inl (num_eq (by rw [hsy, hwy, w64 (x := 4 * keyN s (ptL s vb) k) (by omega), w64 (by omega)])), .inl rfl, .inl (num_eq (by rw [IntKind.wrap_i64]; omega)), trivial⟩⟩, rfl⟩⟩
          | trace_state
      · obtain rfl : k = s.length := by omega
        have hwx : IntKind.i64.wrap (keyN s (ptL s va) s.length) = keyN s (ptL s va) s.length := w64 (by omega)
        have hwy : IntKind.i64.wrap (keyN s (ptL s vb) s.length) = keyN s (ptL s vb) s.length := w64 (by omega)
        repeat' ((try conv => whnf); first
          | (with_reducible refine OKv.go (C := seat) seat_ok ?_)
          | (with_reducible refine BB_true ?_)
          | (with_reducible refine BB_false ?_)
          | (with_reducible refine Both.mk ?_ ?_)
          | (with_reducible refine VS.mk ?_)
          | (refine PSem.go (C := seat) seat_ok ?_)
          | (refine And.intro (PlanOK.mk (by kernel_rfl) rfl (by kernel_rfl) (by kernel_rfl)) ?_)
          | (refine And.intro rfl (Exists.intro _ (And.intro (by first | assumption | rfl) ?_)))
          | (refine And.intro ⟨rfl, rfl, rfl⟩ ?_)
          | (refine call_ro [] (key_zb s (ptL s va) _ _ (by omega) (by rw [ptL_len]; omega) (keyN s (ptL s va) s.length) (by rw [ptL_len, Nat.min_self]; exact hkx.1)) GG_no rfl rfl rfl trivial ?_; rintro r bs' ext ⟨rfl, rfl⟩)
          | (refine call_ro [] (key_zb s (ptL s vb) _ _ (by omega) (by rw [ptL_len]; omega) (keyN s (ptL s vb) s.length) (by rw [ptL_len, Nat.min_self]; exact hky.1)) GG_no rfl rfl rfl trivial ?_; rintro r bs' ext ⟨rfl, rfl⟩)
          | ((try (first | refine call_frz 1 rfl (frz_nil _ 2) ?_ | refine call_frz 1 rfl (frz_row rfl (by first | rfl | exact (List.length_map _).symm)) ?_ | refine call_frz 1 rfl (frz_ro rfl (by first | rfl | exact (List.length_map _).symm)) ?_)); refine call_ro [] (key_zb s [] _ 0 (by omega) (by decide) 0 (by rw [List.length_nil, Nat.min_zero]; rfl)) GG_no rfl rfl rfl trivial ?_; rintro r bs' ext ⟨rfl, rfl⟩)
          | (refine call_ro [] (awake_ok) GG_no rfl rfl rfl trivial ?_; rintro r bs' ext ⟨rfl, rfl⟩)
          | (refine BB.mk (fun _h => ?_) (fun _h => ?_) <;> (first | (exact absurd _h (by decide)) | (exfalso; simp only [bne_self_eq_false, beq_self_eq_true, Bool.false_eq_true, Bool.true_eq_false] at _h; done) | (exfalso; simp only [boolSet, hml, hmr, hms, hpx, hpy] at _h <;> omega) | (simp only [boolSet] at _h) | skip))
          | (refine And.intro (by omega) ?_)
          | (refine BB.mk (fun _h => ?_) (fun _h => ?_) <;> (first | (exact absurd _h (by decide)) | (exfalso; simp only [boolSet] at _h <;> omega) | skip)))
        all_goals (try conv => whnf)
        all_goals first
          | exact ⟨_, _, FrzV.refl _ _, rfl, rfl, fun _ => rfl, rfl⟩
          | trace_state
  · refine FnOK.pure GG_no rfl (fn_intro (C := seat) seat_ok [(11, (.of [(0, .take), (1, .take), (2, .take), (3, .take), (4, .take), (5, .take), (6, .take), (7, .take), (8, .take), (9, .take), (12, .take), (13, .take), (14, .take), (15, .take), (16, .take), (17, .take), (18, .take), (19, .take), (20, .take), (21, .take), (10, .do_), (11, .take), (22, .do_), (23, .take), (24, .take), (25, .take)])), (12, (.of [(0, .take), (1, .take), (2, .take), (3, .take), (4, .take), (5, .take), (6, .take), (7, .take), (8, .take), (9, .take), (10, .take), (11, .take), (12, .take), (13, .take), (14, .take), (15, .take), (16, .take), (17, .take), (18, .take), (19, .take), (20, .take), (21, .take), (22, .take), (23, .take)])), (14, (.of [(0, .take), (1, .take), (2, .take), (3, .take), (4, .take), (5, .take), (6, .take), (7, .take), (8, .take), (9, .take), (10, .take), (11, .do_), (12, .take)])), (15, (.of [(0, .take), (1, .take), (2, .take), (3, .take), (4, .take), (5, .take), (6, .take), (7, .take), (8, .take), (9, .take), (10, .take), (11, .do_), (12, .take)])), (16, (.of [(0, .take), (1, .take), (2, .take), (3, .take), (4, .take), (5, .take), (6, .do_), (7, .take), (8, .take), (9, .take), (10, .take), (11, .take), (12, .take), (13, .take), (14, .take), (15, .take), (16, .take), (17, .take), (18, .take), (19, .take), (20, .take), (21, .take), (22, .take), (23, .take), (24, .take), (25, .take), (26, .take), (27, .take), (28, .do_), (29, .take), (30, .take), (31, .take)]))] GG_no (Tryd.func8) rfl rfl rfl rfl rfl ?_)
    repeat' ((try conv => whnf); first
      | (with_reducible refine OKv.go (C := seat) seat_ok ?_)
      | (with_reducible refine BB_true ?_)
      | (with_reducible refine BB_false ?_)
      | (with_reducible refine Both.mk ?_ ?_)
      | (with_reducible refine VS.mk ?_)
      | (refine PSem.go (C := seat) seat_ok ?_)
      | (refine And.intro (PlanOK.mk (by kernel_rfl) rfl (by kernel_rfl) (by kernel_rfl)) ?_)
      | (refine And.intro rfl (Exists.intro _ (And.intro (by first | assumption | rfl) ?_)))
      | (refine And.intro ⟨rfl, rfl, rfl⟩ ?_)
      | (refine call_ro [] (awake_ok) GG_no rfl rfl rfl trivial ?_; rintro r bs' ext ⟨rfl, rfl⟩)
      | (refine BB.mk (fun _h => ?_) (fun _h => ?_) <;> (first | (exact absurd _h (by decide)) | (exfalso; simp only [bne_self_eq_false, beq_self_eq_true, Bool.false_eq_true, Bool.true_eq_false] at _h; done) | (exfalso; simp only [boolSet, hml, hmr, hms] at _h <;> omega) | (simp only [boolSet, hml, hmr, hms] at _h) | skip))
      | (refine And.intro (by omega) ?_)
      | (refine BB.mk (fun _h => ?_) (fun _h => ?_) <;> (first | (exact absurd _h (by decide)) | (exfalso; simp only [boolSet] at _h <;> omega) | skip)))
    all_goals (try conv => whnf)
    all_goals first
      | exact ⟨_, _, FrzV.refl _ _, rfl, rfl, fun _ => rfl, rfl⟩
      | (exfalso; omega)
end Go.Proofs.YtkmnglgjbmipgaaDoor
