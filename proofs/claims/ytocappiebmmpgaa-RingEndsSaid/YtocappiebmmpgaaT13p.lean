/- Law RingEnds, where somebody is known. -/
import Derived.Test.YtocappiebmmpgaaT13o
namespace Go.Proofs.Ytocappiebmmpgaa
open Go.RowKit

set_option maxRecDepth 100000 in
set_option maxHeartbeats 4000000 in
theorem ends_some (s : List Sp) (x m : De) (l : List De) (cs cx cm cl : Nat) (hs : s.length ≤ 9223372036854775807) (hxf : x.fl.length ≤ 9223372036854775807) (hmf : m.fl.length ≤ 9223372036854775807) (hl : l.length ≤ 9223372036854775807) (hfew : (l.all (fun d => decide (d.fl.length ≤ 8)) && decide (l.length ≤ 20)) = true) (h2 : mayB s l = true) (h3 : mayB s [x, m] = true) (hok : ∀ y ∈ l, DeOk y) (hox : DeOk x) (hom : DeOk m) (K : List De) (hK : uniLL x.node [] [l] = K) (y0 : De) (hy0 : K[0]? = some y0) : FnOK Try.prog GG 5 [] [.z 2 (s.map spC) cs, deS x cx, deS m cm, .z 4 (l.map deC) cl] (fun r _ ext => (r = .v (.bool true)) ∧ ext = []) := by
  obtain ⟨hfl, hl20⟩ := few_facts hfew
  have hlf : ∀ d ∈ l, d.fl.length ≤ 9223372036854775807 := fun d hd => by have := hfl d hd; omega
  obtain ⟨hs4, hm4⟩ := may_short h3
  have hm4 := hm4 m (by simp)
  have hnl : ∀ y ∈ l, 0 ≤ y.node ∧ y.node ≤ 255 := fun y hy => (hok y hy).1
  have hKm : (K.map deC).length = K.length := List.length_map _
  obtain ⟨hv, hKf, hKn⟩ : VOk x.node 256 K ∧ FlOk K ∧ ∀ y ∈ K, 0 ≤ y.node ∧ y.node ≤ 255 := hK ▸ uni_facts hfl hnl
  have hv2 := hv.len
  obtain ⟨S, hS⟩ : ∃ S, succD s (placeI s x) y0 K = S := ⟨_, rfl⟩
  obtain ⟨P, hP⟩ : ∃ P, predD s (placeI s x) y0 K = P := ⟨_, rfl⟩
  have hSK : S ∈ K := hS ▸ bst_in hy0
  have hPK : P ∈ K := hP ▸ bst_in hy0
  have hSle : ∀ y ∈ K, farI (placeI s x) (placeI s S) ≤ farI (placeI s x) (placeI s y) := hS ▸ succ_le s (placeI s x) y0 K
  have hPle : ∀ y ∈ K, farI (placeI s P) (placeI s x) ≤ farI (placeI s y) (placeI s x) := hP ▸ pred_le s (placeI s x) y0 K
  have hcS := cnt_end hv.rising hSK
  have hcP := cnt_end hv.rising hPK
  have hlen : 0 < K.length := (List.getElem?_eq_some_iff.1 hy0).1
  have hSf := hKf S hSK
  have hPf := hKf P hPK
  have hSn := hKn S hSK
  have hPn := hKn P hPK
  obtain ⟨K2, hK2⟩ : ∃ K2, uniLL x.node [] [l, [m]] = K2 := ⟨_, rfl⟩
  have hK2e : (putP K m x.node 256).1 = K2 := by rw [← hK, ← hK2]; rfl
  have hK2v : VOk x.node 256 K2 := hK2e ▸ hv.put m
  have hK2l0 := hK2v.len
  have hK2l : K2.length ≤ 1099511627776 := by omega
  have hK2f : FlOk K2 := hK2e ▸ put_flt hKf (by omega)
  have hK2n : ∀ y ∈ K2, 0 ≤ y.node ∧ y.node ≤ 255 := fun y hy => by
    rw [← hK2e] at hy
    rcases put_mem hy with rfl | h
    · exact hom.1
    · exact hKn y h
  have hT1 : ∀ k ∈ [l, [m]], k.length ≤ 1099511627776 := fun k hk => by
    rcases List.mem_cons.1 hk with rfl | hk
    · omega
    · rw [List.mem_singleton.1 hk]; simp
  have hT2 : ∀ k ∈ [l, [m]], FlOk k := fun k hk => by
    rcases List.mem_cons.1 hk with rfl | hk
    · exact hfl
    · rw [List.mem_singleton.1 hk]
      intro y hy
      rw [List.mem_singleton.1 hy]
      omega
  have hT3 : ∀ k ∈ [l, [m]], ∀ y ∈ k, 0 ≤ y.node ∧ y.node ≤ 255 := fun k hk => by
    rcases List.mem_cons.1 hk with rfl | hk
    · exact hnl
    · rw [List.mem_singleton.1 hk]
      intro y hy
      rw [List.mem_singleton.1 hy]
      exact hom.1
  have hK2p : 0 < K2.length := by
    rw [← hK2e]
    unfold putP
    split
    · exact hlen
    · split
      · split
        · exact hlen
        · rw [insL_len _ _ _ (place_le _ _)]; omega
      · split
        · rw [List.length_set]; exact hlen
        · exact hlen
  obtain ⟨z0, hz0⟩ : ∃ z0, K2[0]? = some z0 := ⟨_, List.getElem?_eq_getElem hK2p⟩
  obtain ⟨T, hT⟩ : ∃ T, succD s (placeI s x) z0 K2 = T := ⟨_, rfl⟩
  obtain ⟨Q, hQ⟩ : ∃ Q, predD s (placeI s x) z0 K2 = Q := ⟨_, rfl⟩
  have hTK : T ∈ K2 := hT ▸ bst_in hz0
  have hTf := hK2f T hTK
  have hTn := hK2n T hTK
  have hTle : K.any (fun d => decide (d.node = m.node)) = false → farI (placeI s x) (placeI s T) ≤ farI (placeI s x) (placeI s S) := fun h => by
    have hn : ∀ y ∈ K, y.node ≠ m.node := fun y hy e => by
      have := List.any_eq_false.1 h y hy
      simp [e] at this
    have h1 : S ∈ K2 := hK2e ▸ put_sub hv.rising hn hSK
    exact hT ▸ succ_le s (placeI s x) z0 K2 S h1
  refine FnOK.pure GG_no rfl (fn_intro (C := seat) seat_ok [(15, (.of [(0, .take), (1, .take), (3, .take), (4, .take), (5, .take), (6, .take), (2, .do_), (7, .do_), (8, .do_), (9, .take), (10, .take), (11, .take), (12, .take), (14, .take), (15, .take), (16, .take), (18, .take), (13, .do_), (17, .do_), (19, .do_), (20, .take), (21, .take)])), (29, (.of [(0, .take), (1, .take), (2, .take), (3, .take), (4, .take), (5, .take), (8, .take), (9, .take), (10, .take), (11, .take), (6, .do_), (7, .do_), (12, .do_), (13, .do_), (14, .take), (15, .take), (16, .take)]))] GG_no (Try.func5) rfl rfl rfl rfl rfl ?_)
  repeat' ((try conv => whnf); first
    | (with_reducible refine OKv.go (C := seat) seat_ok ?_)
    | (with_reducible refine BB_true ?_)
    | (with_reducible refine BB_false ?_)
    | (with_reducible refine Both.mk ?_ ?_)
    | (with_reducible refine VS.mk ?_)
    | (refine PSem.go (C := seat) seat_ok ?_)
    | (refine And.intro (PlanOK.mk (by kernel_rfl) rfl (by kernel_rfl) (by kernel_rfl)) ?_)
    | (refine And.intro rfl (Exists.intro _ (And.intro (by first | assumption | rfl) ?_)))
    | (refine And.intro ⟨rfl, rfl, rfl⟩ ?_)
    | (refine call_ro [] (few_zz l _ _ hl hfew) GG_no rfl rfl rfl trivial ?_; rintro r bs' ext ⟨rfl, rfl⟩)
    | (refine call_ro [] (may_b s l _ _ hs hl hlf _ h2) GG_no rfl rfl rfl trivial ?_; rintro r bs' ext ⟨rfl, rfl⟩)
    | (refine call_frz 1 rfl (frz_row (by rfl) (by rfl)) ?_; refine call_ro [] (may_b s [x, m] _ _ hs (by simp) (fun y hy => by rcases List.mem_cons.1 hy with rfl | hy; exact hxf; rw [List.mem_singleton.1 hy]; exact hmf) _ h3) GG_no rfl rfl rfl trivial ?_; rintro r bs' ext ⟨rfl, rfl⟩)
    | (refine call_frz 1 rfl (frz_rowF (els' := [l].map liC) (by rfl) (by rfl) (by rfl)) ?_; refine call_ro [] (union_k x.node [l] _ (by simp) (fun k hk => by rw [List.mem_singleton.1 hk]; omega) (fun k hk => by rw [List.mem_singleton.1 hk]; exact hfl) K hK) GG_no rfl rfl rfl trivial ?_; rintro r bs' ext ⟨⟨c1, hc1, rfl⟩, rfl⟩)
    | (refine call_frz 2 rfl (frz_rowF (els' := [l].map liC) (by rfl) (by rfl) (by rfl)) ?_; refine call_ro [] (choose_k s x [l] _ _ _ hs hox.1 hxf (by simp) (fun k hk => by rw [List.mem_singleton.1 hk]; omega) (fun k hk => by rw [List.mem_singleton.1 hk]; exact hfl) (fun k hk => by rw [List.mem_singleton.1 hk]; exact hnl) K hK (by omega) hKf hKn y0 hy0 S P hS hP) GG_no rfl rfl rfl trivial ?_; rintro r bs' ext ⟨⟨c2, c3, hc2, hc3, rfl⟩, rfl⟩)
    | (refine call_ro [] (place_r s x _ _ hs hxf hox.1) GG_no rfl rfl rfl trivial ?_; rintro r bs' ext ⟨rfl, rfl⟩)
    | (refine fun (caps : Nat → Nat) hcaps => ?_; conv at hcaps => whnf)
    | (refine And.intro (by decide) ?_)
    | (refine BB.mk (fun _h => ?_) (fun _h => ?_) <;> (first | (exact absurd _h (by decide)) | (exfalso; simp only [boolSet, hKm] at _h <;> omega) | (simp only [boolSet, hKm] at _h) | skip))
    | (refine And.intro (by omega) ?_)
    | (refine BB.mk (fun _h => ?_) (fun _h => ?_) <;> (first | (exact absurd _h (by decide)) | (exfalso; simp only [boolSet] at _h <;> omega) | skip)))
  all_goals (try conv => whnf)
  refine loop_rule (α := Nat) (fun k => k ≤ K.length) (fun k => { slots := [(0, .z 2 (s.map spC) cs), (3, .z 4 (l.map deC) cl), (5, .p (.n 0) 0 0 0), (6, .p (.n 1) 0 0 0), (9, .z 4 (K.map deC) c1), (10, .p (.n 2) 0 0 0), (11, .v (.int .u16 (placeI s x))), (12, .v (.int .i64 (cntD S K k))), (13, .v (.int .i64 (cntD P K k))), (75, .z 4 (K.map deC) c1), (76, .v (.int .i64 (K.map deC).length)), (77, .v (.int .i64 (k : Int)))], nt := 169, mem := ⟨GG, [], [.box 27 [.v (.int .u8 x.node), .v (.int .u16 x.inc), .v (.int .u8 x.age), .z 2 (x.fl.map spC) cx], .box 27 [.v (.int .u8 m.node), .v (.int .u16 m.inc), .v (.int .u8 m.age), .z 2 (m.fl.map spC) cm], .box 34 [.v (.bool true), .v (.bool true), .v (.int .u8 S.node), .v (.int .u16 S.inc), .v (.int .u8 S.age), .z 2 (S.fl.map spC) c2, .v (.int .u8 P.node), .v (.int .u16 P.inc), .v (.int .u8 P.age), .z 2 (P.fl.map spC) c3]]⟩ }) (fun k => K.length - k) 0 (Nat.zero_le _) ⟨⟨[0, 1, 5], by decide, GG_no, rfl, SubOld.refl _ rfl, ⟨rfl, rfl, rfl, trivial⟩, ⟨.inl rfl, .inl rfl, .inl rfl, .inl rfl, .inl rfl, .inl rfl, .inl rfl, .inl rfl, .inl rfl, .inl rfl, .inl rfl, .inl rfl, trivial⟩⟩, rfl⟩ ?_ (fun _ => rfl)
  intro k hk
  refine vc_sound (C := seat) seat_ok (pl := [(15, (.of [(0, .take), (1, .take), (3, .take), (4, .take), (5, .take), (6, .take), (2, .do_), (7, .do_), (8, .do_), (9, .take), (10, .take), (11, .take), (12, .take), (14, .take), (15, .take), (16, .take), (18, .take), (13, .do_), (17, .do_), (19, .do_), (20, .take), (21, .take)])), (29, (.of [(0, .take), (1, .take), (2, .take), (3, .take), (4, .take), (5, .take), (8, .take), (9, .take), (10, .take), (11, .take), (6, .do_), (7, .do_), (12, .do_), (13, .do_), (14, .take), (15, .take), (16, .take)]))]) ?_
  by_cases hlt : k < K.length
  · obtain ⟨d, hd⟩ : ∃ d, K[k]? = some d := ⟨_, List.getElem?_eq_getElem hlt⟩
    have hrow := zde13 hd
    have hdK := List.mem_of_getElem? hd
    have hdf := hKf d hdK
    have hdn := hKn d hdK
    have hds := hSle d hdK
    have hdp := hPle d hdK
    have hcs := cnt_succ (x := S) hd
    have hcp := cnt_succ (x := P) hd
    have hls := cnt_le S K k
    have hlp := cnt_le P K k
    cases hv1 : decide (d = S) <;> cases hv2 : decide (d = P)
    all_goals
      rw [hv1] at hcs
      rw [hv2] at hcp
      simp only [cond_true, cond_false] at hcs hcp
      repeat' ((try conv => whnf); first
        | (with_reducible refine OKv.go (C := seat) seat_ok ?_)
        | (with_reducible refine BB_true ?_)
        | (with_reducible refine BB_false ?_)
        | (with_reducible refine Both.mk ?_ ?_)
        | (with_reducible refine VS.mk ?_)
        | (refine PSem.go (C := seat) seat_ok ?_)
        | (refine And.intro (PlanOK.mk (by kernel_rfl) rfl (by kernel_rfl) (by kernel_rfl)) ?_)
        | (refine And.intro rfl (Exists.intro _ (And.intro (by first | assumption | rfl) ?_)))
        | (refine And.intro ⟨rfl, rfl, rfl⟩ ?_)
        | (refine call_ro [] (desc_v d S _ _ hdf _ hv1) GG_no rfl rfl rfl trivial ?_; rintro r bs' ext ⟨rfl, rfl⟩)
        | (refine call_ro [] (desc_v d P _ _ hdf _ hv2) GG_no rfl rfl rfl trivial ?_; rintro r bs' ext ⟨rfl, rfl⟩)
        | (refine call_ro [] (place_r s d _ _ hs (Nat.le_trans hdf (by decide)) hdn) GG_no rfl rfl rfl trivial ?_; rintro r bs' ext ⟨rfl, rfl⟩)
        | (refine call_ro [] (place_r s S _ _ hs (Nat.le_trans hSf (by decide)) hSn) GG_no rfl rfl rfl trivial ?_; rintro r bs' ext ⟨rfl, rfl⟩)
        | (refine call_ro [] (place_r s P _ _ hs (Nat.le_trans hPf (by decide)) hPn) GG_no rfl rfl rfl trivial ?_; rintro r bs' ext ⟨rfl, rfl⟩)
        | (refine call_ro [] (far_z (placeI s x) (placeI s d)) GG_no rfl rfl rfl trivial ?_; rintro r bs' ext ⟨rfl, rfl⟩)
        | (refine call_ro [] (far_z (placeI s x) (placeI s S)) GG_no rfl rfl rfl trivial ?_; rintro r bs' ext ⟨rfl, rfl⟩)
        | (refine call_ro [] (far_z (placeI s d) (placeI s x)) GG_no rfl rfl rfl trivial ?_; rintro r bs' ext ⟨rfl, rfl⟩)
        | (refine call_ro [] (far_z (placeI s P) (placeI s x)) GG_no rfl rfl rfl trivial ?_; rintro r bs' ext ⟨rfl, rfl⟩)
        | (refine And.intro ⟨by omega, by simp only [List.length_map]; omega⟩ (Exists.intro _ (And.intro (by first | assumption | rfl) ?_)))
        | (refine fun (caps : Nat → Nat) hcaps => ?_; conv at hcaps => whnf)
        | (refine BB.mk (fun _h => ?_) (fun _h => ?_) <;> (first | (exact absurd _h (by decide)) | (exfalso; simp only [boolSet, hKm] at _h <;> omega) | (simp only [boolSet, hKm] at _h) | skip))
        | (refine And.intro (by omega) ?_)
        | (refine BB.mk (fun _h => ?_) (fun _h => ?_) <;> (first | (exact absurd _h (by decide)) | (exfalso; simp only [boolSet] at _h <;> omega) | skip)))
      all_goals (try conv => whnf)
      all_goals first
        | exact ⟨k + 1, by omega, by omega, ⟨⟨[0, 1, 2], by decide, GG_no, rfl, SubOld.refl _ rfl, ⟨rfl, rfl, rfl, trivial⟩, ⟨.inl rfl, .inl rfl, .inl rfl, .inl rfl, .inl rfl, .inl rfl, .inl rfl, .inl (num_eq (by rw [hcs]; first | rfl | (rw [IntKind.wrap_i64]; omega) | omega)), .inl (num_eq (by rw [hcp]; first | rfl | (rw [IntKind.wrap_i64]; omega) | omega)), .inl rfl, .inl rfl, .inl (num_eq (by rw [IntKind.wrap_i64]; omega)), trivial⟩⟩, rfl⟩⟩
        | trace_state
  · obtain rfl : k = K.length := by omega
    repeat' ((try conv => whnf); first
      | (with_reducible refine OKv.go (C := seat) seat_ok ?_)
      | (with_reducible refine BB_true ?_)
      | (with_reducible refine BB_false ?_)
      | (with_reducible refine Both.mk ?_ ?_)
      | (with_reducible refine VS.mk ?_)
      | (refine PSem.go (C := seat) seat_ok ?_)
      | (refine And.intro (PlanOK.mk (by kernel_rfl) rfl (by kernel_rfl) (by kernel_rfl)) ?_)
      | (refine And.intro rfl (Exists.intro _ (And.intro (by first | assumption | rfl) ?_)))
      | (refine And.intro ⟨rfl, rfl, rfl⟩ ?_)
      | (refine BB.mk (fun _h => ?_) (fun _h => ?_) <;> (first | (exact absurd _h (by decide)) | (exfalso; simp only [boolSet, hKm] at _h <;> omega) | (simp only [boolSet, hKm] at _h) | skip))
      | (refine And.intro (by omega) ?_)
      | (refine BB.mk (fun _h => ?_) (fun _h => ?_) <;> (first | (exact absurd _h (by decide)) | (exfalso; simp only [boolSet] at _h <;> omega) | skip)))
    all_goals (try conv => whnf)
    refine loop_rule (α := Nat) (fun k => k ≤ K.length) (fun k => { slots := [(0, .z 2 (s.map spC) cs), (3, .z 4 (l.map deC) cl), (5, .p (.n 0) 0 0 0), (6, .p (.n 1) 0 0 0), (10, .p (.n 2) 0 0 0), (11, .v (.int .u16 (placeI s x))), (12, .v (.int .i64 1)), (13, .v (.int .i64 1)), (17, .v (.bool ((K.take k).any (fun d => decide (d.node = m.node))))), (119, .z 4 (K.map deC) c1), (120, .v (.int .i64 (K.map deC).length)), (121, .v (.int .i64 (k : Int)))], nt := 169, mem := ⟨GG, [], [.box 27 [.v (.int .u8 x.node), .v (.int .u16 x.inc), .v (.int .u8 x.age), .z 2 (x.fl.map spC) cx], .box 27 [.v (.int .u8 m.node), .v (.int .u16 m.inc), .v (.int .u8 m.age), .z 2 (m.fl.map spC) cm], .box 34 [.v (.bool true), .v (.bool true), .v (.int .u8 S.node), .v (.int .u16 S.inc), .v (.int .u8 S.age), .z 2 (S.fl.map spC) c2, .v (.int .u8 P.node), .v (.int .u16 P.inc), .v (.int .u8 P.age), .z 2 (P.fl.map spC) c3]]⟩ }) (fun k => K.length - k) 0 (Nat.zero_le _) ⟨⟨[0, 1, 2], by decide, GG_no, rfl, SubOld.refl _ rfl, ⟨rfl, rfl, rfl, trivial⟩, ⟨.inl rfl, .inl rfl, .inl rfl, .inl rfl, .inl rfl, .inl rfl, .inl (num_eq hcS), .inl (num_eq hcP), .inl rfl, .inl rfl, .inl rfl, .inl rfl, trivial⟩⟩, rfl⟩ ?_ (fun _ => rfl)
    intro k hk
    refine vc_sound (C := seat) seat_ok (pl := [(15, (.of [(0, .take), (1, .take), (3, .take), (4, .take), (5, .take), (6, .take), (2, .do_), (7, .do_), (8, .do_), (9, .take), (10, .take), (11, .take), (12, .take), (14, .take), (15, .take), (16, .take), (18, .take), (13, .do_), (17, .do_), (19, .do_), (20, .take), (21, .take)])), (29, (.of [(0, .take), (1, .take), (2, .take), (3, .take), (4, .take), (5, .take), (8, .take), (9, .take), (10, .take), (11, .take), (6, .do_), (7, .do_), (12, .do_), (13, .do_), (14, .take), (15, .take), (16, .take)]))]) ?_
    by_cases hlt : k < K.length
    · obtain ⟨d, hd⟩ : ∃ d, K[k]? = some d := ⟨_, List.getElem?_eq_getElem hlt⟩
      have hrow := zde13 hd
      have has := any_succ (p := fun d => decide (d.node = m.node)) hd
      cases hkb : (K.take k).any (fun d => decide (d.node = m.node)) <;> cases hv1 : decide (d.node = m.node)
      all_goals
        rw [hkb] at has
        (try dsimp only at has)
        rw [hv1] at has
        have hv1' := hv1
        simp only [decide_eq_true_eq, decide_eq_false_iff_not] at hv1'
        repeat' ((try conv => whnf); first
          | (with_reducible refine OKv.go (C := seat) seat_ok ?_)
          | (with_reducible refine BB_true ?_)
          | (with_reducible refine BB_false ?_)
          | (with_reducible refine Both.mk ?_ ?_)
          | (with_reducible refine VS.mk ?_)
          | (refine PSem.go (C := seat) seat_ok ?_)
          | (refine And.intro (PlanOK.mk (by kernel_rfl) rfl (by kernel_rfl) (by kernel_rfl)) ?_)
          | (refine And.intro rfl (Exists.intro _ (And.intro (by first | assumption | rfl) ?_)))
          | (refine And.intro ⟨rfl, rfl, rfl⟩ ?_)
          | (refine And.intro ⟨by omega, by simp only [List.length_map]; omega⟩ (Exists.intro _ (And.intro (by first | assumption | rfl) ?_)))
          | (refine fun (caps : Nat → Nat) hcaps => ?_; conv at hcaps => whnf)
          | (refine BB.mk (fun _h => ?_) (fun _h => ?_) <;> (first | (exact absurd _h (by decide)) | (exfalso; simp only [boolSet, hKm] at _h <;> omega) | (simp only [boolSet, hKm] at _h) | skip))
          | (refine And.intro (by omega) ?_)
          | (refine BB.mk (fun _h => ?_) (fun _h => ?_) <;> (first | (exact absurd _h (by decide)) | (exfalso; simp only [boolSet] at _h <;> omega) | skip)))
        all_goals (try conv => whnf)
        all_goals first
          | (exfalso; omega)
          | exact ⟨k + 1, by omega, by omega, ⟨⟨[0, 1, 2], by decide, GG_no, rfl, SubOld.refl _ rfl, ⟨rfl, rfl, rfl, trivial⟩, ⟨.inl rfl, .inl rfl, .inl rfl, .inl rfl, .inl rfl, .inl rfl, .inl rfl, .inl rfl, .inl (bool_eq (by rw [has]; first | rfl | simp [hv1'])), .inl rfl, .inl rfl, .inl (num_eq (by rw [IntKind.wrap_i64]; omega)), trivial⟩⟩, rfl⟩⟩
          | trace_state
    · obtain rfl : k = K.length := by omega
      have htk : (K.take K.length).any (fun d => decide (d.node = m.node)) = K.any (fun d => decide (d.node = m.node)) := by rw [List.take_length]
      cases hkb : K.any (fun d => decide (d.node = m.node))
      all_goals
        rw [hkb] at htk hTle
        rw [htk]
        repeat' ((try conv => whnf); first
          | (with_reducible refine OKv.go (C := seat) seat_ok ?_)
          | (with_reducible refine BB_true ?_)
          | (with_reducible refine BB_false ?_)
          | (with_reducible refine Both.mk ?_ ?_)
          | (with_reducible refine VS.mk ?_)
          | (refine PSem.go (C := seat) seat_ok ?_)
          | (refine And.intro (PlanOK.mk (by kernel_rfl) rfl (by kernel_rfl) (by kernel_rfl)) ?_)
          | (refine And.intro rfl (Exists.intro _ (And.intro (by first | assumption | rfl) ?_)))
          | (refine And.intro ⟨rfl, rfl, rfl⟩ ?_)
          | (refine call_frz 2 rfl (frz_rowF (els' := [l, [m]].map liC) (by rfl) (by rfl) (by rfl)) ?_; refine call_ro [] (choose_k s x [l, [m]] _ _ _ hs hox.1 hxf (by simp) hT1 hT2 hT3 K2 hK2 hK2l hK2f hK2n z0 hz0 T Q hT hQ) GG_no rfl rfl rfl trivial ?_; rintro r bs' ext ⟨⟨c4, c5, hc4, hc5, rfl⟩, rfl⟩)
          | (refine call_ro [] (place_r s T _ _ hs (Nat.le_trans hTf (by decide)) hTn) GG_no rfl rfl rfl trivial ?_; rintro r bs' ext ⟨rfl, rfl⟩)
          | (refine call_ro [] (place_r s S _ _ hs (Nat.le_trans hSf (by decide)) hSn) GG_no rfl rfl rfl trivial ?_; rintro r bs' ext ⟨rfl, rfl⟩)
          | (refine call_ro [] (far_z (placeI s x) (placeI s T)) GG_no rfl rfl rfl trivial ?_; rintro r bs' ext ⟨rfl, rfl⟩)
          | (refine call_ro [] (far_z (placeI s x) (placeI s S)) GG_no rfl rfl rfl trivial ?_; rintro r bs' ext ⟨rfl, rfl⟩)
          | (refine call_ro [] (awake_ok) GG_no rfl rfl rfl trivial ?_; rintro r bs' ext ⟨rfl, rfl⟩)
          | (refine And.intro ⟨rfl, by first | decide | exact Nat.le_refl _⟩ ?_)
          | (refine fun (caps : Nat → Nat) hcaps => ?_; conv at hcaps => whnf)
          | (refine And.intro (by decide) ?_)
          | (refine BB.mk (fun _h => ?_) (fun _h => ?_) <;> (first | (exact absurd _h (by decide)) | (exfalso; simp only [boolSet, hKm] at _h <;> omega) | (simp only [boolSet, hKm] at _h) | skip))
          | (refine And.intro (by omega) ?_)
          | (refine BB.mk (fun _h => ?_) (fun _h => ?_) <;> (first | (exact absurd _h (by decide)) | (exfalso; simp only [boolSet] at _h <;> omega) | skip)))
        all_goals (try conv => whnf)
        all_goals first
          | exact ⟨_, _, FrzV.refl _ _, rfl, rfl, fun _ => rfl, rfl⟩
          | (exfalso; have := hTle rfl; omega)
          | trace_state
end Go.Proofs.Ytocappiebmmpgaa
