/- Law RingDrop, where nobody is known. -/
import Derived.Test.YtocappiebmmpgaaT13s
namespace Go.Proofs.Ytocappiebmmpgaa
open Go.RowKit

set_option maxRecDepth 100000 in
set_option maxHeartbeats 4000000 in
theorem drop_bad (s : List Sp) (x : De) (l : List De) (n : Int) (cs cx cl : Nat) (hs : s.length ≤ 9223372036854775807) (hxf : x.fl.length ≤ 9223372036854775807) (hl : l.length ≤ 9223372036854775807) (b1 b2 b3 : Bool) (h1 : (l.all (fun d => decide (d.fl.length ≤ 8)) && decide (l.length ≤ 20)) = b1) (h2 : mayB s l = b2) (h3 : mayB s [x] = b3) (hb : (b1 && b2 && b3) = false) (hlf : b1 = true → ∀ d ∈ l, d.fl.length ≤ 9223372036854775807) : FnOK Try.prog GG 7 [] [.z 2 (s.map spC) cs, deS x cx, .z 4 (l.map deC) cl, .v (.int .u8 n)] (fun r _ ext => (r = .v (.bool true)) ∧ ext = []) := by
  cases b1 <;> cases b2 <;> cases b3 <;> (first | (exact absurd hb (by decide)) | skip)
  all_goals refine FnOK.pure GG_no rfl (fn_intro (C := seat) seat_ok [(4, (.op 0 .take (.op 1 .take (.op 3 .take (.seq 2 [true, true, true, true, true, true, true, false, false] (.fork 2 (.fork 4 (.fork 5 (.of [(6, .do_)]) (.of [(6, .do_), (5, .do_)])) (.fork 5 (.fork 4 (.of [(6, .do_)]) (.of [(6, .do_), (4, .do_)])) (.op 6 .do_ (.fork 4 (.of [(5, .do_)]) (.of [(5, .do_), (4, .do_)]))))) (.fork 5 (.fork 2 (.fork 4 (.of [(6, .do_)]) (.of [(6, .do_), (4, .do_)])) (.of [(6, .do_), (2, .do_), (4, .do_)])) (.op 6 .do_ (.fork 2 (.fork 4 (.of [(5, .do_)]) (.of [(5, .do_), (4, .do_)])) (.of [(5, .do_), (2, .do_), (4, .do_)]))))) (.of [(7, .last), (8, .last)])))))), (13, (.of [(0, .take), (1, .take), (2, .take), (3, .take), (5, .take), (6, .take), (10, .take), (11, .take), (4, .do_), (7, .take), (8, .take), (9, .take), (12, .take), (13, .take), (14, .take), (15, .take), (16, .take), (17, .take), (18, .do_), (19, .take), (20, .take), (21, .take), (22, .take), (23, .take), (24, .do_), (25, .take), (26, .take), (27, .take)]))] GG_no (Try.func7) rfl rfl rfl rfl rfl ?_)
  repeat' ((try conv => whnf); first
    | (with_reducible refine OKv.go (C := seat) seat_ok ?_)
    | (with_reducible refine BB_true ?_)
    | (with_reducible refine BB_false ?_)
    | (with_reducible refine Both.mk ?_ ?_)
    | (with_reducible refine VS.mk ?_)
    | (refine PSem.go (C := seat) seat_ok ?_)
    | (refine And.intro (PlanOK.mk (by kernel_rfl) rfl (by kernel_rfl) (by kernel_rfl)) ?_)
    | (refine And.intro rfl (Exists.intro _ (And.intro (by first | assumption | rfl) ?_)))
    | (refine And.intro ⟨rfl, rfl, rfl⟩ ?_)
    | (refine call_ro [] (few_zz l _ _ hl h1) GG_no rfl rfl rfl trivial ?_; rintro r bs' ext ⟨rfl, rfl⟩)
    | (refine call_ro [] (may_b s l _ _ hs hl (hlf rfl) _ h2) GG_no rfl rfl rfl trivial ?_; rintro r bs' ext ⟨rfl, rfl⟩)
    | (refine call_frz 1 rfl (frz_row (by rfl) (by rfl)) ?_; refine call_ro [] (may_b s [x] _ _ hs (by simp) (fun y hy => by rw [List.mem_singleton.1 hy]; exact hxf) _ h3) GG_no rfl rfl rfl trivial ?_; rintro r bs' ext ⟨rfl, rfl⟩)
    | (refine call_ro [] (awake_ok) GG_no rfl rfl rfl trivial ?_; rintro r bs' ext ⟨rfl, rfl⟩)
    | (refine fun (caps : Nat → Nat) hcaps => ?_; conv at hcaps => whnf)
    | (refine And.intro (by decide) ?_)
    | (refine BB.mk (fun _h => ?_) (fun _h => ?_) <;> (first | (exact absurd _h (by decide)) | (exfalso; simp only [boolSet] at _h <;> omega) | (simp only [boolSet] at _h) | skip))
    | (refine And.intro (by omega) ?_)
    | (refine BB.mk (fun _h => ?_) (fun _h => ?_) <;> (first | (exact absurd _h (by decide)) | (exfalso; simp only [boolSet] at _h <;> omega) | skip)))
  all_goals (try conv => whnf)
  all_goals first
    | exact ⟨_, _, FrzV.refl _ _, rfl, rfl, fun _ => rfl, rfl⟩
    | trace_state
set_option maxRecDepth 100000 in
set_option maxHeartbeats 4000000 in
theorem drop_none_ok (s : List Sp) (x : De) (l : List De) (n : Int) (cs cx cl : Nat) (hs : s.length ≤ 9223372036854775807) (hxf : x.fl.length ≤ 9223372036854775807) (hl : l.length ≤ 9223372036854775807) (hfew : (l.all (fun d => decide (d.fl.length ≤ 8)) && decide (l.length ≤ 20)) = true) (h2 : mayB s l = true) (h3 : mayB s [x] = true) (hok : ∀ y ∈ l, DeOk y) (hox : DeOk x) (K : List De) (hK : uniLL x.node [] [l] = K) (h0 : K.length = 0) : FnOK Try.prog GG 7 [] [.z 2 (s.map spC) cs, deS x cx, .z 4 (l.map deC) cl, .v (.int .u8 n)] (fun r _ ext => (r = .v (.bool true)) ∧ ext = []) := by
  obtain ⟨hfl, hl20⟩ := few_facts hfew
  have hlf : ∀ d ∈ l, d.fl.length ≤ 9223372036854775807 := fun d hd => by have := hfl d hd; omega
  have hnl : ∀ y ∈ l, 0 ≤ y.node ∧ y.node ≤ 255 := fun y hy => (hok y hy).1
  have hKm : (K.map deC).length = K.length := List.length_map _
  refine FnOK.pure GG_no rfl (fn_intro (C := seat) seat_ok [(4, (.op 0 .take (.op 1 .take (.op 3 .take (.seq 2 [true, true, true, true, true, true, true, false, false] (.fork 2 (.fork 4 (.fork 5 (.of [(6, .do_)]) (.of [(6, .do_), (5, .do_)])) (.fork 5 (.fork 4 (.of [(6, .do_)]) (.of [(6, .do_), (4, .do_)])) (.op 6 .do_ (.fork 4 (.of [(5, .do_)]) (.of [(5, .do_), (4, .do_)]))))) (.fork 5 (.fork 2 (.fork 4 (.of [(6, .do_)]) (.of [(6, .do_), (4, .do_)])) (.of [(6, .do_), (2, .do_), (4, .do_)])) (.op 6 .do_ (.fork 2 (.fork 4 (.of [(5, .do_)]) (.of [(5, .do_), (4, .do_)])) (.of [(5, .do_), (2, .do_), (4, .do_)]))))) (.of [(7, .last), (8, .last)])))))), (13, (.of [(0, .take), (1, .take), (2, .take), (3, .take), (5, .take), (6, .take), (10, .take), (11, .take), (4, .do_), (7, .take), (8, .take), (9, .take), (12, .take), (13, .take), (14, .take), (15, .take), (16, .take), (17, .take), (18, .do_), (19, .take), (20, .take), (21, .take), (22, .take), (23, .take), (24, .do_), (25, .take), (26, .take), (27, .take)]))] GG_no (Try.func7) rfl rfl rfl rfl rfl ?_)
  repeat' ((try conv => whnf); first
    | (with_reducible refine OKv.go (C := seat) seat_ok ?_)
    | (with_reducible refine BB_true ?_)
    | (with_reducible refine BB_false ?_)
    | (with_reducible refine Both.mk ?_ ?_)
    | (with_reducible refine VS.mk ?_)
    | (refine PSem.go (C := seat) seat_ok ?_)
    | (refine And.intro (PlanOK.mk (by kernel_rfl) rfl (by kernel_rfl) (by kernel_rfl)) ?_)
    | (refine And.intro rfl (Exists.intro _ (And.intro (by first | assumption | rfl) ?_)))
    | (refine And.intro ⟨rfl, rfl, rfl⟩ ?_)
    | (refine call_ro [] (few_zz l _ _ hl hfew) GG_no rfl rfl rfl trivial ?_; rintro r bs' ext ⟨rfl, rfl⟩)
    | (refine call_ro [] (may_b s l _ _ hs hl hlf _ h2) GG_no rfl rfl rfl trivial ?_; rintro r bs' ext ⟨rfl, rfl⟩)
    | (refine call_frz 1 rfl (frz_row (by rfl) (by rfl)) ?_; refine call_ro [] (may_b s [x] _ _ hs (by simp) (fun y hy => by rw [List.mem_singleton.1 hy]; exact hxf) _ h3) GG_no rfl rfl rfl trivial ?_; rintro r bs' ext ⟨rfl, rfl⟩)
    | (refine call_frz 2 rfl (frz_rowF (els' := [l].map liC) (by rfl) (by rfl) (by rfl)) ?_; refine call_ro [] (choose_none s x [l] _ _ _ hs hox.1 hxf (by simp) (fun k hk => by rw [List.mem_singleton.1 hk]; omega) (fun k hk => by rw [List.mem_singleton.1 hk]; exact hfl) (fun k hk => by rw [List.mem_singleton.1 hk]; exact hnl) K hK h0) GG_no rfl rfl rfl trivial ?_; rintro r bs' ext ⟨rfl, rfl⟩)
    | (refine call_ro [] (drop_non n _ _) GG_no rfl rfl rfl trivial ?_; rintro r bs' ext ⟨rfl, rfl⟩)
    | (refine call_ro [] (older_ff _ _) GG_no rfl rfl rfl trivial ?_; rintro r bs' ext ⟨rfl, rfl⟩)
    | (refine call_ro [] (l_no e00 e00 _ _) GG_no rfl rfl rfl trivial ?_; rintro r bs' ext ⟨rfl, rfl⟩)
    | (refine call_frz 0 rfl (FrzV.trans (frz_aggT 5 (by rfl) (frz_nil _ 2) (by rfl)) (frz_aggT 9 (by rfl) (frz_nil _ 2) (by rfl))) ?_; refine call_ro [] (l_no e00 e00 _ _) GG_no rfl rfl rfl trivial ?_; rintro r bs' ext ⟨rfl, rfl⟩)
    | (refine call_ro [] (same_r false false false false e00 e00 e00 e00 _ _ _ _ (by decide) (by decide) true (by decide)) GG_no rfl rfl rfl trivial ?_; rintro r bs' ext ⟨rfl, rfl⟩)
    | (refine call_ro [] (awake_ok) GG_no rfl rfl rfl trivial ?_; rintro r bs' ext ⟨rfl, rfl⟩)
    | (refine fun (caps : Nat → Nat) hcaps => ?_; conv at hcaps => whnf)
    | (refine And.intro (by decide) ?_)
    | (refine BB.mk (fun _h => ?_) (fun _h => ?_) <;> (first | (exact absurd _h (by decide)) | (exfalso; simp only [boolSet, hKm] at _h <;> omega) | (simp only [boolSet, hKm] at _h) | skip))
    | (refine And.intro (by omega) ?_)
    | (refine BB.mk (fun _h => ?_) (fun _h => ?_) <;> (first | (exact absurd _h (by decide)) | (exfalso; simp only [boolSet] at _h <;> omega) | skip)))
  all_goals (try conv => whnf)
  all_goals
    refine loop_rule (α := Nat) (fun k => k ≤ 0) (fun k => { slots := [(9, .p (.n 0) 0 0 0), (12, .v (.int .i64 0)), (151, .z 4 (([] : List De).map deC) 0), (152, .v (.int .i64 (([] : List De).map deC).length)), (153, .v (.int .i64 (k : Int)))], nt := 216, mem := ⟨GG, [], [.box 34 [.v (.bool false), .v (.bool false), .v (.int .u8 0), .v (.int .u16 0), .v (.int .u8 0), .z 2 (([] : List Sp).map spC) 0, .v (.int .u8 0), .v (.int .u16 0), .v (.int .u8 0), .z 2 (([] : List Sp).map spC) 0]]⟩ }) (fun k => 0 - k) 0 (Nat.le_refl _) ⟨⟨[3], by decide, GG_no, rfl, SubOld.refl _ rfl, ⟨rfl, trivial⟩, ⟨.inl rfl, .inl rfl, .inl rfl, .inl rfl, .inl rfl, trivial⟩⟩, rfl⟩ ?_ (fun _ => rfl)
    intro k hk
    obtain rfl : k = 0 := by omega
    refine vc_sound (C := seat) seat_ok (pl := [(4, (.op 0 .take (.op 1 .take (.op 3 .take (.seq 2 [true, true, true, true, true, true, true, false, false] (.fork 2 (.fork 4 (.fork 5 (.of [(6, .do_)]) (.of [(6, .do_), (5, .do_)])) (.fork 5 (.fork 4 (.of [(6, .do_)]) (.of [(6, .do_), (4, .do_)])) (.op 6 .do_ (.fork 4 (.of [(5, .do_)]) (.of [(5, .do_), (4, .do_)]))))) (.fork 5 (.fork 2 (.fork 4 (.of [(6, .do_)]) (.of [(6, .do_), (4, .do_)])) (.of [(6, .do_), (2, .do_), (4, .do_)])) (.op 6 .do_ (.fork 2 (.fork 4 (.of [(5, .do_)]) (.of [(5, .do_), (4, .do_)])) (.of [(5, .do_), (2, .do_), (4, .do_)]))))) (.of [(7, .last), (8, .last)])))))), (13, (.of [(0, .take), (1, .take), (2, .take), (3, .take), (5, .take), (6, .take), (10, .take), (11, .take), (4, .do_), (7, .take), (8, .take), (9, .take), (12, .take), (13, .take), (14, .take), (15, .take), (16, .take), (17, .take), (18, .do_), (19, .take), (20, .take), (21, .take), (22, .take), (23, .take), (24, .do_), (25, .take), (26, .take), (27, .take)]))]) ?_
    repeat' ((try conv => whnf); first
      | (with_reducible refine OKv.go (C := seat) seat_ok ?_)
      | (with_reducible refine BB_true ?_)
      | (with_reducible refine BB_false ?_)
      | (with_reducible refine Both.mk ?_ ?_)
      | (with_reducible refine VS.mk ?_)
      | (refine PSem.go (C := seat) seat_ok ?_)
      | (refine And.intro (PlanOK.mk (by kernel_rfl) rfl (by kernel_rfl) (by kernel_rfl)) ?_)
      | (refine And.intro rfl (Exists.intro _ (And.intro (by first | assumption | rfl) ?_)))
      | (refine And.intro ⟨rfl, rfl, rfl⟩ ?_)
      | (refine call_ro [] (few_zz l _ _ hl hfew) GG_no rfl rfl rfl trivial ?_; rintro r bs' ext ⟨rfl, rfl⟩)
      | (refine call_ro [] (may_b s l _ _ hs hl hlf _ h2) GG_no rfl rfl rfl trivial ?_; rintro r bs' ext ⟨rfl, rfl⟩)
      | (refine call_frz 1 rfl (frz_row (by rfl) (by rfl)) ?_; refine call_ro [] (may_b s [x] _ _ hs (by simp) (fun y hy => by rw [List.mem_singleton.1 hy]; exact hxf) _ h3) GG_no rfl rfl rfl trivial ?_; rintro r bs' ext ⟨rfl, rfl⟩)
      | (refine call_frz 2 rfl (frz_rowF (els' := [l].map liC) (by rfl) (by rfl) (by rfl)) ?_; refine call_ro [] (choose_none s x [l] _ _ _ hs hox.1 hxf (by simp) (fun k hk => by rw [List.mem_singleton.1 hk]; omega) (fun k hk => by rw [List.mem_singleton.1 hk]; exact hfl) (fun k hk => by rw [List.mem_singleton.1 hk]; exact hnl) K hK h0) GG_no rfl rfl rfl trivial ?_; rintro r bs' ext ⟨rfl, rfl⟩)
      | (refine call_ro [] (drop_non n _ _) GG_no rfl rfl rfl trivial ?_; rintro r bs' ext ⟨rfl, rfl⟩)
      | (refine call_ro [] (older_ff _ _) GG_no rfl rfl rfl trivial ?_; rintro r bs' ext ⟨rfl, rfl⟩)
      | (refine call_ro [] (l_no e00 e00 _ _) GG_no rfl rfl rfl trivial ?_; rintro r bs' ext ⟨rfl, rfl⟩)
      | (refine call_frz 0 rfl (FrzV.trans (frz_aggT 5 (by rfl) (frz_nil _ 2) (by rfl)) (frz_aggT 9 (by rfl) (frz_nil _ 2) (by rfl))) ?_; refine call_ro [] (l_no e00 e00 _ _) GG_no rfl rfl rfl trivial ?_; rintro r bs' ext ⟨rfl, rfl⟩)
      | (refine call_ro [] (same_r false false false false e00 e00 e00 e00 _ _ _ _ (by decide) (by decide) true (by decide)) GG_no rfl rfl rfl trivial ?_; rintro r bs' ext ⟨rfl, rfl⟩)
      | (refine call_ro [] (awake_ok) GG_no rfl rfl rfl trivial ?_; rintro r bs' ext ⟨rfl, rfl⟩)
      | (refine fun (caps : Nat → Nat) hcaps => ?_; conv at hcaps => whnf)
      | (refine And.intro (by decide) ?_)
      | (refine BB.mk (fun _h => ?_) (fun _h => ?_) <;> (first | (exact absurd _h (by decide)) | (exfalso; simp only [boolSet, hKm] at _h <;> omega) | (simp only [boolSet, hKm] at _h) | skip))
      | (refine And.intro (by omega) ?_)
      | (refine BB.mk (fun _h => ?_) (fun _h => ?_) <;> (first | (exact absurd _h (by decide)) | (exfalso; simp only [boolSet] at _h <;> omega) | skip)))
    all_goals (try conv => whnf)
    all_goals first
      | exact ⟨_, _, FrzV.refl _ _, rfl, rfl, fun _ => rfl, rfl⟩
      | trace_state
theorem drop_ex (n : Int) (x y : De) (cx cy : Nat) (hx : x.fl.length ≤ 1099511627776) (hy : y.fl.length ≤ 1099511627776) : FnOK Try.prog GG 22 [] [ringS true true x y cx cy, .v (.int .u8 n)] (fun r _ ext => (∃ b1 b2 X Y c1 c2, X.fl.length ≤ c1 ∧ Y.fl.length ≤ c2 ∧ ((b1 = true ∧ x = X ∧ x.node ≠ n) ∨ (b1 = false ∧ e00 = X ∧ x.node = n)) ∧ ((b2 = true ∧ y = Y ∧ y.node ≠ n) ∨ (b2 = false ∧ e00 = Y ∧ y.node = n)) ∧ r = ringS b1 b2 X Y c1 c2) ∧ ext = []) := by
  by_cases h1 : x.node = n <;> by_cases h2 : y.node = n
  · exact FnOK.mono (drop_00 n x y cx cy hx hy h1 h2) (fun r _ ext h => by
      obtain ⟨⟨c1, c2, a, b, e⟩, z⟩ := h
      exact ⟨⟨_, _, _, _, c1, c2, a, b, .inr ⟨rfl, rfl, h1⟩, .inr ⟨rfl, rfl, h2⟩, e⟩, z⟩)
  · exact FnOK.mono (drop_01 n x y cx cy hx hy h1 h2) (fun r _ ext h => by
      obtain ⟨⟨c1, c2, a, b, e⟩, z⟩ := h
      exact ⟨⟨_, _, _, _, c1, c2, a, b, .inr ⟨rfl, rfl, h1⟩, .inl ⟨rfl, rfl, h2⟩, e⟩, z⟩)
  · exact FnOK.mono (drop_10 n x y cx cy hx hy h1 h2) (fun r _ ext h => by
      obtain ⟨⟨c1, c2, a, b, e⟩, z⟩ := h
      exact ⟨⟨_, _, _, _, c1, c2, a, b, .inl ⟨rfl, rfl, h1⟩, .inr ⟨rfl, rfl, h2⟩, e⟩, z⟩)
  · exact FnOK.mono (drop_11 n x y cx cy hx hy h1 h2) (fun r _ ext h => by
      obtain ⟨⟨c1, c2, a, b, e⟩, z⟩ := h
      exact ⟨⟨_, _, _, _, c1, c2, a, b, .inl ⟨rfl, rfl, h1⟩, .inl ⟨rfl, rfl, h2⟩, e⟩, z⟩)
theorem same_node {l : List De} {x y : De} (hr : Rising l) (hx : x ∈ l) (hy : y ∈ l) (h : x.node = y.node) : x = y := by
  have h1 := rising_at hr hx h
  have h2 := rising_at hr hy rfl
  rw [h1] at h2
  exact Option.some.inj h2
theorem listR_facts {x y : De} : Rising (listR x y) ∧ (∀ z ∈ listR x y, z = x ∨ z = y) ∧ ((x.node = y.node ∧ (listR x y).length = 1) ∨ (x.node ≠ y.node ∧ (listR x y).length = 2)) := by
  unfold listR
  split
  · exact ⟨by simp [Rising]; omega, by simp, .inr ⟨by omega, rfl⟩⟩
  · split
    · exact ⟨by simp [Rising]; omega, fun z hz => by simp at hz; exact hz.symm, .inr ⟨by omega, rfl⟩⟩
    · exact ⟨by simp [Rising], by simp, .inl ⟨by omega, rfl⟩⟩
theorem older_facts (x : De) (h : 0 ≤ x.age ∧ x.age ≤ 255) : (older x).node = x.node ∧ ((x.age < 255 ∧ (older x).age = x.age + 1) ∨ (x.age = 255 ∧ (older x).age = 255)) := by
  unfold older
  refine ⟨rfl, ?_⟩
  dsimp only
  split <;> omega
theorem OKs.share {P : Program} {α : Type} (S : α → St) {code : Code} {K : Exit → St → Prop} {Q : Prop} (main : (∀ x, OKs P code (S x) K) → Q) (key : ∀ x, OKs P code (S x) K) : Q := main key
theorem uni_ok {self : Int} {l : List De} (h : ∀ y ∈ l, DeOk y) : ∀ y ∈ uniLL self [] [l], DeOk y := by
  have one : ∀ (l : List De) (o : List De), (∀ y ∈ o, DeOk y) → (∀ y ∈ l, DeOk y) → ∀ y ∈ uniL self o l, DeOk y := by
    intro l
    induction l with
    | nil => intro o h1 _; exact h1
    | cons d l ih =>
      intro o h1 h2
      exact ih _ (fun y hy => by
        rcases put_mem hy with rfl | h3
        · exact h2 _ List.mem_cons_self
        · exact h1 y h3) (fun y hy => h2 y (List.mem_cons_of_mem _ hy))
  exact one l [] (fun y hy => absurd hy List.not_mem_nil) h
set_option maxRecDepth 100000 in
set_option maxHeartbeats 4000000 in
theorem drop_some_ok (s : List Sp) (x : De) (l : List De) (n : Int) (cs cx cl : Nat) (hs : s.length ≤ 9223372036854775807) (hxf : x.fl.length ≤ 9223372036854775807) (hl : l.length ≤ 9223372036854775807) (hfew : (l.all (fun d => decide (d.fl.length ≤ 8)) && decide (l.length ≤ 20)) = true) (h2 : mayB s l = true) (h3 : mayB s [x] = true) (hok : ∀ y ∈ l, DeOk y) (hox : DeOk x) (K : List De) (hK : uniLL x.node [] [l] = K) (y0 : De) (hy0 : K[0]? = some y0) : FnOK Try.prog GG 7 [] [.z 2 (s.map spC) cs, deS x cx, .z 4 (l.map deC) cl, .v (.int .u8 n)] (fun r _ ext => (r = .v (.bool true)) ∧ ext = []) := by
  obtain ⟨hfl, hl20⟩ := few_facts hfew
  have hlf : ∀ d ∈ l, d.fl.length ≤ 9223372036854775807 := fun d hd => by have := hfl d hd; omega
  have hnl : ∀ y ∈ l, 0 ≤ y.node ∧ y.node ≤ 255 := fun y hy => (hok y hy).1
  have hKm : (K.map deC).length = K.length := List.length_map _
  obtain ⟨hv, hKf, hKn⟩ : VOk x.node 256 K ∧ FlOk K ∧ ∀ y ∈ K, 0 ≤ y.node ∧ y.node ≤ 255 := hK ▸ uni_facts hfl hnl
  have hv2 := hv.len
  have hKo : ∀ y ∈ K, DeOk y := hK ▸ uni_ok hok
  obtain ⟨S, hS⟩ : ∃ S, succD s (placeI s x) y0 K = S := ⟨_, rfl⟩
  obtain ⟨P, hP⟩ : ∃ P, predD s (placeI s x) y0 K = P := ⟨_, rfl⟩
  have hSK : S ∈ K := hS ▸ bst_in hy0
  have hPK : P ∈ K := hP ▸ bst_in hy0
  have hlen : 0 < K.length := (List.getElem?_eq_some_iff.1 hy0).1
  have hSf := hKf S hSK
  have hPf := hKf P hPK
  have hSa := (hKo S hSK).2.2
  have hPa := (hKo P hPK).2.2
  have hSP : S.node = P.node → S = P := same_node hv.rising hSK hPK
  obtain ⟨L, hL⟩ : ∃ L, listR S P = L := ⟨_, rfl⟩
  obtain ⟨hLr, hLm, hLn⟩ : Rising L ∧ (∀ z ∈ L, z = S ∨ z = P) ∧ ((S.node = P.node ∧ L.length = 1) ∨ (S.node ≠ P.node ∧ L.length = 2)) := hL ▸ listR_facts
  have hLl : (L.map deC).length = L.length := List.length_map _
  obtain ⟨hoN, hoA⟩ := older_facts S hSa
  refine FnOK.pure GG_no rfl (fn_intro (C := seat) seat_ok [(4, (.op 0 .take (.op 1 .take (.op 3 .take (.seq 2 [true, true, true, true, true, true, true, false, false] (.fork 2 (.fork 4 (.fork 5 (.of [(6, .do_)]) (.of [(6, .do_), (5, .do_)])) (.fork 5 (.fork 4 (.of [(6, .do_)]) (.of [(6, .do_), (4, .do_)])) (.op 6 .do_ (.fork 4 (.of [(5, .do_)]) (.of [(5, .do_), (4, .do_)]))))) (.fork 5 (.fork 2 (.fork 4 (.of [(6, .do_)]) (.of [(6, .do_), (4, .do_)])) (.of [(6, .do_), (2, .do_), (4, .do_)])) (.op 6 .do_ (.fork 2 (.fork 4 (.of [(5, .do_)]) (.of [(5, .do_), (4, .do_)])) (.of [(5, .do_), (2, .do_), (4, .do_)]))))) (.of [(7, .last), (8, .last)])))))), (13, (.of [(0, .take), (1, .take), (2, .take), (3, .take), (5, .take), (6, .take), (10, .take), (11, .take), (4, .do_), (7, .take), (8, .take), (9, .take), (12, .take), (13, .take), (14, .take), (15, .take), (16, .take), (17, .take), (18, .do_), (19, .take), (20, .take), (21, .take), (22, .take), (23, .take), (24, .do_), (25, .take), (26, .take), (27, .take)]))] GG_no (Try.func7) rfl rfl rfl rfl rfl ?_)
  refine' OKs.share (α := Nat × Nat × Nat) (fun (c2, c3, cL) => { slots := [(9, .p (.n 0) 0 0 0), (12, .v (.int .i64 ((0 : Nat) : Int))), (151, .z 4 (L.map deC) cL), (152, .v (.int .i64 (L.map deC).length)), (153, .v (.int .i64 ((0 : Nat) : Int)))], nt := 216, mem := ⟨GG, [], [.box 34 [.v (.bool true), .v (.bool true), .v (.int .u8 S.node), .v (.int .u16 S.inc), .v (.int .u8 S.age), .z 2 (S.fl.map spC) c2, .v (.int .u8 P.node), .v (.int .u16 P.inc), .v (.int .u8 P.age), .z 2 (P.fl.map spC) c3]]⟩ }) (fun key => ?main) ?key
  case main =>
    repeat' ((try conv => whnf); first
      | (with_reducible refine OKv.go (C := seat) seat_ok ?_)
      | (with_reducible refine BB_true ?_)
      | (with_reducible refine BB_false ?_)
      | (with_reducible refine Both.mk ?_ ?_)
      | (with_reducible refine VS.mk ?_)
      | (refine PSem.go (C := seat) seat_ok ?_)
      | (refine And.intro (PlanOK.mk (by kernel_rfl) rfl (by kernel_rfl) (by kernel_rfl)) ?_)
      | (refine And.intro rfl (Exists.intro _ (And.intro (by first | assumption | rfl) ?_)))
      | (refine And.intro ⟨rfl, rfl, rfl⟩ ?_)
      | (refine call_ro [] (few_zz l _ _ hl hfew) GG_no rfl rfl rfl trivial ?_; rintro r bs' ext ⟨rfl, rfl⟩)
      | (refine call_ro [] (may_b s l _ _ hs hl hlf _ h2) GG_no rfl rfl rfl trivial ?_; rintro r bs' ext ⟨rfl, rfl⟩)
      | (refine call_frz 1 rfl (frz_row (by rfl) (by rfl)) ?_; refine call_ro [] (may_b s [x] _ _ hs (by simp) (fun y hy => by rw [List.mem_singleton.1 hy]; exact hxf) _ h3) GG_no rfl rfl rfl trivial ?_; rintro r bs' ext ⟨rfl, rfl⟩)
      | (refine call_frz 2 rfl (frz_rowF (els' := [l].map liC) (by rfl) (by rfl) (by rfl)) ?_; refine call_ro [] (choose_k s x [l] _ _ _ hs hox.1 hxf (by simp) (fun k hk => by rw [List.mem_singleton.1 hk]; omega) (fun k hk => by rw [List.mem_singleton.1 hk]; exact hfl) (fun k hk => by rw [List.mem_singleton.1 hk]; exact hnl) K hK (by omega) hKf hKn y0 hy0 S P hS hP) GG_no rfl rfl rfl trivial ?_; rintro r bs' ext ⟨⟨c2, c3, hc2, hc3, rfl⟩, rfl⟩)
      | (refine call_ro [] (drop_ex n S P _ _ hSf hPf) GG_no rfl rfl rfl trivial ?_; rintro r bs' ext ⟨⟨b1, b2, X, Y, c4, c5, hX, hY, hd1, hd2, rfl⟩, rfl⟩; rcases hd1 with ⟨rfl, rfl, hn1⟩ | ⟨rfl, rfl, hn1⟩ <;> rcases hd2 with ⟨rfl, rfl, hn2⟩ | ⟨rfl, rfl, hn2⟩)
      | (refine call_ro [] (older_tt S P _ _ hSf hPf hSa hPa) GG_no rfl rfl rfl trivial ?_; rintro r bs' ext ⟨⟨c6, c7, hc6, hc7, rfl⟩, rfl⟩)
      | (refine call_ro [] (desc_v S S _ _ hSf true (by simp)) GG_no rfl rfl rfl trivial ?_; rintro r bs' ext ⟨rfl, rfl⟩)
      | (refine call_ro [] (desc_v P P _ _ hPf true (by simp)) GG_no rfl rfl rfl trivial ?_; rintro r bs' ext ⟨rfl, rfl⟩)
      | (refine call_ro [] (list_k S P _ _ hSf hPf hSP L hL) GG_no rfl rfl rfl trivial ?_; rintro r bs' ext ⟨⟨cL, rfl⟩, rfl⟩)
      | (refine call_frz 0 rfl (FrzV.trans (frz_aggT 5 (by rfl) (frz_nil _ 2) (by rfl)) (frz_aggT 9 (by rfl) (frz_nil _ 2) (by rfl))) ?_; refine call_ro [] (l_no e00 e00 _ _) GG_no rfl rfl rfl trivial ?_; rintro r bs' ext ⟨rfl, rfl⟩)
      | (refine call_ro [] (awake_ok) GG_no rfl rfl rfl trivial ?_; rintro r bs' ext ⟨rfl, rfl⟩)
      | (refine fun (caps : Nat → Nat) hcaps => ?_; conv at hcaps => whnf)
      | (refine And.intro (by decide) ?_)
      | (refine BB.mk (fun _h => ?_) (fun _h => ?_) <;> (first | (exact absurd _h (by decide)) | (exfalso; simp only [boolSet, hKm, hLl, IntKind.wrap_i64] at _h <;> omega) | (simp only [boolSet, hKm, hLl, IntKind.wrap_i64] at _h) | skip))
      | (refine And.intro (by omega) ?_)
      | (refine BB.mk (fun _h => ?_) (fun _h => ?_) <;> (first | (exact absurd _h (by decide)) | (exfalso; simp only [boolSet] at _h <;> omega) | skip)))
    all_goals (try conv => whnf)
    all_goals
      refine ok_pass ?_ (key (c2, c3, cL))
      exact Ref.pass ⟨⟨[3], by decide, GG_no, rfl, SubOld.refl _ rfl, ⟨rfl, trivial⟩, ⟨.inl rfl, .inl rfl, .inl rfl, .inl rfl, .inl rfl, trivial⟩⟩, rfl⟩
  case key =>
    rintro ⟨c2, c3, cL⟩
    refine loop_rule (α := Nat) (fun k => k ≤ L.length) (fun k => { slots := [(9, .p (.n 0) 0 0 0), (12, .v (.int .i64 (k : Int))), (151, .z 4 (L.map deC) cL), (152, .v (.int .i64 (L.map deC).length)), (153, .v (.int .i64 (k : Int)))], nt := 216, mem := ⟨GG, [], [.box 34 [.v (.bool true), .v (.bool true), .v (.int .u8 S.node), .v (.int .u16 S.inc), .v (.int .u8 S.age), .z 2 (S.fl.map spC) c2, .v (.int .u8 P.node), .v (.int .u16 P.inc), .v (.int .u8 P.age), .z 2 (P.fl.map spC) c3]]⟩ }) (fun k => L.length - k) 0 (Nat.zero_le _) ⟨⟨[0], by decide, GG_no, rfl, SubOld.refl _ rfl, ⟨rfl, trivial⟩, ⟨.inl rfl, .inl rfl, .inl rfl, .inl rfl, .inl rfl, trivial⟩⟩, rfl⟩ ?_ (fun _ => rfl)
    intro k hk
    refine vc_sound (C := seat) seat_ok (pl := [(4, (.op 0 .take (.op 1 .take (.op 3 .take (.seq 2 [true, true, true, true, true, true, true, false, false] (.fork 2 (.fork 4 (.fork 5 (.of [(6, .do_)]) (.of [(6, .do_), (5, .do_)])) (.fork 5 (.fork 4 (.of [(6, .do_)]) (.of [(6, .do_), (4, .do_)])) (.op 6 .do_ (.fork 4 (.of [(5, .do_)]) (.of [(5, .do_), (4, .do_)]))))) (.fork 5 (.fork 2 (.fork 4 (.of [(6, .do_)]) (.of [(6, .do_), (4, .do_)])) (.of [(6, .do_), (2, .do_), (4, .do_)])) (.op 6 .do_ (.fork 2 (.fork 4 (.of [(5, .do_)]) (.of [(5, .do_), (4, .do_)])) (.of [(5, .do_), (2, .do_), (4, .do_)]))))) (.of [(7, .last), (8, .last)])))))), (13, (.of [(0, .take), (1, .take), (2, .take), (3, .take), (5, .take), (6, .take), (10, .take), (11, .take), (4, .do_), (7, .take), (8, .take), (9, .take), (12, .take), (13, .take), (14, .take), (15, .take), (16, .take), (17, .take), (18, .do_), (19, .take), (20, .take), (21, .take), (22, .take), (23, .take), (24, .do_), (25, .take), (26, .take), (27, .take)]))]) ?_
    by_cases hlt : k < L.length
    · obtain ⟨d, hd⟩ : ∃ d, L[k]? = some d := ⟨_, List.getElem?_eq_getElem hlt⟩
      have hrow := zde13 hd
      have hdm := hLm d (List.mem_of_getElem? hd)
      have hdf : d.fl.length ≤ 1099511627776 := by rcases hdm with h | h <;> rw [h] <;> assumption
      have hprev : k = 0 ∨ ∃ w, L[k - 1]? = some w ∧ w.node < d.node := by
        by_cases h0 : k = 0
        · exact .inl h0
        · refine .inr ⟨_, List.getElem?_eq_getElem (by omega), ?_⟩
          obtain ⟨hl1, e1⟩ := List.getElem?_eq_some_iff.1 hd
          rw [← e1]
          exact List.pairwise_iff_getElem.1 hLr (k - 1) k (by omega) hl1 (by omega)
      cases hv1 : decide (d = S) <;> cases hv2 : decide (d = P)
      · exfalso
        rcases hdm with h | h
        · rw [h] at hv1; simp at hv1
        · rw [h] at hv2; simp at hv2
      all_goals
        rcases hprev with rfl | ⟨w, hw, hwd⟩
        · skip
          repeat' ((try conv => whnf); first
            | (with_reducible refine OKv.go (C := seat) seat_ok ?_)
            | (with_reducible refine BB_true ?_)
            | (with_reducible refine BB_false ?_)
            | (with_reducible refine Both.mk ?_ ?_)
            | (with_reducible refine VS.mk ?_)
            | (refine PSem.go (C := seat) seat_ok ?_)
            | (refine And.intro (PlanOK.mk (by kernel_rfl) rfl (by kernel_rfl) (by kernel_rfl)) ?_)
            | (refine And.intro rfl (Exists.intro _ (And.intro (by first | assumption | rfl) ?_)))
            | (refine And.intro ⟨rfl, rfl, rfl⟩ ?_)
            | (refine call_ro [] (desc_v d S _ _ hdf _ hv1) GG_no rfl rfl rfl trivial ?_; rintro r bs' ext ⟨rfl, rfl⟩)
            | (refine call_ro [] (desc_v d P _ _ hdf _ hv2) GG_no rfl rfl rfl trivial ?_; rintro r bs' ext ⟨rfl, rfl⟩)
            | (refine call_ro [] (list_k S P _ _ hSf hPf hSP L hL) GG_no rfl rfl rfl trivial ?_; rintro r bs' ext ⟨⟨cL, rfl⟩, rfl⟩)
            | (refine And.intro ⟨by omega, by simp only [List.length_map]; omega⟩ (Exists.intro _ (And.intro (by first | assumption | rfl) ?_)))
            | (refine fun (caps : Nat → Nat) hcaps => ?_; conv at hcaps => whnf)
            | (refine BB.mk (fun _h => ?_) (fun _h => ?_) <;> (first | (exact absurd _h (by decide)) | (exfalso; simp only [boolSet, hKm, hLl, IntKind.wrap_i64] at _h <;> omega) | (simp only [boolSet, hKm, hLl, IntKind.wrap_i64] at _h) | skip))
            | (refine And.intro (by omega) ?_)
            | (refine BB.mk (fun _h => ?_) (fun _h => ?_) <;> (first | (exact absurd _h (by decide)) | (exfalso; simp only [boolSet] at _h <;> omega) | skip)))
          all_goals (try conv => whnf)
          all_goals first
            | exact ⟨0 + 1, by omega, by omega, ⟨⟨[0], by decide, GG_no, rfl, SubOld.refl _ rfl, ⟨rfl, trivial⟩, ⟨.inl rfl, .inl (num_eq (by rw [IntKind.wrap_i64]; omega)), .inl rfl, .inl rfl, .inl (num_eq (by rw [IntKind.wrap_i64]; omega)), trivial⟩⟩, rfl⟩⟩
            | trace_state
        · have hkp : k ≠ 0 := fun h => by
            subst h
            have := hw.symm.trans hd
            have := Option.some.inj this
            subst this
            omega
          have hwm : IntKind.i64.wrap ((k : Int) - 1) = ((k - 1 : Nat) : Int) := by rw [IntKind.wrap_i64]; omega
          have hrowm : (L.map deC)[(IntKind.i64.wrap ((k : Int) - 1)).toNat]? = some [.v (.int .u8 w.node), .v (.int .u16 w.inc), .v (.int .u8 w.age), .z 2 (w.fl.map spC)] := by
            rw [hwm]
            exact zde13 hw
          repeat' ((try conv => whnf); first
            | (with_reducible refine OKv.go (C := seat) seat_ok ?_)
            | (with_reducible refine BB_true ?_)
            | (with_reducible refine BB_false ?_)
            | (with_reducible refine Both.mk ?_ ?_)
            | (with_reducible refine VS.mk ?_)
            | (refine PSem.go (C := seat) seat_ok ?_)
            | (refine And.intro (PlanOK.mk (by kernel_rfl) rfl (by kernel_rfl) (by kernel_rfl)) ?_)
            | (refine And.intro rfl (Exists.intro _ (And.intro (by first | assumption | rfl) ?_)))
            | (refine And.intro ⟨rfl, rfl, rfl⟩ ?_)
            | (refine call_ro [] (desc_v d S _ _ hdf _ hv1) GG_no rfl rfl rfl trivial ?_; rintro r bs' ext ⟨rfl, rfl⟩)
            | (refine call_ro [] (desc_v d P _ _ hdf _ hv2) GG_no rfl rfl rfl trivial ?_; rintro r bs' ext ⟨rfl, rfl⟩)
            | (refine call_ro [] (list_k S P _ _ hSf hPf hSP L hL) GG_no rfl rfl rfl trivial ?_; rintro r bs' ext ⟨⟨cL, rfl⟩, rfl⟩)
            | (refine And.intro ⟨by omega, by simp only [List.length_map]; omega⟩ (Exists.intro _ (And.intro (by first | assumption | rfl) ?_)))
            | (refine fun (caps : Nat → Nat) hcaps => ?_; conv at hcaps => whnf)
            | (refine BB.mk (fun _h => ?_) (fun _h => ?_) <;> (first | (exact absurd _h (by decide)) | (exfalso; simp only [boolSet, hKm, hLl, IntKind.wrap_i64] at _h <;> omega) | (simp only [boolSet, hKm, hLl, IntKind.wrap_i64] at _h) | skip))
            | (refine And.intro (by omega) ?_)
            | (refine BB.mk (fun _h => ?_) (fun _h => ?_) <;> (first | (exact absurd _h (by decide)) | (exfalso; simp only [boolSet] at _h <;> omega) | skip)))
          all_goals (try conv => whnf)
          all_goals first
            | exact ⟨k + 1, by omega, by omega, ⟨⟨[0], by decide, GG_no, rfl, SubOld.refl _ rfl, ⟨rfl, trivial⟩, ⟨.inl rfl, .inl (num_eq (by rw [IntKind.wrap_i64]; omega)), .inl rfl, .inl rfl, .inl (num_eq (by rw [IntKind.wrap_i64]; omega)), trivial⟩⟩, rfl⟩⟩
            | trace_state
    · obtain rfl : k = L.length := by omega
      repeat' ((try conv => whnf); first
        | (with_reducible refine OKv.go (C := seat) seat_ok ?_)
        | (with_reducible refine BB_true ?_)
        | (with_reducible refine BB_false ?_)
        | (with_reducible refine Both.mk ?_ ?_)
        | (with_reducible refine VS.mk ?_)
        | (refine PSem.go (C := seat) seat_ok ?_)
        | (refine And.intro (PlanOK.mk (by kernel_rfl) rfl (by kernel_rfl) (by kernel_rfl)) ?_)
        | (refine And.intro rfl (Exists.intro _ (And.intro (by first | assumption | rfl) ?_)))
        | (refine And.intro ⟨rfl, rfl, rfl⟩ ?_)
        | (refine call_ro [] (few_zz l _ _ hl hfew) GG_no rfl rfl rfl trivial ?_; rintro r bs' ext ⟨rfl, rfl⟩)
        | (refine call_ro [] (may_b s l _ _ hs hl hlf _ h2) GG_no rfl rfl rfl trivial ?_; rintro r bs' ext ⟨rfl, rfl⟩)
        | (refine call_frz 1 rfl (frz_row (by rfl) (by rfl)) ?_; refine call_ro [] (may_b s [x] _ _ hs (by simp) (fun y hy => by rw [List.mem_singleton.1 hy]; exact hxf) _ h3) GG_no rfl rfl rfl trivial ?_; rintro r bs' ext ⟨rfl, rfl⟩)
        | (refine call_frz 2 rfl (frz_rowF (els' := [l].map liC) (by rfl) (by rfl) (by rfl)) ?_; refine call_ro [] (choose_k s x [l] _ _ _ hs hox.1 hxf (by simp) (fun k hk => by rw [List.mem_singleton.1 hk]; omega) (fun k hk => by rw [List.mem_singleton.1 hk]; exact hfl) (fun k hk => by rw [List.mem_singleton.1 hk]; exact hnl) K hK (by omega) hKf hKn y0 hy0 S P hS hP) GG_no rfl rfl rfl trivial ?_; rintro r bs' ext ⟨⟨c2, c3, hc2, hc3, rfl⟩, rfl⟩)
        | (refine call_ro [] (drop_ex n S P _ _ hSf hPf) GG_no rfl rfl rfl trivial ?_; rintro r bs' ext ⟨⟨b1, b2, X, Y, c4, c5, hX, hY, hd1, hd2, rfl⟩, rfl⟩; rcases hd1 with ⟨rfl, rfl, hn1⟩ | ⟨rfl, rfl, hn1⟩ <;> rcases hd2 with ⟨rfl, rfl, hn2⟩ | ⟨rfl, rfl, hn2⟩)
        | (refine call_ro [] (older_tt S P _ _ hSf hPf hSa hPa) GG_no rfl rfl rfl trivial ?_; rintro r bs' ext ⟨⟨c6, c7, hc6, hc7, rfl⟩, rfl⟩)
        | (refine call_ro [] (desc_v S S _ _ hSf true (by simp)) GG_no rfl rfl rfl trivial ?_; rintro r bs' ext ⟨rfl, rfl⟩)
        | (refine call_ro [] (desc_v P P _ _ hPf true (by simp)) GG_no rfl rfl rfl trivial ?_; rintro r bs' ext ⟨rfl, rfl⟩)
        | (refine call_ro [] (list_k S P _ _ hSf hPf hSP L hL) GG_no rfl rfl rfl trivial ?_; rintro r bs' ext ⟨⟨cL, rfl⟩, rfl⟩)
        | (refine call_frz 0 rfl (FrzV.trans (frz_aggT 5 (by rfl) (frz_nil _ 2) (by rfl)) (frz_aggT 9 (by rfl) (frz_nil _ 2) (by rfl))) ?_; refine call_ro [] (l_no e00 e00 _ _) GG_no rfl rfl rfl trivial ?_; rintro r bs' ext ⟨rfl, rfl⟩)
        | (refine call_ro [] (awake_ok) GG_no rfl rfl rfl trivial ?_; rintro r bs' ext ⟨rfl, rfl⟩)
        | (refine fun (caps : Nat → Nat) hcaps => ?_; conv at hcaps => whnf)
        | (refine And.intro (by decide) ?_)
        | (refine BB.mk (fun _h => ?_) (fun _h => ?_) <;> (first | (exact absurd _h (by decide)) | (exfalso; simp only [boolSet, hKm, hLl, IntKind.wrap_i64] at _h <;> omega) | (simp only [boolSet, hKm, hLl, IntKind.wrap_i64] at _h) | skip))
        | (refine And.intro (by omega) ?_)
        | (refine BB.mk (fun _h => ?_) (fun _h => ?_) <;> (first | (exact absurd _h (by decide)) | (exfalso; simp only [boolSet] at _h <;> omega) | skip)))
      all_goals (try conv => whnf)
      all_goals first
        | exact ⟨_, _, FrzV.refl _ _, rfl, rfl, fun _ => rfl, rfl⟩
        | (exfalso; omega)
        | trace_state
end Go.Proofs.Ytocappiebmmpgaa
