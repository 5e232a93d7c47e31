/- Law RingEnds. -/
import Derived.Test.YtocappiebmmpgaaT13n
namespace Go.Proofs.Ytocappiebmmpgaa
open Go.RowKit

theorem known_sv {a b : Bool} (h : a = b) : SV.v (.bool a) = .v (.bool b) := by rw [h]
set_option maxRecDepth 100000 in
set_option maxHeartbeats 4000000 in
theorem ends_bad (s : List Sp) (x m : De) (l : List De) (cs cx cm cl : Nat) (hs : s.length ≤ 9223372036854775807) (hxf : x.fl.length ≤ 9223372036854775807) (hmf : m.fl.length ≤ 9223372036854775807) (hl : l.length ≤ 9223372036854775807) (b1 b2 b3 : Bool) (h1 : (l.all (fun d => decide (d.fl.length ≤ 8)) && decide (l.length ≤ 20)) = b1) (h2 : mayB s l = b2) (h3 : mayB s [x, m] = b3) (hb : (b1 && b2 && b3) = false) (hlf : b1 = true → ∀ d ∈ l, d.fl.length ≤ 9223372036854775807) : FnOK Try.prog GG 5 [] [.z 2 (s.map spC) cs, deS x cx, deS m cm, .z 4 (l.map deC) cl] (fun r _ ext => (r = .v (.bool true)) ∧ ext = []) := by
  cases b1 <;> cases b2 <;> cases b3 <;> (first | (exact absurd hb (by decide)) | skip)
  all_goals refine FnOK.pure GG_no rfl (fn_intro (C := seat) seat_ok [(15, (.of [(0, .take), (1, .take), (3, .take), (4, .take), (5, .take), (6, .take), (2, .do_), (7, .do_), (8, .do_), (9, .take), (10, .take), (11, .take), (12, .take), (14, .take), (15, .take), (16, .take), (18, .take), (13, .do_), (17, .do_), (19, .do_), (20, .take), (21, .take)])), (29, (.of [(0, .take), (1, .take), (2, .take), (3, .take), (4, .take), (5, .take), (8, .take), (9, .take), (10, .take), (11, .take), (6, .do_), (7, .do_), (12, .do_), (13, .do_), (14, .take), (15, .take), (16, .take)]))] GG_no (Try.func5) rfl rfl rfl rfl rfl ?_)
  repeat' ((try conv => whnf); first
    | (with_reducible refine OKv.go (C := seat) seat_ok ?_)
    | (with_reducible refine BB_true ?_)
    | (with_reducible refine BB_false ?_)
    | (with_reducible refine Both.mk ?_ ?_)
    | (with_reducible refine VS.mk ?_)
    | (refine PSem.go (C := seat) seat_ok ?_)
    | (refine And.intro (PlanOK.mk (by kernel_rfl) rfl (by kernel_rfl) (by kernel_rfl)) ?_)
    | (refine And.intro rfl (Exists.intro _ (And.intro (by first | assumption | rfl) ?_)))
    | (refine And.intro ⟨rfl, rfl, rfl⟩ ?_)
    | (refine call_ro [] (few_zz l _ _ hl h1) GG_no rfl rfl rfl trivial ?_; rintro r bs' ext ⟨rfl, rfl⟩)
    | (refine call_ro [] (may_b s l _ _ hs hl (hlf rfl) _ h2) GG_no rfl rfl rfl trivial ?_; rintro r bs' ext ⟨rfl, rfl⟩)
    | (refine call_frz 1 rfl (frz_row (by rfl) (by rfl)) ?_; refine call_ro [] (may_b s [x, m] _ _ hs (by simp) (fun y hy => by rcases List.mem_cons.1 hy with rfl | hy; exact hxf; rw [List.mem_singleton.1 hy]; exact hmf) _ h3) GG_no rfl rfl rfl trivial ?_; rintro r bs' ext ⟨rfl, rfl⟩)
    | (refine call_ro [] (awake_ok) GG_no rfl rfl rfl trivial ?_; rintro r bs' ext ⟨rfl, rfl⟩)
    | (refine fun (caps : Nat → Nat) hcaps => ?_; conv at hcaps => whnf)
    | (refine And.intro (by decide) ?_)
    | (refine BB.mk (fun _h => ?_) (fun _h => ?_) <;> (first | (exact absurd _h (by decide)) | (exfalso; simp only [boolSet] at _h <;> omega) | (simp only [boolSet] at _h) | skip))
    | (refine And.intro (by omega) ?_)
    | (refine BB.mk (fun _h => ?_) (fun _h => ?_) <;> (first | (exact absurd _h (by decide)) | (exfalso; simp only [boolSet] at _h <;> omega) | skip)))
  all_goals (try conv => whnf)
  all_goals first
    | exact ⟨_, _, FrzV.refl _ _, rfl, rfl, fun _ => rfl, rfl⟩
    | trace_state
set_option maxRecDepth 100000 in
set_option maxHeartbeats 4000000 in
theorem ends_none (s : List Sp) (x m : De) (l : List De) (cs cx cm cl : Nat) (hs : s.length ≤ 9223372036854775807) (hxf : x.fl.length ≤ 9223372036854775807) (hmf : m.fl.length ≤ 9223372036854775807) (hl : l.length ≤ 9223372036854775807) (hfew : (l.all (fun d => decide (d.fl.length ≤ 8)) && decide (l.length ≤ 20)) = true) (h2 : mayB s l = true) (h3 : mayB s [x, m] = true) (hok : ∀ y ∈ l, DeOk y) (hox : DeOk x) (hom : DeOk m) (K : List De) (hK : uniLL x.node [] [l] = K) (h0 : K.length = 0) : FnOK Try.prog GG 5 [] [.z 2 (s.map spC) cs, deS x cx, deS m cm, .z 4 (l.map deC) cl] (fun r _ ext => (r = .v (.bool true)) ∧ ext = []) := by
  obtain ⟨hfl, hl20⟩ := few_facts hfew
  have hlf : ∀ d ∈ l, d.fl.length ≤ 9223372036854775807 := fun d hd => by have := hfl d hd; omega
  obtain ⟨hs4, hm4⟩ := may_short h3
  have hm4 := hm4 m (by simp)
  have hnl : ∀ y ∈ l, 0 ≤ y.node ∧ y.node ≤ 255 := fun y hy => (hok y hy).1
  have hKm : (K.map deC).length = K.length := List.length_map _
  refine FnOK.pure GG_no rfl (fn_intro (C := seat) seat_ok [(15, (.of [(0, .take), (1, .take), (3, .take), (4, .take), (5, .take), (6, .take), (2, .do_), (7, .do_), (8, .do_), (9, .take), (10, .take), (11, .take), (12, .take), (14, .take), (15, .take), (16, .take), (18, .take), (13, .do_), (17, .do_), (19, .do_), (20, .take), (21, .take)])), (29, (.of [(0, .take), (1, .take), (2, .take), (3, .take), (4, .take), (5, .take), (8, .take), (9, .take), (10, .take), (11, .take), (6, .do_), (7, .do_), (12, .do_), (13, .do_), (14, .take), (15, .take), (16, .take)]))] GG_no (Try.func5) rfl rfl rfl rfl rfl ?_)
  repeat' ((try conv => whnf); first
    | (with_reducible refine OKv.go (C := seat) seat_ok ?_)
    | (with_reducible refine BB_true ?_)
    | (with_reducible refine BB_false ?_)
    | (with_reducible refine Both.mk ?_ ?_)
    | (with_reducible refine VS.mk ?_)
    | (refine PSem.go (C := seat) seat_ok ?_)
    | (refine And.intro (PlanOK.mk (by kernel_rfl) rfl (by kernel_rfl) (by kernel_rfl)) ?_)
    | (refine And.intro rfl (Exists.intro _ (And.intro (by first | assumption | rfl) ?_)))
    | (refine And.intro ⟨rfl, rfl, rfl⟩ ?_)
    | (refine call_ro [] (few_zz l _ _ hl hfew) GG_no rfl rfl rfl trivial ?_; rintro r bs' ext ⟨rfl, rfl⟩)
    | (refine call_ro [] (may_b s l _ _ hs hl hlf _ h2) GG_no rfl rfl rfl trivial ?_; rintro r bs' ext ⟨rfl, rfl⟩)
    | (refine call_frz 1 rfl (frz_row (by rfl) (by rfl)) ?_; refine call_ro [] (may_b s [x, m] _ _ hs (by simp) (fun y hy => by rcases List.mem_cons.1 hy with rfl | hy; exact hxf; rw [List.mem_singleton.1 hy]; exact hmf) _ h3) GG_no rfl rfl rfl trivial ?_; rintro r bs' ext ⟨rfl, rfl⟩)
    | (refine call_frz 1 rfl (frz_rowF (els' := [l].map liC) (by rfl) (by rfl) (by rfl)) ?_; refine call_ro [] (union_k x.node [l] _ (by simp) (fun k hk => by rw [List.mem_singleton.1 hk]; omega) (fun k hk => by rw [List.mem_singleton.1 hk]; exact hfl) K hK) GG_no rfl rfl rfl trivial ?_; rintro r bs' ext ⟨⟨c1, hc1, rfl⟩, rfl⟩)
    | (refine call_frz 2 rfl (frz_rowF (els' := [l].map liC) (by rfl) (by rfl) (by rfl)) ?_; refine call_ro [] (choose_none s x [l] _ _ _ hs hox.1 hxf (by simp) (fun k hk => by rw [List.mem_singleton.1 hk]; omega) (fun k hk => by rw [List.mem_singleton.1 hk]; exact hfl) (fun k hk => by rw [List.mem_singleton.1 hk]; exact hnl) K hK h0) GG_no rfl rfl rfl trivial ?_; rintro r bs' ext ⟨rfl, rfl⟩)
    | (refine call_frz 1 rfl (FrzV.trans (frz_aggT 5 (by rfl) (frz_nil _ 2) (by rfl)) (frz_aggT 9 (by rfl) (frz_nil _ 2) (by rfl))) ?_; refine call_ro [] (same_r false false false false e0 e0 e0 e0 0 0 0 0 (by decide) (by decide) true (by decide)) GG_no rfl rfl rfl trivial ?_; rintro r bs' ext ⟨rfl, rfl⟩)
    | (refine call_ro [] (awake_ok) GG_no rfl rfl rfl trivial ?_; rintro r bs' ext ⟨rfl, rfl⟩)
    | (refine fun (caps : Nat → Nat) hcaps => ?_; conv at hcaps => whnf)
    | (refine And.intro (by decide) ?_)
    | (refine And.intro ⟨by decide, by decide⟩ (Exists.intro _ (And.intro (by rfl) ?_)))
    | (refine BB.mk (fun _h => ?_) (fun _h => ?_) <;> (first | (exact absurd _h (by decide)) | (exfalso; simp only [boolSet, hKm] at _h <;> omega) | (simp only [boolSet, hKm] at _h) | skip))
    | (refine And.intro (by omega) ?_)
    | (refine BB.mk (fun _h => ?_) (fun _h => ?_) <;> (first | (exact absurd _h (by decide)) | (exfalso; simp only [boolSet] at _h <;> omega) | skip)))
  all_goals (try conv => whnf)
  all_goals first
    | exact ⟨_, _, FrzV.refl _ _, rfl, rfl, fun _ => rfl, rfl⟩
    | trace_state
end Go.Proofs.Ytocappiebmmpgaa
