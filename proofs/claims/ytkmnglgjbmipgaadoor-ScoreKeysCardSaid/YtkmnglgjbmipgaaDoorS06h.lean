/- Reference of layer 6. -/
import Derived.Test.YtkmnglgjbmipgaaDoorS06g
import Derived.Test.YtkmnglgjbmipgaaDoorRFc
namespace Go.Proofs.YtkmnglgjbmipgaaDoor
open Go.RowKit

theorem rightB_iff {s g : List Sp} : rightB s g = true ↔ g.length = 0 ∨ (s.length = g.length ∧ ∀ j, j < s.length → rigP (atD s j) (atD g j) = true) := by
  unfold rightB
  rw [Bool.or_eq_true, Bool.and_eq_true, decide_eq_true_eq, decide_eq_true_eq, allP_iff]
  constructor
  · rintro (h | ⟨h, k⟩)
    · exact .inl h
    · exact .inr ⟨h, fun j hj => k j (by omega)⟩
  · rintro (h | ⟨h, k⟩)
    · exact .inl h
    · exact .inr ⟨h, fun j hj => k j (by omega)⟩
set_option maxRecDepth 100000 in
set_option maxHeartbeats 4000000 in
theorem rlen_z (a b : Int) (ha : -2147483648 ≤ a) (ha' : a ≤ 2147483647) (hb : -2147483648 ≤ b) (hb' : b ≤ 2147483647) : FnOK Tryd.prog GG 28 [] [spI a b] (fun r _ ext => (r = .v (.int .u32 (lenT a b))) ∧ ext = []) := by
  refine FnOK.pure GG_no rfl (fn_intro (C := seat) seat_ok [] GG_no (Tryd.func28) rfl rfl rfl rfl rfl ?_)
  repeat' ((try conv => whnf); first
    | (with_reducible refine OKv.go (C := seat) seat_ok ?_)
    | (with_reducible refine BB_true ?_)
    | (with_reducible refine BB_false ?_)
    | (with_reducible refine Both.mk ?_ ?_)
    | (with_reducible refine VS.mk ?_)
    | (refine PSem.go (C := seat) seat_ok ?_)
    | (refine And.intro (PlanOK.mk (by kernel_rfl) rfl (by kernel_rfl) (by kernel_rfl)) ?_)
    | (refine And.intro rfl (Exists.intro _ (And.intro (by first | assumption | rfl) ?_)))
    | (refine And.intro ⟨rfl, rfl, rfl⟩ ?_)
    | (refine BB.mk (fun _h => ?_) (fun _h => ?_) <;> (first | (exact absurd _h (by decide)) | (exfalso; simp only [boolSet] at _h <;> omega) | (simp only [boolSet] at _h) | skip))
    | (refine And.intro (by omega) ?_)
    | (refine BB.mk (fun _h => ?_) (fun _h => ?_) <;> (first | (exact absurd _h (by decide)) | (exfalso; simp only [boolSet] at _h <;> omega) | skip)))
  all_goals (try conv => whnf)
  all_goals exact ⟨_, _, FrzV.refl _ _, rfl, rfl, fun _ => rfl, num_eq (by (try simp only [boolSet, IntKind.wrap_i64, IntKind.wrap_u32] at *); unfold lenT; split <;> omega)⟩
set_option maxRecDepth 100000 in
set_option maxHeartbeats 4000000 in
theorem rovl_z (l r : List Sp) (ca cb : Nat) (hl : l.length ≤ 1099511627776) (hr : r.length ≤ 1099511627776) (hol : ∀ y ∈ l, SpOk y) (hor : ∀ y ∈ r, SpOk y) : FnOK Tryd.prog GG 11 [] [.z 2 (l.map spC) ca, .z 2 (r.map spC) cb] (fun rr _ ext => (rr = .v (.int .u32 (ovl l r))) ∧ ext = []) := by
  have hlen := meetF_len' l r
  have hmm : ((meetF l r).map spC).length = (meetF l r).length := List.length_map _
  have hmo := meet_ok hol hor
  by_cases h0 : (meetF l r).length = 0
  · refine FnOK.pure GG_no rfl (fn_intro (C := seat) seat_ok [] GG_no (Tryd.func11) rfl rfl rfl rfl rfl ?_)
    repeat' ((try conv => whnf); first
      | (with_reducible refine OKv.go (C := seat) seat_ok ?_)
      | (with_reducible refine BB_true ?_)
      | (with_reducible refine BB_false ?_)
      | (with_reducible refine Both.mk ?_ ?_)
      | (with_reducible refine VS.mk ?_)
      | (refine PSem.go (C := seat) seat_ok ?_)
      | (refine And.intro (PlanOK.mk (by kernel_rfl) rfl (by kernel_rfl) (by kernel_rfl)) ?_)
      | (refine And.intro rfl (Exists.intro _ (And.intro (by first | assumption | rfl) ?_)))
      | (refine And.intro ⟨rfl, rfl, rfl⟩ ?_)
      | (refine call_ro [] (rmeetF_zo l r ca cb hl hr _ rfl) GG_no rfl rfl rfl trivial ?_; rintro r bs' ext ⟨⟨c', hc', rfl⟩, rfl⟩)
      | (refine BB.mk (fun _h => ?_) (fun _h => ?_) <;> (first | (exact absurd _h (by decide)) | (exfalso; simp only [boolSet, hmm] at _h <;> omega) | (simp only [boolSet, hmm] at _h) | skip))
      | (refine And.intro (by omega) ?_)
      | (refine BB.mk (fun _h => ?_) (fun _h => ?_) <;> (first | (exact absurd _h (by decide)) | (exfalso; simp only [boolSet] at _h <;> omega) | skip)))
    all_goals (try conv => whnf)
    all_goals exact ⟨_, _, FrzV.refl _ _, rfl, rfl, fun _ => rfl, num_eq ((ovl_zero l r).2 h0).symm⟩
  · refine FnOK.pure GG_no rfl (fn_intro (C := seat) seat_ok [] GG_no (Tryd.func11) rfl rfl rfl rfl rfl ?_)
    repeat' ((try conv => whnf); first
      | (with_reducible refine OKv.go (C := seat) seat_ok ?_)
      | (with_reducible refine BB_true ?_)
      | (with_reducible refine BB_false ?_)
      | (with_reducible refine Both.mk ?_ ?_)
      | (with_reducible refine VS.mk ?_)
      | (refine PSem.go (C := seat) seat_ok ?_)
      | (refine And.intro (PlanOK.mk (by kernel_rfl) rfl (by kernel_rfl) (by kernel_rfl)) ?_)
      | (refine And.intro rfl (Exists.intro _ (And.intro (by first | assumption | rfl) ?_)))
      | (refine And.intro ⟨rfl, rfl, rfl⟩ ?_)
      | (refine call_ro [] (rmeetF_zo l r ca cb hl hr _ rfl) GG_no rfl rfl rfl trivial ?_; rintro r bs' ext ⟨⟨c', hc', rfl⟩, rfl⟩)
      | (refine BB.mk (fun _h => ?_) (fun _h => ?_) <;> (first | (exact absurd _h (by decide)) | (exfalso; simp only [boolSet, hmm] at _h <;> omega) | (simp only [boolSet, hmm] at _h) | skip))
      | (refine And.intro (by omega) ?_)
      | (refine BB.mk (fun _h => ?_) (fun _h => ?_) <;> (first | (exact absurd _h (by decide)) | (exfalso; simp only [boolSet] at _h <;> omega) | skip)))
    all_goals (try conv => whnf)
    refine loop_rule (α := Nat) (fun k => k ≤ (meetF l r).length) (fun k => { slots := [(5, .z 2 ((meetF l r).map spC) c'), (6, .v (.int .u64 (prodL (meetF l r) k))), (7, .v (.int .i64 (k : Int)))], nt := 32, mem := ⟨GG, [], []⟩ }) (fun k => (meetF l r).length - k) 0 (Nat.zero_le _) ⟨⟨[], List.nodup_nil, GG_no, rfl, (SubOld.refl _ rfl), trivial, ⟨.inl rfl, .inl rfl, .inl rfl, trivial⟩⟩, rfl⟩ ?_ (fun _ => rfl)
    intro k hk
    refine vc_sound (C := seat) seat_ok (pl := []) ?_
    have hp := prodL_le (meetF l r) k
    have hn := lenP_le (x := atD (meetF l r) k)
    by_cases hlt : k < (meetF l r).length
    · have hrow := atC (l := meetF l r) (k := k) hlt
      have hso := hmo k hlt
      have hpl := mul_le_M hp.1 hp.2 hn.1 hn.2
      have hs : prodL (meetF l r) (k + 1) = min (prodL (meetF l r) k * lenP (atD (meetF l r) k)) 4294967295 := rfl
      have hW : IntKind.u64.wrap (prodL (meetF l r) k * IntKind.u64.wrap (lenT (atD (meetF l r) k).a (atD (meetF l r) k).b)) = prodL (meetF l r) k * lenP (atD (meetF l r) k) := by
        rw [show lenT (atD (meetF l r) k).a (atD (meetF l r) k).b = lenP (atD (meetF l r) k) from rfl, show IntKind.u64.wrap (lenP (atD (meetF l r) k)) = lenP (atD (meetF l r) k) by rw [IntKind.wrap_u64]; omega, IntKind.wrap_u64]
        omega
      generalize prodL (meetF l r) k * lenP (atD (meetF l r) k) = P at hs hW hpl
      repeat' ((try conv => whnf); first
        | (with_reducible refine OKv.go (C := seat) seat_ok ?_)
        | (with_reducible refine BB_true ?_)
        | (with_reducible refine BB_false ?_)
        | (with_reducible refine Both.mk ?_ ?_)
        | (with_reducible refine VS.mk ?_)
        | (refine PSem.go (C := seat) seat_ok ?_)
        | (refine And.intro (PlanOK.mk (by kernel_rfl) rfl (by kernel_rfl) (by kernel_rfl)) ?_)
        | (refine And.intro rfl (Exists.intro _ (And.intro (by first | assumption | rfl) ?_)))
        | (refine And.intro ⟨rfl, rfl, rfl⟩ ?_)
        | (refine call_ro [] (rlen_z _ _ hso.1.1 hso.1.2 hso.2.1 hso.2.2) GG_no rfl rfl rfl trivial ?_; rintro r bs' ext ⟨rfl, rfl⟩)
        | (refine And.intro ⟨by omega, by rw [hmm]; omega⟩ (Exists.intro _ (And.intro (by first | assumption | rfl) ?_)))
        | (refine BB.mk (fun _h => ?_) (fun _h => ?_) <;> (first | (exact absurd _h (by decide)) | (exfalso; simp only [boolSet, hmm] at _h <;> omega) | (simp only [boolSet, hmm, hW] at _h) | skip))
        | (refine And.intro (by omega) ?_)
        | (refine BB.mk (fun _h => ?_) (fun _h => ?_) <;> (first | (exact absurd _h (by decide)) | (exfalso; simp only [boolSet] at _h <;> omega) | skip)))
      all_goals (try conv => whnf)
      all_goals exact ⟨k + 1, by omega, by omega, ⟨⟨[], by decide, GG_no, rfl, SubOld.refl _ rfl, trivial, ⟨.inl rfl, .inl (num_eq (by rw [hs]; first | omega | (rw [hW]; omega))), .inl (num_eq (by rw [IntKind.wrap_i64]; omega)), trivial⟩⟩, rfl⟩⟩
    · obtain rfl : k = (meetF l r).length := by omega
      repeat' ((try conv => whnf); first
        | (with_reducible refine OKv.go (C := seat) seat_ok ?_)
        | (with_reducible refine BB_true ?_)
        | (with_reducible refine BB_false ?_)
        | (with_reducible refine Both.mk ?_ ?_)
        | (with_reducible refine VS.mk ?_)
        | (refine PSem.go (C := seat) seat_ok ?_)
        | (refine And.intro (PlanOK.mk (by kernel_rfl) rfl (by kernel_rfl) (by kernel_rfl)) ?_)
        | (refine And.intro rfl (Exists.intro _ (And.intro (by first | assumption | rfl) ?_)))
        | (refine And.intro ⟨rfl, rfl, rfl⟩ ?_)
        | (refine BB.mk (fun _h => ?_) (fun _h => ?_) <;> (first | (exact absurd _h (by decide)) | (exfalso; simp only [boolSet, hmm] at _h <;> omega) | (simp only [boolSet, hmm] at _h) | skip))
        | (refine And.intro (by omega) ?_)
        | (refine BB.mk (fun _h => ?_) (fun _h => ?_) <;> (first | (exact absurd _h (by decide)) | (exfalso; simp only [boolSet] at _h <;> omega) | skip)))
      all_goals (try conv => whnf)
      exact ⟨_, _, FrzV.refl _ _, rfl, rfl, fun _ => rfl, num_eq (by unfold ovl; rw [if_neg h0, IntKind.wrap_u32]; omega)⟩
end Go.Proofs.YtkmnglgjbmipgaaDoor
