/- Law PushTells, by computing. -/
import Derived.Test.YthbgcdnjmdgkoaaP16f
namespace Go.Proofs.Ythbgcdnjmdgkoaa
open Go.RowKit

theorem leftL_mem {l d : List Int} {x : Int} : ∀ i, x ∈ leftL l d i → x ∈ l
  | 0, h => h
  | i + 1, h => leftL_mem i (List.mem_of_mem_eraseIdx h)
theorem outL_mem {l d : List Int} {x : Int} : ∀ i, i ≤ l.length → x ∈ outL l d i → x ∈ l
  | 0, _, h => by simp [outL] at h
  | i + 1, hi, h => by
    have h1 := leftL_len l d i (by omega)
    have h3 := atL_lt (l := l) (d := d) (i := i) (by omega)
    rw [outL, List.mem_append, List.mem_singleton] at h
    rcases h with h | h
    · exact outL_mem i (by omega) h
    · rw [List.getElem?_eq_getElem h3] at h
      subst h
      exact leftL_mem i (List.getElem_mem h3)
set_option maxRecDepth 100000 in
set_option maxHeartbeats 4000000 in
theorem pushTells_ok (l d : List Int) (c1 c2 : Nat) (fan h : Int) (h0 : 0 ≤ h) (h1 : h ≤ 255) (hl : ∀ x ∈ l, 0 ≤ x ∧ x ≤ 255) (hb : ∀ x ∈ d, 0 ≤ x ∧ x < 4294967296) (hc : l.length ≤ c1) : FnOK Try.prog GG 3 [.ro 1 (l.map bC), .ro 1 (d.map uC)] [.s (.o 0) 1 0 l.length c1, .v (.int .i64 fan), .s (.o 1) 1 0 d.length c2, .v (.int .u8 h)] (fun r _ ext => r = .v (.bool true) ∧ ext = []) := by
  by_cases hlen : l.length ≤ 100 ∧ d.length ≤ 200
  · obtain ⟨hlen1, hlen2⟩ := hlen
    have ho : ∀ x ∈ (outL l d (manyN fan l.length)), 0 ≤ x ∧ x ≤ 255 := fun x hx => hl x (outL_mem _ (by rw [manyN]; omega) hx)
    by_cases hz : h = 0
    · subst hz
      refine fn_val (C := seat) seat_ok [] GG_no (Try.func3) rfl rfl rfl rfl rfl (fun _ => rfl) rfl ?_
      repeat' ((try conv => whnf); first
        | (with_reducible refine BB_true ?_)
        | (with_reducible refine BB_false ?_)
        | (with_reducible refine Both.mk ?_ ?_)
        | (with_reducible refine VS.mk ?_)
        | (refine PSem.go (C := seat) seat_ok ?_)
        | (refine And.intro (PlanOK.mk (by kernel_rfl) rfl (by kernel_rfl) (by kernel_rfl)) ?_)
        | (refine And.intro rfl (Exists.intro _ (And.intro (by first | assumption | rfl) ?_)))
        | (refine And.intro ⟨rfl, rfl, rfl⟩ ?_)
        | (refine call_ro [] (less_no_p) GG_no rfl rfl rfl trivial ?_; rintro r bs' ext ⟨rfl, rfl⟩)
        | (refine call_ro [] (less_no_r) GG_no rfl rfl rfl trivial ?_; rintro r bs' ext ⟨rfl, rfl⟩)
        | (refine call_ro [_, _] (pick_raw l d fan _ _ _ rfl hc (by omega) (by omega) hb) GG_no rfl rfl rfl ⟨⟨_, rfl, rfl, rfl⟩, ⟨_, rfl, rfl, rfl⟩, trivial⟩ ?_; rintro r bs' ext ⟨ca, hca, rfl, rfl⟩)
        | (refine call_ro [_, _] (pick_ref l d fan _ _ _ rfl hc (by omega) (by omega) hb) GG_no rfl rfl rfl ⟨⟨_, rfl, rfl, rfl⟩, ⟨_, rfl, rfl, rfl⟩, trivial⟩ ?_; rintro r bs' ext ⟨cb, hcb, rfl, rfl⟩)
        | (refine call_ro [_, _] (same_gen (outL l d (manyN fan l.length)) (outL l d (manyN fan l.length)) _ _ _ _ _ _ _ _ true ho ho (all_row _) (all_row _) (all_len _) (all_len _) (by simp)) GG_no rfl rfl rfl ⟨⟨_, rfl, rfl, rfl⟩, ⟨_, rfl, rfl, rfl⟩, trivial⟩ ?_; rintro r bs' ext ⟨rfl, rfl⟩)
        | (refine call_ro [] (awake_ok) GG_no rfl rfl rfl trivial ?_; rintro r bs' ext ⟨rfl, rfl⟩)
        | (refine And.intro (by omega) ?_)
        | (refine BB.mk (fun _h => ?_) (fun _h => ?_) <;> (first | (exact absurd _h (by decide)) | (exfalso; simp only [boolSet] at _h <;> omega) | skip)))
      all_goals (try conv => whnf)
      all_goals exact Fin.mk ⟨rfl, rfl⟩
    · have hp : 0 < h := by omega
      refine fn_val (C := seat) seat_ok [] GG_no (Try.func3) rfl rfl rfl rfl rfl (fun _ => rfl) rfl ?_
      repeat' ((try conv => whnf); first
        | (with_reducible refine BB_true ?_)
        | (with_reducible refine BB_false ?_)
        | (with_reducible refine Both.mk ?_ ?_)
        | (with_reducible refine VS.mk ?_)
        | (refine PSem.go (C := seat) seat_ok ?_)
        | (refine And.intro (PlanOK.mk (by kernel_rfl) rfl (by kernel_rfl) (by kernel_rfl)) ?_)
        | (refine And.intro rfl (Exists.intro _ (And.intro (by first | assumption | rfl) ?_)))
        | (refine And.intro ⟨rfl, rfl, rfl⟩ ?_)
        | (refine call_ro [] (less_yes_p _ hp h1) GG_no rfl rfl rfl trivial ?_; rintro r bs' ext ⟨rfl, rfl⟩)
        | (refine call_ro [] (less_yes_r _ hp h1) GG_no rfl rfl rfl trivial ?_; rintro r bs' ext ⟨rfl, rfl⟩)
        | (refine call_ro [_, _] (pick_raw l d fan _ _ _ rfl hc (by omega) (by omega) hb) GG_no rfl rfl rfl ⟨⟨_, rfl, rfl, rfl⟩, ⟨_, rfl, rfl, rfl⟩, trivial⟩ ?_; rintro r bs' ext ⟨ca, hca, rfl, rfl⟩)
        | (refine call_ro [_, _] (pick_ref l d fan _ _ _ rfl hc (by omega) (by omega) hb) GG_no rfl rfl rfl ⟨⟨_, rfl, rfl, rfl⟩, ⟨_, rfl, rfl, rfl⟩, trivial⟩ ?_; rintro r bs' ext ⟨cb, hcb, rfl, rfl⟩)
        | (refine call_ro [_, _] (same_gen (outL l d (manyN fan l.length)) (outL l d (manyN fan l.length)) _ _ _ _ _ _ _ _ true ho ho (all_row _) (all_row _) (all_len _) (all_len _) (by simp)) GG_no rfl rfl rfl ⟨⟨_, rfl, rfl, rfl⟩, ⟨_, rfl, rfl, rfl⟩, trivial⟩ ?_; rintro r bs' ext ⟨rfl, rfl⟩)
        | (refine call_ro [] (awake_ok) GG_no rfl rfl rfl trivial ?_; rintro r bs' ext ⟨rfl, rfl⟩)
        | (refine And.intro (by omega) ?_)
        | (refine BB.mk (fun _h => ?_) (fun _h => ?_) <;> (first | (exact absurd _h (by decide)) | (exfalso; simp only [boolSet] at _h <;> omega) | skip)))
      all_goals (try conv => whnf)
      all_goals exact Fin.mk ⟨rfl, rfl⟩
  · rcases (show 100 < l.length ∨ 200 < d.length by omega) with hx | hx
    all_goals
      refine fn_val (C := seat) seat_ok [] GG_no (Try.func3) rfl rfl rfl rfl rfl (fun _ => rfl) rfl ?_
      repeat' ((try conv => whnf); first
        | (with_reducible refine BB_true ?_)
        | (with_reducible refine BB_false ?_)
        | (with_reducible refine Both.mk ?_ ?_)
        | (with_reducible refine VS.mk ?_)
        | (refine PSem.go (C := seat) seat_ok ?_)
        | (refine And.intro (PlanOK.mk (by kernel_rfl) rfl (by kernel_rfl) (by kernel_rfl)) ?_)
        | (refine And.intro rfl (Exists.intro _ (And.intro (by first | assumption | rfl) ?_)))
        | (refine And.intro ⟨rfl, rfl, rfl⟩ ?_)
        | (refine call_ro [] (awake_ok) GG_no rfl rfl rfl trivial ?_; rintro r bs' ext ⟨rfl, rfl⟩)
        | (refine And.intro (by omega) ?_)
        | (refine BB.mk (fun _h => ?_) (fun _h => ?_) <;> (first | (exact absurd _h (by decide)) | (exfalso; simp only [boolSet] at _h <;> omega) | skip)))
      all_goals (try conv => whnf)
      all_goals exact ⟨rfl, rfl⟩
end Go.Proofs.Ythbgcdnjmdgkoaa
