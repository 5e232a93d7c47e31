/- Law DescNewer, by computing: put, one behind the other. -/
import Derived.Test.YtfjankcpnhfogaaD09r
namespace Go.Proofs.Ytfjankcpnhfogaa
open Go.RowKit

set_option maxRecDepth 100000 in
set_option maxHeartbeats 4000000 in
theorem twice_ok (v : List De) (cv : Nat) (x y : De) (cx cy : Nat) (self : Int) (hl : v.length ≤ 20) (hr : Rising v) (hf : FlOk v) (hn : ∀ z ∈ v, z.node ≠ x.node) (hxy : y.node = x.node) (hs : x.node ≠ self) (hxi : x.inc ≠ 0) (hyi : y.inc ≠ 0) (hcx : x.fl.length ≤ cx) (hcy : y.fl.length ≤ cy) (hx8 : x.fl.length ≤ 8) (hy8 : y.fl.length ≤ 8) (b : Bool) (hb : newB y x = b) (o : List De) (ho : insL v (placeN x.node v) (if b then y else x) = o) : FnOK Try.prog GG 29 [.box 22 [.s (.o 2) 4 0 v.length cv], .box 5 [.v (.int .u8 self)], .ro 4 (v.map deC)] [deS x cx, deS y cy, .p (.o 0) 0 0 0, .p (.o 1) 0 0 0] (fun r bs' ext => bs' = [.box 22 [.s (.o 2) 4 0 v.length cv], .box 5 [.v (.int .u8 self)], .ro 4 (v.map deC)] ∧ ∃ cap', o.length ≤ cap' ∧ r = .s (.n 0) 4 0 o.length cap' ∧ ext = [.row 27 4 cap' (o.map deC)]) := by
  have hple := place_le x.node v
  have hlen : (insL v (placeN x.node v) x).length = v.length + 1 := insL_len _ _ _ hple
  have hr2 := insL_rising (N := x.node) rfl hr hn
  have hf2 : FlOk (insL v (placeN x.node v) x) := insL_fl hf (by omega)
  refine fn_new2 (C := seat) seat_ok [] GG_no (Try.func29) rfl rfl rfl rfl rfl (fun _ _ => ⟨rfl, rfl, .inr (.inl rfl), trivial⟩) ?_
  repeat' ((try conv => whnf); first
    | (with_reducible refine OKv.go (C := seat) seat_ok ?_)
    | (with_reducible refine BB_true ?_)
    | (with_reducible refine BB_false ?_)
    | (with_reducible refine Both.mk ?_ ?_)
    | (with_reducible refine VS.mk ?_)
    | (refine PSem.go (C := seat) seat_ok ?_)
    | (refine And.intro (PlanOK.mk (by kernel_rfl) rfl (by kernel_rfl) (by kernel_rfl)) ?_)
    | (refine And.intro rfl (Exists.intro _ (And.intro (by first | assumption | rfl) ?_)))
    | (refine And.intro ⟨rfl, rfl, rfl⟩ ?_)
    | (refine call_ro [.o 2] (putI_z v cv (by omega) hr hf x cx hcx (by omega) self 30 hn ⟨hs, hxi⟩ (by omega) _ rfl) GG_no rfl rfl rfl ⟨⟨_, rfl, rfl, rfl⟩, trivial⟩ ?_; rintro r bs' ext ⟨c1, hc1, rfl, rfl⟩)
    | (refine call_ro [.n 2] (putR_z (insL v (placeN x.node v) x) c1 (by omega) hr2 hf2 y cy hcy (by omega) self 30 v x (by rw [hxy]) hxy.symm ⟨by rw [hxy]; exact hs, hyi⟩ b hb o (by rw [hxy]; exact ho)) GG_no rfl rfl rfl ⟨⟨_, rfl, rfl, rfl⟩, trivial⟩ ?_; rintro r bs' ext ⟨c2, hc2, rfl, rfl⟩)
    | (refine And.intro (by omega) ?_)
    | (refine BB.mk (fun _h => ?_) (fun _h => ?_) <;> (first | (exact absurd _h (by decide)) | (exfalso; simp only [boolSet] at _h <;> omega) | skip)))
  all_goals (try conv => whnf)
  exact Fin.mk ⟨⟨[3], .s (.n 0) 4 0 o.length c2, [.row 27 4 c2 (o.map deC)], by decide, rfl, ⟨.inr (.inl rfl), trivial⟩, c2, hc2, rfl, rfl⟩, rfl⟩
end Go.Proofs.Ytfjankcpnhfogaa
