/- Descriptors by computing: Put, what is newer; what finds no room. -/
import Derived.Test.YtocappiebmmpgaaD09j
namespace Go.Proofs.Ytocappiebmmpgaa
open Go.RowKit

set_option maxRecDepth 100000 in
set_option maxHeartbeats 4000000 in
theorem put_new (l : List De) (cap : Nat) (hl : l.length ≤ 1099511627776) (hr : Rising l) (hf : FlOk l) (d : De) (cd : Nat) (hcd : d.fl.length ≤ cd) (hdl : d.fl.length ≤ 1099511627776) (self room : Int) (y : De) (hy : l[placeN d.node l]? = some y) (hx : y.node = d.node) (hb : d.node ≠ self ∧ d.inc ≠ 0) (hnb : newB d y = true) : FnOK Try.prog GG 46 [.ro 4 (l.map deC)] [.s (.o 0) 4 0 l.length cap, deS d cd, .v (.int .u8 self), .v (.int .i64 room)] (fun r _ ext => ∃ cap', (l.set (placeN d.node l) d).length ≤ cap' ∧ r = .tup [.s (.n 0) 4 0 (l.set (placeN d.node l) d).length cap', .v (.bool true)] ∧ ext = [.row 27 4 cap' ((l.set (placeN d.node l) d).map deC)]) := by
  obtain ⟨hb1, hb2⟩ := hb
  have hlt := getElem?_lt hy
  have hrow := de_at hy
  have hF : findZ d.node l = (placeN d.node l : Int) := by unfold findZ; rw [hy]; exact if_pos hx
  refine fn_new (C := seat) seat_ok [(6, (.of [(0, .take), (1, .take), (2, .take), (3, .take), (4, .take), (5, .do_), (6, .take)])), (12, (.of [(0, .take), (1, .take), (2, .take), (3, .take), (5, .take), (4, .do_), (6, .do_), (7, .do_), (8, .do_), (9, .take), (10, .take)]))] GG_no (Try.func46) rfl rfl rfl rfl rfl rfl ?_
  repeat' ((try conv => whnf); first
    | (with_reducible refine OKv.go (C := seat) seat_ok ?_)
    | (with_reducible refine BB_true ?_)
    | (with_reducible refine BB_false ?_)
    | (with_reducible refine Both.mk ?_ ?_)
    | (with_reducible refine VS.mk ?_)
    | (refine PSem.go (C := seat) seat_ok ?_)
    | (refine And.intro (PlanOK.mk (by kernel_rfl) rfl (by kernel_rfl) (by kernel_rfl)) ?_)
    | (refine And.intro rfl (Exists.intro _ (And.intro (by first | assumption | rfl) ?_)))
    | (refine And.intro ⟨rfl, rfl, rfl⟩ ?_)
    | (refine call_ro [.o 0] (copy_ok l cap hl hf) GG_no rfl rfl rfl ⟨⟨_, rfl, rfl, rfl⟩, trivial⟩ ?_; rintro r bs' ext ⟨c', hc', rfl, rfl⟩)
    | (refine call_ro [.o 0] (find_z l cap d.node hl hr _ hF) GG_no rfl rfl rfl ⟨⟨_, rfl, rfl, rfl⟩, trivial⟩ ?_; rintro r bs' ext ⟨rfl, rfl⟩)
    | (refine call_ro [] ((newer_ok d y cd _).mono (fun r bs' ext h => (⟨by rw [h.1, hnb], h.2⟩ : r = .v (.bool true) ∧ ext = []))) GG_no rfl rfl rfl trivial ?_; rintro r bs' ext ⟨rfl, rfl⟩)
    | (refine call_ro [] (own_ok d _ hcd hdl) GG_no rfl rfl rfl trivial ?_; rintro r bs' ext ⟨oc, hoc, rfl, rfl⟩)
    | (refine And.intro ⟨rfl, rfl, rfl, by first | (simp only [chunks_len, List.length_map, List.length_take, List.length_drop, List.length_append, List.length_cons, List.length_nil] <;> omega) | omega | rfl⟩ ?_)
    | (refine And.intro ⟨rfl, by first | (simp only [chunks_len, List.length_map, List.length_take, List.length_drop, List.length_append, List.length_cons, List.length_nil] <;> omega) | omega | rfl⟩ ?_)
    | (refine And.intro (by first | exact ⟨rfl, Nat.le_refl _⟩ | first | (simp only [chunks_len, List.length_map, List.length_take, List.length_drop, List.length_append, List.length_cons, List.length_nil] <;> omega) | omega | rfl) ?_)
    | (refine fun (caps : Nat → Nat) hcaps => ?_; conv at hcaps => whnf)
    | (refine fun (cap' : Nat) hcap' => ?_)
    | (refine And.intro (by omega) ?_)
    | (refine BB.mk (fun _h => ?_) (fun _h => ?_) <;> (first | (exact absurd _h (by decide)) | (exfalso; simp only [boolSet] at _h <;> omega) | skip)))
  all_goals (try conv => whnf)
  refine Fin.mk ⟨⟨[1], .tup [.s (.n 0) 4 0 (l.set (placeN d.node l) d).length c', .v (.bool true)], [.row 27 4 c' ((l.set (placeN d.node l) d).map deC)], by decide, by rw [List.length_set]; rfl, ⟨.inr (.inl ?_), trivial⟩, c', by rw [List.length_set]; exact hc', rfl, rfl⟩, rfl⟩
  rw [List.map_set]
  show some (SB.row _ 4 c' ((l.map deC).set (0 + (placeN d.node l : Int).toNat) [.v (.int .u8 d.node), .v (.int .u16 d.inc), .v (.int .u8 d.age), .z 2 (((d.fl.map spC).drop 0).take d.fl.length)])) = _
  rw [drop_take_all (by simp), Nat.zero_add, Int.toNat_natCast]
  rfl
set_option maxRecDepth 100000 in
set_option maxHeartbeats 4000000 in
theorem put_full (l : List De) (cap : Nat) (hl : l.length ≤ 1099511627776) (hr : Rising l) (hf : FlOk l) (d : De) (cd : Nat) (hcd : d.fl.length ≤ cd) (hdl : d.fl.length ≤ 1099511627776) (self room : Int) (hn : findZ d.node l = -1) (hb : d.node ≠ self ∧ d.inc ≠ 0) (hroom : room ≤ l.length) : FnOK Try.prog GG 46 [.ro 4 (l.map deC)] [.s (.o 0) 4 0 l.length cap, deS d cd, .v (.int .u8 self), .v (.int .i64 room)] (fun r _ ext => ∃ cap', (l).length ≤ cap' ∧ r = .tup [.s (.n 0) 4 0 (l).length cap', .v (.bool false)] ∧ ext = [.row 27 4 cap' ((l).map deC)]) := by
  obtain ⟨hb1, hb2⟩ := hb
  have hF := hn
  refine fn_new (C := seat) seat_ok [(6, (.of [(0, .take), (1, .take), (2, .take), (3, .take), (4, .take), (5, .do_), (6, .take)])), (12, (.of [(0, .take), (1, .take), (2, .take), (3, .take), (5, .take), (4, .do_), (6, .do_), (7, .do_), (8, .do_), (9, .take), (10, .take)]))] GG_no (Try.func46) rfl rfl rfl rfl rfl rfl ?_
  repeat' ((try conv => whnf); first
    | (with_reducible refine OKv.go (C := seat) seat_ok ?_)
    | (with_reducible refine BB_true ?_)
    | (with_reducible refine BB_false ?_)
    | (with_reducible refine Both.mk ?_ ?_)
    | (with_reducible refine VS.mk ?_)
    | (refine PSem.go (C := seat) seat_ok ?_)
    | (refine And.intro (PlanOK.mk (by kernel_rfl) rfl (by kernel_rfl) (by kernel_rfl)) ?_)
    | (refine And.intro rfl (Exists.intro _ (And.intro (by first | assumption | rfl) ?_)))
    | (refine And.intro ⟨rfl, rfl, rfl⟩ ?_)
    | (refine call_ro [.o 0] (copy_ok l cap hl hf) GG_no rfl rfl rfl ⟨⟨_, rfl, rfl, rfl⟩, trivial⟩ ?_; rintro r bs' ext ⟨c', hc', rfl, rfl⟩)
    | (refine call_ro [.o 0] (find_z l cap d.node hl hr _ hF) GG_no rfl rfl rfl ⟨⟨_, rfl, rfl, rfl⟩, trivial⟩ ?_; rintro r bs' ext ⟨rfl, rfl⟩)
    | (refine And.intro (by omega) ?_)
    | (refine BB.mk (fun _h => ?_) (fun _h => ?_) <;> (first | (exact absurd _h (by decide)) | (exfalso; simp only [boolSet] at _h <;> omega) | skip)))
  all_goals (try conv => whnf)
  exact Fin.mk ⟨⟨[1], .tup [.s (.n 0) 4 0 l.length c', .v (.bool false)], [.row 27 4 c' (l.map deC)], by decide, rfl, ⟨.inr (.inl rfl), trivial⟩, c', hc', rfl, rfl⟩, rfl⟩
end Go.Proofs.Ytocappiebmmpgaa
