/- Descriptors by computing: Put, where it inserts. -/
import Derived.Test.YtocappiebmmpgaaD09k
import Derived.Test.YtocappiebmmpgaaD09p
namespace Go.Proofs.Ytocappiebmmpgaa
open Go.RowKit

def insL (l : List De) (i : Nat) (d : De) : List De := l.take i ++ d :: l.drop i
theorem insL_map (l : List De) (i : Nat) (d : De) : insAt (l.map deC) i (deC d) = (insL l i d).map deC := by
  unfold insAt insL
  simp [List.map_take, List.map_drop]
theorem insL_len (l : List De) (i : Nat) (d : De) (h : i ≤ l.length) : (insL l i d).length = l.length + 1 := by
  unfold insL
  rw [List.length_append, List.length_cons, List.length_take, List.length_drop]
  omega
set_option maxRecDepth 100000 in
set_option maxHeartbeats 4000000 in
theorem put_ins (l : List De) (cap : Nat) (hl : l.length ≤ 1099511627776) (hr : Rising l) (hf : FlOk l) (d : De) (cd : Nat) (hcd : d.fl.length ≤ cd) (hdl : d.fl.length ≤ 1099511627776) (self room : Int) (hn : findZ d.node l = -1) (hb : d.node ≠ self ∧ d.inc ≠ 0) (hroom : (l.length : Int) < room) : FnOK Try.prog GG 46 [.ro 4 (l.map deC)] [.s (.o 0) 4 0 l.length cap, deS d cd, .v (.int .u8 self), .v (.int .i64 room)] (fun r _ ext => ∃ cap', (insL l (placeN d.node l) d).length ≤ cap' ∧ r = .tup [.s (.n 0) 4 0 (insL l (placeN d.node l) d).length cap', .v (.bool true)] ∧ ext = [.row 27 4 cap' ((insL l (placeN d.node l) d).map deC)]) := by
  obtain ⟨hb1, hb2⟩ := hb
  have hF := hn
  have hple := place_le d.node l
  refine fn_new (C := seat) seat_ok [(6, (.of [(0, .take), (1, .take), (2, .take), (3, .take), (4, .take), (5, .do_), (6, .take)])), (12, (.of [(0, .take), (1, .take), (2, .take), (3, .take), (5, .take), (4, .do_), (6, .do_), (7, .do_), (8, .last), (9, .last), (10, .last)]))] GG_no (Try.func46) rfl rfl rfl rfl rfl rfl ?_
  repeat' ((try conv => whnf); first
    | (with_reducible refine OKv.go (C := seat) seat_ok ?_)
    | (with_reducible refine BB_true ?_)
    | (with_reducible refine BB_false ?_)
    | (with_reducible refine Both.mk ?_ ?_)
    | (with_reducible refine VS.mk ?_)
    | (refine PSem.go (C := seat) seat_ok ?_)
    | (refine And.intro (PlanOK.mk (by kernel_rfl) rfl (by kernel_rfl) (by kernel_rfl)) ?_)
    | (refine And.intro rfl (Exists.intro _ (And.intro (by first | assumption | rfl) ?_)))
    | (refine And.intro ⟨rfl, rfl, rfl⟩ ?_)
    | (refine call_ro [.o 0] (copy_ok l cap hl hf) GG_no rfl rfl rfl ⟨⟨_, rfl, rfl, rfl⟩, trivial⟩ ?_; rintro r bs' ext ⟨c', hc', rfl, rfl⟩)
    | (refine call_ro [.o 0] (find_z l cap d.node hl hr _ hF) GG_no rfl rfl rfl ⟨⟨_, rfl, rfl, rfl⟩, trivial⟩ ?_; rintro r bs' ext ⟨rfl, rfl⟩)
    | (refine call_ro [.o 0] (place_ok l cap d.node hl hr) GG_no rfl rfl rfl ⟨⟨_, rfl, rfl, rfl⟩, trivial⟩ ?_; rintro r bs' ext ⟨rfl, rfl⟩)
    | (refine call_ro [] (own_ok d _ hcd hdl) GG_no rfl rfl rfl trivial ?_; rintro r bs' ext ⟨oc, hoc, rfl, rfl⟩)
    | (refine call_own [.n 1, .n 3] (insert_ok (l.map deC) _ l.length (placeN d.node l) _ _ (by rw [List.length_map]) hc' (Nat.le_refl 1) hl (place_le _ _)) GG_no rfl rfl rfl ⟨⟨_, rfl, .inr ⟨(fun _ h => by cases h), rfl⟩⟩, ⟨_, rfl, .inr ⟨(fun _ h => by cases h), rfl⟩⟩, trivial⟩ (by decide) ?_; rintro r bs' ext (⟨hgc, rfl, rfl, rfl⟩ | ⟨gc, hgc, rfl, rfl, rfl⟩) <;> refine ⟨⟨rfl, rfl, trivial⟩, ?_⟩)
    | (refine And.intro ⟨rfl, rfl, rfl, by first | (simp only [chunks_len, List.length_map, List.length_take, List.length_drop, List.length_append, List.length_cons, List.length_nil] <;> omega) | omega | rfl⟩ ?_)
    | (refine And.intro ⟨rfl, by first | (simp only [chunks_len, List.length_map, List.length_take, List.length_drop, List.length_append, List.length_cons, List.length_nil] <;> omega) | omega | rfl⟩ ?_)
    | (refine And.intro (by first | exact ⟨rfl, Nat.le_refl _⟩ | first | (simp only [chunks_len, List.length_map, List.length_take, List.length_drop, List.length_append, List.length_cons, List.length_nil] <;> omega) | omega | rfl) ?_)
    | (refine fun (caps : Nat → Nat) hcaps => ?_; conv at hcaps => whnf)
    | (refine fun (cap' : Nat) hcap' => ?_)
    | (refine And.intro (by omega) ?_)
    | (refine BB.mk (fun _h => ?_) (fun _h => ?_) <;> (first | (exact absurd _h (by decide)) | (exfalso; simp only [boolSet] at _h <;> omega) | skip)))
  all_goals (try conv => whnf)
  · refine Fin.mk ⟨⟨[1], .tup [.s (.n 0) 4 0 (insL l (placeN d.node l) d).length c', .v (.bool true)], [.row 27 4 c' ((insL l (placeN d.node l) d).map deC)], by decide, by rw [insL_len _ _ _ hple]; rfl, ⟨.inr (.inl ?_), trivial⟩, c', by rw [insL_len _ _ _ hple]; exact hgc, rfl, rfl⟩, rfl⟩
    rw [← insL_map]
    show some (SB.row _ 4 c' (insAt (l.map deC) (placeN d.node l) [.v (.int .u8 d.node), .v (.int .u16 d.inc), .v (.int .u8 d.age), .z 2 (((d.fl.map spC).drop 0).take d.fl.length)])) = _
    rw [drop_take_all (by simp)]
    rfl
  · refine Fin.mk ⟨⟨[4], .tup [.s (.n 0) 4 0 (insL l (placeN d.node l) d).length gc, .v (.bool true)], [.row 27 4 gc ((insL l (placeN d.node l) d).map deC)], by decide, by rw [insL_len _ _ _ hple]; rfl, ⟨.inr (.inl ?_), trivial⟩, gc, by rw [insL_len _ _ _ hple]; exact hgc, rfl, rfl⟩, rfl⟩
    rw [← insL_map]
    show some (SB.row _ 4 gc (insAt (l.map deC) (placeN d.node l) [.v (.int .u8 d.node), .v (.int .u16 d.inc), .v (.int .u8 d.age), .z 2 (((d.fl.map spC).drop 0).take d.fl.length)])) = _
    rw [drop_take_all (by simp)]
    rfl
end Go.Proofs.Ytocappiebmmpgaa
