/- Stage 11: Fill. -/
import Derived.Test.YtjghbfbifkhloaaW11b
namespace Go.Proofs.Ytjghbfbifkhloaa
open Go.RowKit

theorem fill_succ {got : List De} {self room : Int} {k : Nat} {l : List De} {d : De} (h : got[k]? = some d) : fillL got self room (k + 1) l = (putP (fillL got self room k l) d self room).1 := by
  rw [fillL, h]
theorem fill_vok {got : List De} {self room : Int} {l : List De} (h : VOk self room l) : ∀ k, VOk self room (fillL got self room k l)
  | 0 => h
  | k + 1 => by
    rw [fillL]
    split
    · exact (fill_vok h k).put _
    · exact fill_vok h k
theorem put_flO {l : List De} {d : De} {self room : Int} (h : FlOk l) (hd : d.fl.length ≤ 1099511627776) : FlOk (putP l d self room).1 := fun y hy => by
  rcases put_mem hy with rfl | hy
  · exact hd
  · exact h y hy
theorem fill_fl {got : List De} {self room : Int} {l : List De} (h : FlOk l) (hg : FlOk got) : ∀ k, FlOk (fillL got self room k l)
  | 0 => h
  | k + 1 => by
    rw [fillL]
    split
    · rename_i d hd
      exact put_flO (fill_fl h hg k) (hg _ (List.mem_of_getElem? hd))
    · exact fill_fl h hg k
set_option maxRecDepth 100000 in
set_option maxHeartbeats 4000000 in
theorem fill_ok (l got : List De) (cap cg : Nat) (self room : Int) (hV : VOk self room l) (hrm : room ≤ 1000) (hf : FlOk l) (hgf : FlOk got) (hg : got.length ≤ 1099511627776) : FnOK Try.prog GG 22 [] [.z 4 (l.map deC) cap, .z 4 (got.map deC) cg, .v (.int .u8 self), .v (.int .i64 room)] (fun r _ ext => (∃ c', (fillL got self room got.length l).length ≤ c' ∧ r = .z 4 ((fillL got self room got.length l).map deC) c') ∧ ext = []) := by
  have hlen := hV.len
  have hgm : (got.map deC).length = got.length := List.length_map _
  refine FnOK.pure GG_no rfl (fn_intro (C := seat) seat_ok [] GG_no (Try.func22) rfl rfl rfl rfl rfl ?_)
  repeat' ((try conv => whnf); first
    | (with_reducible refine OKv.go (C := seat) seat_ok ?_)
    | (with_reducible refine BB_true ?_)
    | (with_reducible refine BB_false ?_)
    | (with_reducible refine Both.mk ?_ ?_)
    | (with_reducible refine VS.mk ?_)
    | (refine PSem.go (C := seat) seat_ok ?_)
    | (refine And.intro (PlanOK.mk (by kernel_rfl) rfl (by kernel_rfl) (by kernel_rfl)) ?_)
    | (refine And.intro rfl (Exists.intro _ (And.intro (by first | assumption | rfl) ?_)))
    | (refine And.intro ⟨rfl, rfl, rfl⟩ ?_)
    | (refine call_ro [] (copy_zz l cap (by omega) hf) GG_no rfl rfl rfl trivial ?_; rintro r bs' ext ⟨⟨c', hc', rfl⟩, rfl⟩)
    | (refine And.intro (by omega) ?_)
    | (refine BB.mk (fun _h => ?_) (fun _h => ?_) <;> (first | (exact absurd _h (by decide)) | (exfalso; simp only [boolSet] at _h <;> omega) | skip)))
  all_goals (try conv => whnf)
  refine loop_rule (α := Nat × Nat) (fun p => p.1 ≤ got.length ∧ (fillL got self room p.1 l).length ≤ p.2) (fun p => { slots := [(2, .v (.int .u8 self)), (3, .v (.int .i64 room)), (9, .z 4 ((fillL got self room p.1 l).map deC) p.2), (14, .z 4 (got.map deC) cg), (15, .v (.int .i64 (got.map deC).length)), (16, .v (.int .i64 (p.1 : Int)))], nt := 30, mem := ⟨GG, [], []⟩ }) (fun p => got.length - p.1) (0, c') ⟨Nat.zero_le _, hc'⟩ ⟨⟨[], List.nodup_nil, GG_no, rfl, (SubOld.refl _ rfl), trivial, ⟨.inl rfl, .inl rfl, .inl rfl, .inl rfl, .inl rfl, .inl rfl, trivial⟩⟩, rfl⟩ ?_ (fun _ => rfl)
  rintro ⟨k, c⟩ ⟨hk, hc⟩
  dsimp only at hk hc ⊢
  refine vc_sound (C := seat) seat_ok (pl := []) ?_
  have hVk := fill_vok (got := got) hV k
  have hfk := fill_fl (self := self) (room := room) hf hgf k
  have hlk := hVk.len
  by_cases hlt : k < got.length
  · obtain ⟨d, hd⟩ : ∃ d, got[k]? = some d := ⟨_, List.getElem?_eq_getElem hlt⟩
    have hrow := zde_at hd
    have hdf := hgf d (List.mem_of_getElem? hd)
    have hs := fill_succ (self := self) (room := room) (l := l) hd
    repeat' ((try conv => whnf); first
      | (with_reducible refine OKv.go (C := seat) seat_ok ?_)
      | (with_reducible refine BB_true ?_)
      | (with_reducible refine BB_false ?_)
      | (with_reducible refine Both.mk ?_ ?_)
      | (with_reducible refine VS.mk ?_)
      | (refine PSem.go (C := seat) seat_ok ?_)
      | (refine And.intro (PlanOK.mk (by kernel_rfl) rfl (by kernel_rfl) (by kernel_rfl)) ?_)
      | (refine And.intro rfl (Exists.intro _ (And.intro (by first | assumption | rfl) ?_)))
      | (refine And.intro ⟨rfl, rfl, rfl⟩ ?_)
      | (refine call_ro [] (put_zz (fillL got self room k l) c (by omega) hVk.rising hfk d _ (by simpa using hcaps.1) hdf self room (fillL got self room (k + 1) l) (putP (fillL got self room k l) d self room).2 (by rw [hs])) GG_no rfl rfl rfl trivial ?_; rintro r bs' ext ⟨⟨c1, hc1, rfl⟩, rfl⟩)
      | (refine And.intro ⟨by omega, by simp only [List.length_map]; omega⟩ (Exists.intro _ (And.intro (by first | assumption | rfl) ?_)))
      | (refine fun (caps : Nat → Nat) hcaps => ?_; conv at hcaps => whnf)
      | (refine And.intro (by omega) ?_)
      | (refine BB.mk (fun _h => ?_) (fun _h => ?_) <;> (first | (exact absurd _h (by decide)) | (exfalso; simp only [boolSet] at _h <;> omega) | skip)))
    all_goals (try conv => whnf)
    exact ⟨(k + 1, c1), ⟨by dsimp only; omega, hc1⟩, by dsimp only; omega, ⟨⟨[], by decide, GG_no, rfl, SubOld.refl _ rfl, trivial, ⟨.inl rfl, .inl rfl, .inl rfl, .inl rfl, .inl rfl, .inl (num_eq (by rw [IntKind.wrap_i64]; omega)), trivial⟩⟩, rfl⟩⟩
  · obtain rfl : k = got.length := by omega
    repeat' ((try conv => whnf); first
      | (with_reducible refine OKv.go (C := seat) seat_ok ?_)
      | (with_reducible refine BB_true ?_)
      | (with_reducible refine BB_false ?_)
      | (with_reducible refine Both.mk ?_ ?_)
      | (with_reducible refine VS.mk ?_)
      | (refine PSem.go (C := seat) seat_ok ?_)
      | (refine And.intro (PlanOK.mk (by kernel_rfl) rfl (by kernel_rfl) (by kernel_rfl)) ?_)
      | (refine And.intro rfl (Exists.intro _ (And.intro (by first | assumption | rfl) ?_)))
      | (refine And.intro ⟨rfl, rfl, rfl⟩ ?_)
      | (refine And.intro (by omega) ?_)
      | (refine BB.mk (fun _h => ?_) (fun _h => ?_) <;> (first | (exact absurd _h (by decide)) | (exfalso; simp only [boolSet] at _h <;> omega) | skip)))
    all_goals (try conv => whnf)
    exact ⟨_, _, FrzV.refl _ _, rfl, rfl, fun _ => rfl, c, hc, rfl⟩
end Go.Proofs.Ytjghbfbifkhloaa
