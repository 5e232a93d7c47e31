/- Package ident, by computing: Drop. -/
import Derived.Test.YtoigdnfepmbpbaaI07d
namespace Go.Proofs.Ytoigdnfepmbpbaa
open Go.RowKit

def dropL (l : List Id_) (x : Id_) : List Id_ := l.filter fun y => !eqB y x
theorem dropL_le (l : List Id_) (x : Id_) (k : Nat) : (dropL (l.take k) x).length ≤ k := Nat.le_trans (List.length_filter_le _ _) (List.length_take_le _ _)
theorem dropL_in {l : List Id_} {x y : Id_} {k : Nat} (hy : l[k]? = some y) (h : eqB y x = false) : dropL (l.take (k + 1)) x = dropL (l.take k) x ++ [y] := by
  unfold dropL
  rw [List.take_add_one, hy, List.filter_append]
  simp [h]
theorem dropL_out {l : List Id_} {x y : Id_} {k : Nat} (hy : l[k]? = some y) (h : eqB y x = true) : dropL (l.take (k + 1)) x = dropL (l.take k) x := by
  unfold dropL
  rw [List.take_add_one, hy, List.filter_append]
  simp [h]
set_option maxRecDepth 100000 in
set_option maxHeartbeats 4000000 in
theorem drop_p (l : List Id_) (x : Id_) (cap : Nat) (hl : l.length ≤ 1099511627776) : FnOK Try.prog GG 22 [.ro 3 (l.map idC)] [.s (.o 0) 3 0 l.length cap, idS x] (fun r _ ext => ∃ cap, r = .s (.n 0) 3 0 (dropL l x).length cap ∧ ext = [.row 25 3 cap ((dropL l x).map idC)]) := by
  refine fn_new (C := seat) seat_ok [] GG_no (Try.func22) rfl rfl rfl rfl rfl rfl ?_
  repeat' ((try conv => whnf); first
    | (with_reducible refine BB_true ?_)
    | (with_reducible refine BB_false ?_)
    | (with_reducible refine Both.mk ?_ ?_)
    | (with_reducible refine VS.mk ?_)
    | (refine PSem.go (C := seat) seat_ok ?_)
    | (refine And.intro (PlanOK.mk (by kernel_rfl) rfl (by kernel_rfl) (by kernel_rfl)) ?_)
    | (refine And.intro rfl (Exists.intro _ (And.intro (by first | assumption | rfl) ?_)))
    | (refine And.intro (by omega) ?_)
    | (refine BB.mk (fun _h => ?_) (fun _h => ?_) <;> (first | (exact absurd _h (by decide)) | (exfalso; simp only [boolSet] at _h <;> omega) | skip)))
  all_goals (try conv => whnf)
  refine loop_rule (α := Nat × Nat) (fun p => p.1 ≤ l.length ∧ (dropL (l.take p.1) x).length ≤ p.2) (fun p => { slots := [(0, .s (.o 0) 3 0 l.length cap), (3, .p (.n 0) 0 0 0), (5, .s (.n 1) 3 0 (dropL (l.take p.1) x).length p.2), (8, .s (.o 0) 3 0 l.length cap), (9, .v (.int .i64 l.length)), (10, .v (.int .i64 p.1))], nt := 23, mem := ⟨GG, [.ro 3 (l.map idC)], [.box 25 [.v (.int .u8 x.n), .v (.int .u16 x.i), .v (.int .u32 x.s)], .row 25 3 p.2 ((dropL (l.take p.1) x).map idC)]⟩ }) (fun p => l.length - p.1) (0, 0) ⟨Nat.zero_le _, Nat.zero_le _⟩ ⟨⟨[0, 1], (by decide), GG_no, rfl, (SubOld.refl _ rfl), ⟨rfl, .inl (.inl ⟨rfl, rfl⟩), trivial⟩, ⟨.inl rfl, .inl rfl, .inr ⟨_, _, _, rfl, rfl⟩, .inl rfl, .inl rfl, .inl rfl, trivial⟩⟩, rfl⟩ ?_ (fun _ => rfl)
  rintro ⟨k, c⟩ ⟨hk, hc⟩
  dsimp only at hk hc ⊢
  have hF := dropL_le l x k
  refine vc_sound (C := seat) seat_ok (pl := []) ?_
  by_cases hlt : k < l.length
  · obtain ⟨y, hy⟩ : ∃ y, l[k]? = some y := ⟨_, List.getElem?_eq_getElem hlt⟩
    have hrow := row_at hy
    repeat' ((try conv => whnf); first
      | (with_reducible refine BB_true ?_)
      | (with_reducible refine BB_false ?_)
      | (with_reducible refine Both.mk ?_ ?_)
      | (with_reducible refine VS.mk ?_)
      | (refine PSem.go (C := seat) seat_ok ?_)
      | (refine And.intro (PlanOK.mk (by kernel_rfl) rfl (by kernel_rfl) (by kernel_rfl)) ?_)
      | (refine And.intro rfl (Exists.intro _ (And.intro (by first | assumption | rfl) ?_)))
      | (refine And.intro ⟨rfl, rfl, rfl, by rw [List.length_map]⟩ ?_)
      | (refine And.intro (by first | omega | (dsimp only; omega) | exact ⟨rfl, Nat.le_refl _⟩) ?_)
      | (intro cap' hcap')
      | (refine And.intro (by omega) ?_)
      | (refine BB.mk (fun _h => ?_) (fun _h => ?_) <;> (first | (exact absurd _h (by decide)) | (exfalso; simp only [boolSet] at _h <;> omega) | skip)))
    all_goals (try conv => whnf)
    · have hh : eqB y x = false := by simp only [eqB]; simp only [boolSet] at _h; simp only [decide_eq_false_iff_not]; omega
      refine ⟨(k + 1, cap'), ⟨by dsimp only; omega, ?_⟩, by dsimp only; omega, ⟨⟨[0, 4], by decide, GG_no, rfl, SubOld.refl _ rfl, ?_, ⟨.inl rfl, .inl rfl, .inl ?_, .inl rfl, .inl rfl, .inl (num_eq (by rw [IntKind.wrap_i64]; dsimp only; omega)), trivial⟩⟩, rfl⟩⟩
      · dsimp only
        rw [dropL_in hy hh]
        simpa using hcap'
      · refine ⟨rfl, .inr ?_, trivial⟩
        dsimp only
        rw [dropL_in hy hh, List.map_append]
        rfl
      · dsimp only
        rw [dropL_in hy hh, List.length_append]
        rfl
    · have hh : eqB y x = true := by simp only [eqB]; simp only [boolSet] at _h; simp only [decide_eq_true_eq]; omega
      refine ⟨(k + 1, c), ⟨by dsimp only; omega, ?_⟩, by dsimp only; omega, ⟨⟨[0, 1], by decide, GG_no, rfl, SubOld.refl _ rfl, ?_, ⟨.inl rfl, .inl rfl, .inl ?_, .inl rfl, .inl rfl, .inl (num_eq (by rw [IntKind.wrap_i64]; dsimp only; omega)), trivial⟩⟩, rfl⟩⟩
      · dsimp only
        rw [dropL_out hy hh]
        exact hc
      · refine ⟨rfl, .inr ?_, trivial⟩
        dsimp only
        rw [dropL_out hy hh]
        rfl
      · dsimp only
        rw [dropL_out hy hh]
        rfl
  · have hs : l.take k = l := List.take_of_length_le (by omega)
    rw [hs] at hc hF ⊢
    repeat' ((try conv => whnf); first
      | (with_reducible refine BB_true ?_)
      | (with_reducible refine BB_false ?_)
      | (with_reducible refine Both.mk ?_ ?_)
      | (with_reducible refine VS.mk ?_)
      | (refine PSem.go (C := seat) seat_ok ?_)
      | (refine And.intro (PlanOK.mk (by kernel_rfl) rfl (by kernel_rfl) (by kernel_rfl)) ?_)
      | (refine And.intro rfl (Exists.intro _ (And.intro (by first | assumption | rfl) ?_)))
      | (refine And.intro ⟨rfl, rfl, rfl, by rw [List.length_map]⟩ ?_)
      | (refine And.intro (by first | omega | (dsimp only; omega) | exact ⟨rfl, Nat.le_refl _⟩) ?_)
      | (intro cap' hcap')
      | (refine And.intro (by omega) ?_)
      | (refine BB.mk (fun _h => ?_) (fun _h => ?_) <;> (first | (exact absurd _h (by decide)) | (exfalso; simp only [boolSet] at _h <;> omega) | skip)))
    all_goals (try conv => whnf)
    exact ⟨⟨[1], .s (.n 0) 3 0 (dropL l x).length c, [.row 25 3 c ((dropL l x).map idC)], by decide, rfl, ⟨.inr rfl, trivial⟩, c, rfl, rfl⟩, rfl⟩
end Go.Proofs.Ytoigdnfepmbpbaa
