/- Law IdentSets, by computing. -/
import Derived.Test.YtoigdnfepmbpbaaI07k
namespace Go.Proofs.Ytoigdnfepmbpbaa
open Go.RowKit

set_option maxRecDepth 100000 in
set_option maxHeartbeats 4000000 in
theorem made_ok (l : List Id_) (cap : Nat) (hl : l.length ≤ 1000000) : FnOK Try.prog GG 24 [.ro 3 (l.map idC)] [.s (.o 0) 3 0 l.length cap] (fun r _ ext => ∃ cap', (madeL l).length ≤ cap' ∧ r = .s (.n 0) 3 0 (madeL l).length cap' ∧ ext = [.row 25 3 cap' ((madeL l).map idC)]) := by
  refine fn_new (C := seat) seat_ok [] GG_no (Try.func24) rfl rfl rfl rfl rfl rfl ?_
  repeat' ((try conv => whnf); first
    | (with_reducible refine BB_true ?_)
    | (with_reducible refine BB_false ?_)
    | (with_reducible refine Both.mk ?_ ?_)
    | (with_reducible refine VS.mk ?_)
    | (refine PSem.go (C := seat) seat_ok ?_)
    | (refine And.intro (PlanOK.mk (by kernel_rfl) rfl (by kernel_rfl) (by kernel_rfl)) ?_)
    | (refine And.intro rfl (Exists.intro _ (And.intro (by first | assumption | rfl) ?_)))
    | (refine And.intro (by omega) ?_)
    | (refine BB.mk (fun _h => ?_) (fun _h => ?_) <;> (first | (exact absurd _h (by decide)) | (exfalso; simp only [boolSet] at _h <;> omega) | skip)))
  all_goals (try conv => whnf)
  refine loop_rule (α := Nat × Nat) (fun p => p.1 ≤ l.length ∧ (madeL (l.take p.1)).length ≤ p.2) (fun p => { slots := [(3, .s (.n 0) 3 0 (madeL (l.take p.1)).length p.2), (6, .s (.o 0) 3 0 l.length cap), (7, .v (.int .i64 l.length)), (8, .v (.int .i64 p.1))], nt := 17, mem := ⟨GG, [.ro 3 (l.map idC)], [.row 25 3 p.2 ((madeL (l.take p.1)).map idC)]⟩ }) (fun p => l.length - p.1) (0, 0) ⟨Nat.zero_le _, Nat.zero_le _⟩ ⟨⟨[0], (by decide), GG_no, rfl, (SubOld.refl _ rfl), ⟨.inl (.inl ⟨rfl, rfl⟩), trivial⟩, ⟨.inr ⟨_, _, _, rfl, rfl⟩, .inl rfl, .inl rfl, .inl rfl, trivial⟩⟩, rfl⟩ ?_ (fun _ => rfl)
  rintro ⟨k, c⟩ ⟨hk, hc⟩
  dsimp only at hk hc ⊢
  have hF := madeL_len (l.take k)
  have hF2 : (l.take k).length ≤ k := List.length_take_le _ _
  refine vc_sound (C := seat) seat_ok (pl := []) ?_
  by_cases hlt : k < l.length
  · obtain ⟨y, hy⟩ : ∃ y, l[k]? = some y := ⟨_, List.getElem?_eq_getElem hlt⟩
    have hrow := row_at hy
    have hmt := made_take hy
    repeat' ((try conv => whnf); first
      | (with_reducible refine BB_true ?_)
      | (with_reducible refine BB_false ?_)
      | (with_reducible refine Both.mk ?_ ?_)
      | (with_reducible refine VS.mk ?_)
      | (refine PSem.go (C := seat) seat_ok ?_)
      | (refine And.intro (PlanOK.mk (by kernel_rfl) rfl (by kernel_rfl) (by kernel_rfl)) ?_)
      | (refine And.intro rfl (Exists.intro _ (And.intro (by first | assumption | rfl) ?_)))
      | (refine call_ro [.n 0] (put_p (madeL (l.take k)) y c (by omega) hc) GG_no rfl rfl rfl ⟨⟨_, rfl, rfl, rfl⟩, trivial⟩ ?_; rintro r bs' ext ⟨cap', hcap', rfl, rfl⟩)
      | (refine And.intro (by omega) ?_)
      | (refine BB.mk (fun _h => ?_) (fun _h => ?_) <;> (first | (exact absurd _h (by decide)) | (exfalso; simp only [boolSet] at _h <;> omega) | skip)))
    all_goals (try conv => whnf)
    refine ⟨(k + 1, cap'), ⟨by dsimp only; omega, by dsimp only; rw [hmt]; exact hcap'⟩, by dsimp only; omega, ⟨⟨[2], by decide, GG_no, rfl, SubOld.refl _ rfl, ⟨.inr ?_, trivial⟩, ⟨.inl ?_, .inl rfl, .inl rfl, .inl (num_eq (by rw [IntKind.wrap_i64]; dsimp only; omega)), trivial⟩⟩, rfl⟩⟩
    · dsimp only
      rw [hmt]
      rfl
    · dsimp only
      rw [hmt]
      rfl
  · have hs : l.take k = l := List.take_of_length_le (by omega)
    rw [hs] at hc hF ⊢
    repeat' ((try conv => whnf); first
      | (with_reducible refine BB_true ?_)
      | (with_reducible refine BB_false ?_)
      | (with_reducible refine Both.mk ?_ ?_)
      | (with_reducible refine VS.mk ?_)
      | (refine PSem.go (C := seat) seat_ok ?_)
      | (refine And.intro (PlanOK.mk (by kernel_rfl) rfl (by kernel_rfl) (by kernel_rfl)) ?_)
      | (refine And.intro rfl (Exists.intro _ (And.intro (by first | assumption | rfl) ?_)))
      | (refine And.intro (by omega) ?_)
      | (refine BB.mk (fun _h => ?_) (fun _h => ?_) <;> (first | (exact absurd _h (by decide)) | (exfalso; simp only [boolSet] at _h <;> omega) | skip)))
    all_goals (try conv => whnf)
    exact ⟨⟨[0], .s (.n 0) 3 0 (madeL l).length c, [.row 25 3 c ((madeL l).map idC)], by decide, rfl, ⟨.inr rfl, trivial⟩, c, hc, rfl, rfl⟩, rfl⟩
theorem made_rot_ok (l : List Id_) (n m cap : Nat) (hl : l.length ≤ 1000000) (hm : m = (rotL l n).length) : FnOK Try.prog GG 24 [.ro 3 ((rotL l n).map idC)] [.s (.o 0) 3 0 m cap] (fun r _ ext => ∃ cap', (madeL l).length ≤ cap' ∧ r = .s (.n 0) 3 0 (madeL l).length cap' ∧ ext = [.row 25 3 cap' ((madeL l).map idC)]) := by
  subst hm
  have h : (rotL l n).length ≤ 1000000 := by
    have : (rotL l n).length = l.length := by simp only [rotL, List.length_append, List.length_take, List.length_drop]; omega
    omega
  have := made_ok (rotL l n) cap h
  rw [made_rot] at this
  exact this
theorem same_len (l : List Id_) (m1 m2 c1 c2 : Nat) (hl : l.length ≤ 1099511627776) (h1 : m1 = l.length) (h2 : m2 = l.length) : FnOK Try.prog GG 19 [.ro 3 (l.map idC), .ro 3 (l.map idC)] [.s (.o 0) 3 0 m1 c1, .s (.o 1) 3 0 m2 c2] (fun r _ ext => r = .v (.bool true) ∧ ext = []) := by
  subst h1; subst h2
  exact same_self l c1 c2 hl
theorem put_again (l : List Id_) (x : Id_) (c : Nat) (hl : (putL l x).length ≤ 1099511627000) (hc : (putL l x).length ≤ c) : FnOK Try.prog GG 20 [.ro 3 ((putL l x).map idC)] [.s (.o 0) 3 0 (putL l x).length c, idS x] (fun r _ ext => ∃ cap', (putL l x).length ≤ cap' ∧ r = .s (.n 0) 3 0 (putL l x).length cap' ∧ ext = [.row 25 3 cap' ((putL l x).map idC)]) := by
  have := put_p (putL l x) x c hl hc
  rw [put_put] at this
  exact this
theorem drop_q (l : List Id_) (x : Id_) (c : Nat) (hl : l.length ≤ 1099511627776) : FnOK Try.prog GG 22 [.ro 3 (l.map idC)] [.s (.o 0) 3 0 l.length c, idS x] (fun r _ ext => ∃ cap, r = .s (.n 0) 3 0 (dropL l x).length cap ∧ ext = [.row 25 3 cap ((dropL l x).map idC)]) := drop_p l x c hl
theorem drop_again (l : List Id_) (x : Id_) (c : Nat) (hl : (dropL l x).length ≤ 1099511627776) : FnOK Try.prog GG 22 [.ro 3 ((dropL l x).map idC)] [.s (.o 0) 3 0 (dropL l x).length c, idS x] (fun r _ ext => ∃ cap, r = .s (.n 0) 3 0 (dropL l x).length cap ∧ ext = [.row 25 3 cap ((dropL l x).map idC)]) := by
  have := drop_p (dropL l x) x c hl
  rw [drop_drop'] at this
  exact this
theorem drop_more (l : List Id_) (x : Id_) (c : Nat) (hu : Up l) (hl : (putL l x).length ≤ 1099511627776) : FnOK Try.prog GG 22 [.ro 3 ((putL l x).map idC)] [.s (.o 0) 3 0 (putL l x).length c, idS x] (fun r _ ext => ∃ cap, r = .s (.n 0) 3 0 (dropL l x).length cap ∧ ext = [.row 25 3 cap ((dropL l x).map idC)]) := by
  have := drop_p (putL l x) x c hl
  rw [drop_put x hu] at this
  exact this
theorem has_made {l : List Id_} {y : Id_} (h : y ∈ l) : ((madeL l).any fun z => eqB z y) = true := any_mem.2 (mem_made.2 h)
theorem has_put {l : List Id_} (x : Id_) {y : Id_} (h : y = x ∨ y ∈ l) : ((putL l x).any fun z => eqB z y) = true := any_mem.2 (mem_put.2 h)
theorem has_drop {l : List Id_} {x y : Id_} (h : y ∈ l) : ((dropL l x).any fun z => eqB z y) = !eqB y x := by
  rw [Bool.eq_iff_iff, any_mem, mem_drop, Bool.not_eq_true', eqB_false]
  exact ⟨fun h => h.2, fun h' => ⟨h, h'⟩⟩
theorem has_gone (l : List Id_) (x : Id_) : ((dropL l x).any fun z => eqB z x) = false := by
  cases h : (dropL l x).any fun z => eqB z x
  · rfl
  · rw [any_mem, mem_drop] at h
    exact (h.2 rfl).elim
end Go.Proofs.Ytoigdnfepmbpbaa
