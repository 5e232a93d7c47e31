/- Package pull, by computing: the reference's calls. -/
import Derived.Test.YtcjcnlahieddoaaK18d
namespace Go.Proofs.Ytcjcnlahieddoaa
open Go.RowKit

theorem any_no {l : List Ask_} {x : Id_} {k : Nat} {y : Ask_} (h : ∀ z ∈ l.take k, eqB z.id x = false) (hy : l[k]? = some y) (hn : eqB y.id x = false) : ∀ z ∈ l.take (k + 1), eqB z.id x = false := fun z hz => by
  rw [List.take_add_one, hy] at hz
  rcases List.mem_append.1 hz with hz | hz
  · exact h z hz
  · simp at hz; subst hz; exact hn
theorem eq_false {a b : Id_} (h : ¬ (a.n = b.n ∧ a.i = b.i ∧ a.s = b.s)) : eqB a b = false := by
  rw [← Bool.not_eq_true, eqB_iff']
  exact h
set_option maxRecDepth 100000 in
set_option maxHeartbeats 4000000 in
theorem hasR_ok (l : List Ask_) (cap : Nat) (x : Id_) (hl : l.length ≤ 1099511627776) : FnOK Try.prog GG 12 [.ro 5 (l.map askC)] [.s (.o 0) 5 0 l.length cap, idS x] (fun r _ ext => r = .v (.bool ((idsL l).any (fun y => eqB y x))) ∧ ext = []) := by
  refine fn_val (C := seat) seat_ok [(4, (.of [(0, .take), (1, .take), (2, .take), (3, .take), (4, .take), (5, .take), (6, .take)]))] GG_no (Try.func12) rfl rfl rfl rfl rfl (fun _ => rfl) rfl ?_
  repeat' ((try conv => whnf); first
    | (with_reducible refine OKv.go (C := seat) seat_ok ?_)
    | (with_reducible refine BB_true ?_)
    | (with_reducible refine BB_false ?_)
    | (with_reducible refine Both.mk ?_ ?_)
    | (with_reducible refine VS.mk ?_)
    | (refine PSem.go (C := seat) seat_ok ?_)
    | (refine And.intro (PlanOK.mk (by kernel_rfl) rfl (by kernel_rfl) (by kernel_rfl)) ?_)
    | (refine And.intro rfl (Exists.intro _ (And.intro (by first | assumption | rfl) ?_)))
    | (refine And.intro ⟨rfl, rfl, rfl⟩ ?_)
    | (refine And.intro (by omega) ?_)
    | (refine BB.mk (fun _h => ?_) (fun _h => ?_) <;> (first | (exact absurd _h (by decide)) | (exfalso; simp only [boolSet] at _h <;> omega) | skip)))
  all_goals (try conv => whnf)
  refine loop_rule (α := Nat) (fun k => k ≤ l.length ∧ ∀ z ∈ l.take k, eqB z.id x = false) (fun k => { slots := [(0, .s (.o 0) 5 0 l.length cap), (3, .p (.n 0) 0 0 0), (5, .v (.int .i64 (k : Int)))], nt := 19, mem := ⟨GG, [.ro 5 (l.map askC)], [.box 26 [.v (.int .u8 x.n), .v (.int .u16 x.i), .v (.int .u32 x.s)]]⟩ }) (fun k => l.length - k) 0 ⟨Nat.zero_le _, by simp⟩ ⟨⟨[0], (by decide), GG_no, rfl, (SubOld.refl _ rfl), ⟨rfl, trivial⟩, ⟨.inl rfl, .inl rfl, .inl rfl, trivial⟩⟩, rfl⟩ ?_ (fun _ => rfl)
  rintro k ⟨hk, hall⟩
  refine vc_sound (C := seat) seat_ok (pl := [(4, (.of [(0, .take), (1, .take), (2, .take), (3, .take), (4, .take), (5, .take), (6, .take)]))]) ?_
  by_cases hlt : k < l.length
  · obtain ⟨y, hy⟩ : ∃ y, l[k]? = some y := ⟨_, List.getElem?_eq_getElem hlt⟩
    have hrow := ask_at hy
    repeat' ((try conv => whnf); first
      | (with_reducible refine OKv.go (C := seat) seat_ok ?_)
      | (with_reducible refine BB_true ?_)
      | (with_reducible refine BB_false ?_)
      | (with_reducible refine Both.mk ?_ ?_)
      | (with_reducible refine VS.mk ?_)
      | (refine PSem.go (C := seat) seat_ok ?_)
      | (refine And.intro (PlanOK.mk (by kernel_rfl) rfl (by kernel_rfl) (by kernel_rfl)) ?_)
      | (refine And.intro rfl (Exists.intro _ (And.intro (by first | assumption | rfl) ?_)))
      | (refine And.intro ⟨rfl, rfl, rfl⟩ ?_)
      | (refine And.intro (by omega) ?_)
      | (refine BB.mk (fun _h => ?_) (fun _h => ?_) <;> (first | (exact absurd _h (by decide)) | (exfalso; simp only [boolSet] at _h <;> omega) | skip)))
    all_goals (try conv => whnf)
    all_goals (try (refine Fin.mk ?_))
    all_goals first
      | (have he : eqB y.id x = true := by rw [eqB_iff']; simp only [boolSet] at _h; omega
         exact ⟨bool_eq (List.any_eq_true.2 ⟨y.id, List.mem_map.2 ⟨y, List.mem_of_getElem? hy, rfl⟩, he⟩).symm, rfl⟩)
      | (have he : eqB y.id x = false := eq_false (by simp only [boolSet] at _h; omega)
         exact ⟨k + 1, ⟨by omega, any_no hall hy he⟩, by omega, ⟨⟨[0], by decide, GG_no, rfl, SubOld.refl _ rfl, ⟨rfl, trivial⟩, ⟨.inl rfl, .inl rfl, .inl (num_eq (by rw [IntKind.wrap_i64]; omega)), trivial⟩⟩, rfl⟩⟩)
  · rw [List.take_of_length_le (by omega)] at hall
    have he : ((idsL l).any fun y => eqB y x) = false := List.any_eq_false.2 (fun z hz => by
      obtain ⟨a, ha, rfl⟩ := List.mem_map.1 hz
      rw [hall a ha]; decide)
    repeat' ((try conv => whnf); first
      | (with_reducible refine OKv.go (C := seat) seat_ok ?_)
      | (with_reducible refine BB_true ?_)
      | (with_reducible refine BB_false ?_)
      | (with_reducible refine Both.mk ?_ ?_)
      | (with_reducible refine VS.mk ?_)
      | (refine PSem.go (C := seat) seat_ok ?_)
      | (refine And.intro (PlanOK.mk (by kernel_rfl) rfl (by kernel_rfl) (by kernel_rfl)) ?_)
      | (refine And.intro rfl (Exists.intro _ (And.intro (by first | assumption | rfl) ?_)))
      | (refine And.intro ⟨rfl, rfl, rfl⟩ ?_)
      | (refine And.intro (by omega) ?_)
      | (refine BB.mk (fun _h => ?_) (fun _h => ?_) <;> (first | (exact absurd _h (by decide)) | (exfalso; simp only [boolSet] at _h <;> omega) | skip)))
    all_goals (try conv => whnf)
    exact Fin.mk ⟨bool_eq he.symm, rfl⟩
theorem drop_in {l : List Ask_} {x : Id_} {y : Ask_} {k : Nat} (hy : l[k]? = some y) (h : eqB y.id x = false) : dropA (l.take (k + 1)) x = dropA (l.take k) x ++ [y] := filter_in hy (by rw [h]; rfl)
theorem drop_out {l : List Ask_} {x : Id_} {y : Ask_} {k : Nat} (hy : l[k]? = some y) (h : eqB y.id x = true) : dropA (l.take (k + 1)) x = dropA (l.take k) x := filter_out hy (by rw [h]; rfl)
set_option maxRecDepth 100000 in
set_option maxHeartbeats 4000000 in
theorem dropR_ok (l : List Ask_) (cap : Nat) (x : Id_) (hl : l.length ≤ 1099511627776) : FnOK Try.prog GG 19 [.ro 5 (l.map askC)] [.s (.o 0) 5 0 l.length cap, idS x] (fun r _ ext => ∃ cap, (dropA l x).length ≤ cap ∧ r = .s (.n 0) 5 0 (dropA l x).length cap ∧ ext = [.row 28 5 cap ((dropA l x).map askC)]) := by
  refine fn_newR (C := seat) seat_ok [(5, (.of [(0, .take), (1, .take), (2, .take), (3, .take), (4, .take), (5, .take), (6, .take)]))] GG_no (Try.func19) rfl rfl rfl rfl rfl rfl ?_
  repeat' ((try conv => whnf); first
    | (with_reducible refine OKv.go (C := seat) seat_ok ?_)
    | (with_reducible refine BB_true ?_)
    | (with_reducible refine BB_false ?_)
    | (with_reducible refine Both.mk ?_ ?_)
    | (with_reducible refine VS.mk ?_)
    | (refine PSem.go (C := seat) seat_ok ?_)
    | (refine And.intro (PlanOK.mk (by kernel_rfl) rfl (by kernel_rfl) (by kernel_rfl)) ?_)
    | (refine And.intro rfl (Exists.intro _ (And.intro (by first | assumption | rfl) ?_)))
    | (refine And.intro ⟨rfl, rfl, rfl⟩ ?_)
    | (refine And.intro (by omega) ?_)
    | (refine BB.mk (fun _h => ?_) (fun _h => ?_) <;> (first | (exact absurd _h (by decide)) | (exfalso; simp only [boolSet] at _h <;> omega) | skip)))
  all_goals (try conv => whnf)
  refine loop_rule (α := Nat × Nat) (fun p => p.1 ≤ l.length ∧ (dropA (l.take p.1) x).length ≤ p.2) (fun p => { slots := [(0, .s (.o 0) 5 0 l.length cap), (3, .p (.n 0) 0 0 0), (5, .s (.n 1) 5 0 (dropA (l.take p.1) x).length p.2), (6, .v (.int .i64 p.1))], nt := 28, mem := ⟨GG, [.ro 5 (l.map askC)], [.box 26 [.v (.int .u8 x.n), .v (.int .u16 x.i), .v (.int .u32 x.s)], .row 28 5 p.2 ((dropA (l.take p.1) x).map askC)]⟩ }) (fun p => l.length - p.1) (0, 0) ⟨Nat.zero_le _, Nat.zero_le _⟩ ⟨⟨[0, 1], (by decide), GG_no, rfl, (SubOld.refl _ rfl), ⟨rfl, .inl (.inl ⟨rfl, rfl⟩), trivial⟩, ⟨.inl rfl, .inl rfl, .inr ⟨_, _, _, rfl, rfl⟩, .inl rfl, trivial⟩⟩, rfl⟩ ?_ (fun _ => rfl)
  rintro ⟨k, c'⟩ ⟨hk, hc⟩
  dsimp only at hk hc ⊢
  have hF : (dropA (l.take k) x).length ≤ k := filter_le _ l k
  refine vc_sound (C := seat) seat_ok (pl := [(5, (.of [(0, .take), (1, .take), (2, .take), (3, .take), (4, .take), (5, .take), (6, .take)]))]) ?_
  by_cases hlt : k < l.length
  · obtain ⟨y, hy⟩ : ∃ y, l[k]? = some y := ⟨_, List.getElem?_eq_getElem hlt⟩
    have hrow := ask_at hy
    by_cases he : y.id.n = x.n ∧ y.id.i = x.i ∧ y.id.s = x.s
    · have hh : eqB y.id x = true := eqB_iff'.2 he
      repeat' ((try conv => whnf); first
        | (with_reducible refine OKv.go (C := seat) seat_ok ?_)
        | (with_reducible refine BB_true ?_)
        | (with_reducible refine BB_false ?_)
        | (with_reducible refine Both.mk ?_ ?_)
        | (with_reducible refine VS.mk ?_)
        | (refine PSem.go (C := seat) seat_ok ?_)
        | (refine And.intro (PlanOK.mk (by kernel_rfl) rfl (by kernel_rfl) (by kernel_rfl)) ?_)
        | (refine And.intro rfl (Exists.intro _ (And.intro (by first | assumption | rfl) ?_)))
        | (refine And.intro ⟨rfl, rfl, rfl⟩ ?_)
        | (refine And.intro (by omega) ?_)
        | (refine BB.mk (fun _h => ?_) (fun _h => ?_) <;> (first | (exact absurd _h (by decide)) | (exfalso; simp only [boolSet] at _h <;> omega) | skip)))
      all_goals (try conv => whnf)
      refine ⟨(k + 1, c'), ⟨by dsimp only; omega, ?_⟩, by dsimp only; omega, ⟨⟨[0, 1], by decide, GG_no, rfl, SubOld.refl _ rfl, ⟨rfl, .inr ?_, trivial⟩, ⟨.inl rfl, .inl rfl, .inl ?_, .inl (num_eq (by rw [IntKind.wrap_i64]; dsimp only; omega)), trivial⟩⟩, rfl⟩⟩
      · dsimp only
        rw [drop_out hy hh]
        exact hc
      · dsimp only
        rw [drop_out hy hh]
        rfl
      · dsimp only
        rw [drop_out hy hh]
        rfl
    · have hh : eqB y.id x = false := eq_false he
      repeat' ((try conv => whnf); first
        | (with_reducible refine OKv.go (C := seat) seat_ok ?_)
        | (with_reducible refine BB_true ?_)
        | (with_reducible refine BB_false ?_)
        | (with_reducible refine Both.mk ?_ ?_)
        | (with_reducible refine VS.mk ?_)
        | (refine PSem.go (C := seat) seat_ok ?_)
        | (refine And.intro (PlanOK.mk (by kernel_rfl) rfl (by kernel_rfl) (by kernel_rfl)) ?_)
        | (refine And.intro rfl (Exists.intro _ (And.intro (by first | assumption | rfl) ?_)))
        | (refine And.intro ⟨rfl, rfl, rfl⟩ ?_)
        | (refine And.intro ⟨rfl, rfl, rfl, by rw [List.length_map]⟩ ?_)
        | (refine And.intro ⟨rfl, by rw [List.length_map]; omega⟩ ?_)
        | (refine And.intro (by first | omega | (dsimp only; omega) | exact ⟨rfl, Nat.le_refl _⟩) ?_)
        | (intro cap' hcap')
        | (refine And.intro (by omega) ?_)
        | (refine BB.mk (fun _h => ?_) (fun _h => ?_) <;> (first | (exact absurd _h (by decide)) | (exfalso; simp only [boolSet] at _h <;> omega) | skip)))
      all_goals (try conv => whnf)
      refine ⟨(k + 1, cap'), ⟨by dsimp only; omega, ?_⟩, by dsimp only; omega, ⟨⟨[0, 3], by decide, GG_no, rfl, SubOld.refl _ rfl, ⟨rfl, .inr ?_, trivial⟩, ⟨.inl rfl, .inl rfl, .inl ?_, .inl (num_eq (by rw [IntKind.wrap_i64]; dsimp only; omega)), trivial⟩⟩, rfl⟩⟩
      · dsimp only
        rw [drop_in hy hh, List.length_append]
        simpa using hcap'
      · dsimp only
        rw [drop_in hy hh, List.map_append]
        rfl
      · dsimp only
        rw [drop_in hy hh, List.length_append]
        rfl
  · have hs : l.take k = l := List.take_of_length_le (by omega)
    rw [hs] at hc hF ⊢
    repeat' ((try conv => whnf); first
      | (with_reducible refine OKv.go (C := seat) seat_ok ?_)
      | (with_reducible refine BB_true ?_)
      | (with_reducible refine BB_false ?_)
      | (with_reducible refine Both.mk ?_ ?_)
      | (with_reducible refine VS.mk ?_)
      | (refine PSem.go (C := seat) seat_ok ?_)
      | (refine And.intro (PlanOK.mk (by kernel_rfl) rfl (by kernel_rfl) (by kernel_rfl)) ?_)
      | (refine And.intro rfl (Exists.intro _ (And.intro (by first | assumption | rfl) ?_)))
      | (refine And.intro ⟨rfl, rfl, rfl⟩ ?_)
      | (refine And.intro (by omega) ?_)
      | (refine BB.mk (fun _h => ?_) (fun _h => ?_) <;> (first | (exact absurd _h (by decide)) | (exfalso; simp only [boolSet] at _h <;> omega) | skip)))
    all_goals (try conv => whnf)
    exact ⟨⟨[1], .s (.n 0) 5 0 (dropA l x).length c', [.row 28 5 c' ((dropA l x).map askC)], by decide, .inl (.inl rfl), ⟨.inr rfl, trivial⟩, c', hc, rfl, rfl⟩, rfl⟩
end Go.Proofs.Ytcjcnlahieddoaa
