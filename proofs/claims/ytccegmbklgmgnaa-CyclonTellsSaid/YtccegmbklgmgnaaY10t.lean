/- Several texts in one: Y10j, Y10k, Y10l. -/
import Derived.Test.YtccegmbklgmgnaaR9m
import Derived.Test.YtccegmbklgmgnaaY10i
namespace Go.Proofs.Ytccegmbklgmgnaa
open Go.RowKit

set_option maxRecDepth 100000 in
set_option maxHeartbeats 4000000 in
theorem rfindany_ok (l : List De) (cl : Nat) (x : Int) (hl : l.length ≤ 1099511627776) : FnOK Try.prog GG 35 [] [.z 4 (l.map deC) cl, .v (.int .u8 x)] (fun r _ ext => (∃ z : Int, r = .v (.int .i64 z) ∧ -1 ≤ z ∧ decide (0 ≤ z) = hasN l x) ∧ ext = []) := by
  have hlm : (l.map deC).length = l.length := List.length_map _
  refine FnOK.pure GG_no rfl (fn_intro (C := seat) seat_ok [] GG_no (Try.func35) rfl rfl rfl rfl rfl ?_)
  repeat' ((try conv => whnf); first
    | (with_reducible refine OKv.go (C := seat) seat_ok ?_)
    | (with_reducible refine BB_true ?_)
    | (with_reducible refine BB_false ?_)
    | (with_reducible refine Both.mk ?_ ?_)
    | (with_reducible refine VS.mk ?_)
    | (refine PSem.go (C := seat) seat_ok ?_)
    | (refine And.intro (PlanOK.mk (by kernel_rfl) rfl (by kernel_rfl) (by kernel_rfl)) ?_)
    | (refine And.intro rfl (Exists.intro _ (And.intro (by first | assumption | rfl) ?_)))
    | (refine And.intro ⟨rfl, rfl, rfl⟩ ?_)
    | (refine And.intro (by omega) ?_)
    | (refine BB.mk (fun _h => ?_) (fun _h => ?_) <;> (first | (exact absurd _h (by decide)) | (exfalso; simp only [boolSet] at _h <;> omega) | skip)))
  all_goals (try conv => whnf)
  refine loop_rule (α := Nat) (fun k => k ≤ l.length ∧ ∀ (j : Nat) y, j < k → l[j]? = some y → y.node ≠ x) (fun k => { slots := [(0, .z 4 (l.map deC) cl), (1, .v (.int .u8 x)), (5, .v (.int .i64 (k : Int)))], nt := 20, mem := ⟨GG, [], []⟩ }) (fun k => l.length - k) 0 ⟨Nat.zero_le _, fun j y h => absurd h (Nat.not_lt_zero _)⟩ ⟨⟨[], List.nodup_nil, GG_no, rfl, (SubOld.refl _ rfl), trivial, ⟨.inl rfl, .inl rfl, .inl rfl, trivial⟩⟩, rfl⟩ ?_ (fun _ => rfl)
  rintro k ⟨hk, hno⟩
  refine vc_sound (C := seat) seat_ok (pl := []) ?_
  by_cases hlt : k < l.length
  · obtain ⟨y, hy⟩ : ∃ y, l[k]? = some y := ⟨_, List.getElem?_eq_getElem hlt⟩
    have hrow := zde_at hy
    by_cases hx : y.node = x
    · skip
      repeat' ((try conv => whnf); first
        | (with_reducible refine OKv.go (C := seat) seat_ok ?_)
        | (with_reducible refine BB_true ?_)
        | (with_reducible refine BB_false ?_)
        | (with_reducible refine Both.mk ?_ ?_)
        | (with_reducible refine VS.mk ?_)
        | (refine PSem.go (C := seat) seat_ok ?_)
        | (refine And.intro (PlanOK.mk (by kernel_rfl) rfl (by kernel_rfl) (by kernel_rfl)) ?_)
        | (refine And.intro rfl (Exists.intro _ (And.intro (by first | assumption | rfl) ?_)))
        | (refine And.intro ⟨rfl, rfl, rfl⟩ ?_)
        | (refine And.intro ⟨by omega, by simp only [List.length_map]; omega⟩ (Exists.intro _ (And.intro (by first | assumption | rfl) ?_)))
        | (refine BB.mk (fun _h => ?_) (fun _h => ?_) <;> (first | (exact absurd _h (by decide)) | (exfalso; simp only [boolSet] at _h <;> omega) | (simp only [boolSet] at _h) | skip))
        | (refine And.intro (by omega) ?_)
        | (refine BB.mk (fun _h => ?_) (fun _h => ?_) <;> (first | (exact absurd _h (by decide)) | (exfalso; simp only [boolSet] at _h <;> omega) | skip)))
      all_goals (try conv => whnf)
      exact ⟨_, _, FrzV.refl _ _, rfl, rfl, fun _ => rfl, _, rfl, by omega, by rw [decide_eq_true (by omega)]; exact (List.any_eq_true.2 ⟨y, List.mem_of_getElem? hy, decide_eq_true hx⟩).symm⟩
    · skip
      repeat' ((try conv => whnf); first
        | (with_reducible refine OKv.go (C := seat) seat_ok ?_)
        | (with_reducible refine BB_true ?_)
        | (with_reducible refine BB_false ?_)
        | (with_reducible refine Both.mk ?_ ?_)
        | (with_reducible refine VS.mk ?_)
        | (refine PSem.go (C := seat) seat_ok ?_)
        | (refine And.intro (PlanOK.mk (by kernel_rfl) rfl (by kernel_rfl) (by kernel_rfl)) ?_)
        | (refine And.intro rfl (Exists.intro _ (And.intro (by first | assumption | rfl) ?_)))
        | (refine And.intro ⟨rfl, rfl, rfl⟩ ?_)
        | (refine And.intro ⟨by omega, by simp only [List.length_map]; omega⟩ (Exists.intro _ (And.intro (by first | assumption | rfl) ?_)))
        | (refine BB.mk (fun _h => ?_) (fun _h => ?_) <;> (first | (exact absurd _h (by decide)) | (exfalso; simp only [boolSet] at _h <;> omega) | (simp only [boolSet] at _h) | skip))
        | (refine And.intro (by omega) ?_)
        | (refine BB.mk (fun _h => ?_) (fun _h => ?_) <;> (first | (exact absurd _h (by decide)) | (exfalso; simp only [boolSet] at _h <;> omega) | skip)))
      all_goals (try conv => whnf)
      exact ⟨k + 1, ⟨by omega, fun j z hj hz => by
          rcases Nat.lt_succ_iff_lt_or_eq.1 hj with h | rfl
          · exact hno j z h hz
          · rw [hy] at hz; cases hz; exact hx⟩, by omega, ⟨⟨[], by decide, GG_no, rfl, SubOld.refl _ rfl, trivial, ⟨.inl rfl, .inl rfl, .inl (num_eq (by rw [IntKind.wrap_i64]; omega)), trivial⟩⟩, rfl⟩⟩
  · obtain rfl : k = l.length := by omega
    repeat' ((try conv => whnf); first
      | (with_reducible refine OKv.go (C := seat) seat_ok ?_)
      | (with_reducible refine BB_true ?_)
      | (with_reducible refine BB_false ?_)
      | (with_reducible refine Both.mk ?_ ?_)
      | (with_reducible refine VS.mk ?_)
      | (refine PSem.go (C := seat) seat_ok ?_)
      | (refine And.intro (PlanOK.mk (by kernel_rfl) rfl (by kernel_rfl) (by kernel_rfl)) ?_)
      | (refine And.intro rfl (Exists.intro _ (And.intro (by first | assumption | rfl) ?_)))
      | (refine And.intro ⟨rfl, rfl, rfl⟩ ?_)
      | (refine BB.mk (fun _h => ?_) (fun _h => ?_) <;> (first | (exact absurd _h (by decide)) | (exfalso; simp only [boolSet] at _h <;> omega) | (simp only [boolSet] at _h) | skip))
      | (refine And.intro (by omega) ?_)
      | (refine BB.mk (fun _h => ?_) (fun _h => ?_) <;> (first | (exact absurd _h (by decide)) | (exfalso; simp only [boolSet] at _h <;> omega) | skip)))
    all_goals (try conv => whnf)
    exact ⟨_, _, FrzV.refl _ _, rfl, rfl, fun _ => rfl, _, rfl, by omega, by rw [decide_eq_false (by omega)]; symm; refine Bool.eq_false_iff.2 fun h => ?_; obtain ⟨d, hd, he⟩ := List.any_eq_true.1 h; obtain ⟨j, hj⟩ := List.mem_iff_getElem?.1 hd; exact hno j d (getElem?_lt hj) hj (of_decide_eq_true he)⟩
theorem oth_drop {l : List De} (hr : Rising l) (x : Int) : othN l x l.length = dropL x l := by
  unfold othN
  rw [List.take_length]
  exact r9F_drop hr
theorem pick_rising {many : Int} {draws : List Int} {l : List De} (hr : Rising l) : ∀ k, Rising (pickN many draws l k).1
  | 0 => hr
  | k + 1 => by
    have ih := pick_rising (many := many) (draws := draws) hr k
    rw [pickN]
    split
    · unfold pickS
      split
      · exact ih
      · split
        · exact List.Pairwise.sublist (List.eraseIdx_sublist _ _) ih
        · exact ih
    · exact ih
theorem drop_at {l : List De} {a : Nat} {y : De} (hr : Rising l) (h : l[a]? = some y) : dropL y.node l = l.eraseIdx a := by
  rcases has_or y.node l with ⟨z, _, _, _, hD⟩ | ⟨hn, _, _⟩
  · rw [hD, r9place hr h rfl]
  · exact (hn y (rising_at hr (List.mem_of_getElem? h) rfl) rfl).elim
theorem pick_ix4 (y : Int) (n : Nat) (hy : 0 ≤ y ∧ y ≤ 4294967295) (hn : 0 < n) (hn2 : n ≤ 20) : IntKind.i64.wrap (y.tmod (IntKind.u32.wrap (n : Int))) = ((pickAt y n : Nat) : Int) := by
  have h2 : IntKind.u32.wrap (n : Int) = n := by rw [IntKind.wrap_u32]; omega
  rw [h2, Int.tmod_eq_emod_of_nonneg hy.1, IntKind.wrap_i64]
  have h3 := Int.emod_lt_of_pos y (show (0 : Int) < n by omega)
  have h4 := Int.emod_nonneg y (show (n : Int) ≠ 0 by omega)
  unfold pickAt
  omega
set_option maxRecDepth 100000 in
set_option maxHeartbeats 4000000 in
theorem rpick_ok (l : List De) (cl : Nat) (many x : Int) (draws : List Int) (cd : Nat) (hl : l.length ≤ 20) (hf : FlOk l) (hdl : draws.length ≤ 1000) (hdr : ∀ y ∈ draws, 0 ≤ y ∧ y ≤ 4294967295) (hr : Rising l) : FnOK Try.prog GG 16 [] [.z 4 (l.map deC) cl, .v (.int .i64 many), .v (.int .u8 x), .z 1 (draws.map u4C) cd] (fun r _ ext => (∃ c', (pickN many draws (othN l x l.length) draws.length).2.length ≤ c' ∧ r = .z 4 ((pickN many draws (othN l x l.length) draws.length).2.map deC) c') ∧ ext = []) := by
  have hlm : (l.map deC).length = l.length := List.length_map _
  have hdm : (draws.map u4C).length = draws.length := List.length_map _
  have hoth := oth_drop hr x
  refine FnOK.pure GG_no rfl (fn_intro (C := seat) seat_ok [] GG_no (Try.func16) rfl rfl rfl rfl rfl ?_)
  repeat' ((try conv => whnf); first
    | (with_reducible refine OKv.go (C := seat) seat_ok ?_)
    | (with_reducible refine BB_true ?_)
    | (with_reducible refine BB_false ?_)
    | (with_reducible refine Both.mk ?_ ?_)
    | (with_reducible refine VS.mk ?_)
    | (refine PSem.go (C := seat) seat_ok ?_)
    | (refine And.intro (PlanOK.mk (by kernel_rfl) rfl (by kernel_rfl) (by kernel_rfl)) ?_)
    | (refine And.intro rfl (Exists.intro _ (And.intro (by first | assumption | rfl) ?_)))
    | (refine And.intro ⟨rfl, rfl, rfl⟩ ?_)
    | (refine call_ro [] (rdrop_ok l cl x (by omega) hr (othN l x l.length) hoth.symm) GG_no rfl rfl rfl trivial ?_; rintro r bs' ext ⟨⟨c', hc', rfl⟩, rfl⟩)
    | (refine And.intro (by omega) ?_)
    | (refine BB.mk (fun _h => ?_) (fun _h => ?_) <;> (first | (exact absurd _h (by decide)) | (exfalso; simp only [boolSet] at _h <;> omega) | skip)))
  all_goals (try conv => whnf)
  refine loop_rule (α := Nat × Nat × Nat) (fun p => p.1 ≤ draws.length ∧ (pickN many draws (othN l x l.length) p.1).2.length ≤ p.2.2) (fun p => { slots := [(1, .v (.int .i64 many)), (3, .z 1 (draws.map u4C) cd), (9, .z 4 ((pickN many draws (othN l x l.length) p.1).1.map deC) p.2.1), (10, .s (.n 0) 4 0 (pickN many draws (othN l x l.length) p.1).2.length p.2.2), (11, .v (.int .i64 (p.1 : Int)))], nt := 57, mem := ⟨GG, [], [.row 34 4 p.2.2 ((pickN many draws (othN l x l.length) p.1).2.map deC)]⟩ }) (fun p => draws.length - p.1) (0, c', 0) ⟨Nat.zero_le _, Nat.zero_le _⟩ ⟨⟨[0], (by decide), GG_no, rfl, (SubOld.refl _ rfl), ⟨.inl (.inl ⟨rfl, rfl⟩), trivial⟩, ⟨.inl rfl, .inl rfl, .inl rfl, .inr (.inl ⟨_, _, _, rfl, rfl⟩), .inl rfl, trivial⟩⟩, rfl⟩ ?_ (fun _ => rfl)
  rintro ⟨k, c0, c1⟩ ⟨hk, hc1⟩
  dsimp only at hk hc1 ⊢
  refine vc_sound (C := seat) seat_ok (pl := []) ?_
  have hLk : (pickN many draws (othN l x l.length) k).1.length ≤ 20 := Nat.le_trans (pick_len _ _ _ k).1 (Nat.le_trans (oth_len l x _) hl)
  have hOk : (pickN many draws (othN l x l.length) k).2.length ≤ k := (pick_len _ _ _ k).2
  have hRk : Rising (pickN many draws (othN l x l.length) k).1 := pick_rising (by rw [hoth]; exact drop_rising hr) k
  have hstop := pick_stop (many := many) (draws := draws) (l := othN l x l.length) (k := k)
  have hsucc : ∀ y, draws[k]? = some y → pickN many draws (othN l x l.length) (k + 1) = pickS many y (pickN many draws (othN l x l.length) k) := fun y hy => by rw [pickN, hy]
  have hst := hstop
  generalize hp : pickN many draws (othN l x l.length) k = p at *
  obtain ⟨L, O⟩ := p
  dsimp only at hLk hOk hc1 hst hRk ⊢
  have hLm : (L.map deC).length = L.length := List.length_map _
  have hOm : (O.map deC).length = O.length := List.length_map _
  by_cases hlt : k < draws.length
  · obtain ⟨y, hy⟩ : ∃ y, draws[k]? = some y := ⟨_, List.getElem?_eq_getElem hlt⟩
    have hrow := u4_at hy
    have hy0 := hdr y (List.mem_of_getElem? hy)
    have hnx := hsucc y hy
    by_cases hs : many ≤ O.length ∨ L.length = 0
    · have hfin := hst hs draws.length hk
      repeat' ((try conv => whnf); first
        | (with_reducible refine OKv.go (C := seat) seat_ok ?_)
        | (with_reducible refine BB_true ?_)
        | (with_reducible refine BB_false ?_)
        | (with_reducible refine Both.mk ?_ ?_)
        | (with_reducible refine VS.mk ?_)
        | (refine PSem.go (C := seat) seat_ok ?_)
        | (refine And.intro (PlanOK.mk (by kernel_rfl) rfl (by kernel_rfl) (by kernel_rfl)) ?_)
        | (refine And.intro rfl (Exists.intro _ (And.intro (by first | assumption | rfl) ?_)))
        | (refine And.intro ⟨rfl, rfl, rfl⟩ ?_)
        | (refine And.intro ⟨by omega, by simp only [List.length_map]; omega⟩ (Exists.intro _ (And.intro (by first | assumption | rfl) ?_)))
        | (refine BB.mk (fun _h => ?_) (fun _h => ?_) <;> (first | (exact absurd _h (by decide)) | (exfalso; simp only [boolSet, IntKind.wrap_i64] at _h <;> omega) | (simp only [boolSet, IntKind.wrap_i64] at _h) | skip))
        | (refine And.intro (by omega) ?_)
        | (refine BB.mk (fun _h => ?_) (fun _h => ?_) <;> (first | (exact absurd _h (by decide)) | (exfalso; simp only [boolSet] at _h <;> omega) | skip)))
      all_goals (try conv => whnf)
      all_goals first
        | exact ⟨_, _, frz_row rfl (List.length_map _).symm, rfl, rfl, fun _ => rfl, c1, (by rw [hfin]; exact hc1), (by rw [hfin])⟩
        | (exfalso; omega)
    · unfold pickS at hnx
      rw [if_neg hs] at hnx
      dsimp only at hnx
      have hL0 : 0 < L.length := by omega
      have hat : pickAt y L.length < L.length := by unfold pickAt; have := Int.emod_lt_of_pos y (show (0 : Int) < L.length by omega); have := Int.emod_nonneg y (show (L.length : Int) ≠ 0 by omega); omega
      obtain ⟨d, hd⟩ : ∃ d, L[pickAt y L.length]? = some d := ⟨_, List.getElem?_eq_getElem hat⟩
      rw [hd] at hnx
      dsimp only at hnx
      have hrow2 := zde_at hd
      have hix := pick_ix4 y L.length hy0 hL0 (by omega)
      generalize hpa : pickAt y L.length = a at *
      have hu : IntKind.u32.wrap (L.length : Int) = L.length := by rw [IntKind.wrap_u32]; omega
      have hrow3 : (L.map deC)[(IntKind.i64.wrap (y.tmod (IntKind.u32.wrap ((L.map deC).length : Int)))).toNat]? = some [.v (.int .u8 d.node), .v (.int .u16 d.inc), .v (.int .u8 d.age), .z 2 (d.fl.map spC)] := by rw [hLm, hix]; exact hrow2
      have hix2 : IntKind.i64.wrap (y.tmod (IntKind.u32.wrap ((L.map deC).length : Int))) = (a : Int) := by rw [hLm]; exact hix
      have hu2 : IntKind.u32.wrap ((L.map deC).length : Int) = L.length := by rw [hLm]; exact hu
      repeat' ((try conv => whnf); first
        | (with_reducible refine OKv.go (C := seat) seat_ok ?_)
        | (with_reducible refine BB_true ?_)
        | (with_reducible refine BB_false ?_)
        | (with_reducible refine Both.mk ?_ ?_)
        | (with_reducible refine VS.mk ?_)
        | (refine PSem.go (C := seat) seat_ok ?_)
        | (refine And.intro (PlanOK.mk (by kernel_rfl) rfl (by kernel_rfl) (by kernel_rfl)) ?_)
        | (refine And.intro rfl (Exists.intro _ (And.intro (by first | assumption | rfl) ?_)))
        | (refine And.intro ⟨rfl, rfl, rfl⟩ ?_)
        | (refine call_ro [] (rdrop_ok L c0 d.node (by omega) hRk (L.eraseIdx a) (drop_at hRk hd)) GG_no rfl rfl rfl trivial ?_; rintro r bs' ext ⟨⟨c2, hc2, rfl⟩, rfl⟩)
        | (refine And.intro (⟨by omega, by omega⟩ : _ ∧ _ < _) (Exists.intro _ (And.intro hrow3 ?_)))
        | (refine And.intro ⟨by omega, by simp only [List.length_map]; omega⟩ (Exists.intro _ (And.intro (by first | assumption | rfl) ?_)))
        | (refine And.intro (⟨by omega, by omega⟩ : _ ∧ _ < _) ?_)
        | (refine fun (caps : Nat → Nat) hcaps => ?_; conv at hcaps => whnf)
        | (refine BB.mk (fun _h => ?_) (fun _h => ?_) <;> (first | (exact absurd _h (by decide)) | (exfalso; simp only [boolSet, IntKind.wrap_i64] at _h <;> omega) | (simp only [boolSet, IntKind.wrap_i64] at _h) | skip))
        | (refine And.intro ⟨rfl, rfl, rfl, by first | (simp only [chunks_len, List.length_map, List.length_take, List.length_drop, List.length_append, List.length_cons, List.length_nil] <;> omega) | omega | rfl⟩ ?_)
        | (refine And.intro ⟨rfl, by first | (simp only [chunks_len, List.length_map, List.length_take, List.length_drop, List.length_append, List.length_cons, List.length_nil] <;> omega) | omega | rfl⟩ ?_)
        | (refine And.intro (by first | exact ⟨rfl, Nat.le_refl _⟩ | first | (simp only [chunks_len, List.length_map, List.length_take, List.length_drop, List.length_append, List.length_cons, List.length_nil] <;> omega) | omega | rfl) ?_)
        | (refine fun (caps : Nat → Nat) hcaps => ?_; conv at hcaps => whnf)
        | (refine fun (cap' : Nat) hcap' => ?_)
        | (refine And.intro (by omega) ?_)
        | (refine BB.mk (fun _h => ?_) (fun _h => ?_) <;> (first | (exact absurd _h (by decide)) | (exfalso; simp only [boolSet] at _h <;> omega) | skip)))
      all_goals (try conv => whnf)
      exact ⟨(k + 1, c2, cap'), ⟨by dsimp only; omega, by dsimp only; rw [hnx, List.length_append]; exact hcap'⟩, by dsimp only; omega, ⟨⟨[2], by decide, GG_no, rfl, SubOld.refl _ rfl, ⟨.inr (.inl (by dsimp only; rw [hnx, List.map_append]; rfl)), trivial⟩, ⟨.inl rfl, .inl rfl, .inl (by dsimp only; rw [hnx]; rfl), .inl (by dsimp only; rw [hnx, List.length_append]; rfl), .inl (num_eq (by rw [IntKind.wrap_i64]; omega)), trivial⟩⟩, rfl⟩⟩
  · obtain rfl : k = draws.length := by omega
    repeat' ((try conv => whnf); first
      | (with_reducible refine OKv.go (C := seat) seat_ok ?_)
      | (with_reducible refine BB_true ?_)
      | (with_reducible refine BB_false ?_)
      | (with_reducible refine Both.mk ?_ ?_)
      | (with_reducible refine VS.mk ?_)
      | (refine PSem.go (C := seat) seat_ok ?_)
      | (refine And.intro (PlanOK.mk (by kernel_rfl) rfl (by kernel_rfl) (by kernel_rfl)) ?_)
      | (refine And.intro rfl (Exists.intro _ (And.intro (by first | assumption | rfl) ?_)))
      | (refine And.intro ⟨rfl, rfl, rfl⟩ ?_)
      | (refine BB.mk (fun _h => ?_) (fun _h => ?_) <;> (first | (exact absurd _h (by decide)) | (exfalso; simp only [boolSet] at _h <;> omega) | (simp only [boolSet] at _h) | skip))
      | (refine And.intro (by omega) ?_)
      | (refine BB.mk (fun _h => ?_) (fun _h => ?_) <;> (first | (exact absurd _h (by decide)) | (exfalso; simp only [boolSet] at _h <;> omega) | skip)))
    all_goals (try conv => whnf)
    exact ⟨_, _, frz_row rfl (List.length_map _).symm, rfl, rfl, fun _ => rfl, c1, (by rw [hp]; exact hc1), (by rw [hp])⟩
set_option maxRecDepth 100000 in
set_option maxHeartbeats 4000000 in
theorem rask_no (l : List De) (cl : Nat) (d : De) (cd : Nat) (many : Int) (draws : List Int) (cr : Nat) (hl : l.length ≤ 20) (hf : FlOk l) (hd : d.fl.length ≤ 1099511627776) (hdl : draws.length ≤ 1000) (hdr : ∀ y ∈ draws, 0 ≤ y ∧ y ≤ 4294967295) (h : l.length = 0 ∨ many < 1) : FnOK Try.prog GG 13 [] [.z 4 (l.map deC) cl, deS d cd, .v (.int .i64 many), .z 1 (draws.map u4C) cr] (fun r _ ext => (r = .tup [.v (.int .u8 0), .z 4 [] 0, .v (.bool false)]) ∧ ext = []) := by
  have hlm : (l.map deC).length = l.length := List.length_map _
  refine FnOK.pure GG_no rfl (fn_intro (C := seat) seat_ok [] GG_no (Try.func13) rfl rfl rfl rfl rfl ?_)
  repeat' ((try conv => whnf); first
    | (with_reducible refine OKv.go (C := seat) seat_ok ?_)
    | (with_reducible refine BB_true ?_)
    | (with_reducible refine BB_false ?_)
    | (with_reducible refine Both.mk ?_ ?_)
    | (with_reducible refine VS.mk ?_)
    | (refine PSem.go (C := seat) seat_ok ?_)
    | (refine And.intro (PlanOK.mk (by kernel_rfl) rfl (by kernel_rfl) (by kernel_rfl)) ?_)
    | (refine And.intro rfl (Exists.intro _ (And.intro (by first | assumption | rfl) ?_)))
    | (refine And.intro ⟨rfl, rfl, rfl⟩ ?_)
    | (refine BB.mk (fun _h => ?_) (fun _h => ?_) <;> (first | (exact absurd _h (by decide)) | (exfalso; simp only [boolSet] at _h <;> omega) | (simp only [boolSet] at _h) | skip))
    | (refine And.intro (by omega) ?_)
    | (refine BB.mk (fun _h => ?_) (fun _h => ?_) <;> (first | (exact absurd _h (by decide)) | (exfalso; simp only [boolSet] at _h <;> omega) | skip)))
  all_goals (try conv => whnf)
  all_goals first
    | exact ⟨_, _, frz_tup 1 rfl (frz_nil _ 4) rfl, rfl, rfl, fun _ => rfl, rfl⟩
    | (exfalso; omega)
theorem rpick_eq (l : List De) (cl : Nat) (m many : Int) (hm : m = many) (x : Int) (draws : List Int) (cd : Nat) (hl : l.length ≤ 20) (hf : FlOk l) (hdl : draws.length ≤ 1000) (hdr : ∀ y ∈ draws, 0 ≤ y ∧ y ≤ 4294967295) (hr : Rising l) (o : List De) (ho : (pickN many draws (othN l x l.length) draws.length).2 = o) : FnOK Try.prog GG 16 [] [.z 4 (l.map deC) cl, .v (.int .i64 m), .v (.int .u8 x), .z 1 (draws.map u4C) cd] (fun r _ ext => (∃ c', o.length ≤ c' ∧ r = .z 4 (o.map deC) c') ∧ ext = []) := by
  subst hm; subst ho
  exact rpick_ok l cl m x draws cd hl hf hdl hdr hr
set_option maxRecDepth 100000 in
set_option maxHeartbeats 4000000 in
theorem rask_ok (l : List De) (cl : Nat) (d : De) (cd : Nat) (many : Int) (draws : List Int) (cr : Nat) (hl : l.length ≤ 20) (hf : FlOk l) (hd : d.fl.length ≤ 1099511627776) (hdl : draws.length ≤ 1000) (hdr : ∀ y ∈ draws, 0 ≤ y ∧ y ≤ 4294967295) (hr : Rising l) (hag : ∀ y ∈ l, 0 ≤ y.age ∧ y.age ≤ 255) (hm : 1 ≤ many ∧ many ≤ 9223372036854775807) (a : Nat) (y : De) (ha : oldAt l l.length = some a) (hy : l[a]? = some y) : FnOK Try.prog GG 13 [] [.z 4 (l.map deC) cl, deS d cd, .v (.int .i64 many), .z 1 (draws.map u4C) cr] (fun r _ ext => (∃ c', (askL l d y many draws).length ≤ c' ∧ r = .tup [.v (.int .u8 y.node), .z 4 ((askL l d y many draws).map deC) c', .v (.bool true)]) ∧ ext = []) := by
  have hlm : (l.map deC).length = l.length := List.length_map _
  have hrow := zde_at hy
  have hal := getElem?_lt hy
  have hw : IntKind.i64.wrap (many - 1) = many - 1 := by rw [IntKind.wrap_i64]; omega
  have hpm : ((pickN (many - 1) draws (othN l y.node l.length) draws.length).2.map deC).length = (pickN (many - 1) draws (othN l y.node l.length) draws.length).2.length := List.length_map _
  have hpl := (pick_len (many - 1) draws (othN l y.node l.length) draws.length).2
  refine FnOK.pure GG_no rfl (fn_intro (C := seat) seat_ok [] GG_no (Try.func13) rfl rfl rfl rfl rfl ?_)
  repeat' ((try conv => whnf); first
    | (with_reducible refine OKv.go (C := seat) seat_ok ?_)
    | (with_reducible refine BB_true ?_)
    | (with_reducible refine BB_false ?_)
    | (with_reducible refine Both.mk ?_ ?_)
    | (with_reducible refine VS.mk ?_)
    | (refine PSem.go (C := seat) seat_ok ?_)
    | (refine And.intro (PlanOK.mk (by kernel_rfl) rfl (by kernel_rfl) (by kernel_rfl)) ?_)
    | (refine And.intro rfl (Exists.intro _ (And.intro (by first | assumption | rfl) ?_)))
    | (refine And.intro ⟨rfl, rfl, rfl⟩ ?_)
    | (refine call_ro [] (roldest_ok l cl (by omega) hag (a : Int) (by rw [ha]; rfl)) GG_no rfl rfl rfl trivial ?_; rintro r bs' ext ⟨rfl, rfl⟩)
    | (refine call_ro [] (rpick_eq l cl _ (many - 1) hw y.node draws cr hl hf hdl hdr hr _ rfl) GG_no rfl rfl rfl trivial ?_; rintro r bs' ext ⟨⟨cp, hcp, rfl⟩, rfl⟩)
    | (refine And.intro ⟨by omega, by simp only [List.length_map]; omega⟩ (Exists.intro _ (And.intro (by first | assumption | rfl) ?_)))
    | (refine BB.mk (fun _h => ?_) (fun _h => ?_) <;> (first | (exact absurd _h (by decide)) | (exfalso; simp only [boolSet] at _h <;> omega) | (simp only [boolSet] at _h) | skip))
    | (refine And.intro ⟨rfl, rfl, rfl, by first | (simp only [chunks_len, List.length_map, List.length_take, List.length_drop, List.length_append, List.length_cons, List.length_nil] <;> omega) | omega | rfl⟩ ?_)
    | (refine And.intro ⟨rfl, by first | (simp only [chunks_len, List.length_map, List.length_take, List.length_drop, List.length_append, List.length_cons, List.length_nil] <;> omega) | omega | rfl⟩ ?_)
    | (refine And.intro (by first | exact ⟨rfl, Nat.le_refl _⟩ | first | (simp only [chunks_len, List.length_map, List.length_take, List.length_drop, List.length_append, List.length_cons, List.length_nil] <;> omega) | omega | rfl) ?_)
    | (refine fun (caps : Nat → Nat) hcaps => ?_; conv at hcaps => whnf)
    | (refine fun (cap' : Nat) hcap' => ?_)
    | (refine And.intro (by omega) ?_)
    | (refine BB.mk (fun _h => ?_) (fun _h => ?_) <;> (first | (exact absurd _h (by decide)) | (exfalso; simp only [boolSet] at _h <;> omega) | skip)))
  all_goals (try conv => whnf)
  all_goals first
    | exact ⟨_, _, frz_tup 1 rfl (frz_row rfl (by unfold askL; simp [Nat.add_comm])) rfl, rfl, rfl, fun _ => rfl, cap', (by unfold askL; simp only [List.length_cons]; omega), rfl⟩
    | (exfalso; omega)
end Go.Proofs.Ytccegmbklgmgnaa

namespace Go.Proofs.Ytccegmbklgmgnaa
open Go.RowKit

theorem hasN_dec {l : List De} {x z : Int} (h1 : -1 ≤ z) (h2 : decide (0 ≤ z) = hasN l x) : (hasN l x = false ↔ z < 0) ∧ (hasN l x = true ↔ 0 ≤ z) := by
  refine ⟨?_, ?_⟩
  · rw [← h2, decide_eq_false_iff_not]
    omega
  · rw [← h2, decide_eq_true_eq]
set_option maxRecDepth 100000 in
set_option maxHeartbeats 4000000 in
theorem rmerge_ok (l got sent : List De) (cl cg cs : Nat) (self room : Int) (hcl : l.length ≤ cl) (hV : VOk self room l) (hrm : room ≤ 1000) (hf : FlOk l) (hgf : FlOk got) (hgi : ∀ y ∈ got, 0 ≤ y.inc) (hg : got.length ≤ 1099511627776) (hs : sent.length ≤ 1099511627776) : FnOK Try.prog GG 18 [] [.z 4 (l.map deC) cl, .z 4 (got.map deC) cg, .z 4 (sent.map deC) cs, .v (.int .u8 self), .v (.int .i64 room)] (fun r _ ext => (∃ c', (mergeN sent got self room l got.length).1.length ≤ c' ∧ r = .z 4 ((mergeN sent got self room l got.length).1.map deC) c') ∧ ext = []) := by
  have hlen := hV.len
  have hgm : (got.map deC).length = got.length := List.length_map _
  have hsm : (sent.map deC).length = sent.length := List.length_map _
  refine FnOK.pure GG_no rfl (fn_intro (C := seat) seat_ok [(14, (.of [(0, .take), (1, .take), (3, .take), (4, .take), (5, .take), (2, .do_), (6, .do_), (7, .take), (8, .take), (9, .take), (10, .take)]))] GG_no (Try.func18) rfl rfl rfl rfl rfl ?_)
  repeat' ((try conv => whnf); first
    | (with_reducible refine OKv.go (C := seat) seat_ok ?_)
    | (with_reducible refine BB_true ?_)
    | (with_reducible refine BB_false ?_)
    | (with_reducible refine Both.mk ?_ ?_)
    | (with_reducible refine VS.mk ?_)
    | (refine PSem.go (C := seat) seat_ok ?_)
    | (refine And.intro (PlanOK.mk (by kernel_rfl) rfl (by kernel_rfl) (by kernel_rfl)) ?_)
    | (refine And.intro rfl (Exists.intro _ (And.intro (by first | assumption | rfl) ?_)))
    | (refine And.intro ⟨rfl, rfl, rfl⟩ ?_)
    | (refine And.intro (by omega) ?_)
    | (refine BB.mk (fun _h => ?_) (fun _h => ?_) <;> (first | (exact absurd _h (by decide)) | (exfalso; simp only [boolSet] at _h <;> omega) | skip)))
  all_goals (try conv => whnf)
  refine loop_rule (α := Nat × Nat) (fun p => p.1 ≤ got.length ∧ (mergeN sent got self room l p.1).1.length ≤ p.2) (fun p => { slots := [(0, .z 4 ((mergeN sent got self room l p.1).1.map deC) p.2), (1, .z 4 (got.map deC) cg), (2, .z 4 (sent.map deC) cs), (3, .v (.int .u8 self)), (4, .v (.int .i64 room)), (11, .v (.int .i64 (((mergeN sent got self room l p.1).2 : Nat) : Int))), (12, .v (.int .i64 (p.1 : Int)))], nt := 85, mem := ⟨GG, [], []⟩ }) (fun p => got.length - p.1) (0, cl) ⟨Nat.zero_le _, hcl⟩ ⟨⟨[], List.nodup_nil, GG_no, rfl, (SubOld.refl _ rfl), trivial, ⟨.inl rfl, .inl rfl, .inl rfl, .inl rfl, .inl rfl, .inl rfl, .inl rfl, trivial⟩⟩, rfl⟩ ?_ (fun _ => rfl)
  rintro ⟨k, c⟩ ⟨hk, hc⟩
  dsimp only at hk hc ⊢
  refine vc_sound (C := seat) seat_ok (pl := [(14, (.of [(0, .take), (1, .take), (3, .take), (4, .take), (5, .take), (2, .do_), (6, .do_), (7, .take), (8, .take), (9, .take), (10, .take)]))]) ?_
  obtain ⟨hVk, hfk, hat⟩ := mergeN_ok (sent := sent) (got := got) hV hf hgf k
  have hsucc : ∀ d, got[k]? = some d → mergeN sent got self room l (k + 1) = mergeS sent got self room d (mergeN sent got self room l k) := fun d hd => by rw [mergeN, hd]
  generalize hp : mergeN sent got self room l k = p at *
  obtain ⟨out, at_⟩ := p
  dsimp only at hVk hfk hat hc ⊢
  have hlk := hVk.len
  by_cases hlt : k < got.length
  · obtain ⟨d, hd⟩ : ∃ d, got[k]? = some d := ⟨_, List.getElem?_eq_getElem hlt⟩
    have hrow := zde_at hd
    have hdf := hgf d (List.mem_of_getElem? hd)
    have hdi := hgi d (List.mem_of_getElem? hd)
    have hnx := hsucc d hd
    unfold mergeS at hnx
    dsimp only at hnx
    cases hpt : (putP out d self room).2 with
    | true =>
      rw [if_pos hpt] at hnx
      repeat' ((try conv => whnf); first
        | (with_reducible refine OKv.go (C := seat) seat_ok ?_)
        | (with_reducible refine BB_true ?_)
        | (with_reducible refine BB_false ?_)
        | (with_reducible refine Both.mk ?_ ?_)
        | (with_reducible refine VS.mk ?_)
        | (refine PSem.go (C := seat) seat_ok ?_)
        | (refine And.intro (PlanOK.mk (by kernel_rfl) rfl (by kernel_rfl) (by kernel_rfl)) ?_)
        | (refine And.intro rfl (Exists.intro _ (And.intro (by first | assumption | rfl) ?_)))
        | (refine And.intro ⟨rfl, rfl, rfl⟩ ?_)
        | (refine call_ro [] (rput_zz out c (by omega) hVk.rising d _ (by simpa using hcaps.1) self room hfk hdf (putP out d self room).1 true (by rw [← hpt])) GG_no rfl rfl rfl trivial ?_; rintro r bs' ext ⟨⟨c1, hc1, rfl⟩, rfl⟩)
        | (refine And.intro ⟨by omega, by simp only [List.length_map]; omega⟩ (Exists.intro _ (And.intro (by first | assumption | rfl) ?_)))
        | (refine fun (caps : Nat → Nat) hcaps => ?_; conv at hcaps => whnf)
        | (refine BB.mk (fun _h => ?_) (fun _h => ?_) <;> (first | (exact absurd _h (by decide)) | (exfalso; simp only [boolSet] at _h <;> omega) | (simp only [boolSet] at _h) | skip))
        | (refine And.intro (by omega) ?_)
        | (refine BB.mk (fun _h => ?_) (fun _h => ?_) <;> (first | (exact absurd _h (by decide)) | (exfalso; simp only [boolSet] at _h <;> omega) | skip)))
      all_goals (try conv => whnf)
      exact ⟨(k + 1, c1), ⟨by dsimp only; omega, by dsimp only; rw [hnx]; exact hc1⟩, by dsimp only; omega, ⟨⟨[], by decide, GG_no, rfl, SubOld.refl _ rfl, trivial, ⟨.inl (by dsimp only; rw [hnx]; rfl), .inl rfl, .inl rfl, .inl rfl, .inl rfl, .inl (by dsimp only; rw [hnx]; rfl), .inl (num_eq (by rw [IntKind.wrap_i64]; omega)), trivial⟩⟩, rfl⟩⟩
    | false =>
      have he := put_false hpt
      rw [if_neg (by simp [hpt])] at hnx
      by_cases hst : d.node = self ∨ d.inc < 1 ∨ 0 ≤ findZ d.node out
      · rw [if_pos hst] at hnx
        repeat' ((try conv => whnf); first
          | (with_reducible refine OKv.go (C := seat) seat_ok ?_)
          | (with_reducible refine BB_true ?_)
          | (with_reducible refine BB_false ?_)
          | (with_reducible refine Both.mk ?_ ?_)
          | (with_reducible refine VS.mk ?_)
          | (refine PSem.go (C := seat) seat_ok ?_)
          | (refine And.intro (PlanOK.mk (by kernel_rfl) rfl (by kernel_rfl) (by kernel_rfl)) ?_)
          | (refine And.intro rfl (Exists.intro _ (And.intro (by first | assumption | rfl) ?_)))
          | (refine And.intro ⟨rfl, rfl, rfl⟩ ?_)
          | (refine call_ro [] (rput_zz out c (by omega) hVk.rising d _ (by simpa using hcaps.1) self room hfk hdf out false he) GG_no rfl rfl rfl trivial ?_; rintro r bs' ext ⟨⟨c1, hc1, rfl⟩, rfl⟩)
          | (refine call_ro [] (rfind_ok out c d.node (by omega) hVk.rising _ rfl) GG_no rfl rfl rfl trivial ?_; rintro r bs' ext ⟨rfl, rfl⟩)
          | (refine And.intro ⟨by omega, by simp only [List.length_map]; omega⟩ (Exists.intro _ (And.intro (by first | assumption | rfl) ?_)))
          | (refine fun (caps : Nat → Nat) hcaps => ?_; conv at hcaps => whnf)
          | (refine BB.mk (fun _h => ?_) (fun _h => ?_) <;> (first | (exact absurd _h (by decide)) | (exfalso; simp only [boolSet] at _h <;> omega) | (simp only [boolSet] at _h) | skip))
          | (refine And.intro (by omega) ?_)
          | (refine BB.mk (fun _h => ?_) (fun _h => ?_) <;> (first | (exact absurd _h (by decide)) | (exfalso; simp only [boolSet] at _h <;> omega) | skip)))
        all_goals (try conv => whnf)
        all_goals first
          | exact ⟨(k + 1, c), ⟨by dsimp only; omega, by dsimp only; rw [hnx]; exact hc⟩, by dsimp only; omega, ⟨⟨[], by decide, GG_no, rfl, SubOld.refl _ rfl, trivial, ⟨.inl (by dsimp only; rw [hnx]; rfl), .inl rfl, .inl rfl, .inl rfl, .inl rfl, .inl (by dsimp only; rw [hnx]; rfl), .inl (num_eq (by rw [IntKind.wrap_i64]; omega)), trivial⟩⟩, rfl⟩⟩
          | (exfalso; omega)
      · rw [if_neg hst] at hnx
        repeat' ((try conv => whnf); first
          | (with_reducible refine OKv.go (C := seat) seat_ok ?_)
          | (with_reducible refine BB_true ?_)
          | (with_reducible refine BB_false ?_)
          | (with_reducible refine Both.mk ?_ ?_)
          | (with_reducible refine VS.mk ?_)
          | (refine PSem.go (C := seat) seat_ok ?_)
          | (refine And.intro (PlanOK.mk (by kernel_rfl) rfl (by kernel_rfl) (by kernel_rfl)) ?_)
          | (refine And.intro rfl (Exists.intro _ (And.intro (by first | assumption | rfl) ?_)))
          | (refine And.intro ⟨rfl, rfl, rfl⟩ ?_)
          | (refine call_ro [] (rput_zz out c (by omega) hVk.rising d _ (by simpa using hcaps.1) self room hfk hdf out false he) GG_no rfl rfl rfl trivial ?_; rintro r bs' ext ⟨⟨c1, hc1, rfl⟩, rfl⟩)
          | (refine call_ro [] (rfind_ok out c d.node (by omega) hVk.rising _ rfl) GG_no rfl rfl rfl trivial ?_; rintro r bs' ext ⟨rfl, rfl⟩)
          | (refine And.intro ⟨by omega, by simp only [List.length_map]; omega⟩ (Exists.intro _ (And.intro (by first | assumption | rfl) ?_)))
          | (refine fun (caps : Nat → Nat) hcaps => ?_; conv at hcaps => whnf)
          | (refine BB.mk (fun _h => ?_) (fun _h => ?_) <;> (first | (exact absurd _h (by decide)) | (exfalso; simp only [boolSet] at _h <;> omega) | (simp only [boolSet] at _h) | skip))
          | (refine And.intro (by omega) ?_)
          | (refine BB.mk (fun _h => ?_) (fun _h => ?_) <;> (first | (exact absurd _h (by decide)) | (exfalso; simp only [boolSet] at _h <;> omega) | skip)))
        all_goals (try conv => whnf)
        all_goals (try (exfalso; omega))
        refine loop_rule (α := Nat × Nat) (fun q => q.1 ≤ sent.length ∧ q.1 + (giveL got out (sent.drop q.1)).1 = at_ + (giveL got out (sent.drop at_)).1 ∧ (giveL got out (sent.drop q.1)).2 = (giveL got out (sent.drop at_)).2 ∧ d.fl.length ≤ q.2) (fun q => { slots := [(0, .z 4 (out.map deC) c), (1, .z 4 (got.map deC) cg), (2, .z 4 (sent.map deC) cs), (3, .v (.int .u8 self)), (4, .v (.int .i64 room)), (11, .v (.int .i64 (q.1 : Int))), (12, .v (.int .i64 (k : Int))), (13, .p (.n 0) 0 0 0)], nt := 85, mem := ⟨GG, [], [.box 34 [.v (.int .u8 d.node), .v (.int .u16 d.inc), .v (.int .u8 d.age), .z 2 (d.fl.map spC) q.2]]⟩ }) (fun q => sent.length - q.1) (at_, _) ⟨hat, rfl, rfl, by simpa using hcaps.1⟩ ⟨⟨[0], (by decide), GG_no, rfl, (SubOld.refl _ rfl), ⟨rfl, trivial⟩, ⟨.inl rfl, .inl rfl, .inl rfl, .inl rfl, .inl rfl, .inl rfl, .inl rfl, .inl rfl, trivial⟩⟩, rfl⟩ ?_ (fun _ => rfl)
        rintro ⟨g, cx⟩ ⟨hg1, hg2, hg3, hcx⟩
        dsimp only at hg1 hg2 hg3 hcx ⊢
        refine vc_sound (C := seat) seat_ok (pl := [(14, (.of [(0, .take), (1, .take), (3, .take), (4, .take), (5, .take), (2, .do_), (6, .do_), (7, .take), (8, .take), (9, .take), (10, .take)]))]) ?_
        by_cases hgl : g < sent.length
        · obtain ⟨s, hs1⟩ : ∃ s, sent[g]? = some s := ⟨_, List.getElem?_eq_getElem hgl⟩
          have hrows := zde_at hs1
          have hcons : sent.drop g = s :: sent.drop (g + 1) := by
            rw [List.drop_eq_getElem_cons hgl]
            congr 1
            rw [List.getElem?_eq_getElem hgl] at hs1
            exact Option.some.inj hs1
          have hstep := giveL_cons (got := got) (l := out) (r := sent.drop (g + 1)) (s := s)
          rw [← hcons] at hstep
          by_cases hgv : 0 ≤ findZ s.node out ∧ hasN got s.node = false
          · rw [if_pos hgv] at hstep
            obtain ⟨hgv1, hgv2⟩ := hgv
            rw [hstep] at hg2 hg3
            dsimp only at hg2 hg3
            have hgg : giveL got out (sent.drop at_) = ((giveL got out (sent.drop at_)).1, some s) := Prod.ext rfl hg3.symm
            rw [hgg] at hnx
            dsimp only at hnx
            have he2 : putP (dropL s.node out) d self room = ((putP (dropL s.node out) d self room).1, (putP (dropL s.node out) d self room).2) := rfl
            generalize hnp : (putP (dropL s.node out) d self room).1 = no at *
            repeat' ((try conv => whnf); first
              | (with_reducible refine OKv.go (C := seat) seat_ok ?_)
              | (with_reducible refine BB_true ?_)
              | (with_reducible refine BB_false ?_)
              | (with_reducible refine Both.mk ?_ ?_)
              | (with_reducible refine VS.mk ?_)
              | (refine PSem.go (C := seat) seat_ok ?_)
              | (refine And.intro (PlanOK.mk (by kernel_rfl) rfl (by kernel_rfl) (by kernel_rfl)) ?_)
              | (refine And.intro rfl (Exists.intro _ (And.intro (by first | assumption | rfl) ?_)))
              | (refine And.intro ⟨rfl, rfl, rfl⟩ ?_)
              | (refine call_ro [] (rfind_ok out c s.node (by omega) hVk.rising _ rfl) GG_no rfl rfl rfl trivial ?_; rintro r bs' ext ⟨rfl, rfl⟩)
              | (refine call_ro [] (rfindany_ok got cg s.node (by omega)) GG_no rfl rfl rfl trivial ?_; rintro r bs' ext ⟨⟨z, rfl, hz1, hz2⟩, rfl⟩)
              | (refine call_ro [] (rdrop_ok out c s.node (by omega) hVk.rising _ rfl) GG_no rfl rfl rfl trivial ?_; rintro r bs' ext ⟨⟨c2, hc2, rfl⟩, rfl⟩)
              | (refine call_ro [] (rput_zz (dropL s.node out) c2 (Nat.le_trans drop_len (by omega)) (drop_rising hVk.rising) d cx hcx self room (fun z hz => hfk z (drop_mem hz)) hdf no _ he2) GG_no rfl rfl rfl trivial ?_; rintro r bs' ext ⟨⟨c3, hc3, rfl⟩, rfl⟩)
              | (refine And.intro ⟨by omega, by simp only [List.length_map]; omega⟩ (Exists.intro _ (And.intro (by first | assumption | rfl) ?_)))
              | (refine BB.mk (fun _h => ?_) (fun _h => ?_) <;> (first | (exact absurd _h (by decide)) | (exfalso; simp only [boolSet] at _h <;> omega) | (simp only [boolSet] at _h) | skip))
              | (refine And.intro (by omega) ?_)
              | (refine BB.mk (fun _h => ?_) (fun _h => ?_) <;> (first | (exact absurd _h (by decide)) | (exfalso; simp only [boolSet] at _h <;> omega) | skip)))
            all_goals (try conv => whnf)
            all_goals first
              | exact ⟨(k + 1, c3), ⟨by dsimp only; omega, by dsimp only; rw [hnx]; exact hc3⟩, by dsimp only; omega, ⟨⟨[], by decide, GG_no, rfl, SubOld.refl _ rfl, trivial, ⟨.inl (by dsimp only; rw [hnx]; rfl), .inl rfl, .inl rfl, .inl rfl, .inl rfl, .inl (num_eq (by dsimp only; rw [hnx]; dsimp only; rw [IntKind.wrap_i64]; omega)), .inl (num_eq (by rw [IntKind.wrap_i64]; omega)), trivial⟩⟩, rfl⟩⟩
              | (exfalso; have := hasN_dec hz1 hz2; rw [hgv2] at this; simp only [true_iff, iff_true, false_iff] at this; omega)
          · rw [if_neg hgv] at hstep
            rw [hstep] at hg2 hg3
            dsimp only at hg2 hg3
            repeat' ((try conv => whnf); first
              | (with_reducible refine OKv.go (C := seat) seat_ok ?_)
              | (with_reducible refine BB_true ?_)
              | (with_reducible refine BB_false ?_)
              | (with_reducible refine Both.mk ?_ ?_)
              | (with_reducible refine VS.mk ?_)
              | (refine PSem.go (C := seat) seat_ok ?_)
              | (refine And.intro (PlanOK.mk (by kernel_rfl) rfl (by kernel_rfl) (by kernel_rfl)) ?_)
              | (refine And.intro rfl (Exists.intro _ (And.intro (by first | assumption | rfl) ?_)))
              | (refine And.intro ⟨rfl, rfl, rfl⟩ ?_)
              | (refine call_ro [] (rfind_ok out c s.node (by omega) hVk.rising _ rfl) GG_no rfl rfl rfl trivial ?_; rintro r bs' ext ⟨rfl, rfl⟩)
              | (refine call_ro [] (rfindany_ok got cg s.node (by omega)) GG_no rfl rfl rfl trivial ?_; rintro r bs' ext ⟨⟨z, rfl, hz1, hz2⟩, rfl⟩)
              | (refine And.intro ⟨by omega, by simp only [List.length_map]; omega⟩ (Exists.intro _ (And.intro (by first | assumption | rfl) ?_)))
              | (refine BB.mk (fun _h => ?_) (fun _h => ?_) <;> (first | (exact absurd _h (by decide)) | (exfalso; simp only [boolSet] at _h <;> omega) | (simp only [boolSet] at _h) | skip))
              | (refine And.intro (by omega) ?_)
              | (refine BB.mk (fun _h => ?_) (fun _h => ?_) <;> (first | (exact absurd _h (by decide)) | (exfalso; simp only [boolSet] at _h <;> omega) | skip)))
            all_goals (try conv => whnf)
            all_goals first
              | exact ⟨(g + 1, cx), ⟨by dsimp only; omega, by dsimp only; omega, hg3, hcx⟩, by dsimp only; omega, ⟨⟨[0], by decide, GG_no, rfl, SubOld.refl _ rfl, ⟨rfl, trivial⟩, ⟨.inl rfl, .inl rfl, .inl rfl, .inl rfl, .inl rfl, .inl (num_eq (by rw [IntKind.wrap_i64]; omega)), .inl rfl, .inl rfl, trivial⟩⟩, rfl⟩⟩
              | (exfalso; apply hgv; have := hasN_dec hz1 hz2; refine ⟨by omega, ?_⟩; rw [this.1]; omega)
        · obtain rfl : g = sent.length := by omega
          rw [List.drop_length] at hg2 hg3
          simp only [giveL] at hg2 hg3
          have hgg : giveL got out (sent.drop at_) = ((giveL got out (sent.drop at_)).1, none) := Prod.ext rfl hg3.symm
          rw [hgg] at hnx
          dsimp only at hnx
          repeat' ((try conv => whnf); first
            | (with_reducible refine OKv.go (C := seat) seat_ok ?_)
            | (with_reducible refine BB_true ?_)
            | (with_reducible refine BB_false ?_)
            | (with_reducible refine Both.mk ?_ ?_)
            | (with_reducible refine VS.mk ?_)
            | (refine PSem.go (C := seat) seat_ok ?_)
            | (refine And.intro (PlanOK.mk (by kernel_rfl) rfl (by kernel_rfl) (by kernel_rfl)) ?_)
            | (refine And.intro rfl (Exists.intro _ (And.intro (by first | assumption | rfl) ?_)))
            | (refine And.intro ⟨rfl, rfl, rfl⟩ ?_)
            | (refine BB.mk (fun _h => ?_) (fun _h => ?_) <;> (first | (exact absurd _h (by decide)) | (exfalso; simp only [boolSet] at _h <;> omega) | (simp only [boolSet] at _h) | skip))
            | (refine And.intro (by omega) ?_)
            | (refine BB.mk (fun _h => ?_) (fun _h => ?_) <;> (first | (exact absurd _h (by decide)) | (exfalso; simp only [boolSet] at _h <;> omega) | skip)))
          all_goals (try conv => whnf)
          exact ⟨(k + 1, c), ⟨by dsimp only; omega, by dsimp only; rw [hnx]; exact hc⟩, by dsimp only; omega, ⟨⟨[], by decide, GG_no, rfl, SubOld.refl _ rfl, trivial, ⟨.inl (by dsimp only; rw [hnx]; rfl), .inl rfl, .inl rfl, .inl rfl, .inl rfl, .inl (num_eq (by dsimp only; rw [hnx]; dsimp only; omega)), .inl (num_eq (by rw [IntKind.wrap_i64]; omega)), trivial⟩⟩, rfl⟩⟩
  · obtain rfl : k = got.length := by omega
    repeat' ((try conv => whnf); first
      | (with_reducible refine OKv.go (C := seat) seat_ok ?_)
      | (with_reducible refine BB_true ?_)
      | (with_reducible refine BB_false ?_)
      | (with_reducible refine Both.mk ?_ ?_)
      | (with_reducible refine VS.mk ?_)
      | (refine PSem.go (C := seat) seat_ok ?_)
      | (refine And.intro (PlanOK.mk (by kernel_rfl) rfl (by kernel_rfl) (by kernel_rfl)) ?_)
      | (refine And.intro rfl (Exists.intro _ (And.intro (by first | assumption | rfl) ?_)))
      | (refine And.intro ⟨rfl, rfl, rfl⟩ ?_)
      | (refine BB.mk (fun _h => ?_) (fun _h => ?_) <;> (first | (exact absurd _h (by decide)) | (exfalso; simp only [boolSet] at _h <;> omega) | (simp only [boolSet] at _h) | skip))
      | (refine And.intro (by omega) ?_)
      | (refine BB.mk (fun _h => ?_) (fun _h => ?_) <;> (first | (exact absurd _h (by decide)) | (exfalso; simp only [boolSet] at _h <;> omega) | skip)))
    all_goals (try conv => whnf)
    exact ⟨_, _, FrzV.refl _ _, rfl, rfl, fun _ => rfl, c, (by rw [hp]; exact hc), (by rw [hp])⟩
end Go.Proofs.Ytccegmbklgmgnaa

namespace Go.Proofs.Ytccegmbklgmgnaa
open Go.RowKit

set_option maxRecDepth 100000 in
set_option maxHeartbeats 4000000 in
theorem anew_ok (l : List De) (cap : Nat) (hl : l.length ≤ 1099511627776) (hf : FlOk l) : FnOK Try.prog GG 11 [] [.z 4 (l.map deC) cap] (fun r _ ext => (∃ c', l.length ≤ c' ∧ r = .z 4 (l.map deC) c') ∧ ext = []) := by
  have hlm : (l.map deC).length = l.length := List.length_map _
  refine FnOK.pure GG_no rfl (fn_intro (C := seat) seat_ok [] GG_no (Try.func11) rfl rfl rfl rfl rfl ?_)
  repeat' ((try conv => whnf); first
    | (with_reducible refine OKv.go (C := seat) seat_ok ?_)
    | (with_reducible refine BB_true ?_)
    | (with_reducible refine BB_false ?_)
    | (with_reducible refine Both.mk ?_ ?_)
    | (with_reducible refine VS.mk ?_)
    | (refine PSem.go (C := seat) seat_ok ?_)
    | (refine And.intro (PlanOK.mk (by kernel_rfl) rfl (by kernel_rfl) (by kernel_rfl)) ?_)
    | (refine And.intro rfl (Exists.intro _ (And.intro (by first | assumption | rfl) ?_)))
    | (refine And.intro ⟨rfl, rfl, rfl⟩ ?_)
    | (refine And.intro (by omega) ?_)
    | (refine BB.mk (fun _h => ?_) (fun _h => ?_) <;> (first | (exact absurd _h (by decide)) | (exfalso; simp only [boolSet] at _h <;> omega) | skip)))
  all_goals (try conv => whnf)
  refine loop_rule (α := Nat × Nat) (fun p => p.1 ≤ l.length ∧ p.1 ≤ p.2) (fun p => { slots := [(3, .s (.n 0) 4 0 p.1 p.2), (6, .z 4 (l.map deC) cap), (7, .v (.int .i64 (l.map deC).length)), (8, .v (.int .i64 (p.1 : Int)))], nt := 23, mem := ⟨GG, [], [.row 34 4 p.2 ((l.take p.1).map deC)]⟩ }) (fun p => l.length - p.1) (0, 0) ⟨Nat.zero_le _, Nat.zero_le _⟩ ⟨⟨[0], (by decide), GG_no, rfl, (SubOld.refl _ rfl), ⟨.inl (.inl ⟨rfl, rfl⟩), trivial⟩, ⟨.inr (.inl ⟨_, _, _, rfl, rfl⟩), .inl rfl, .inl rfl, .inl rfl, trivial⟩⟩, rfl⟩ ?_ (fun _ => rfl)
  rintro ⟨k, c⟩ ⟨hk, hc⟩
  dsimp only at hk hc ⊢
  refine vc_sound (C := seat) seat_ok (pl := []) ?_
  by_cases hlt : k < l.length
  · obtain ⟨y, hy⟩ : ∃ y, l[k]? = some y := ⟨_, List.getElem?_eq_getElem hlt⟩
    have hrow := zde_at hy
    have hfy := hf y (List.mem_of_getElem? hy)
    have htk : ((l.take k).map deC).length = k := by rw [List.length_map, List.length_take]; omega
    have hym : (y.fl.map spC).length = y.fl.length := List.length_map _
    repeat' ((try conv => whnf); first
      | (with_reducible refine OKv.go (C := seat) seat_ok ?_)
      | (with_reducible refine BB_true ?_)
      | (with_reducible refine BB_false ?_)
      | (with_reducible refine Both.mk ?_ ?_)
      | (with_reducible refine VS.mk ?_)
      | (refine PSem.go (C := seat) seat_ok ?_)
      | (refine And.intro (PlanOK.mk (by kernel_rfl) rfl (by kernel_rfl) (by kernel_rfl)) ?_)
      | (refine And.intro rfl (Exists.intro _ (And.intro (by first | assumption | rfl) ?_)))
      | (refine And.intro ⟨rfl, rfl, rfl⟩ ?_)
      | (refine And.intro ⟨by omega, by simp only [List.length_map]; omega⟩ (Exists.intro _ (And.intro (by first | assumption | rfl) ?_)))
      | (refine fun (caps : Nat → Nat) hcaps => ?_; conv at hcaps => whnf)
      | (refine And.intro ⟨rfl, rfl, rfl, by first | (simp only [chunks_len, List.length_map, List.length_take, List.length_drop, List.length_append, List.length_cons, List.length_nil] <;> omega) | omega | rfl⟩ ?_)
      | (refine And.intro ⟨rfl, by first | (simp only [chunks_len, List.length_map, List.length_take, List.length_drop, List.length_append, List.length_cons, List.length_nil] <;> omega) | omega | rfl⟩ ?_)
      | (refine And.intro (by first | exact ⟨rfl, Nat.le_refl _⟩ | first | (simp only [chunks_len, List.length_map, List.length_take, List.length_drop, List.length_append, List.length_cons, List.length_nil] <;> omega) | omega | rfl) ?_)
      | (refine fun (caps : Nat → Nat) hcaps => ?_; conv at hcaps => whnf)
      | (refine fun (cap' : Nat) hcap' => ?_)
      | (refine And.intro (by omega) ?_)
      | (refine BB.mk (fun _h => ?_) (fun _h => ?_) <;> (first | (exact absurd _h (by decide)) | (exfalso; simp only [boolSet] at _h <;> omega) | skip)))
    all_goals (try conv => whnf)
    refine ⟨(k + 1, cap'), ⟨by dsimp only; omega, by dsimp only; omega⟩, by dsimp only; omega, ⟨⟨[5], by decide, GG_no, rfl, SubOld.refl _ rfl, ⟨.inr (.inl ?_), trivial⟩, ⟨.inl ?_, .inl rfl, .inl rfl, .inl (num_eq (by rw [IntKind.wrap_i64]; omega)), trivial⟩⟩, rfl⟩⟩
    · dsimp only
      rw [map_take_in hy]
      have e : List.take (0 + (y.fl.map spC).length) (List.drop 0 ([] ++ y.fl.map spC)) = y.fl.map spC := by simp [List.take_of_length_le]
      show some (SB.row _ 4 cap' ((l.take k).map deC ++ [[.v (.int .u8 y.node), .v (.int .u16 y.inc), .v (.int .u8 y.age), .z 2 (List.take (0 + (y.fl.map spC).length) (List.drop 0 ([] ++ y.fl.map spC)))]])) = _
      rw [e]
      rfl
    · rfl
  · have hs : l.take k = l := List.take_of_length_le (by omega)
    obtain rfl : k = l.length := by omega
    repeat' ((try conv => whnf); first
      | (with_reducible refine OKv.go (C := seat) seat_ok ?_)
      | (with_reducible refine BB_true ?_)
      | (with_reducible refine BB_false ?_)
      | (with_reducible refine Both.mk ?_ ?_)
      | (with_reducible refine VS.mk ?_)
      | (refine PSem.go (C := seat) seat_ok ?_)
      | (refine And.intro (PlanOK.mk (by kernel_rfl) rfl (by kernel_rfl) (by kernel_rfl)) ?_)
      | (refine And.intro rfl (Exists.intro _ (And.intro (by first | assumption | rfl) ?_)))
      | (refine And.intro ⟨rfl, rfl, rfl⟩ ?_)
      | (refine BB.mk (fun _h => ?_) (fun _h => ?_) <;> (first | (exact absurd _h (by decide)) | (exfalso; simp only [boolSet] at _h <;> omega) | (simp only [boolSet] at _h) | skip))
      | (refine And.intro (by omega) ?_)
      | (refine BB.mk (fun _h => ?_) (fun _h => ?_) <;> (first | (exact absurd _h (by decide)) | (exfalso; simp only [boolSet] at _h <;> omega) | skip)))
    all_goals (try conv => whnf)
    exact ⟨_, _, frz_row rfl (by rw [List.length_map, hs]), rfl, rfl, fun _ => rfl, c, hc, (by rw [hs])⟩
theorem rmerge_eq (l got sent : List De) (cl cg cs : Nat) (self room N : Int) (hN : room = N) (hcl : l.length ≤ cl) (hV : VOk self N l) (hrm : N ≤ 1000) (hf : FlOk l) (hgf : FlOk got) (hgi : ∀ y ∈ got, 0 ≤ y.inc) (hg : got.length ≤ 1099511627776) (hs : sent.length ≤ 1099511627776) (o : List De) (ho : (mergeN sent got self N l got.length).1 = o) : FnOK Try.prog GG 18 [] [.z 4 (l.map deC) cl, .z 4 (got.map deC) cg, .z 4 (sent.map deC) cs, .v (.int .u8 self), .v (.int .i64 room)] (fun r _ ext => (∃ c', o.length ≤ c' ∧ r = .z 4 (o.map deC) c') ∧ ext = []) := by
  subst hN; subst ho
  exact rmerge_ok l got sent cl cg cs self room hcl hV hrm hf hgf hgi hg hs
theorem rask_eq (l : List De) (cl : Nat) (d : De) (cd : Nat) (many : Int) (draws : List Int) (cr : Nat) (hl : l.length ≤ 20) (hf : FlOk l) (hd : d.fl.length ≤ 1099511627776) (hdl : draws.length ≤ 1000) (hdr : ∀ y ∈ draws, 0 ≤ y ∧ y ≤ 4294967295) (hr : Rising l) (hag : ∀ y ∈ l, 0 ≤ y.age ∧ y.age ≤ 255) (hm : 1 ≤ many ∧ many ≤ 9223372036854775807) (a : Nat) (y : De) (ha : oldAt l l.length = some a) (hy : l[a]? = some y) (o : List De) (ho : askL l d y many draws = o) : FnOK Try.prog GG 13 [] [.z 4 (l.map deC) cl, deS d cd, .v (.int .i64 many), .z 1 (draws.map u4C) cr] (fun r _ ext => (∃ c', o.length ≤ c' ∧ r = .tup [.v (.int .u8 y.node), .z 4 (o.map deC) c', .v (.bool true)]) ∧ ext = []) := by
  subst ho
  exact rask_ok l cl d cd many draws cr hl hf hd hdl hdr hr hag hm a y ha hy
set_option maxRecDepth 100000 in
set_option maxHeartbeats 4000000 in
theorem ctFew1 (l got sent : List De) (cl cg cs : Nat) (self not_ room many : Int) (draws : List Int) (cr : Nat) (hl : l.length ≤ 9223372036854775807) (hgl : got.length ≤ 9223372036854775807) (hsl : sent.length ≤ 9223372036854775807) (hdl : draws.length ≤ 9223372036854775807) (hok : ∀ y ∈ l, DeOk y) (hgok : ∀ y ∈ got, DeOk y) (hdr : ∀ y ∈ draws, 0 ≤ y ∧ y ≤ 4294967295) (hrm : 0 ≤ room ∧ room ≤ 255) (hmm : -9223372036854775808 ≤ many ∧ many ≤ 9223372036854775807) (h1 : (l.all (fun d => decide (d.fl.length ≤ 8)) && decide (l.length ≤ 20)) = false) : FnOK Try.prog GG 3 [] [.z 4 (l.map deC) cl, .z 4 (got.map deC) cg, .z 4 (sent.map deC) cs, .v (.int .u8 self), .v (.int .u8 not_), .v (.int .u8 room), .v (.int .i64 many), .z 1 (draws.map u4C) cr] (fun r _ ext => (r = .v (.bool true)) ∧ ext = []) := by
  refine FnOK.pure GG_no rfl (fn_intro (C := seat) seat_ok [] GG_no (Try.func3) rfl rfl rfl rfl rfl ?_)
  repeat' ((try conv => whnf); first
    | (with_reducible refine OKv.go (C := seat) seat_ok ?_)
    | (with_reducible refine BB_true ?_)
    | (with_reducible refine BB_false ?_)
    | (with_reducible refine Both.mk ?_ ?_)
    | (with_reducible refine VS.mk ?_)
    | (refine PSem.go (C := seat) seat_ok ?_)
    | (refine And.intro (PlanOK.mk (by kernel_rfl) rfl (by kernel_rfl) (by kernel_rfl)) ?_)
    | (refine And.intro rfl (Exists.intro _ (And.intro (by first | assumption | rfl) ?_)))
    | (refine And.intro ⟨rfl, rfl, rfl⟩ ?_)
    | (refine call_ro [] (few_zz l cl _ hl h1) GG_no rfl rfl rfl trivial ?_; rintro r bs' ext ⟨rfl, rfl⟩)
    | (refine call_ro [] (awake_ok) GG_no rfl rfl rfl trivial ?_; rintro r bs' ext ⟨rfl, rfl⟩)
    | (refine And.intro (by omega) ?_)
    | (refine BB.mk (fun _h => ?_) (fun _h => ?_) <;> (first | (exact absurd _h (by decide)) | (exfalso; simp only [boolSet] at _h <;> omega) | skip)))
  all_goals (try conv => whnf)
  exact ⟨_, _, FrzV.refl _ _, rfl, rfl, fun _ => rfl, rfl⟩
set_option maxRecDepth 100000 in
set_option maxHeartbeats 4000000 in
theorem ctFew2 (l got sent : List De) (cl cg cs : Nat) (self not_ room many : Int) (draws : List Int) (cr : Nat) (hl : l.length ≤ 9223372036854775807) (hgl : got.length ≤ 9223372036854775807) (hsl : sent.length ≤ 9223372036854775807) (hdl : draws.length ≤ 9223372036854775807) (hok : ∀ y ∈ l, DeOk y) (hgok : ∀ y ∈ got, DeOk y) (hdr : ∀ y ∈ draws, 0 ≤ y ∧ y ≤ 4294967295) (hrm : 0 ≤ room ∧ room ≤ 255) (hmm : -9223372036854775808 ≤ many ∧ many ≤ 9223372036854775807) (h1 : (l.all (fun d => decide (d.fl.length ≤ 8)) && decide (l.length ≤ 20)) = true) (h2 : (got.all (fun d => decide (d.fl.length ≤ 8)) && decide (got.length ≤ 20)) = false) : FnOK Try.prog GG 3 [] [.z 4 (l.map deC) cl, .z 4 (got.map deC) cg, .z 4 (sent.map deC) cs, .v (.int .u8 self), .v (.int .u8 not_), .v (.int .u8 room), .v (.int .i64 many), .z 1 (draws.map u4C) cr] (fun r _ ext => (r = .v (.bool true)) ∧ ext = []) := by
  refine FnOK.pure GG_no rfl (fn_intro (C := seat) seat_ok [] GG_no (Try.func3) rfl rfl rfl rfl rfl ?_)
  repeat' ((try conv => whnf); first
    | (with_reducible refine OKv.go (C := seat) seat_ok ?_)
    | (with_reducible refine BB_true ?_)
    | (with_reducible refine BB_false ?_)
    | (with_reducible refine Both.mk ?_ ?_)
    | (with_reducible refine VS.mk ?_)
    | (refine PSem.go (C := seat) seat_ok ?_)
    | (refine And.intro (PlanOK.mk (by kernel_rfl) rfl (by kernel_rfl) (by kernel_rfl)) ?_)
    | (refine And.intro rfl (Exists.intro _ (And.intro (by first | assumption | rfl) ?_)))
    | (refine And.intro ⟨rfl, rfl, rfl⟩ ?_)
    | (refine call_ro [] (few_zz l cl _ hl h1) GG_no rfl rfl rfl trivial ?_; rintro r bs' ext ⟨rfl, rfl⟩)
    | (refine call_ro [] (few_zz got cg _ hgl h2) GG_no rfl rfl rfl trivial ?_; rintro r bs' ext ⟨rfl, rfl⟩)
    | (refine call_ro [] (awake_ok) GG_no rfl rfl rfl trivial ?_; rintro r bs' ext ⟨rfl, rfl⟩)
    | (refine And.intro (by omega) ?_)
    | (refine BB.mk (fun _h => ?_) (fun _h => ?_) <;> (first | (exact absurd _h (by decide)) | (exfalso; simp only [boolSet] at _h <;> omega) | skip)))
  all_goals (try conv => whnf)
  exact ⟨_, _, FrzV.refl _ _, rfl, rfl, fun _ => rfl, rfl⟩
set_option maxRecDepth 100000 in
set_option maxHeartbeats 4000000 in
theorem ctFew3 (l got sent : List De) (cl cg cs : Nat) (self not_ room many : Int) (draws : List Int) (cr : Nat) (hl : l.length ≤ 9223372036854775807) (hgl : got.length ≤ 9223372036854775807) (hsl : sent.length ≤ 9223372036854775807) (hdl : draws.length ≤ 9223372036854775807) (hok : ∀ y ∈ l, DeOk y) (hgok : ∀ y ∈ got, DeOk y) (hdr : ∀ y ∈ draws, 0 ≤ y ∧ y ≤ 4294967295) (hrm : 0 ≤ room ∧ room ≤ 255) (hmm : -9223372036854775808 ≤ many ∧ many ≤ 9223372036854775807) (h1 : (l.all (fun d => decide (d.fl.length ≤ 8)) && decide (l.length ≤ 20)) = true) (h2 : (got.all (fun d => decide (d.fl.length ≤ 8)) && decide (got.length ≤ 20)) = true) (h3 : (sent.all (fun d => decide (d.fl.length ≤ 8)) && decide (sent.length ≤ 20)) = false) : FnOK Try.prog GG 3 [] [.z 4 (l.map deC) cl, .z 4 (got.map deC) cg, .z 4 (sent.map deC) cs, .v (.int .u8 self), .v (.int .u8 not_), .v (.int .u8 room), .v (.int .i64 many), .z 1 (draws.map u4C) cr] (fun r _ ext => (r = .v (.bool true)) ∧ ext = []) := by
  refine FnOK.pure GG_no rfl (fn_intro (C := seat) seat_ok [] GG_no (Try.func3) rfl rfl rfl rfl rfl ?_)
  repeat' ((try conv => whnf); first
    | (with_reducible refine OKv.go (C := seat) seat_ok ?_)
    | (with_reducible refine BB_true ?_)
    | (with_reducible refine BB_false ?_)
    | (with_reducible refine Both.mk ?_ ?_)
    | (with_reducible refine VS.mk ?_)
    | (refine PSem.go (C := seat) seat_ok ?_)
    | (refine And.intro (PlanOK.mk (by kernel_rfl) rfl (by kernel_rfl) (by kernel_rfl)) ?_)
    | (refine And.intro rfl (Exists.intro _ (And.intro (by first | assumption | rfl) ?_)))
    | (refine And.intro ⟨rfl, rfl, rfl⟩ ?_)
    | (refine call_ro [] (few_zz l cl _ hl h1) GG_no rfl rfl rfl trivial ?_; rintro r bs' ext ⟨rfl, rfl⟩)
    | (refine call_ro [] (few_zz got cg _ hgl h2) GG_no rfl rfl rfl trivial ?_; rintro r bs' ext ⟨rfl, rfl⟩)
    | (refine call_ro [] (few_zz sent cs _ hsl h3) GG_no rfl rfl rfl trivial ?_; rintro r bs' ext ⟨rfl, rfl⟩)
    | (refine call_ro [] (awake_ok) GG_no rfl rfl rfl trivial ?_; rintro r bs' ext ⟨rfl, rfl⟩)
    | (refine And.intro (by omega) ?_)
    | (refine BB.mk (fun _h => ?_) (fun _h => ?_) <;> (first | (exact absurd _h (by decide)) | (exfalso; simp only [boolSet] at _h <;> omega) | skip)))
  all_goals (try conv => whnf)
  exact ⟨_, _, FrzV.refl _ _, rfl, rfl, fun _ => rfl, rfl⟩
set_option maxRecDepth 100000 in
set_option maxHeartbeats 4000000 in
theorem ctFew4 (l got sent : List De) (cl cg cs : Nat) (self not_ room many : Int) (draws : List Int) (cr : Nat) (hl : l.length ≤ 9223372036854775807) (hgl : got.length ≤ 9223372036854775807) (hsl : sent.length ≤ 9223372036854775807) (hdl : draws.length ≤ 9223372036854775807) (hok : ∀ y ∈ l, DeOk y) (hgok : ∀ y ∈ got, DeOk y) (hdr : ∀ y ∈ draws, 0 ≤ y ∧ y ≤ 4294967295) (hrm : 0 ≤ room ∧ room ≤ 255) (hmm : -9223372036854775808 ≤ many ∧ many ≤ 9223372036854775807) (h1 : (l.all (fun d => decide (d.fl.length ≤ 8)) && decide (l.length ≤ 20)) = true) (h2 : (got.all (fun d => decide (d.fl.length ≤ 8)) && decide (got.length ≤ 20)) = true) (h3 : (sent.all (fun d => decide (d.fl.length ≤ 8)) && decide (sent.length ≤ 20)) = true) (h4 : 30 < draws.length) : FnOK Try.prog GG 3 [] [.z 4 (l.map deC) cl, .z 4 (got.map deC) cg, .z 4 (sent.map deC) cs, .v (.int .u8 self), .v (.int .u8 not_), .v (.int .u8 room), .v (.int .i64 many), .z 1 (draws.map u4C) cr] (fun r _ ext => (r = .v (.bool true)) ∧ ext = []) := by
  have hdm : (draws.map u4C).length = draws.length := List.length_map _
  refine FnOK.pure GG_no rfl (fn_intro (C := seat) seat_ok [] GG_no (Try.func3) rfl rfl rfl rfl rfl ?_)
  repeat' ((try conv => whnf); first
    | (with_reducible refine OKv.go (C := seat) seat_ok ?_)
    | (with_reducible refine BB_true ?_)
    | (with_reducible refine BB_false ?_)
    | (with_reducible refine Both.mk ?_ ?_)
    | (with_reducible refine VS.mk ?_)
    | (refine PSem.go (C := seat) seat_ok ?_)
    | (refine And.intro (PlanOK.mk (by kernel_rfl) rfl (by kernel_rfl) (by kernel_rfl)) ?_)
    | (refine And.intro rfl (Exists.intro _ (And.intro (by first | assumption | rfl) ?_)))
    | (refine And.intro ⟨rfl, rfl, rfl⟩ ?_)
    | (refine call_ro [] (few_zz l cl _ hl h1) GG_no rfl rfl rfl trivial ?_; rintro r bs' ext ⟨rfl, rfl⟩)
    | (refine call_ro [] (few_zz got cg _ hgl h2) GG_no rfl rfl rfl trivial ?_; rintro r bs' ext ⟨rfl, rfl⟩)
    | (refine call_ro [] (few_zz sent cs _ hsl h3) GG_no rfl rfl rfl trivial ?_; rintro r bs' ext ⟨rfl, rfl⟩)
    | (refine call_ro [] (awake_ok) GG_no rfl rfl rfl trivial ?_; rintro r bs' ext ⟨rfl, rfl⟩)
    | (refine BB.mk (fun _h => ?_) (fun _h => ?_) <;> (first | (exact absurd _h (by decide)) | (exfalso; simp only [boolSet] at _h <;> omega) | (simp only [boolSet] at _h) | skip))
    | (refine And.intro (by omega) ?_)
    | (refine BB.mk (fun _h => ?_) (fun _h => ?_) <;> (first | (exact absurd _h (by decide)) | (exfalso; simp only [boolSet] at _h <;> omega) | skip)))
  all_goals (try conv => whnf)
  all_goals exact ⟨_, _, FrzV.refl _ _, rfl, rfl, fun _ => rfl, rfl⟩
set_option maxRecDepth 100000 in
set_option maxHeartbeats 4000000 in
theorem ctNo (l got sent : List De) (cl cg cs : Nat) (self not_ room many : Int) (draws : List Int) (cr : Nat) (hl : l.length ≤ 9223372036854775807) (hgl : got.length ≤ 9223372036854775807) (hsl : sent.length ≤ 9223372036854775807) (hdl : draws.length ≤ 9223372036854775807) (hok : ∀ y ∈ l, DeOk y) (hgok : ∀ y ∈ got, DeOk y) (hdr : ∀ y ∈ draws, 0 ≤ y ∧ y ≤ 4294967295) (hrm : 0 ≤ room ∧ room ≤ 255) (hmm : -9223372036854775808 ≤ many ∧ many ≤ 9223372036854775807) (h1 : (l.all (fun d => decide (d.fl.length ≤ 8)) && decide (l.length ≤ 20)) = true) (h2 : (got.all (fun d => decide (d.fl.length ≤ 8)) && decide (got.length ≤ 20)) = true) (h3 : (sent.all (fun d => decide (d.fl.length ≤ 8)) && decide (sent.length ≤ 20)) = true) (h4 : draws.length ≤ 30) (hno : (viewN l self (IntKind.i64.wrap (room.tmod 21)) 256).length = 0 ∨ many < 1) : FnOK Try.prog GG 3 [] [.z 4 (l.map deC) cl, .z 4 (got.map deC) cg, .z 4 (sent.map deC) cs, .v (.int .u8 self), .v (.int .u8 not_), .v (.int .u8 room), .v (.int .i64 many), .z 1 (draws.map u4C) cr] (fun r _ ext => (r = .v (.bool true)) ∧ ext = []) := by
  have hdm : (draws.map u4C).length = draws.length := List.length_map _
  obtain ⟨hf, hl20⟩ := few_facts h1
  obtain ⟨hgf, hg20⟩ := few_facts h2
  obtain ⟨hsf, hs20⟩ := few_facts h3
  obtain ⟨N, hN⟩ : ∃ N, IntKind.i64.wrap (room.tmod 21) = N := ⟨_, rfl⟩
  have hN20 : 0 ≤ N ∧ N ≤ 20 := by
    rw [← hN, Int.tmod_eq_emod_of_nonneg hrm.1, IntKind.wrap_i64]
    omega
  have hV : VOk self N (viewN l self N 256) := VOk.view hN20.1 (fun y hy => (hok y hy).2.1.1)
  have hVf : FlOk (viewN l self N 256) := view_fl hf
  have hVl := hV.len
  have hw : IntKind.i64.wrap (room.tmod 21) = N := hN
  have hN2 : room.tmod 21 = N := by
    rw [← hN, Int.tmod_eq_emod_of_nonneg hrm.1, IntKind.wrap_i64]
    omega
  obtain ⟨v, hv⟩ : ∃ v, viewN l self N 256 = v := ⟨_, rfl⟩
  rw [hv] at hV hVf hVl
  obtain ⟨m, hm⟩ : ∃ m, (mergeN sent got self N v got.length).1 = m := ⟨_, rfl⟩
  have hgi : ∀ y ∈ got, 0 ≤ y.inc := fun y hy => (hgok y hy).2.1.1
  obtain ⟨hM, hMf, _⟩ := mergeN_ok (sent := sent) (got := got) hV hVf hgf got.length
  obtain ⟨e1, e2, e3, e4, e5⟩ := merge_facts (sent := sent) (got := got) hV hVf hgf hgi got.length
  rw [hm] at hM hMf e1 e2 e3 e4 e5
  have hMl := hM.len
  have hvok : ∀ y ∈ v, DeOk y := hv ▸ view_ok_mem hok
  have hvag : ∀ y ∈ v, 0 ≤ y.age ∧ y.age ≤ 255 := fun y hy => (hvok y hy).2.2
  obtain ⟨P, hP⟩ : ∃ P, (pickN many draws (othN v not_ v.length) draws.length).2 = P := ⟨_, rfl⟩
  have hPf : FlOk P := hP ▸ pick_fl (oth_fl hVf _ _) _
  have hPl := (pick_len many draws (othN v not_ v.length) draws.length).2
  rw [hP] at hPl
  rw [hN, hv] at hno
  refine FnOK.pure GG_no rfl (fn_intro (C := seat) seat_ok [] GG_no (Try.func3) rfl rfl rfl rfl rfl ?_)
  repeat' ((try conv => whnf); first
    | (with_reducible refine OKv.go (C := seat) seat_ok ?_)
    | (with_reducible refine BB_true ?_)
    | (with_reducible refine BB_false ?_)
    | (with_reducible refine Both.mk ?_ ?_)
    | (with_reducible refine VS.mk ?_)
    | (refine PSem.go (C := seat) seat_ok ?_)
    | (refine And.intro (PlanOK.mk (by kernel_rfl) rfl (by kernel_rfl) (by kernel_rfl)) ?_)
    | (refine And.intro rfl (Exists.intro _ (And.intro (by first | assumption | rfl) ?_)))
    | (refine And.intro ⟨rfl, rfl, rfl⟩ ?_)
    | (refine call_ro [] (few_zz l cl _ hl h1) GG_no rfl rfl rfl trivial ?_; rintro r bs' ext ⟨rfl, rfl⟩)
    | (refine call_ro [] (few_zz got cg _ hgl h2) GG_no rfl rfl rfl trivial ?_; rintro r bs' ext ⟨rfl, rfl⟩)
    | (refine call_ro [] (few_zz sent cs _ hsl h3) GG_no rfl rfl rfl trivial ?_; rintro r bs' ext ⟨rfl, rfl⟩)
    | (refine call_ro [] (view_eq l cl self _ N (by omega) (fun y hy => (hok y hy).1) v hw hv) GG_no rfl rfl rfl trivial ?_; rintro r bs' ext ⟨⟨cv, hcv, rfl⟩, rfl⟩)
    | (refine call_ro [] (anew_ok v cv (by omega) hVf) GG_no rfl rfl rfl trivial ?_; rintro r bs' ext ⟨⟨cv1, hcv1, rfl⟩, rfl⟩)
    | (refine call_ro [] (anew_ok got cg (by omega) hgf) GG_no rfl rfl rfl trivial ?_; rintro r bs' ext ⟨⟨cg1, hcg1, rfl⟩, rfl⟩)
    | (refine call_ro [] (anew_ok sent cs (by omega) hsf) GG_no rfl rfl rfl trivial ?_; rintro r bs' ext ⟨⟨cs1, hcs1, rfl⟩, rfl⟩)
    | (refine call_ro [] (pick_eq v cv many many rfl not_ draws cr (by omega) hVf (by omega) hdr P hP) GG_no rfl rfl rfl trivial ?_; rintro r bs' ext ⟨⟨cp, hcp, rfl⟩, rfl⟩)
    | (refine call_ro [] (rpick_eq v cv many many rfl not_ draws cr (by omega) hVf (by omega) hdr hV.rising P hP) GG_no rfl rfl rfl trivial ?_; rintro r bs' ext ⟨⟨cp2, hcp2, rfl⟩, rfl⟩)
    | (refine call_ro [] (merge_eq v got sent cv cg cs self _ N hw hV (by omega) hVf hgf (by omega) (by omega) m hm) GG_no rfl rfl rfl trivial ?_; rintro r bs' ext ⟨⟨cm, hcm, rfl⟩, rfl⟩)
    | (refine call_ro [] (rmerge_eq v got sent cv cg cs self _ N hw hcv hV (by omega) hVf hgf hgi (by omega) (by omega) m hm) GG_no rfl rfl rfl trivial ?_; rintro r bs' ext ⟨⟨cm2, hcm2, rfl⟩, rfl⟩)
    | ((first | refine call_frz 1 rfl (frz_aggT 3 rfl (frz_row (by rfl) (by rfl)) rfl) ?_ | refine call_frz 1 rfl (frz_aggT 3 rfl (frz_ro (by rfl) (by rfl)) rfl) ?_); refine call_ro [] (ask_no v cv ⟨self, 1, not_, [⟨1, 2⟩]⟩ _ many draws cr (by omega) hVf (by simp) (by omega) hdr hno) GG_no rfl rfl rfl trivial ?_; rintro r bs' ext ⟨rfl, rfl⟩)
    | ((first | refine call_frz 1 rfl (frz_aggT 3 rfl (frz_row (by rfl) (by rfl)) rfl) ?_ | refine call_frz 1 rfl (frz_aggT 3 rfl (frz_ro (by rfl) (by rfl)) rfl) ?_); refine call_ro [] (rask_no v cv ⟨self, 1, not_, [⟨1, 2⟩]⟩ _ many draws cr (by omega) hVf (by simp) (by omega) hdr hno) GG_no rfl rfl rfl trivial ?_; rintro r bs' ext ⟨rfl, rfl⟩)
    | (refine call_ro [] (descs_zz [] [] _ _ (by decide) (by decide) true (by decide)) GG_no rfl rfl rfl trivial ?_; rintro r bs' ext ⟨rfl, rfl⟩)
    | (refine call_ro [] (descs_zz P P _ _ (by omega) hPf true (by simp)) GG_no rfl rfl rfl trivial ?_; rintro r bs' ext ⟨rfl, rfl⟩)
    | (refine call_ro [] (descs_zz m m _ _ (by omega) hMf true (by simp)) GG_no rfl rfl rfl trivial ?_; rintro r bs' ext ⟨rfl, rfl⟩)
    | (refine call_ro [] (descs_zz v v _ _ (by omega) hVf true (by simp)) GG_no rfl rfl rfl trivial ?_; rintro r bs' ext ⟨rfl, rfl⟩)
    | (refine call_ro [] (descs_zz got got _ _ (by omega) hgf true (by simp)) GG_no rfl rfl rfl trivial ?_; rintro r bs' ext ⟨rfl, rfl⟩)
    | (refine call_ro [] (descs_zz sent sent _ _ (by omega) hsf true (by simp)) GG_no rfl rfl rfl trivial ?_; rintro r bs' ext ⟨rfl, rfl⟩)
    | (refine call_ro [] (awake_ok) GG_no rfl rfl rfl trivial ?_; rintro r bs' ext ⟨rfl, rfl⟩)
    | (refine BB.mk (fun _h => ?_) (fun _h => ?_) <;> (first | (exact absurd _h (by decide)) | (exfalso; simp only [boolSet] at _h <;> omega) | (simp only [boolSet] at _h) | skip))
    | (refine And.intro (by omega) ?_)
    | (refine BB.mk (fun _h => ?_) (fun _h => ?_) <;> (first | (exact absurd _h (by decide)) | (exfalso; simp only [boolSet] at _h <;> omega) | skip)))
  all_goals (try conv => whnf)
  all_goals exact ⟨_, _, FrzV.refl _ _, rfl, rfl, fun _ => rfl, rfl⟩
set_option maxRecDepth 100000 in
set_option maxHeartbeats 4000000 in
theorem ctYes (l got sent : List De) (cl cg cs : Nat) (self not_ room many : Int) (draws : List Int) (cr : Nat) (hl : l.length ≤ 9223372036854775807) (hgl : got.length ≤ 9223372036854775807) (hsl : sent.length ≤ 9223372036854775807) (hdl : draws.length ≤ 9223372036854775807) (hok : ∀ y ∈ l, DeOk y) (hgok : ∀ y ∈ got, DeOk y) (hdr : ∀ y ∈ draws, 0 ≤ y ∧ y ≤ 4294967295) (hrm : 0 ≤ room ∧ room ≤ 255) (hmm : -9223372036854775808 ≤ many ∧ many ≤ 9223372036854775807) (h1 : (l.all (fun d => decide (d.fl.length ≤ 8)) && decide (l.length ≤ 20)) = true) (h2 : (got.all (fun d => decide (d.fl.length ≤ 8)) && decide (got.length ≤ 20)) = true) (h3 : (sent.all (fun d => decide (d.fl.length ≤ 8)) && decide (sent.length ≤ 20)) = true) (h4 : draws.length ≤ 30) (hv0 : (viewN l self (IntKind.i64.wrap (room.tmod 21)) 256).length ≠ 0) (hm1 : 1 ≤ many) : FnOK Try.prog GG 3 [] [.z 4 (l.map deC) cl, .z 4 (got.map deC) cg, .z 4 (sent.map deC) cs, .v (.int .u8 self), .v (.int .u8 not_), .v (.int .u8 room), .v (.int .i64 many), .z 1 (draws.map u4C) cr] (fun r _ ext => (r = .v (.bool true)) ∧ ext = []) := by
  have hdm : (draws.map u4C).length = draws.length := List.length_map _
  obtain ⟨hf, hl20⟩ := few_facts h1
  obtain ⟨hgf, hg20⟩ := few_facts h2
  obtain ⟨hsf, hs20⟩ := few_facts h3
  obtain ⟨N, hN⟩ : ∃ N, IntKind.i64.wrap (room.tmod 21) = N := ⟨_, rfl⟩
  have hN20 : 0 ≤ N ∧ N ≤ 20 := by
    rw [← hN, Int.tmod_eq_emod_of_nonneg hrm.1, IntKind.wrap_i64]
    omega
  have hV : VOk self N (viewN l self N 256) := VOk.view hN20.1 (fun y hy => (hok y hy).2.1.1)
  have hVf : FlOk (viewN l self N 256) := view_fl hf
  have hVl := hV.len
  have hw : IntKind.i64.wrap (room.tmod 21) = N := hN
  have hN2 : room.tmod 21 = N := by
    rw [← hN, Int.tmod_eq_emod_of_nonneg hrm.1, IntKind.wrap_i64]
    omega
  obtain ⟨v, hv⟩ : ∃ v, viewN l self N 256 = v := ⟨_, rfl⟩
  rw [hv] at hV hVf hVl
  obtain ⟨m, hm⟩ : ∃ m, (mergeN sent got self N v got.length).1 = m := ⟨_, rfl⟩
  have hgi : ∀ y ∈ got, 0 ≤ y.inc := fun y hy => (hgok y hy).2.1.1
  obtain ⟨hM, hMf, _⟩ := mergeN_ok (sent := sent) (got := got) hV hVf hgf got.length
  obtain ⟨e1, e2, e3, e4, e5⟩ := merge_facts (sent := sent) (got := got) hV hVf hgf hgi got.length
  rw [hm] at hM hMf e1 e2 e3 e4 e5
  have hMl := hM.len
  have hvok : ∀ y ∈ v, DeOk y := hv ▸ view_ok_mem hok
  have hvag : ∀ y ∈ v, 0 ≤ y.age ∧ y.age ≤ 255 := fun y hy => (hvok y hy).2.2
  obtain ⟨P, hP⟩ : ∃ P, (pickN many draws (othN v not_ v.length) draws.length).2 = P := ⟨_, rfl⟩
  have hPf : FlOk P := hP ▸ pick_fl (oth_fl hVf _ _) _
  have hPl := (pick_len many draws (othN v not_ v.length) draws.length).2
  rw [hP] at hPl
  rw [hN, hv] at hv0
  obtain ⟨a, y, ha, hy⟩ : ∃ a y, oldAt v v.length = some a ∧ v[a]? = some y := by
    rcases oldAt_spec v v.length (Nat.le_refl _) with ⟨h, _⟩ | ⟨a, y, h1, h2, _⟩
    · exact (hv0 h).elim
    · exact ⟨a, y, h1, h2⟩
  obtain ⟨S, hS⟩ : ∃ S, askL v ⟨self, 1, not_, [⟨1, 2⟩]⟩ y many draws = S := ⟨_, rfl⟩
  have hSl : S.length ≤ draws.length + 1 := by
    rw [← hS]
    unfold askL
    have := (pick_len (many - 1) draws (othN v y.node v.length) draws.length).2
    simp only [List.length_cons]
    omega
  have hSf : FlOk S := by
    rw [← hS]
    unfold askL
    intro z hz
    rcases List.mem_cons.1 hz with rfl | hz
    · show 1 ≤ _
      decide
    · exact pick_fl (oth_fl hVf _ _) _ z hz
  refine FnOK.pure GG_no rfl (fn_intro (C := seat) seat_ok [] GG_no (Try.func3) rfl rfl rfl rfl rfl ?_)
  repeat' ((try conv => whnf); first
    | (with_reducible refine OKv.go (C := seat) seat_ok ?_)
    | (with_reducible refine BB_true ?_)
    | (with_reducible refine BB_false ?_)
    | (with_reducible refine Both.mk ?_ ?_)
    | (with_reducible refine VS.mk ?_)
    | (refine PSem.go (C := seat) seat_ok ?_)
    | (refine And.intro (PlanOK.mk (by kernel_rfl) rfl (by kernel_rfl) (by kernel_rfl)) ?_)
    | (refine And.intro rfl (Exists.intro _ (And.intro (by first | assumption | rfl) ?_)))
    | (refine And.intro ⟨rfl, rfl, rfl⟩ ?_)
    | (refine call_ro [] (few_zz l cl _ hl h1) GG_no rfl rfl rfl trivial ?_; rintro r bs' ext ⟨rfl, rfl⟩)
    | (refine call_ro [] (few_zz got cg _ hgl h2) GG_no rfl rfl rfl trivial ?_; rintro r bs' ext ⟨rfl, rfl⟩)
    | (refine call_ro [] (few_zz sent cs _ hsl h3) GG_no rfl rfl rfl trivial ?_; rintro r bs' ext ⟨rfl, rfl⟩)
    | (refine call_ro [] (view_eq l cl self _ N (by omega) (fun y hy => (hok y hy).1) v hw hv) GG_no rfl rfl rfl trivial ?_; rintro r bs' ext ⟨⟨cv, hcv, rfl⟩, rfl⟩)
    | (refine call_ro [] (anew_ok v cv (by omega) hVf) GG_no rfl rfl rfl trivial ?_; rintro r bs' ext ⟨⟨cv1, hcv1, rfl⟩, rfl⟩)
    | (refine call_ro [] (anew_ok got cg (by omega) hgf) GG_no rfl rfl rfl trivial ?_; rintro r bs' ext ⟨⟨cg1, hcg1, rfl⟩, rfl⟩)
    | (refine call_ro [] (anew_ok sent cs (by omega) hsf) GG_no rfl rfl rfl trivial ?_; rintro r bs' ext ⟨⟨cs1, hcs1, rfl⟩, rfl⟩)
    | (refine call_ro [] (pick_eq v cv many many rfl not_ draws cr (by omega) hVf (by omega) hdr P hP) GG_no rfl rfl rfl trivial ?_; rintro r bs' ext ⟨⟨cp, hcp, rfl⟩, rfl⟩)
    | (refine call_ro [] (rpick_eq v cv many many rfl not_ draws cr (by omega) hVf (by omega) hdr hV.rising P hP) GG_no rfl rfl rfl trivial ?_; rintro r bs' ext ⟨⟨cp2, hcp2, rfl⟩, rfl⟩)
    | (refine call_ro [] (merge_eq v got sent cv cg cs self _ N hw hV (by omega) hVf hgf (by omega) (by omega) m hm) GG_no rfl rfl rfl trivial ?_; rintro r bs' ext ⟨⟨cm, hcm, rfl⟩, rfl⟩)
    | (refine call_ro [] (rmerge_eq v got sent cv cg cs self _ N hw hcv hV (by omega) hVf hgf hgi (by omega) (by omega) m hm) GG_no rfl rfl rfl trivial ?_; rintro r bs' ext ⟨⟨cm2, hcm2, rfl⟩, rfl⟩)
    | ((first | refine call_frz 1 rfl (frz_aggT 3 rfl (frz_row (by rfl) (by rfl)) rfl) ?_ | refine call_frz 1 rfl (frz_aggT 3 rfl (frz_ro (by rfl) (by rfl)) rfl) ?_); refine call_ro [] (ask_eq v cv ⟨self, 1, not_, [⟨1, 2⟩]⟩ _ many draws cr (by omega) hVf (by simp) (by omega) hdr ⟨hm1, hmm.2⟩ a y ha hy S hS) GG_no rfl rfl rfl trivial ?_; rintro r bs' ext ⟨⟨ca, hca, rfl⟩, rfl⟩)
    | ((first | refine call_frz 1 rfl (frz_aggT 3 rfl (frz_row (by rfl) (by rfl)) rfl) ?_ | refine call_frz 1 rfl (frz_aggT 3 rfl (frz_ro (by rfl) (by rfl)) rfl) ?_); refine call_ro [] (rask_eq v cv ⟨self, 1, not_, [⟨1, 2⟩]⟩ _ many draws cr (by omega) hVf (by simp) (by omega) hdr hV.rising hvag ⟨hm1, hmm.2⟩ a y ha hy S hS) GG_no rfl rfl rfl trivial ?_; rintro r bs' ext ⟨⟨ca2, hca2, rfl⟩, rfl⟩)
    | (refine call_ro [] (descs_zz S S _ _ (by omega) hSf true (by simp)) GG_no rfl rfl rfl trivial ?_; rintro r bs' ext ⟨rfl, rfl⟩)
    | (refine call_ro [] (descs_zz P P _ _ (by omega) hPf true (by simp)) GG_no rfl rfl rfl trivial ?_; rintro r bs' ext ⟨rfl, rfl⟩)
    | (refine call_ro [] (descs_zz m m _ _ (by omega) hMf true (by simp)) GG_no rfl rfl rfl trivial ?_; rintro r bs' ext ⟨rfl, rfl⟩)
    | (refine call_ro [] (descs_zz v v _ _ (by omega) hVf true (by simp)) GG_no rfl rfl rfl trivial ?_; rintro r bs' ext ⟨rfl, rfl⟩)
    | (refine call_ro [] (descs_zz got got _ _ (by omega) hgf true (by simp)) GG_no rfl rfl rfl trivial ?_; rintro r bs' ext ⟨rfl, rfl⟩)
    | (refine call_ro [] (descs_zz sent sent _ _ (by omega) hsf true (by simp)) GG_no rfl rfl rfl trivial ?_; rintro r bs' ext ⟨rfl, rfl⟩)
    | (refine call_ro [] (awake_ok) GG_no rfl rfl rfl trivial ?_; rintro r bs' ext ⟨rfl, rfl⟩)
    | (refine BB.mk (fun _h => ?_) (fun _h => ?_) <;> (first | (exact absurd _h (by decide)) | (exfalso; simp only [boolSet] at _h <;> omega) | (simp only [boolSet] at _h) | skip))
    | (refine And.intro (by omega) ?_)
    | (refine BB.mk (fun _h => ?_) (fun _h => ?_) <;> (first | (exact absurd _h (by decide)) | (exfalso; simp only [boolSet] at _h <;> omega) | skip)))
  all_goals (try conv => whnf)
  all_goals exact ⟨_, _, FrzV.refl _ _, rfl, rfl, fun _ => rfl, rfl⟩
theorem cyclonTells_ok (l got sent : List De) (cl cg cs : Nat) (self not_ room many : Int) (draws : List Int) (cr : Nat) (hl : l.length ≤ 9223372036854775807) (hgl : got.length ≤ 9223372036854775807) (hsl : sent.length ≤ 9223372036854775807) (hdl : draws.length ≤ 9223372036854775807) (hok : ∀ y ∈ l, DeOk y) (hgok : ∀ y ∈ got, DeOk y) (hdr : ∀ y ∈ draws, 0 ≤ y ∧ y ≤ 4294967295) (hrm : 0 ≤ room ∧ room ≤ 255) (hmm : -9223372036854775808 ≤ many ∧ many ≤ 9223372036854775807) : FnOK Try.prog GG 3 [] [.z 4 (l.map deC) cl, .z 4 (got.map deC) cg, .z 4 (sent.map deC) cs, .v (.int .u8 self), .v (.int .u8 not_), .v (.int .u8 room), .v (.int .i64 many), .z 1 (draws.map u4C) cr] (fun r _ ext => r = .v (.bool true) ∧ ext = []) := by
  cases h1 : (l.all (fun d => decide (d.fl.length ≤ 8)) && decide (l.length ≤ 20)) with
  | false => exact ctFew1 l got sent cl cg cs self not_ room many draws cr hl hgl hsl hdl hok hgok hdr hrm hmm h1
  | true =>
    cases h2 : (got.all (fun d => decide (d.fl.length ≤ 8)) && decide (got.length ≤ 20)) with
    | false => exact ctFew2 l got sent cl cg cs self not_ room many draws cr hl hgl hsl hdl hok hgok hdr hrm hmm h1 h2
    | true =>
      cases h3 : (sent.all (fun d => decide (d.fl.length ≤ 8)) && decide (sent.length ≤ 20)) with
      | false => exact ctFew3 l got sent cl cg cs self not_ room many draws cr hl hgl hsl hdl hok hgok hdr hrm hmm h1 h2 h3
      | true =>
        by_cases h4 : draws.length ≤ 30
        · by_cases hno : (viewN l self (IntKind.i64.wrap (room.tmod 21)) 256).length = 0 ∨ many < 1
          · exact ctNo l got sent cl cg cs self not_ room many draws cr hl hgl hsl hdl hok hgok hdr hrm hmm h1 h2 h3 h4 hno
          · exact ctYes l got sent cl cg cs self not_ room many draws cr hl hgl hsl hdl hok hgok hdr hrm hmm h1 h2 h3 h4 (fun h => hno (.inl h)) (by omega)
        · exact ctFew4 l got sent cl cg cs self not_ room many draws cr hl hgl hsl hdl hok hgok hdr hrm hmm h1 h2 h3 (by omega)
end Go.Proofs.Ytccegmbklgmgnaa
