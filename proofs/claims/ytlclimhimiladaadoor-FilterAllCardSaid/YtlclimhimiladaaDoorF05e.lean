/- Package filter: Same, Copy, Normal. -/
import Derived.Test.YtlclimhimiladaaDoorF05m
namespace Go.Proofs.YtlclimhimiladaaDoor
open Go.RowKit

theorem sp_at {l : List Sp} {k : Nat} {y : Sp} (h : l[k]? = some y) : (l.map spC)[(k : Int).toNat]? = some [.v (.int .i32 y.a), .v (.int .i32 y.b)] := by
  rw [Int.toNat_natCast, List.getElem?_map, h]; rfl
theorem sp_eq {x y : Sp} : x = y ↔ x.a = y.a ∧ x.b = y.b := by
  cases x; cases y; simp
theorem same_take {α : Type} {l r : List α} {k : Nat} {y : α} (h : l.take k = r.take k) (h1 : l[k]? = some y) (h2 : r[k]? = some y) : l.take (k + 1) = r.take (k + 1) := by
  rw [List.take_add_one, List.take_add_one, h, h1, h2]
theorem same_ne {α : Type} {l r : List α} {k : Nat} {y z : α} (h1 : l[k]? = some y) (h2 : r[k]? = some z) (h : y ≠ z) : l ≠ r := fun e => by
  subst e
  rw [h1] at h2
  exact h (Option.some.inj h2)
theorem tup2_eq {x y : SV} {a b : Int} (h1 : x = y) (h2 : a = b) : SV.tup [x, .v (.int .i64 a)] = .tup [y, .v (.int .i64 b)] := by rw [h1, h2]
set_option maxRecDepth 100000 in
set_option maxHeartbeats 4000000 in
theorem eqspan_ok (l r : List Sp) (c1 c2 : Nat) (hl : l.length ≤ 1099511627776) : FnOK Tryd.prog GG 37 [] [.z 2 (l.map spC) c1, .z 2 (r.map spC) c2] (fun rr _ ext => rr = .v (.bool (decide (l = r))) ∧ ext = []) := by
  have hml : (l.map spC).length = l.length := List.length_map _
  have hmr : (r.map spC).length = r.length := List.length_map _
  by_cases hlen : l.length = r.length
  · refine fn_val (C := seat) seat_ok [(6, (.of [(0, .take), (1, .take), (2, .take), (3, .take), (4, .take), (5, .take), (6, .take), (7, .take), (8, .take)]))] GG_no (Tryd.func37) rfl rfl rfl rfl rfl (fun _ => rfl) rfl ?_
    repeat' ((try conv => whnf); first
      | (with_reducible refine OKv.go (C := seat) seat_ok ?_)
      | (with_reducible refine BB_true ?_)
      | (with_reducible refine BB_false ?_)
      | (with_reducible refine Both.mk ?_ ?_)
      | (with_reducible refine VS.mk ?_)
      | (refine PSem.go (C := seat) seat_ok ?_)
      | (refine And.intro (PlanOK.mk (by kernel_rfl) rfl (by kernel_rfl) (by kernel_rfl)) ?_)
      | (refine And.intro rfl (Exists.intro _ (And.intro (by first | assumption | rfl) ?_)))
      | (refine And.intro ⟨rfl, rfl, rfl⟩ ?_)
      | (refine And.intro ⟨by omega, by simp only [List.length_map]; omega⟩ (Exists.intro _ (And.intro (by first | assumption | rfl) ?_)))
      | (refine And.intro (by omega) ?_)
      | (refine BB.mk (fun _h => ?_) (fun _h => ?_) <;> (first | (exact absurd _h (by decide)) | (exfalso; simp only [boolSet] at _h <;> omega) | skip)))
    all_goals (try conv => whnf)
    refine loop_rule (α := Nat) (fun k => k ≤ l.length ∧ l.take k = r.take k) (fun k => { slots := [(0, .z 2 (l.map spC) c1), (1, .z 2 (r.map spC) c2), (12, .v (.int .i64 (l.map spC).length)), (13, .v (.int .i64 (k : Int)))], nt := 26, mem := ⟨GG, [], []⟩ }) (fun k => l.length - k) 0 ⟨Nat.zero_le _, rfl⟩ ⟨⟨[], List.nodup_nil, GG_no, rfl, (SubOld.refl _ rfl), trivial, ⟨.inl rfl, .inl rfl, .inl rfl, .inl rfl, trivial⟩⟩, rfl⟩ ?_ (fun _ => rfl)
    rintro k ⟨hk, heq⟩
    refine vc_sound (C := seat) seat_ok (pl := [(6, (.of [(0, .take), (1, .take), (2, .take), (3, .take), (4, .take), (5, .take), (6, .take), (7, .take), (8, .take)]))]) ?_
    by_cases hlt : k < l.length
    · obtain ⟨y, hy⟩ : ∃ y, l[k]? = some y := ⟨_, List.getElem?_eq_getElem hlt⟩
      obtain ⟨z, hz⟩ : ∃ z, r[k]? = some z := ⟨_, List.getElem?_eq_getElem (by omega)⟩
      have hrow := sp_at hy
      have hrow2 := sp_at hz
      repeat' ((try conv => whnf); first
        | (with_reducible refine OKv.go (C := seat) seat_ok ?_)
        | (with_reducible refine BB_true ?_)
        | (with_reducible refine BB_false ?_)
        | (with_reducible refine Both.mk ?_ ?_)
        | (with_reducible refine VS.mk ?_)
        | (refine PSem.go (C := seat) seat_ok ?_)
        | (refine And.intro (PlanOK.mk (by kernel_rfl) rfl (by kernel_rfl) (by kernel_rfl)) ?_)
        | (refine And.intro rfl (Exists.intro _ (And.intro (by first | assumption | rfl) ?_)))
        | (refine And.intro ⟨rfl, rfl, rfl⟩ ?_)
        | (refine And.intro ⟨by omega, by simp only [List.length_map]; omega⟩ (Exists.intro _ (And.intro (by first | assumption | rfl) ?_)))
        | (refine And.intro (by omega) ?_)
        | (refine BB.mk (fun _h => ?_) (fun _h => ?_) <;> (first | (exact absurd _h (by decide)) | (exfalso; simp only [boolSet] at _h <;> omega) | skip)))
      all_goals (try conv => whnf)
      all_goals (try (refine Fin.mk ?_))
      all_goals first
        | (have hne : y ≠ z := by intro e; subst e; simp only [boolSet] at * <;> grind
           exact ⟨bool_eq (decide_eq_false (same_ne hy hz hne)).symm, rfl⟩)
        | (have hyz : y = z := by cases y; cases z; simp only [boolSet] at * <;> grind
           subst hyz
           exact ⟨k + 1, ⟨by omega, same_take heq hy hz⟩, by omega, ⟨⟨[], List.nodup_nil, GG_no, rfl, SubOld.refl _ rfl, trivial, ⟨.inl rfl, .inl rfl, .inl rfl, .inl (num_eq (by rw [IntKind.wrap_i64]; omega)), trivial⟩⟩, rfl⟩⟩)
    · have e : l = r := by
        rw [List.take_of_length_le (by omega), List.take_of_length_le (by omega)] at heq
        exact heq
      repeat' ((try conv => whnf); first
        | (with_reducible refine OKv.go (C := seat) seat_ok ?_)
        | (with_reducible refine BB_true ?_)
        | (with_reducible refine BB_false ?_)
        | (with_reducible refine Both.mk ?_ ?_)
        | (with_reducible refine VS.mk ?_)
        | (refine PSem.go (C := seat) seat_ok ?_)
        | (refine And.intro (PlanOK.mk (by kernel_rfl) rfl (by kernel_rfl) (by kernel_rfl)) ?_)
        | (refine And.intro rfl (Exists.intro _ (And.intro (by first | assumption | rfl) ?_)))
        | (refine And.intro ⟨rfl, rfl, rfl⟩ ?_)
        | (refine And.intro (by omega) ?_)
        | (refine BB.mk (fun _h => ?_) (fun _h => ?_) <;> (first | (exact absurd _h (by decide)) | (exfalso; simp only [boolSet] at _h <;> omega) | skip)))
      all_goals (try conv => whnf)
      exact Fin.mk ⟨bool_eq (decide_eq_true e).symm, rfl⟩
  · have e : l ≠ r := fun h => hlen (by rw [h])
    refine fn_val (C := seat) seat_ok [(6, (.of [(0, .take), (1, .take), (2, .take), (3, .take), (4, .take), (5, .take), (6, .take), (7, .take), (8, .take)]))] GG_no (Tryd.func37) rfl rfl rfl rfl rfl (fun _ => rfl) rfl ?_
    repeat' ((try conv => whnf); first
      | (with_reducible refine OKv.go (C := seat) seat_ok ?_)
      | (with_reducible refine BB_true ?_)
      | (with_reducible refine BB_false ?_)
      | (with_reducible refine Both.mk ?_ ?_)
      | (with_reducible refine VS.mk ?_)
      | (refine PSem.go (C := seat) seat_ok ?_)
      | (refine And.intro (PlanOK.mk (by kernel_rfl) rfl (by kernel_rfl) (by kernel_rfl)) ?_)
      | (refine And.intro rfl (Exists.intro _ (And.intro (by first | assumption | rfl) ?_)))
      | (refine And.intro ⟨rfl, rfl, rfl⟩ ?_)
      | (refine And.intro (by omega) ?_)
      | (refine BB.mk (fun _h => ?_) (fun _h => ?_) <;> (first | (exact absurd _h (by decide)) | (exfalso; simp only [boolSet] at _h <;> omega) | skip)))
    all_goals (try conv => whnf)
    all_goals (try (refine Fin.mk ?_))
    all_goals first
      | exact ⟨bool_eq (decide_eq_false e).symm, rfl⟩
      | (exfalso; simp only [boolSet] at * <;> omega)
set_option maxRecDepth 100000 in
set_option maxHeartbeats 4000000 in
theorem clone_ok (l : List Sp) (cap : Nat) (hc : l.length ≤ cap) (hl : l.length ≤ 1099511627776) : FnOK Tryd.prog GG 38 [] [.z 2 (l.map spC) cap] (fun r _ ext => ∃ cap', l.length ≤ cap' ∧ r = .s (.n 0) 2 0 l.length cap' ∧ ext = [.row 42 2 cap' (l.map spC)]) := by
  refine fn_newR (C := seat) seat_ok [] GG_no (Tryd.func38) rfl rfl rfl rfl rfl rfl ?_
  repeat' ((try conv => whnf); first
    | (with_reducible refine OKv.go (C := seat) seat_ok ?_)
    | (with_reducible refine BB_true ?_)
    | (with_reducible refine BB_false ?_)
    | (with_reducible refine Both.mk ?_ ?_)
    | (with_reducible refine VS.mk ?_)
    | (refine PSem.go (C := seat) seat_ok ?_)
    | (refine And.intro (PlanOK.mk (by kernel_rfl) rfl (by kernel_rfl) (by kernel_rfl)) ?_)
    | (refine And.intro rfl (Exists.intro _ (And.intro (by first | assumption | rfl) ?_)))
    | (refine And.intro ⟨rfl, rfl, rfl⟩ ?_)
    | (refine fun (b : Bool) hb => ?_)
    | (refine And.intro ⟨rfl, rfl, rfl, by first | (simp only [chunks_len, List.length_map, List.length_take, List.length_drop, List.length_append, List.length_cons, List.length_nil] <;> omega) | omega | rfl⟩ ?_)
    | (refine And.intro ⟨rfl, by first | (simp only [chunks_len, List.length_map, List.length_take, List.length_drop, List.length_append, List.length_cons, List.length_nil] <;> omega) | omega | rfl⟩ ?_)
    | (refine And.intro (by first | exact ⟨rfl, Nat.le_refl _⟩ | first | (simp only [chunks_len, List.length_map, List.length_take, List.length_drop, List.length_append, List.length_cons, List.length_nil] <;> omega) | omega | rfl) ?_)
    | (refine fun (caps : Nat → Nat) hcaps => ?_; conv at hcaps => whnf)
    | (refine fun (cap' : Nat) hcap' => ?_)
    | (refine And.intro (by omega) ?_)
    | (refine BB.mk (fun _h => ?_) (fun _h => ?_) <;> (first | (exact absurd _h (by decide)) | (exfalso; simp only [boolSet] at _h <;> omega) | skip)))
  all_goals (try conv => whnf)
  · have hl0 : l = [] := by
      by_cases h : (l.map spC).length = 0
      · exact List.map_eq_nil_iff.1 (List.eq_nil_of_length_eq_zero h)
      · rw [hb h] at _h; cases _h
    subst hl0
    exact ⟨⟨[0], .s (.n 0) 2 0 0 0, [.row 42 2 0 []], by decide, .inl (.inr (.inl ⟨_, _, _, rfl, rfl⟩)), ⟨.inl (.inl ⟨rfl, rfl⟩), trivial⟩, 0, Nat.le_refl _, rfl, rfl⟩, rfl⟩
  · refine ⟨⟨[1], .s (.n 0) 2 0 (0 + (l.map spC).length) cap', [.row 42 2 cap' (l.map spC)], by decide, .inl (.inl rfl), ⟨.inr (.inl rfl), trivial⟩, cap', by simp only [chunks_len, List.length_map] at hcap' <;> omega, by rw [Nat.zero_add, List.length_map], rfl⟩, rfl⟩
set_option maxRecDepth 100000 in
set_option maxHeartbeats 4000000 in
theorem same_z (l r : List Sp) (ca cb : Nat) (hl : l.length ≤ 1099511627776) (b : Bool) (hb : decide (l = r) = b) : FnOK Tryd.prog GG 18 [] [.z 2 (l.map spC) ca, .z 2 (r.map spC) cb] (fun rr _ ext => (rr = .v (.bool b)) ∧ ext = []) := by
  refine FnOK.pure GG_no rfl (fn_intro (C := seat) seat_ok [] GG_no (Tryd.func18) rfl rfl rfl rfl rfl ?_)
  repeat' ((try conv => whnf); first
    | (with_reducible refine OKv.go (C := seat) seat_ok ?_)
    | (with_reducible refine BB_true ?_)
    | (with_reducible refine BB_false ?_)
    | (with_reducible refine Both.mk ?_ ?_)
    | (with_reducible refine VS.mk ?_)
    | (refine PSem.go (C := seat) seat_ok ?_)
    | (refine And.intro (PlanOK.mk (by kernel_rfl) rfl (by kernel_rfl) (by kernel_rfl)) ?_)
    | (refine And.intro rfl (Exists.intro _ (And.intro (by first | assumption | rfl) ?_)))
    | (refine And.intro ⟨rfl, rfl, rfl⟩ ?_)
    | (refine call_ro [] (eqspan_ok l r ca cb hl) GG_no rfl rfl rfl trivial ?_; rintro r bs' ext ⟨rfl, rfl⟩)
    | (refine And.intro (by omega) ?_)
    | (refine BB.mk (fun _h => ?_) (fun _h => ?_) <;> (first | (exact absurd _h (by decide)) | (exfalso; simp only [boolSet] at _h <;> omega) | skip)))
  all_goals (try conv => whnf)
  exact ⟨_, _, FrzV.refl _ _, rfl, rfl, fun _ => rfl, bool_eq hb⟩
set_option maxRecDepth 100000 in
set_option maxHeartbeats 4000000 in
theorem copy_own (l : List Sp) (ca : Nat) (hc : l.length ≤ ca) (hl : l.length ≤ 1099511627776) : FnOK Tryd.prog GG 19 [] [.z 2 (l.map spC) ca] (fun r _ ext => ∃ cap', l.length ≤ cap' ∧ r = .s (.n 0) 2 0 l.length cap' ∧ ext = [.row 42 2 cap' (l.map spC)]) := by
  refine fn_newR (C := seat) seat_ok [] GG_no (Tryd.func19) rfl rfl rfl rfl rfl rfl ?_
  repeat' ((try conv => whnf); first
    | (with_reducible refine OKv.go (C := seat) seat_ok ?_)
    | (with_reducible refine BB_true ?_)
    | (with_reducible refine BB_false ?_)
    | (with_reducible refine Both.mk ?_ ?_)
    | (with_reducible refine VS.mk ?_)
    | (refine PSem.go (C := seat) seat_ok ?_)
    | (refine And.intro (PlanOK.mk (by kernel_rfl) rfl (by kernel_rfl) (by kernel_rfl)) ?_)
    | (refine And.intro rfl (Exists.intro _ (And.intro (by first | assumption | rfl) ?_)))
    | (refine And.intro ⟨rfl, rfl, rfl⟩ ?_)
    | (refine call_ro [] (clone_ok l ca hc hl) GG_no rfl rfl rfl trivial ?_; rintro r bs' ext ⟨c, hc', rfl, rfl⟩)
    | (refine And.intro (by omega) ?_)
    | (refine BB.mk (fun _h => ?_) (fun _h => ?_) <;> (first | (exact absurd _h (by decide)) | (exfalso; simp only [boolSet] at _h <;> omega) | skip)))
  all_goals (try conv => whnf)
  exact ⟨⟨[0], .s (.n 0) 2 0 l.length c, [.row 42 2 c (l.map spC)], by decide, .inl (.inl rfl), ⟨.inr (.inl rfl), trivial⟩, c, hc', rfl, rfl⟩, rfl⟩
def normE (s g : List Sp) : Int := if g.length = 0 ∨ g.length = s.length then 0 else 50
theorem meetF_nil {s g : List Sp} (h : g.length = 0) : meetF s g = [] := by
  have : g = [] := List.eq_nil_of_length_eq_zero h
  subst this
  rcases meetF_cases s [] with ⟨h1, _, h3⟩ | ⟨h1, _⟩
  · have : s = [] := List.eq_nil_of_length_eq_zero h1
    subst this
    rfl
  · exact h1
set_option maxRecDepth 100000 in
set_option maxHeartbeats 4000000 in
theorem norm_z (s g : List Sp) (ca cb : Nat) (hs : s.length ≤ 1099511627776) (hg : g.length ≤ 1099511627776) : FnOK Tryd.prog GG 21 [] [.z 2 (s.map spC) ca, .z 2 (g.map spC) cb] (fun r _ ext => (∃ c', (meetF s g).length ≤ c' ∧ r = .tup [.z 2 ((meetF s g).map spC) c', .v (.int .i64 (normE s g))]) ∧ ext = []) := by
  have hml : (s.map spC).length = s.length := List.length_map _
  have hmr : (g.map spC).length = g.length := List.length_map _
  refine FnOK.pure GG_no rfl (fn_intro (C := seat) seat_ok [] GG_no (Tryd.func21) rfl rfl rfl rfl rfl ?_)
  repeat' ((try conv => whnf); first
    | (with_reducible refine OKv.go (C := seat) seat_ok ?_)
    | (with_reducible refine BB_true ?_)
    | (with_reducible refine BB_false ?_)
    | (with_reducible refine Both.mk ?_ ?_)
    | (with_reducible refine VS.mk ?_)
    | (refine PSem.go (C := seat) seat_ok ?_)
    | (refine And.intro (PlanOK.mk (by kernel_rfl) rfl (by kernel_rfl) (by kernel_rfl)) ?_)
    | (refine And.intro rfl (Exists.intro _ (And.intro (by first | assumption | rfl) ?_)))
    | (refine And.intro ⟨rfl, rfl, rfl⟩ ?_)
    | (refine call_ro [] (meetF_z s g ca cb hs hg) GG_no rfl rfl rfl trivial ?_; rintro r bs' ext ⟨⟨c, hc, rfl⟩, rfl⟩)
    | (refine BB.mk (fun _h => ?_) (fun _h => ?_) <;> (first | (exact absurd _h (by decide)) | (exfalso; simp only [boolSet, hml, hmr] at _h <;> omega) | (simp only [boolSet, hml, hmr] at _h) | skip))
    | (refine And.intro (by omega) ?_)
    | (refine BB.mk (fun _h => ?_) (fun _h => ?_) <;> (first | (exact absurd _h (by decide)) | (exfalso; simp only [boolSet] at _h <;> omega) | skip)))
  all_goals (try conv => whnf)
  all_goals first
    | exact ⟨_, _, FrzV.refl _ _, rfl, rfl, fun _ => rfl, c, hc, tup2_eq rfl (by unfold normE; rw [if_pos (.inr (by omega))])⟩
    | exact ⟨_, _, frz_tup 0 rfl (frz_nil _ 2) rfl, rfl, rfl, fun _ => rfl, 0, by rw [meetF_nil (by omega)]; exact Nat.le_refl _, tup2_eq (by rw [meetF_nil (by omega)]; rfl) (by unfold normE; rw [if_pos (.inl (by omega))])⟩
    | exact ⟨_, _, frz_tup 0 rfl (frz_nil _ 2) rfl, rfl, rfl, fun _ => rfl, 0, by rw [meetF_ne (by omega)]; exact Nat.le_refl _, tup2_eq (by rw [meetF_ne (by omega)]; rfl) (by unfold normE; rw [if_neg (by omega)])⟩
end Go.Proofs.YtlclimhimiladaaDoor
