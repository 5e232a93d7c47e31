/- Law DescAges, by computing. -/
import Derived.Test.YtfjankcpnhfogaaD09n
namespace Go.Proofs.Ytfjankcpnhfogaa
open Go.RowKit

theorem oldAt_older {l : List De} (h : ∀ y ∈ l, y.age < 254) : ∀ k, oldAt (l.map older) k = oldAt l k
  | 0 => rfl
  | k + 1 => by
    unfold oldAt
    rw [oldAt_older h k, List.getElem?_map]
    cases hk : l[k]? with
    | none => rfl
    | some d =>
      have hd := h d (List.mem_of_getElem? hk)
      simp only [Option.map_some]
      cases ha : oldAt l k with
      | none => rfl
      | some a =>
        simp only [List.getElem?_map]
        cases hy : l[a]? with
        | none => rfl
        | some y =>
          have hy' := h y (List.mem_of_getElem? hy)
          have e1 : (older d).age = d.age + 1 := by unfold older; simp only; rw [if_pos (by omega)]
          have e2 : (older y).age = y.age + 1 := by unfold older; simp only; rw [if_pos (by omega)]
          simp only [Option.map_some, e1, e2]
          by_cases hlt : y.age < d.age
          · rw [if_pos hlt, if_pos (by omega)]
          · rw [if_neg hlt, if_neg (by omega)]
def fullN (l : List De) (k : Nat) : Bool := (l.take k).any (fun d => decide (254 ≤ d.age))
theorem full_step {l : List De} {k : Nat} {y : De} (hy : l[k]? = some y) : fullN l (k + 1) = (fullN l k || decide (254 ≤ y.age)) := by
  unfold fullN
  rw [List.take_add_one, hy, List.any_append]
  simp
theorem full_end {l : List De} (h : fullN l l.length = false) : ∀ y ∈ l, y.age < 254 := by
  intro y hy
  unfold fullN at h
  rw [List.take_length, List.any_eq_false] at h
  have := h y hy
  simpa using this
def DeOk (y : De) : Prop := (0 ≤ y.node ∧ y.node ≤ 255) ∧ (0 ≤ y.inc ∧ y.inc ≤ 65535) ∧ (0 ≤ y.age ∧ y.age ≤ 255)
theorem view_fl {l : List De} {self room : Int} (h : FlOk l) : FlOk (viewN l self room 256) := by
  intro y hy
  obtain ⟨z, hz, rfl, _⟩ := view_mem 256 y hy
  exact h z hz
theorem few_facts {l : List De} (h : (l.all (fun d => decide (d.fl.length ≤ 8)) && decide (l.length ≤ 20)) = true) : FlOk l ∧ l.length ≤ 20 := by
  rw [Bool.and_eq_true, List.all_eq_true] at h
  refine ⟨fun y hy => ?_, by simpa using h.2⟩
  have := h.1 y hy
  simp only [decide_eq_true_eq] at this
  omega
theorem view_ok_mem {l : List De} {self room : Int} (h : ∀ y ∈ l, DeOk y) : ∀ y ∈ viewN l self room 256, DeOk y := by
  intro y hy
  obtain ⟨z, hz, rfl, _⟩ := view_mem 256 y hy
  obtain ⟨h1, h2, h3⟩ := h z hz
  refine ⟨h1, ?_, h3⟩
  show 0 ≤ max z.inc 1 ∧ max z.inc 1 ≤ 65535
  omega
theorem few_b (l : List De) (cap : Nat) (b : Bool) (hl : l.length ≤ 9223372036854775807) (hb : (l.all (fun d => decide (d.fl.length ≤ 8)) && decide (l.length ≤ 20)) = b) : FnOK Try.prog GG 8 [.ro 4 (l.map deC)] [.s (.o 0) 4 0 l.length cap] (fun r _ ext => r = .v (.bool b) ∧ ext = []) := by
  subst hb
  exact few_ok l cap hl
theorem oldest_y (l : List De) (cap n : Nat) (z : Int) (hn : n = l.length) (hl : n ≤ 1099511627776) (hz : oldZ (oldAt l l.length) = z) : FnOK Try.prog GG 27 [.ro 4 (l.map deC)] [.s (.o 0) 4 0 n cap] (fun r _ ext => r = .v (.int .i64 z) ∧ ext = []) := by
  subst hn
  exact oldest_z l cap z hl hz
set_option maxRecDepth 100000 in
set_option maxHeartbeats 4000000 in
theorem agesSome (l : List De) (cap : Nat) (self : Int) (hl : l.length ≤ 9223372036854775807) (hok : ∀ y ∈ l, DeOk y) (hfew : (l.all (fun d => decide (d.fl.length ≤ 8)) && decide (l.length ≤ 20)) = true) (a : Nat) (z : De) (hK_ : oldAt (viewN l self 20 256) (viewN l self 20 256).length = some a) (haz : (viewN l self 20 256)[a]? = some z) (halt : a < (viewN l self 20 256).length) (hspec : ∀ i y, i < (viewN l self 20 256).length → (viewN l self 20 256)[i]? = some y → y.age ≤ z.age ∧ (y.age = z.age → a ≤ i)) : FnOK Try.prog GG 6 [.ro 4 (l.map deC)] [.s (.o 0) 4 0 l.length cap, .v (.int .u8 self)] (fun r _ ext => r = .v (.bool true) ∧ ext = []) := by
  obtain ⟨hf, hl20⟩ := few_facts hfew
  obtain ⟨v, hv⟩ : ∃ v, v = viewN l self 20 256 := ⟨_, rfl⟩
  rw [← hv] at hK_ haz halt hspec
  have hvr : Rising v := hv ▸ view_rising l self 20 256
  have hvl : v.length ≤ 1099511627776 := by have := (view_len l self 20 256).1; rw [← hv] at this; omega
  have hvok : ∀ y ∈ v, DeOk y := by rw [hv]; exact view_ok_mem hok
  have hvf : FlOk v := by rw [hv]; exact view_fl hf
  have hK : oldZ (oldAt v v.length) = (a : Int) := by rw [hK_]; rfl
  have hk0 : decide ((a : Int) < 0) = false := decide_eq_false (by omega)
  have hl0 : ((v.length : Int) == 0) = false := by rw [beq_eq_false_iff_ne]; omega
  refine fn_val (C := seat) seat_ok [(12, (.of [(0, .take), (1, .take), (2, .take), (3, .take), (4, .take), (5, .take), (6, .take), (7, .take), (8, .take), (9, .take), (10, .take), (11, .take), (12, .take), (13, .take), (14, .take), (15, .take), (16, .take), (17, .take), (18, .take), (19, .take), (20, .take), (21, .take), (22, .take), (23, .take), (24, .take), (25, .take), (26, .take), (27, .take), (28, .take), (29, .take), (30, .take), (31, .take), (32, .take), (33, .take), (34, .take), (35, .take), (36, .take), (37, .take), (38, .take), (39, .take), (40, .take), (41, .take), (42, .take), (43, .take), (44, .take), (45, .take), (46, .take), (47, .take), (48, .take), (49, .take), (50, .take), (51, .take), (52, .take), (53, .take), (54, .take), (55, .take), (56, .take), (57, .take), (58, .take)]))] GG_no (Try.func6) rfl rfl rfl rfl rfl (fun _ => rfl) rfl ?_
  repeat' ((try conv => whnf); first
    | (with_reducible refine OKv.go (C := seat) seat_ok ?_)
    | (with_reducible refine BB_true ?_)
    | (with_reducible refine BB_false ?_)
    | (with_reducible refine Both.mk ?_ ?_)
    | (with_reducible refine VS.mk ?_)
    | (refine PSem.go (C := seat) seat_ok ?_)
    | (refine And.intro (PlanOK.mk (by kernel_rfl) rfl (by kernel_rfl) (by kernel_rfl)) ?_)
    | (refine And.intro rfl (Exists.intro _ (And.intro (by first | assumption | rfl) ?_)))
    | (refine And.intro ⟨rfl, rfl, rfl⟩ ?_)
    | (refine call_ro [.o 0] (few_b l cap _ hl hfew) GG_no rfl rfl rfl ⟨⟨_, rfl, rfl, rfl⟩, trivial⟩ ?_; rintro r bs' ext ⟨rfl, rfl⟩)
    | (refine call_ro [.o 0] (view_ok l cap self 20 (by omega) (fun y hy => (hok y hy).1)) GG_no rfl rfl rfl ⟨⟨_, rfl, rfl, rfl⟩, trivial⟩ ?_; rintro r bs' ext ⟨c1, hc1, rfl, rfl⟩; rw [← hv] at hc1 ⊢)
    | (refine call_ro [.n 0] (older_ok v c1 hvl hvf (fun y hy => (hvok y hy).2.2)) GG_no rfl rfl rfl ⟨⟨_, rfl, rfl, rfl⟩, trivial⟩ ?_; rintro r bs' ext ⟨c2, hc2, rfl, rfl⟩)
    | (refine call_ro [.n 0] (oldest_z v c1 (a : Int) hvl hK) GG_no rfl rfl rfl ⟨⟨_, rfl, rfl, rfl⟩, trivial⟩ ?_; rintro r bs' ext ⟨rfl, rfl⟩)
    | (refine BB.mk (fun _h => ?_) (fun _h => ?_) <;> (first | (exact absurd _h (by decide)) | (rw [hk0, hl0] at _h; exact absurd _h (by decide)) | (rw [hmm0] at _h; exact absurd _h (by decide)) | (exfalso; clear hok hfew hvok; simp only [boolSet, cond_true, cond_false, IntKind.wrap_i64] at * <;> omega) | (exfalso; clear hok hfew hvok; simp only [boolSet, cond_true, cond_false, IntKind.wrap_i64] at * <;> (repeat' split at _h) <;> omega) | skip))
    | (refine And.intro (by omega) ?_)
    | (refine BB.mk (fun _h => ?_) (fun _h => ?_) <;> (first | (exact absurd _h (by decide)) | (exfalso; simp only [boolSet] at _h <;> omega) | skip)))
  all_goals (try conv => whnf)
  refine loop_rule (α := Nat) (fun k => k ≤ v.length) (fun k => { slots := [(5, .s (.n 0) 4 0 v.length c1), (6, .s (.n 1) 4 0 v.length c2), (7, .v (.int .i64 (a : Int))), (8, .v (.bool (fullN v k))), (41, .v (.int .i64 v.length)), (42, .v (.int .i64 (k : Int)))], nt := 124, mem := ⟨GG, [.ro 4 (l.map deC)], [.row 27 4 c1 (v.map deC), .row 27 4 c2 ((v.map older).map deC)]⟩ }) (fun k => v.length - k) 0 (Nat.zero_le _) ⟨⟨[0, 1], (by decide), GG_no, rfl, (SubOld.refl _ rfl), ⟨.inr (.inl rfl), .inr (.inl rfl), trivial⟩, ⟨.inl rfl, .inl rfl, .inl rfl, .inl rfl, .inl rfl, .inl rfl, trivial⟩⟩, rfl⟩ ?_ (fun _ => rfl)
  intro k hk
  refine vc_sound (C := seat) seat_ok (pl := [(12, (.of [(0, .take), (1, .take), (2, .take), (3, .take), (4, .take), (5, .take), (6, .take), (7, .take), (8, .take), (9, .take), (10, .take), (11, .take), (12, .take), (13, .take), (14, .take), (15, .take), (16, .take), (17, .take), (18, .take), (19, .take), (20, .take), (21, .take), (22, .take), (23, .take), (24, .take), (25, .take), (26, .take), (27, .take), (28, .take), (29, .take), (30, .take), (31, .take), (32, .take), (33, .take), (34, .take), (35, .take), (36, .take), (37, .take), (38, .take), (39, .take), (40, .take), (41, .take), (42, .take), (43, .take), (44, .take), (45, .take), (46, .take), (47, .take), (48, .take), (49, .take), (50, .take), (51, .take), (52, .take), (53, .take), (54, .take), (55, .take), (56, .take), (57, .take), (58, .take)]))]) ?_
  by_cases hlt : k < v.length
  · obtain ⟨y, hy⟩ : ∃ y, v[k]? = some y := ⟨_, List.getElem?_eq_getElem hlt⟩
    have hrow := de_at hy
    have hrowz := de_at haz
    have hrowo := de_at (l := v.map older) (k := k) (y := older y) (by rw [List.getElem?_map, hy]; rfl)
    have hyb := hvok y (List.mem_of_getElem? hy)
    have hsp := hspec k y hlt hy
    have hfs := full_step hy
    have hA : (y.age < 255 ∧ (older y).age = y.age + 1) ∨ (y.age = 255 ∧ (older y).age = 255) := by
      unfold older
      simp only
      obtain ⟨_, _, h3⟩ := hyb
      split <;> omega
    have hmm0 : (IntKind.i64.wrap (older y).age != bif false then (if (255 : Int) > IntKind.i64.wrap (IntKind.i64.wrap y.age + 1) then 255 else IntKind.i64.wrap (IntKind.i64.wrap y.age + 1)) else (if (255 : Int) < IntKind.i64.wrap (IntKind.i64.wrap y.age + 1) then 255 else IntKind.i64.wrap (IntKind.i64.wrap y.age + 1))) = false := by
      obtain ⟨_, _, h3⟩ := hyb
      simp only [boolSet, cond_false, IntKind.wrap_i64]
      split <;> omega
    have hN : (older y).node = y.node := rfl
    generalize (older y).age = A at hA hrowo hmm0
    generalize (older y).node = N at hN hrowo
    subst hN
    repeat' ((try conv => whnf); first
      | (with_reducible refine OKv.go (C := seat) seat_ok ?_)
      | (with_reducible refine BB_true ?_)
      | (with_reducible refine BB_false ?_)
      | (with_reducible refine Both.mk ?_ ?_)
      | (with_reducible refine VS.mk ?_)
      | (refine PSem.go (C := seat) seat_ok ?_)
      | (refine And.intro (PlanOK.mk (by kernel_rfl) rfl (by kernel_rfl) (by kernel_rfl)) ?_)
      | (refine And.intro rfl (Exists.intro _ (And.intro (by first | assumption | rfl) ?_)))
      | (refine And.intro ⟨rfl, rfl, rfl⟩ ?_)
      | (refine And.intro ⟨by omega, by rw [List.length_map]; omega⟩ ?_)
      | (refine BB.mk (fun _h => ?_) (fun _h => ?_) <;> (first | (exact absurd _h (by decide)) | (rw [hk0, hl0] at _h; exact absurd _h (by decide)) | (rw [hmm0] at _h; exact absurd _h (by decide)) | (exfalso; clear hok hfew hvok; simp only [boolSet, cond_true, cond_false, IntKind.wrap_i64] at * <;> omega) | (exfalso; clear hok hfew hvok; simp only [boolSet, cond_true, cond_false, IntKind.wrap_i64] at * <;> (repeat' split at _h) <;> omega) | skip))
      | (refine And.intro ⟨rfl, rfl, rfl, by first | (simp only [chunks_len, List.length_map, List.length_take, List.length_drop, List.length_append, List.length_cons, List.length_nil] <;> omega) | omega | rfl⟩ ?_)
      | (refine And.intro ⟨rfl, by first | (simp only [chunks_len, List.length_map, List.length_take, List.length_drop, List.length_append, List.length_cons, List.length_nil] <;> omega) | omega | rfl⟩ ?_)
      | (refine And.intro (by first | exact ⟨rfl, Nat.le_refl _⟩ | first | (simp only [chunks_len, List.length_map, List.length_take, List.length_drop, List.length_append, List.length_cons, List.length_nil] <;> omega) | omega | rfl) ?_)
      | (refine fun (caps : Nat → Nat) hcaps => ?_; conv at hcaps => whnf)
      | (refine fun (cap' : Nat) hcap' => ?_)
      | (refine And.intro (by omega) ?_)
      | (refine BB.mk (fun _h => ?_) (fun _h => ?_) <;> (first | (exact absurd _h (by decide)) | (exfalso; simp only [boolSet] at _h <;> omega) | skip)))
    all_goals (try conv => whnf)
    all_goals refine ⟨k + 1, by omega, by omega, ⟨⟨[0, 1], by decide, GG_no, rfl, SubOld.refl _ rfl, ⟨.inr (.inl rfl), .inr (.inl rfl), trivial⟩, ⟨.inl rfl, .inl rfl, .inl rfl, .inl ?_, .inl rfl, .inl (num_eq (by rw [IntKind.wrap_i64]; omega)), trivial⟩⟩, rfl⟩⟩
    all_goals rw [hfs]
    all_goals first
      | exact bool_eq (by rw [_h, Bool.true_or])
      | exact bool_eq (by rw [_h, Bool.false_or])
  · obtain rfl : k = v.length := by omega
    clear hk
    cases hfu : fullN v v.length with
    | true =>
      repeat' ((try conv => whnf); first
        | (with_reducible refine OKv.go (C := seat) seat_ok ?_)
        | (with_reducible refine BB_true ?_)
        | (with_reducible refine BB_false ?_)
        | (with_reducible refine Both.mk ?_ ?_)
        | (with_reducible refine VS.mk ?_)
        | (refine PSem.go (C := seat) seat_ok ?_)
        | (refine And.intro (PlanOK.mk (by kernel_rfl) rfl (by kernel_rfl) (by kernel_rfl)) ?_)
        | (refine And.intro rfl (Exists.intro _ (And.intro (by first | assumption | rfl) ?_)))
        | (refine And.intro ⟨rfl, rfl, rfl⟩ ?_)
        | (refine call_ro [] (awake_ok) GG_no rfl rfl rfl trivial ?_; rintro r bs' ext ⟨rfl, rfl⟩)
        | (refine And.intro (by omega) ?_)
        | (refine BB.mk (fun _h => ?_) (fun _h => ?_) <;> (first | (exact absurd _h (by decide)) | (exfalso; simp only [boolSet] at _h <;> omega) | skip)))
      all_goals (try conv => whnf)
      exact Fin.mk ⟨rfl, rfl⟩
    | false =>
      have hK2 : oldZ (oldAt (v.map older) (v.map older).length) = (a : Int) := by
        rw [List.length_map, oldAt_older (full_end hfu)]
        exact hK
      repeat' ((try conv => whnf); first
        | (with_reducible refine OKv.go (C := seat) seat_ok ?_)
        | (with_reducible refine BB_true ?_)
        | (with_reducible refine BB_false ?_)
        | (with_reducible refine Both.mk ?_ ?_)
        | (with_reducible refine VS.mk ?_)
        | (refine PSem.go (C := seat) seat_ok ?_)
        | (refine And.intro (PlanOK.mk (by kernel_rfl) rfl (by kernel_rfl) (by kernel_rfl)) ?_)
        | (refine And.intro rfl (Exists.intro _ (And.intro (by first | assumption | rfl) ?_)))
        | (refine And.intro ⟨rfl, rfl, rfl⟩ ?_)
        | (refine call_ro [.n 1] (oldest_y (v.map older) c2 v.length _ (by rw [List.length_map]) hvl hK2) GG_no rfl rfl rfl ⟨⟨_, rfl, rfl, rfl⟩, trivial⟩ ?_; rintro r bs' ext ⟨rfl, rfl⟩)
        | (refine call_ro [] (awake_ok) GG_no rfl rfl rfl trivial ?_; rintro r bs' ext ⟨rfl, rfl⟩)
        | (refine BB.mk (fun _h => ?_) (fun _h => ?_) <;> (first | (exact absurd _h (by decide)) | (exfalso; simp only [boolSet] at _h <;> omega)))
        | (refine And.intro (by omega) ?_)
        | (refine BB.mk (fun _h => ?_) (fun _h => ?_) <;> (first | (exact absurd _h (by decide)) | (exfalso; simp only [boolSet] at _h <;> omega) | skip)))
      all_goals (try conv => whnf)
      exact Fin.mk ⟨rfl, rfl⟩
set_option maxRecDepth 100000 in
set_option maxHeartbeats 4000000 in
theorem agesZero (l : List De) (cap : Nat) (self : Int) (hl : l.length ≤ 9223372036854775807) (hok : ∀ y ∈ l, DeOk y) (hfew : (l.all (fun d => decide (d.fl.length ≤ 8)) && decide (l.length ≤ 20)) = true) (hK_ : oldAt (viewN l self 20 256) (viewN l self 20 256).length = none) (hv0 : (viewN l self 20 256).length = 0) : FnOK Try.prog GG 6 [.ro 4 (l.map deC)] [.s (.o 0) 4 0 l.length cap, .v (.int .u8 self)] (fun r _ ext => r = .v (.bool true) ∧ ext = []) := by
  obtain ⟨hf, hl20⟩ := few_facts hfew
  obtain ⟨v, hv⟩ : ∃ v, v = viewN l self 20 256 := ⟨_, rfl⟩
  rw [← hv] at hK_ hv0
  have hvr : Rising v := hv ▸ view_rising l self 20 256
  have hvl : v.length ≤ 1099511627776 := by have := (view_len l self 20 256).1; rw [← hv] at this; omega
  have hvok : ∀ y ∈ v, DeOk y := by rw [hv]; exact view_ok_mem hok
  have hvf : FlOk v := by rw [hv]; exact view_fl hf
  have hK : oldZ (oldAt v v.length) = (-1 : Int) := by rw [hK_]; rfl
  have hk0 : decide ((-1 : Int) < 0) = true := by decide
  have hl0 : ((v.length : Int) == 0) = true := by rw [beq_iff_eq]; omega
  refine fn_val (C := seat) seat_ok [(12, (.of [(0, .take), (1, .take), (2, .take), (3, .take), (4, .take), (5, .take), (6, .take), (7, .take), (8, .take), (9, .take), (10, .take), (11, .take), (12, .take), (13, .take), (14, .take), (15, .take), (16, .take), (17, .take), (18, .take), (19, .take), (20, .take), (21, .take), (22, .take), (23, .take), (24, .take), (25, .take), (26, .take), (27, .take), (28, .take), (29, .take), (30, .take), (31, .take), (32, .take), (33, .take), (34, .take), (35, .take), (36, .take), (37, .take), (38, .take), (39, .take), (40, .take), (41, .take), (42, .take), (43, .take), (44, .take), (45, .take), (46, .take), (47, .take), (48, .take), (49, .take), (50, .take), (51, .take), (52, .take), (53, .take), (54, .take), (55, .take), (56, .take), (57, .take), (58, .take)]))] GG_no (Try.func6) rfl rfl rfl rfl rfl (fun _ => rfl) rfl ?_
  repeat' ((try conv => whnf); first
    | (with_reducible refine OKv.go (C := seat) seat_ok ?_)
    | (with_reducible refine BB_true ?_)
    | (with_reducible refine BB_false ?_)
    | (with_reducible refine Both.mk ?_ ?_)
    | (with_reducible refine VS.mk ?_)
    | (refine PSem.go (C := seat) seat_ok ?_)
    | (refine And.intro (PlanOK.mk (by kernel_rfl) rfl (by kernel_rfl) (by kernel_rfl)) ?_)
    | (refine And.intro rfl (Exists.intro _ (And.intro (by first | assumption | rfl) ?_)))
    | (refine And.intro ⟨rfl, rfl, rfl⟩ ?_)
    | (refine call_ro [.o 0] (few_b l cap _ hl hfew) GG_no rfl rfl rfl ⟨⟨_, rfl, rfl, rfl⟩, trivial⟩ ?_; rintro r bs' ext ⟨rfl, rfl⟩)
    | (refine call_ro [.o 0] (view_ok l cap self 20 (by omega) (fun y hy => (hok y hy).1)) GG_no rfl rfl rfl ⟨⟨_, rfl, rfl, rfl⟩, trivial⟩ ?_; rintro r bs' ext ⟨c1, hc1, rfl, rfl⟩; rw [← hv] at hc1 ⊢)
    | (refine call_ro [.n 0] (older_ok v c1 hvl hvf (fun y hy => (hvok y hy).2.2)) GG_no rfl rfl rfl ⟨⟨_, rfl, rfl, rfl⟩, trivial⟩ ?_; rintro r bs' ext ⟨c2, hc2, rfl, rfl⟩)
    | (refine call_ro [.n 0] (oldest_z v c1 (-1) hvl hK) GG_no rfl rfl rfl ⟨⟨_, rfl, rfl, rfl⟩, trivial⟩ ?_; rintro r bs' ext ⟨rfl, rfl⟩)
    | (refine BB.mk (fun _h => ?_) (fun _h => ?_) <;> (first | (exact absurd _h (by decide)) | (rw [hk0, hl0] at _h; exact absurd _h (by decide)) | (rw [hmm0] at _h; exact absurd _h (by decide)) | (exfalso; clear hok hfew hvok; simp only [boolSet, cond_true, cond_false, IntKind.wrap_i64] at * <;> omega) | (exfalso; clear hok hfew hvok; simp only [boolSet, cond_true, cond_false, IntKind.wrap_i64] at * <;> (repeat' split at _h) <;> omega) | skip))
    | (refine And.intro (by omega) ?_)
    | (refine BB.mk (fun _h => ?_) (fun _h => ?_) <;> (first | (exact absurd _h (by decide)) | (exfalso; simp only [boolSet] at _h <;> omega) | skip)))
  all_goals (try conv => whnf)
  refine loop_rule (α := Nat) (fun k => k ≤ v.length) (fun k => { slots := [(5, .s (.n 0) 4 0 v.length c1), (6, .s (.n 1) 4 0 v.length c2), (7, .v (.int .i64 (-1))), (8, .v (.bool (fullN v k))), (41, .v (.int .i64 v.length)), (42, .v (.int .i64 (k : Int)))], nt := 124, mem := ⟨GG, [.ro 4 (l.map deC)], [.row 27 4 c1 (v.map deC), .row 27 4 c2 ((v.map older).map deC)]⟩ }) (fun k => v.length - k) 0 (Nat.zero_le _) ⟨⟨[0, 1], (by decide), GG_no, rfl, (SubOld.refl _ rfl), ⟨.inr (.inl rfl), .inr (.inl rfl), trivial⟩, ⟨.inl rfl, .inl rfl, .inl rfl, .inl rfl, .inl rfl, .inl rfl, trivial⟩⟩, rfl⟩ ?_ (fun _ => rfl)
  intro k hk
  refine vc_sound (C := seat) seat_ok (pl := [(12, (.of [(0, .take), (1, .take), (2, .take), (3, .take), (4, .take), (5, .take), (6, .take), (7, .take), (8, .take), (9, .take), (10, .take), (11, .take), (12, .take), (13, .take), (14, .take), (15, .take), (16, .take), (17, .take), (18, .take), (19, .take), (20, .take), (21, .take), (22, .take), (23, .take), (24, .take), (25, .take), (26, .take), (27, .take), (28, .take), (29, .take), (30, .take), (31, .take), (32, .take), (33, .take), (34, .take), (35, .take), (36, .take), (37, .take), (38, .take), (39, .take), (40, .take), (41, .take), (42, .take), (43, .take), (44, .take), (45, .take), (46, .take), (47, .take), (48, .take), (49, .take), (50, .take), (51, .take), (52, .take), (53, .take), (54, .take), (55, .take), (56, .take), (57, .take), (58, .take)]))]) ?_
  by_cases hlt : k < v.length
  · omega
  · obtain rfl : k = v.length := by omega
    clear hk
    cases hfu : fullN v v.length with
    | true =>
      repeat' ((try conv => whnf); first
        | (with_reducible refine OKv.go (C := seat) seat_ok ?_)
        | (with_reducible refine BB_true ?_)
        | (with_reducible refine BB_false ?_)
        | (with_reducible refine Both.mk ?_ ?_)
        | (with_reducible refine VS.mk ?_)
        | (refine PSem.go (C := seat) seat_ok ?_)
        | (refine And.intro (PlanOK.mk (by kernel_rfl) rfl (by kernel_rfl) (by kernel_rfl)) ?_)
        | (refine And.intro rfl (Exists.intro _ (And.intro (by first | assumption | rfl) ?_)))
        | (refine And.intro ⟨rfl, rfl, rfl⟩ ?_)
        | (refine call_ro [] (awake_ok) GG_no rfl rfl rfl trivial ?_; rintro r bs' ext ⟨rfl, rfl⟩)
        | (refine And.intro (by omega) ?_)
        | (refine BB.mk (fun _h => ?_) (fun _h => ?_) <;> (first | (exact absurd _h (by decide)) | (exfalso; simp only [boolSet] at _h <;> omega) | skip)))
      all_goals (try conv => whnf)
      exact Fin.mk ⟨rfl, rfl⟩
    | false =>
      have hK2 : oldZ (oldAt (v.map older) (v.map older).length) = (-1) := by
        rw [List.length_map, oldAt_older (full_end hfu)]
        exact hK
      repeat' ((try conv => whnf); first
        | (with_reducible refine OKv.go (C := seat) seat_ok ?_)
        | (with_reducible refine BB_true ?_)
        | (with_reducible refine BB_false ?_)
        | (with_reducible refine Both.mk ?_ ?_)
        | (with_reducible refine VS.mk ?_)
        | (refine PSem.go (C := seat) seat_ok ?_)
        | (refine And.intro (PlanOK.mk (by kernel_rfl) rfl (by kernel_rfl) (by kernel_rfl)) ?_)
        | (refine And.intro rfl (Exists.intro _ (And.intro (by first | assumption | rfl) ?_)))
        | (refine And.intro ⟨rfl, rfl, rfl⟩ ?_)
        | (refine call_ro [.n 1] (oldest_y (v.map older) c2 v.length _ (by rw [List.length_map]) hvl hK2) GG_no rfl rfl rfl ⟨⟨_, rfl, rfl, rfl⟩, trivial⟩ ?_; rintro r bs' ext ⟨rfl, rfl⟩)
        | (refine call_ro [] (awake_ok) GG_no rfl rfl rfl trivial ?_; rintro r bs' ext ⟨rfl, rfl⟩)
        | (refine BB.mk (fun _h => ?_) (fun _h => ?_) <;> (first | (exact absurd _h (by decide)) | (exfalso; simp only [boolSet] at _h <;> omega)))
        | (refine And.intro (by omega) ?_)
        | (refine BB.mk (fun _h => ?_) (fun _h => ?_) <;> (first | (exact absurd _h (by decide)) | (exfalso; simp only [boolSet] at _h <;> omega) | skip)))
      all_goals (try conv => whnf)
      exact Fin.mk ⟨rfl, rfl⟩
set_option maxRecDepth 100000 in
set_option maxHeartbeats 4000000 in
theorem descAges_ok (l : List De) (cap : Nat) (self : Int) (hl : l.length ≤ 9223372036854775807) (hok : ∀ y ∈ l, DeOk y) : FnOK Try.prog GG 6 [.ro 4 (l.map deC)] [.s (.o 0) 4 0 l.length cap, .v (.int .u8 self)] (fun r _ ext => r = .v (.bool true) ∧ ext = []) := by
  cases hfew : (l.all (fun d => decide (d.fl.length ≤ 8)) && decide (l.length ≤ 20)) with
  | true =>
    rcases oldAt_spec (viewN l self 20 256) _ (Nat.le_refl _) with ⟨h0, hnone⟩ | ⟨a, z, hsome, haz, halt, hspec⟩
    · exact agesZero l cap self hl hok hfew hnone h0
    · exact agesSome l cap self hl hok hfew a z hsome haz halt hspec
  | false =>
    refine fn_val (C := seat) seat_ok [(12, (.of [(0, .take), (1, .take), (2, .take), (3, .take), (4, .take), (5, .take), (6, .take), (7, .take), (8, .take), (9, .take), (10, .take), (11, .take), (12, .take), (13, .take), (14, .take), (15, .take), (16, .take), (17, .take), (18, .take), (19, .take), (20, .take), (21, .take), (22, .take), (23, .take), (24, .take), (25, .take), (26, .take), (27, .take), (28, .take), (29, .take), (30, .take), (31, .take), (32, .take), (33, .take), (34, .take), (35, .take), (36, .take), (37, .take), (38, .take), (39, .take), (40, .take), (41, .take), (42, .take), (43, .take), (44, .take), (45, .take), (46, .take), (47, .take), (48, .take), (49, .take), (50, .take), (51, .take), (52, .take), (53, .take), (54, .take), (55, .take), (56, .take), (57, .take), (58, .take)]))] GG_no (Try.func6) rfl rfl rfl rfl rfl (fun _ => rfl) rfl ?_
    repeat' ((try conv => whnf); first
      | (with_reducible refine OKv.go (C := seat) seat_ok ?_)
      | (with_reducible refine BB_true ?_)
      | (with_reducible refine BB_false ?_)
      | (with_reducible refine Both.mk ?_ ?_)
      | (with_reducible refine VS.mk ?_)
      | (refine PSem.go (C := seat) seat_ok ?_)
      | (refine And.intro (PlanOK.mk (by kernel_rfl) rfl (by kernel_rfl) (by kernel_rfl)) ?_)
      | (refine And.intro rfl (Exists.intro _ (And.intro (by first | assumption | rfl) ?_)))
      | (refine And.intro ⟨rfl, rfl, rfl⟩ ?_)
      | (refine call_ro [.o 0] (few_b l cap _ hl hfew) GG_no rfl rfl rfl ⟨⟨_, rfl, rfl, rfl⟩, trivial⟩ ?_; rintro r bs' ext ⟨rfl, rfl⟩)
      | (refine call_ro [] (awake_ok) GG_no rfl rfl rfl trivial ?_; rintro r bs' ext ⟨rfl, rfl⟩)
      | (refine And.intro (by omega) ?_)
      | (refine BB.mk (fun _h => ?_) (fun _h => ?_) <;> (first | (exact absurd _h (by decide)) | (exfalso; simp only [boolSet] at _h <;> omega) | skip)))
    all_goals (try conv => whnf)
    exact Fin.mk ⟨rfl, rfl⟩
end Go.Proofs.Ytfjankcpnhfogaa
