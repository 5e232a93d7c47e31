/- Of stage 7: Put, and what ids come to that are put one by one. -/
import Derived.Test.YtcjcnlahieddoaaK18h
import Derived.Test.YtcjcnlahieddoaaI07g
namespace Go.Proofs.Ytcjcnlahieddoaa
open Go.RowKit

/-- What is handed back has room for what is in it. -/
theorem FnOK.cap {P : Program} {G : List (Nat × SB)} {f : Nat} {bs : List SB} {args : List SV} {K : SV → List SB → List SB → Prop} (h : FnOK P G f bs args K) :
    FnOK P G f bs args fun r bs' ext => K r bs' ext ∧ ∀ (i t sz cap : Nat) els, ext[i]? = some (.row t sz cap els) → els.length ≤ cap := by
  refine ⟨h.ent, fun ρ w us hm hr => (h.out ρ w us hm hr).mono ?_⟩
  rintro e w' ⟨ρ', r, bs', ext, u, h1, h2, h3, h4⟩
  exact ⟨ρ', r, bs', ext, u, h1, h2, h3, h4, fun i t sz cap els hi => (h2.mem.blk (.n i) _ hi).1⟩
def putL (l : List Id_) (x : Id_) : List Id_ := if (l.any fun y => eqB y x) then l else insL l x
theorem insL_len (l : List Id_) (x : Id_) : (insL l x).length = l.length + 1 := by
  have : l.findIdx (lessB x) ≤ l.length := List.findIdx_le_length
  simp only [insL, List.length_append, List.length_take, List.length_cons, List.length_drop]
  omega
theorem has_is (l : List Id_) (x : Id_) (cap : Nat) (hl : l.length ≤ 1099511627776) (b : Bool) (h : (l.any fun y => eqB y x) = b) : FnOK Try.prog GG 22 [.ro 3 (l.map idC)] [.s (.o 0) 3 0 l.length cap, idS x] (fun r _ ext => r = .v (.bool b) ∧ ext = []) := by
  subst h
  exact has_p l x cap hl
set_option maxRecDepth 100000 in
set_option maxHeartbeats 4000000 in
theorem cloneI_ok (l : List Id_) (cap : Nat) (hc : l.length ≤ cap) (hl : l.length ≤ 1099511627776) : FnOK Try.prog GG 42 [.ro 3 (l.map idC)] [.s (.o 0) 3 0 l.length cap] (fun r _ ext => ∃ cap', r = .s (.n 0) 3 0 l.length cap' ∧ ext = [.row 26 3 cap' (l.map idC)]) := by
  refine fn_newR (C := seat) seat_ok [] GG_no (Try.func42) rfl rfl rfl rfl rfl rfl ?_
  repeat' ((try conv => whnf); first
    | (with_reducible refine OKv.go (C := seat) seat_ok ?_)
    | (with_reducible refine BB_true ?_)
    | (with_reducible refine BB_false ?_)
    | (with_reducible refine Both.mk ?_ ?_)
    | (with_reducible refine VS.mk ?_)
    | (refine PSem.go (C := seat) seat_ok ?_)
    | (refine And.intro (PlanOK.mk (by kernel_rfl) rfl (by kernel_rfl) (by kernel_rfl)) ?_)
    | (refine And.intro rfl (Exists.intro _ (And.intro (by first | assumption | rfl) ?_)))
    | (refine fun (b : Bool) hb => ?_)
    | (refine And.intro ⟨rfl, rfl, rfl, rfl⟩ ?_)
    | (refine And.intro ⟨rfl, by rw [List.length_map]; omega⟩ ?_)
    | (refine And.intro (by first | omega | (dsimp only; omega)) ?_)
    | (intro cap' hcap')
    | (refine And.intro (by omega) ?_)
    | (refine BB.mk (fun _h => ?_) (fun _h => ?_) <;> (first | (exact absurd _h (by decide)) | (exfalso; simp only [rightB, runL_len, wrapSet, boolSet] at _h <;> omega) | skip)))
  all_goals (try conv => whnf)
  · have h0 : cap = 0 := by
      by_cases h : cap = 0
      · exact h
      · rw [hb h] at _h; cases _h
    have hl0 : l = [] := List.eq_nil_of_length_eq_zero (by omega)
    subst hl0
    exact ⟨⟨[0], .s (.n 0) 3 0 0 0, [.row 26 3 0 []], by decide, .inl (.inr ⟨_, _, _, rfl, rfl⟩), ⟨.inl (.inl ⟨rfl, rfl⟩), trivial⟩, 0, rfl, rfl⟩, rfl⟩
  · refine ⟨⟨[1], .s (.n 0) 3 0 (0 + l.length) cap', [.row 26 3 cap' (l.map idC)], by decide, .inl (.inl rfl), ⟨.inr ?_, trivial⟩, cap', by rw [Nat.zero_add], rfl⟩, rfl⟩
    show some (SB.row 26 3 cap' ([] ++ ((l.map idC).drop 0).take l.length)) = _
    rw [List.nil_append, List.drop_zero, List.take_of_length_le (by rw [List.length_map]; omega)]
set_option maxRecDepth 100000 in
set_option maxHeartbeats 4000000 in
theorem put_old (l : List Id_) (x : Id_) (cap : Nat) (hl : l.length ≤ 1099511627000) (hc : l.length ≤ cap) (hn : (l.any fun y => eqB y x) = true) : FnOK Try.prog GG 40 [.ro 3 (l.map idC)] [.s (.o 0) 3 0 l.length cap, idS x] (fun r _ ext => ∃ cap, r = .s (.n 0) 3 0 l.length cap ∧ ext = [.row 26 3 cap (l.map idC)]) := by
  refine fn_new (C := seat) seat_ok [(4, (.of [(0, .take), (1, .take), (2, .take), (3, .take), (5, .take), (6, .take), (7, .take), (4, .do_), (8, .do_), (9, .last), (10, .last)]))] GG_no (Try.func40) rfl rfl rfl rfl rfl rfl ?_
  repeat' ((try conv => whnf); first
    | (with_reducible refine OKv.go (C := seat) seat_ok ?_)
    | (with_reducible refine BB_true ?_)
    | (with_reducible refine BB_false ?_)
    | (with_reducible refine Both.mk ?_ ?_)
    | (with_reducible refine VS.mk ?_)
    | (refine PSem.go (C := seat) seat_ok ?_)
    | (refine And.intro (PlanOK.mk (by kernel_rfl) rfl (by kernel_rfl) (by kernel_rfl)) ?_)
    | (refine And.intro rfl (Exists.intro _ (And.intro (by first | assumption | rfl) ?_)))
    | (refine call_ro [.o 0] (has_is l x cap (by omega) true hn) GG_no rfl rfl rfl ⟨⟨_, rfl, rfl, rfl⟩, trivial⟩ ?_; rintro r bs' ext ⟨rfl, rfl⟩)
    | (refine call_ro [.o 0] (cloneI_ok l cap hc (by omega)) GG_no rfl rfl rfl ⟨⟨_, rfl, rfl, rfl⟩, trivial⟩ ?_; rintro r bs' ext ⟨cap', rfl, rfl⟩)
    | (refine And.intro (by omega) ?_)
    | (refine BB.mk (fun _h => ?_) (fun _h => ?_) <;> (first | (exact absurd _h (by decide)) | (exfalso; simp only [boolSet] at _h <;> omega) | skip)))
  all_goals (try conv => whnf)
  exact ⟨⟨[1], .s (.n 0) 3 0 l.length cap', [.row 26 3 cap' (l.map idC)], by decide, rfl, ⟨.inr rfl, trivial⟩, cap', rfl, rfl⟩, rfl⟩
theorem put_p (l : List Id_) (x : Id_) (cap : Nat) (hl : l.length ≤ 1099511627000) (hc : l.length ≤ cap) : FnOK Try.prog GG 40 [.ro 3 (l.map idC)] [.s (.o 0) 3 0 l.length cap, idS x]
    (fun r _ ext => ∃ cap, (putL l x).length ≤ cap ∧ r = .s (.n 0) 3 0 (putL l x).length cap ∧ ext = [.row 26 3 cap ((putL l x).map idC)]) := by
  cases h : l.any fun y => eqB y x
  · have hp : putL l x = insL l x := by simp [putL, h]
    rw [hp, insL_len]
    refine (put_new l x cap hl hc h).cap.mono ?_
    rintro r bs' ext ⟨⟨c, rfl, rfl⟩, hk⟩
    have := hk 0 _ _ _ _ rfl
    rw [List.length_map, insL_len] at this
    exact ⟨c, this, rfl, rfl⟩
  · have hp : putL l x = l := by simp [putL, h]
    rw [hp]
    refine (put_old l x cap hl hc h).cap.mono ?_
    rintro r bs' ext ⟨⟨c, rfl, rfl⟩, hk⟩
    have := hk 0 _ _ _ _ rfl
    rw [List.length_map] at this
    exact ⟨c, this, rfl, rfl⟩
set_option maxRecDepth 100000 in
set_option maxHeartbeats 4000000 in
theorem find_okL (l : List Id_) (x : Id_) (g cap : Nat) (p : Id_ → Bool) (hl : l.length ≤ 4611686018427387904) (hg : ∀ y, FnOK Try.prog GG g [.ro 3 [idC x]] [idS y, .p (.o 0) 0 0 0] (fun r _ ext => r = .v (.bool (p y)) ∧ ext = [])) : FnOK Try.prog GG 38 [.ro 3 (l.map idC), .ro 3 [idC x]] [.s (.o 0) 3 0 l.length cap, .fn g [.p (.o 1) 0 0 0]] (fun r _ ext => r = .v (.int .i64 (l.findIdx p)) ∧ ext = []) := by
  refine fn_val (C := seat) seat_ok [] GG_no (Try.func38) rfl rfl rfl rfl rfl (fun _ => rfl) rfl ?_
  repeat' ((try conv => whnf); first
    | (with_reducible refine OKv.go (C := seat) seat_ok ?_)
    | (with_reducible refine BB_true ?_)
    | (with_reducible refine BB_false ?_)
    | (with_reducible refine Both.mk ?_ ?_)
    | (with_reducible refine VS.mk ?_)
    | (refine PSem.go (C := seat) seat_ok ?_)
    | (refine And.intro (PlanOK.mk (by kernel_rfl) rfl (by kernel_rfl) (by kernel_rfl)) ?_)
    | (refine And.intro rfl (Exists.intro _ (And.intro (by first | assumption | rfl) ?_)))
    | (refine And.intro (by omega) ?_)
    | (refine BB.mk (fun _h => ?_) (fun _h => ?_) <;> (first | (exact absurd _h (by decide)) | (exfalso; simp only [boolSet] at _h <;> omega) | skip)))
  all_goals (try conv => whnf)
  refine loop_rule (α := Nat) (fun k => k ≤ l.length ∧ ∀ z ∈ l.take k, p z = false) (fun k => { slots := [(0, .s (.o 0) 3 0 l.length cap), (1, .fn g [.p (.o 1) 0 0 0]), (7, .s (.o 0) 3 0 l.length cap), (8, .v (.int .i64 l.length)), (9, .v (.int .i64 k))], nt := 21, mem := ⟨GG, [.ro 3 (l.map idC), .ro 3 [idC x]], []⟩ }) (fun k => l.length - k) 0 ⟨Nat.zero_le _, by simp⟩ ⟨⟨[], List.nodup_nil, GG_no, rfl, (SubOld.refl _ rfl), trivial, ⟨.inl rfl, .inl rfl, .inl rfl, .inl rfl, .inl rfl, trivial⟩⟩, rfl⟩ ?_ (fun _ => rfl)
  rintro k ⟨hk, hp⟩
  refine vc_sound (C := seat) seat_ok (pl := []) ?_
  by_cases hlt : k < l.length
  · obtain ⟨y, hy⟩ : ∃ y, l[k]? = some y := ⟨_, List.getElem?_eq_getElem hlt⟩
    have hrow := row_at hy
    repeat' ((try conv => whnf); first
      | (with_reducible refine OKv.go (C := seat) seat_ok ?_)
      | (with_reducible refine BB_true ?_)
      | (with_reducible refine BB_false ?_)
      | (with_reducible refine Both.mk ?_ ?_)
      | (with_reducible refine VS.mk ?_)
      | (refine PSem.go (C := seat) seat_ok ?_)
      | (refine And.intro (PlanOK.mk (by kernel_rfl) rfl (by kernel_rfl) (by kernel_rfl)) ?_)
      | (refine And.intro rfl (Exists.intro _ (And.intro (by first | assumption | rfl) ?_)))
      | (refine call_ro [.o 1] (hg y) GG_no rfl rfl rfl ⟨⟨_, rfl, rfl, rfl⟩, trivial⟩ ?_; rintro r bs' ext ⟨rfl, rfl⟩)
      | (refine And.intro (by omega) ?_)
      | (refine BB.mk (fun _h => ?_) (fun _h => ?_) <;> (first | (exact absurd _h (by decide)) | (exfalso; simp only [boolSet] at _h <;> omega) | skip)))
    all_goals (try conv => whnf)
    · exact fin_num (by rw [findIdx_eq hp hy _h]) rfl
    · exact ⟨k + 1, ⟨by omega, take_snoc hp hy _h⟩, by omega, ⟨⟨[], List.nodup_nil, GG_no, rfl, SubOld.refl _ rfl, trivial, ⟨.inl rfl, .inl rfl, .inl rfl, .inl rfl, .inl (num_eq (by rw [IntKind.wrap_i64]; omega)), trivial⟩⟩, rfl⟩⟩
  · have hp' : l.findIdx p = l.length := by
      rw [List.findIdx_eq_length]
      rw [List.take_of_length_le (by omega)] at hp
      exact hp
    repeat' ((try conv => whnf); first
      | (with_reducible refine OKv.go (C := seat) seat_ok ?_)
      | (with_reducible refine BB_true ?_)
      | (with_reducible refine BB_false ?_)
      | (with_reducible refine Both.mk ?_ ?_)
      | (with_reducible refine VS.mk ?_)
      | (refine PSem.go (C := seat) seat_ok ?_)
      | (refine And.intro (PlanOK.mk (by kernel_rfl) rfl (by kernel_rfl) (by kernel_rfl)) ?_)
      | (refine And.intro rfl (Exists.intro _ (And.intro (by first | assumption | rfl) ?_)))
      | (refine And.intro (by omega) ?_)
      | (refine BB.mk (fun _h => ?_) (fun _h => ?_) <;> (first | (exact absurd _h (by decide)) | (exfalso; simp only [boolSet] at _h <;> omega) | skip)))
    all_goals (try conv => whnf)
    exact fin_num (by rw [hp']) rfl
set_option maxRecDepth 100000 in
set_option maxHeartbeats 4000000 in
theorem has_pL (l : List Id_) (x : Id_) (cap : Nat) (hl : l.length ≤ 4611686018427387904) : FnOK Try.prog GG 22 [.ro 3 (l.map idC)] [.s (.o 0) 3 0 l.length cap, idS x] (fun r _ ext => r = .v (.bool (l.any (fun y => eqB y x))) ∧ ext = []) := by
  refine fn_val (C := seat) seat_ok [] GG_no (Try.func22) rfl rfl rfl rfl rfl (fun _ => rfl) rfl ?_
  repeat' ((try conv => whnf); first
    | (with_reducible refine OKv.go (C := seat) seat_ok ?_)
    | (with_reducible refine BB_true ?_)
    | (with_reducible refine BB_false ?_)
    | (with_reducible refine Both.mk ?_ ?_)
    | (with_reducible refine VS.mk ?_)
    | (refine PSem.go (C := seat) seat_ok ?_)
    | (refine And.intro (PlanOK.mk (by kernel_rfl) rfl (by kernel_rfl) (by kernel_rfl)) ?_)
    | (refine And.intro rfl (Exists.intro _ (And.intro (by first | assumption | rfl) ?_)))
    | (refine call_ro [.o 0, _] (find_okL l x _ cap (fun y => eqB y x) hl (fun y => has1_ok x y)) GG_no rfl rfl rfl ⟨⟨_, rfl, rfl, rfl⟩, ⟨_, rfl, _, rfl, rfl, rfl, rfl⟩, trivial⟩ ?_; rintro r bs' ext ⟨rfl, rfl⟩)
    | (refine And.intro (by omega) ?_)
    | (refine BB.mk (fun _h => ?_) (fun _h => ?_) <;> (first | (exact absurd _h (by decide)) | (exfalso; simp only [boolSet] at _h <;> omega) | skip)))
  all_goals (try conv => whnf)
  all_goals (try (refine Fin.mk ?_))
  all_goals
    refine ⟨bool_eq ?_, rfl⟩
    rw [Bool.eq_iff_iff]
    simp only [decide_eq_true_eq, List.any_eq_true, Int.ofNat_lt]
    rw [List.findIdx_lt_length]
theorem putL_len (l : List Id_) (x : Id_) : (putL l x).length ≤ l.length + 1 := by
  unfold putL
  split
  · omega
  · rw [insL_len]; omega
theorem take_suc {l : List Id_} {k : Nat} {y : Id_} (hy : l[k]? = some y) : l.take (k + 1) = l.take k ++ [y] := by rw [List.take_add_one, hy]; rfl


theorem eqB_iff {x y : Id_} : eqB x y = true ↔ x = y := by
  cases x; cases y
  simp [eqB]
theorem eqB_false {x y : Id_} : eqB x y = false ↔ x ≠ y := by rw [← Bool.not_eq_true, eqB_iff]
theorem less_trans {x y z : Id_} (h1 : lessB x y = true) (h2 : lessB y z = true) : lessB x z = true := by
  simp only [lessB, decide_eq_true_eq] at *
  omega
theorem less_irr (x : Id_) : ¬ lessB x x = true := by
  simp only [lessB, decide_eq_true_eq]
  omega
theorem less_tot {x y : Id_} (h : lessB x y = false) (hne : y ≠ x) : lessB y x = true := by
  have h3 : ¬ (y.n = x.n ∧ y.i = x.i ∧ y.s = x.s) := fun e => hne (by cases x; cases y; simp at e; simp [e])
  simp only [lessB, decide_eq_true_eq, decide_eq_false_iff_not] at *
  omega
abbrev Up (l : List Id_) : Prop := l.Pairwise fun a b => lessB a b = true
theorem up_cons {x : Id_} {l : List Id_} : Up (x :: l) ↔ (∀ z ∈ l, lessB x z = true) ∧ Up l := List.pairwise_cons
theorem go_up : ∀ (x : Id_) (r : List Id_), risingB.go x r = true ↔ Up (x :: r)
  | x, [] => by simp [risingB.go]
  | x, y :: r => by
    rw [risingB.go, Bool.and_eq_true, go_up y r, up_cons (x := x)]
    constructor
    · rintro ⟨h1, h2⟩
      refine ⟨fun z hz => ?_, h2⟩
      rcases List.mem_cons.1 hz with rfl | hz
      · exact h1
      · exact less_trans h1 ((up_cons.1 h2).1 z hz)
    · rintro ⟨h1, h2⟩
      exact ⟨h1 y (by simp), h2⟩
theorem rising_up (l : List Id_) : risingB l = true ↔ Up l := by
  cases l with
  | nil => simp [risingB]
  | cons x r => exact go_up x r
theorem insL_cons (y : Id_) (l : List Id_) (x : Id_) : insL (y :: l) x = if lessB x y then x :: y :: l else y :: insL l x := by
  simp only [insL, List.findIdx_cons]
  cases h : lessB x y <;> simp
theorem insL_nil (x : Id_) : insL [] x = [x] := rfl
theorem mem_ins {l : List Id_} {x z : Id_} : z ∈ insL l x ↔ z = x ∨ z ∈ l := by
  induction l with
  | nil => simp [insL_nil]
  | cons y l ih =>
    rw [insL_cons]
    split
    · simp
    · simp only [List.mem_cons, ih]
      constructor
      · rintro (h | h | h)
        · exact .inr (.inl h)
        · exact .inl h
        · exact .inr (.inr h)
      · rintro (h | h | h)
        · exact .inr (.inl h)
        · exact .inl h
        · exact .inr (.inr h)
theorem up_ins {l : List Id_} {x : Id_} (h : Up l) (hx : x ∉ l) : Up (insL l x) := by
  induction l with
  | nil => simp [insL_nil]
  | cons y l ih =>
    rw [insL_cons]
    rw [up_cons] at h
    split
    · rename_i hl
      refine up_cons.2 ⟨fun z hz => ?_, up_cons.2 h⟩
      rcases List.mem_cons.1 hz with rfl | hz
      · exact hl
      · exact less_trans hl (h.1 z hz)
    · rename_i hl
      refine up_cons.2 ⟨fun z hz => ?_, ih h.2 (fun hm => hx (by simp [hm]))⟩
      rcases mem_ins.1 hz with rfl | hz
      · exact less_tot (by simpa using hl) (fun e => hx (by simp [e]))
      · exact h.1 z hz
theorem any_mem {l : List Id_} {x : Id_} : (l.any fun y => eqB y x) = true ↔ x ∈ l := by
  rw [List.any_eq_true]
  constructor
  · rintro ⟨y, hy, h⟩
    rw [eqB_iff] at h
    exact h ▸ hy
  · intro h
    exact ⟨x, h, eqB_iff.2 rfl⟩
theorem mem_put {l : List Id_} {x z : Id_} : z ∈ putL l x ↔ z = x ∨ z ∈ l := by
  unfold putL
  split
  · rename_i h
    rw [any_mem] at h
    exact ⟨fun h => .inr h, fun h' => h'.elim (fun e => e ▸ h) id⟩
  · exact mem_ins
theorem up_put {l : List Id_} {x : Id_} (h : Up l) : Up (putL l x) := by
  unfold putL
  split
  · exact h
  · rename_i h'
    exact up_ins h (fun hm => h' (any_mem.2 hm))
theorem mem_drop {l : List Id_} {x z : Id_} : z ∈ dropL l x ↔ z ∈ l ∧ z ≠ x := by
  simp only [dropL, List.mem_filter, Bool.not_eq_true', eqB_false]
theorem up_drop {l : List Id_} {x : Id_} (h : Up l) : Up (dropL l x) := h.filter _
def madeL (l : List Id_) : List Id_ := l.foldl putL []
theorem made_fold (l a : List Id_) : (Up a → Up (l.foldl putL a)) ∧ ∀ z, z ∈ l.foldl putL a ↔ z ∈ l ∨ z ∈ a := by
  induction l generalizing a with
  | nil => exact ⟨fun h => h, fun z => by simp⟩
  | cons y l ih =>
    obtain ⟨h1, h2⟩ := ih (putL a y)
    refine ⟨fun h => h1 (up_put h), fun z => ?_⟩
    rw [List.foldl_cons, h2, mem_put, List.mem_cons]
    constructor
    · rintro (h | h | h)
      · exact .inl (.inr h)
      · exact .inl (.inl h)
      · exact .inr h
    · rintro ((h | h) | h)
      · exact .inr (.inl h)
      · exact .inl h
      · exact .inr (.inr h)
theorem up_made (l : List Id_) : Up (madeL l) := (made_fold l []).1 List.Pairwise.nil
theorem mem_made {l : List Id_} {z : Id_} : z ∈ madeL l ↔ z ∈ l := by
  have := (made_fold l []).2 z
  simpa [madeL] using this
theorem up_same : ∀ {a b : List Id_}, Up a → Up b → (∀ z, z ∈ a ↔ z ∈ b) → a = b
  | [], [], _, _, _ => rfl
  | [], y :: b, _, _, h => by have := (h y).2 (by simp); cases this
  | x :: a, [], _, _, h => by have := (h x).1 (by simp); cases this
  | x :: a, y :: b, ha, hb, h => by
    rw [up_cons] at ha hb
    have hxy : x = y := by
      rcases List.mem_cons.1 ((h x).1 (by simp)) with e | hx
      · exact e
      rcases List.mem_cons.1 ((h y).2 (by simp)) with e | hy
      · exact e.symm
      exact (less_irr x (less_trans (ha.1 y hy) (hb.1 x hx))).elim
    subst hxy
    congr 1
    refine up_same ha.2 hb.2 fun z => ?_
    constructor
    · intro hz
      rcases List.mem_cons.1 ((h z).1 (by simp [hz])) with rfl | hz'
      · exact (less_irr _ (ha.1 _ hz)).elim
      · exact hz'
    · intro hz
      rcases List.mem_cons.1 ((h z).2 (by simp [hz])) with rfl | hz'
      · exact (less_irr _ (hb.1 _ hz)).elim
      · exact hz'
theorem put_put (l : List Id_) (x : Id_) : putL (putL l x) x = putL l x := by
  have : ((putL l x).any fun y => eqB y x) = true := any_mem.2 (mem_put.2 (.inl rfl))
  rw [putL, if_pos this]
theorem drop_drop' (l : List Id_) (x : Id_) : dropL (dropL l x) x = dropL l x := by
  simp [dropL, List.filter_filter]
theorem drop_put {l : List Id_} (x : Id_) (h : Up l) : dropL (putL l x) x = dropL l x :=
  up_same (up_drop (up_put h)) (up_drop h) fun z => by
    rw [mem_drop, mem_drop, mem_put]
    constructor
    · rintro ⟨h1 | h1, h2⟩
      · exact (h2 h1).elim
      · exact ⟨h1, h2⟩
    · rintro ⟨h1, h2⟩
      exact ⟨.inr h1, h2⟩
def rotL (l : List Id_) (k : Nat) : List Id_ := l.drop k ++ l.take k
theorem made_rot (l : List Id_) (k : Nat) : madeL (rotL l k) = madeL l :=
  up_same (up_made _) (up_made _) fun z => by
    rw [mem_made, mem_made, rotL, List.mem_append, or_comm, ← List.mem_append, List.take_append_drop]
theorem madeL_len (l : List Id_) : (madeL l).length ≤ l.length := by
  have : ∀ (l a : List Id_), (l.foldl putL a).length ≤ l.length + a.length := by
    intro l
    induction l with
    | nil => intro a; simp
    | cons y l ih =>
      intro a
      have h1 := ih (putL a y)
      have h2 := putL_len a y
      simp only [List.foldl_cons, List.length_cons]
      omega
  have h := this l []
  simp only [List.length_nil, Nat.add_zero] at h
  exact h
theorem made_take {l : List Id_} {k : Nat} {y : Id_} (h : l[k]? = some y) : madeL (l.take (k + 1)) = putL (madeL (l.take k)) y := by
  rw [take_suc h, madeL, List.foldl_append]
  rfl
set_option maxRecDepth 100000 in
set_option maxHeartbeats 4000000 in
theorem made_ok (l : List Id_) (cap : Nat) (hl : l.length ≤ 1000000) : FnOK Try.prog GG 24 [.ro 3 (l.map idC)] [.s (.o 0) 3 0 l.length cap] (fun r _ ext => ∃ cap', (madeL l).length ≤ cap' ∧ r = .s (.n 0) 3 0 (madeL l).length cap' ∧ ext = [.row 26 3 cap' ((madeL l).map idC)]) := by
  refine fn_new (C := seat) seat_ok [] GG_no (Try.func24) rfl rfl rfl rfl rfl rfl ?_
  repeat' ((try conv => whnf); first
    | (with_reducible refine OKv.go (C := seat) seat_ok ?_)
    | (with_reducible refine BB_true ?_)
    | (with_reducible refine BB_false ?_)
    | (with_reducible refine Both.mk ?_ ?_)
    | (with_reducible refine VS.mk ?_)
    | (refine PSem.go (C := seat) seat_ok ?_)
    | (refine And.intro (PlanOK.mk (by kernel_rfl) rfl (by kernel_rfl) (by kernel_rfl)) ?_)
    | (refine And.intro rfl (Exists.intro _ (And.intro (by first | assumption | rfl) ?_)))
    | (refine And.intro (by omega) ?_)
    | (refine BB.mk (fun _h => ?_) (fun _h => ?_) <;> (first | (exact absurd _h (by decide)) | (exfalso; simp only [boolSet] at _h <;> omega) | skip)))
  all_goals (try conv => whnf)
  refine loop_rule (α := Nat × Nat) (fun p => p.1 ≤ l.length ∧ (madeL (l.take p.1)).length ≤ p.2) (fun p => { slots := [(3, .s (.n 0) 3 0 (madeL (l.take p.1)).length p.2), (6, .s (.o 0) 3 0 l.length cap), (7, .v (.int .i64 l.length)), (8, .v (.int .i64 p.1))], nt := 17, mem := ⟨GG, [.ro 3 (l.map idC)], [.row 26 3 p.2 ((madeL (l.take p.1)).map idC)]⟩ }) (fun p => l.length - p.1) (0, 0) ⟨Nat.zero_le _, Nat.zero_le _⟩ ⟨⟨[0], (by decide), GG_no, rfl, (SubOld.refl _ rfl), ⟨.inl (.inl ⟨rfl, rfl⟩), trivial⟩, ⟨.inr ⟨_, _, _, rfl, rfl⟩, .inl rfl, .inl rfl, .inl rfl, trivial⟩⟩, rfl⟩ ?_ (fun _ => rfl)
  rintro ⟨k, c⟩ ⟨hk, hc⟩
  dsimp only at hk hc ⊢
  have hF := madeL_len (l.take k)
  have hF2 : (l.take k).length ≤ k := List.length_take_le _ _
  refine vc_sound (C := seat) seat_ok (pl := []) ?_
  by_cases hlt : k < l.length
  · obtain ⟨y, hy⟩ : ∃ y, l[k]? = some y := ⟨_, List.getElem?_eq_getElem hlt⟩
    have hrow := row_at hy
    have hmt := made_take hy
    repeat' ((try conv => whnf); first
      | (with_reducible refine OKv.go (C := seat) seat_ok ?_)
      | (with_reducible refine BB_true ?_)
      | (with_reducible refine BB_false ?_)
      | (with_reducible refine Both.mk ?_ ?_)
      | (with_reducible refine VS.mk ?_)
      | (refine PSem.go (C := seat) seat_ok ?_)
      | (refine And.intro (PlanOK.mk (by kernel_rfl) rfl (by kernel_rfl) (by kernel_rfl)) ?_)
      | (refine And.intro rfl (Exists.intro _ (And.intro (by first | assumption | rfl) ?_)))
      | (refine call_ro [.n 0] (put_p (madeL (l.take k)) y c (by omega) hc) GG_no rfl rfl rfl ⟨⟨_, rfl, rfl, rfl⟩, trivial⟩ ?_; rintro r bs' ext ⟨cap', hcap', rfl, rfl⟩)
      | (refine And.intro (by omega) ?_)
      | (refine BB.mk (fun _h => ?_) (fun _h => ?_) <;> (first | (exact absurd _h (by decide)) | (exfalso; simp only [boolSet] at _h <;> omega) | skip)))
    all_goals (try conv => whnf)
    refine ⟨(k + 1, cap'), ⟨by dsimp only; omega, by dsimp only; rw [hmt]; exact hcap'⟩, by dsimp only; omega, ⟨⟨[2], by decide, GG_no, rfl, SubOld.refl _ rfl, ⟨.inr ?_, trivial⟩, ⟨.inl ?_, .inl rfl, .inl rfl, .inl (num_eq (by rw [IntKind.wrap_i64]; dsimp only; omega)), trivial⟩⟩, rfl⟩⟩
    · dsimp only
      rw [hmt]
      rfl
    · dsimp only
      rw [hmt]
      rfl
  · have hs : l.take k = l := List.take_of_length_le (by omega)
    rw [hs] at hc hF ⊢
    repeat' ((try conv => whnf); first
      | (with_reducible refine OKv.go (C := seat) seat_ok ?_)
      | (with_reducible refine BB_true ?_)
      | (with_reducible refine BB_false ?_)
      | (with_reducible refine Both.mk ?_ ?_)
      | (with_reducible refine VS.mk ?_)
      | (refine PSem.go (C := seat) seat_ok ?_)
      | (refine And.intro (PlanOK.mk (by kernel_rfl) rfl (by kernel_rfl) (by kernel_rfl)) ?_)
      | (refine And.intro rfl (Exists.intro _ (And.intro (by first | assumption | rfl) ?_)))
      | (refine And.intro (by omega) ?_)
      | (refine BB.mk (fun _h => ?_) (fun _h => ?_) <;> (first | (exact absurd _h (by decide)) | (exfalso; simp only [boolSet] at _h <;> omega) | skip)))
    all_goals (try conv => whnf)
    exact ⟨⟨[0], .s (.n 0) 3 0 (madeL l).length c, [.row 26 3 c ((madeL l).map idC)], by decide, rfl, ⟨.inr rfl, trivial⟩, c, hc, rfl, rfl⟩, rfl⟩
end Go.Proofs.Ytcjcnlahieddoaa
