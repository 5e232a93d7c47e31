/- Package schema, by computing: what is told of rows. -/
import Derived.Test.YthcofkeiffpiiaaTy03
namespace Go.Proofs.Ythcofkeiffpiiaa
open Go.RowKit

abbrev GG : List (Nat × SB) := []
theorem GG_no : noOwn GG := noOwn_nil
/-- A range. -/
structure Sp_ where
  a : Int
  b : Int
deriving Inhabited
def spC (x : Sp_) : List Value := [.int .i32 x.a, .int .i32 x.b]
def iC (x : Int) : List Value := [.int .i32 x]
def bC (x : Int) : List Value := [.int .u8 x]
theorem sp_at {l more : List Sp_} {k : Nat} {y : Sp_} (h : l[k]? = some y) : ((l ++ more).map spC)[0 + (k : Int).toNat]? = some [.int .i32 y.a, .int .i32 y.b] := by
  rw [Nat.zero_add, Int.toNat_natCast, List.getElem?_map, List.getElem?_append_left (getElem?_lt h), h]
  rfl
theorem sp_at0 {l : List Sp_} {k : Nat} {y : Sp_} (h : l[k]? = some y) : (l.map spC)[0 + (k : Int).toNat]? = some [.int .i32 y.a, .int .i32 y.b] := by
  simpa only [List.append_nil] using sp_at (more := []) h
theorem i_at {l more : List Int} {k : Nat} {y : Int} (h : l[k]? = some y) : ((l ++ more).map iC)[0 + (k : Int).toNat]? = some [.int .i32 y] := by
  rw [Nat.zero_add, Int.toNat_natCast, List.getElem?_map, List.getElem?_append_left (getElem?_lt h), h]
  rfl
theorem i_at0 {l : List Int} {k : Nat} {y : Int} (h : l[k]? = some y) : (l.map iC)[0 + (k : Int).toNat]? = some [.int .i32 y] := by
  simpa only [List.append_nil] using i_at (more := []) h
theorem b_at0 {l : List Int} {k : Nat} {y : Int} (h : l[k]? = some y) : (l.map bC)[0 + (k : Int).toNat]? = some [.int .u8 y] := by
  rw [Nat.zero_add, Int.toNat_natCast, List.getElem?_map, h]
  rfl
theorem all_no {α : Type} {p : α → Bool} {l : List α} {k : Nat} {y : α} (h : l[k]? = some y) (hp : p y = false) : l.all p = false := by
  cases e : l.all p with
  | false => rfl
  | true => rw [List.all_eq_true] at e; rw [e y (List.mem_of_getElem? h)] at hp; cases hp
theorem all_yes {α : Type} {p : α → Bool} {l : List α} (h : ∀ j y, j < l.length → l[j]? = some y → p y = true) : l.all p = true := by
  rw [List.all_eq_true]
  intro y hy
  obtain ⟨j, hj⟩ := List.mem_iff_getElem?.1 hy
  exact h j y (getElem?_lt hj) hj
theorem zip_no {α β : Type} {p : α × β → Bool} {l : List α} {r : List β} {k : Nat} {y : α} {z : β} (h1 : l[k]? = some y) (h2 : r[k]? = some z) (h : p (y, z) = false) : (l.zip r).all p = false :=
  all_no (k := k) (List.getElem?_zip_eq_some.2 ⟨h1, h2⟩) h
theorem zip_yes {α β : Type} {p : α × β → Bool} {l : List α} {r : List β} (h : ∀ j y z, j < l.length → l[j]? = some y → r[j]? = some z → p (y, z) = true) : (l.zip r).all p = true :=
  all_yes fun j q _ hq => by
    obtain ⟨h1, h2⟩ := List.getElem?_zip_eq_some.1 hq
    exact h j q.1 q.2 (getElem?_lt h1) h1 h2
theorem snoc_inv {p : Nat → Prop} {k : Nat} (h : ∀ j, j < k → p j) (hk : p k) : ∀ j, j < k + 1 → p j := fun j hj => by
  rcases Nat.lt_succ_iff_lt_or_eq.1 hj with h1 | rfl
  · exact h j h1
  · exact hk

def boundI (x a b : Int) : Int := if b < (if a > x then a else x) then b else (if a > x then a else x)
theorem bound_iff {x a b : Int} (h : a ≤ b) : boundI x a b = x ↔ a ≤ x ∧ x ≤ b := by
  unfold boundI
  split <;> split <;> omega
def rightB (l : List Sp_) : Bool := decide (1 ≤ l.length ∧ l.length ≤ 4) && l.all fun x => decide (x.a ≤ x.b)
def fitsB (l : List Sp_) (v : List Int) : Bool := decide (v.length = l.length) && (l.zip v).all fun p => decide (boundI p.2 p.1.a p.1.b = p.2)
set_option maxRecDepth 100000 in
set_option maxHeartbeats 4000000 in
theorem bound_ok (x a b : Int) : FnOK Try.prog GG 28 [] [.v (.int .i32 x), .v (.int .i32 a), .v (.int .i32 b)] (fun r _ ext => r = .v (.int .i32 (boundI x a b)) ∧ ext = []) := by
  refine fn_val (C := seat) seat_ok [] GG_no (Try.func28) rfl rfl rfl rfl rfl (fun _ => rfl) rfl ?_
  repeat' ((try conv => whnf); first
    | (with_reducible refine BB_true ?_)
    | (with_reducible refine BB_false ?_)
    | (with_reducible refine Both.mk ?_ ?_)
    | (with_reducible refine VS.mk ?_)
    | (refine PSem.go (C := seat) seat_ok ?_)
    | (refine And.intro (PlanOK.mk (by kernel_rfl) rfl (by kernel_rfl) (by kernel_rfl)) ?_)
    | (refine And.intro rfl (Exists.intro _ (And.intro (by first | assumption | rfl) ?_)))
    | (refine And.intro ⟨rfl, rfl, rfl⟩ ?_)
    | (refine And.intro (by omega) ?_)
    | (refine BB.mk (fun _h => ?_) (fun _h => ?_) <;> (first | (exact absurd _h (by decide)) | (exfalso; simp only [boolSet] at _h <;> omega) | skip)))
  all_goals (try conv => whnf)
  all_goals (try (refine Fin.mk ?_))
  all_goals (exact ⟨rfl, rfl⟩)
set_option maxRecDepth 100000 in
set_option maxHeartbeats 4000000 in
theorem right_p (l more : List Sp_) (cap : Nat) (hl : l.length ≤ 1099511627776) : FnOK Try.prog GG 10 [.ro 2 ((l ++ more).map spC)] [.s (.o 0) 2 0 l.length cap] (fun r _ ext => r = .v (.bool (rightB l)) ∧ ext = []) := by
  refine fn_val (C := seat) seat_ok [] GG_no (Try.func10) rfl rfl rfl rfl rfl (fun _ => rfl) rfl ?_
  repeat' ((try conv => whnf); first
    | (with_reducible refine BB_true ?_)
    | (with_reducible refine BB_false ?_)
    | (with_reducible refine Both.mk ?_ ?_)
    | (with_reducible refine VS.mk ?_)
    | (refine PSem.go (C := seat) seat_ok ?_)
    | (refine And.intro (PlanOK.mk (by kernel_rfl) rfl (by kernel_rfl) (by kernel_rfl)) ?_)
    | (refine And.intro rfl (Exists.intro _ (And.intro (by first | assumption | rfl) ?_)))
    | (refine And.intro ⟨rfl, rfl, rfl⟩ ?_)
    | (refine And.intro (by omega) ?_)
    | (refine BB.mk (fun _h => ?_) (fun _h => ?_) <;> (first | (exact absurd _h (by decide)) | (exfalso; simp only [boolSet] at _h <;> omega) | skip)))
  all_goals (try conv => whnf)
  · refine fin_bool ?_ rfl
    simp only [rightB]
    rw [decide_eq_false (fun h => by simp only [boolSet] at _h; omega)]
    rfl
  · refine fin_bool ?_ rfl
    simp only [rightB]
    rw [decide_eq_false (fun h => by simp only [boolSet] at _h; omega)]
    rfl
  · refine loop_rule (α := Nat) (fun k => k ≤ l.length ∧ ∀ j, j < k → ∀ y, l[j]? = some y → y.a ≤ y.b) (fun k => { slots := [(13, .s (.o 0) 2 0 l.length cap), (14, .v (.int .i64 l.length)), (15, .v (.int .i64 k))], nt := 25, mem := ⟨GG, [.ro 2 ((l ++ more).map spC)], []⟩ }) (fun k => l.length - k) 0 ⟨Nat.zero_le _, fun j hj => by omega⟩ ⟨⟨[], List.nodup_nil, GG_no, rfl, (SubOld.refl _ rfl), trivial, ⟨.inl rfl, .inl rfl, .inl rfl, trivial⟩⟩, rfl⟩ ?_ (fun _ => rfl)
    rintro k ⟨hk, hp⟩
    refine vc_sound (C := seat) seat_ok (pl := []) ?_
    by_cases hlt : k < l.length
    · obtain ⟨y, hy⟩ : ∃ y, l[k]? = some y := ⟨_, List.getElem?_eq_getElem hlt⟩
      have hrow := sp_at (more := more) hy
      repeat' ((try conv => whnf); first
        | (with_reducible refine BB_true ?_)
        | (with_reducible refine BB_false ?_)
        | (with_reducible refine Both.mk ?_ ?_)
        | (with_reducible refine VS.mk ?_)
        | (refine PSem.go (C := seat) seat_ok ?_)
        | (refine And.intro (PlanOK.mk (by kernel_rfl) rfl (by kernel_rfl) (by kernel_rfl)) ?_)
        | (refine And.intro rfl (Exists.intro _ (And.intro (by first | assumption | rfl) ?_)))
        | (refine And.intro ⟨rfl, rfl, rfl⟩ ?_)
        | (refine And.intro (by omega) ?_)
        | (refine BB.mk (fun _h => ?_) (fun _h => ?_) <;> (first | (exact absurd _h (by decide)) | (exfalso; simp only [boolSet] at _h <;> omega) | skip)))
      all_goals (try conv => whnf)
      · refine fin_bool ?_ rfl
        have := all_no (p := fun x : Sp_ => decide (x.a ≤ x.b)) hy (by simp only [boolSet] at _h ⊢; omega)
        simp [rightB, this]
      · have hh : y.a ≤ y.b := by simp only [boolSet] at _h; omega
        exact ⟨k + 1, ⟨by omega, snoc_inv hp (fun z hz => by rw [hy] at hz; cases hz; exact hh)⟩, by omega, ⟨⟨[], List.nodup_nil, GG_no, rfl, SubOld.refl _ rfl, trivial, ⟨.inl rfl, .inl rfl, .inl (num_eq (by rw [IntKind.wrap_i64]; omega)), trivial⟩⟩, rfl⟩⟩
    · have hs : (l.all fun x => decide (x.a ≤ x.b)) = true := all_yes fun j z hj hz => decide_eq_true (hp j (by omega) z hz)
      repeat' ((try conv => whnf); first
        | (with_reducible refine BB_true ?_)
        | (with_reducible refine BB_false ?_)
        | (with_reducible refine Both.mk ?_ ?_)
        | (with_reducible refine VS.mk ?_)
        | (refine PSem.go (C := seat) seat_ok ?_)
        | (refine And.intro (PlanOK.mk (by kernel_rfl) rfl (by kernel_rfl) (by kernel_rfl)) ?_)
        | (refine And.intro rfl (Exists.intro _ (And.intro (by first | assumption | rfl) ?_)))
        | (refine And.intro ⟨rfl, rfl, rfl⟩ ?_)
        | (refine And.intro (by omega) ?_)
        | (refine BB.mk (fun _h => ?_) (fun _h => ?_) <;> (first | (exact absurd _h (by decide)) | (exfalso; simp only [boolSet] at _h <;> omega) | skip)))
      all_goals (try conv => whnf)
      all_goals
        refine fin_bool ?_ rfl
        rw [Bool.eq_iff_iff]
        simp only [rightB, hs, boolSet] at * <;> omega
set_option maxRecDepth 100000 in
set_option maxHeartbeats 4000000 in
theorem right_r (l more : List Sp_) (cap : Nat) (hl : l.length ≤ 1099511627776) : FnOK Try.prog GG 11 [.ro 2 ((l ++ more).map spC)] [.s (.o 0) 2 0 l.length cap] (fun r _ ext => r = .v (.bool (rightB l)) ∧ ext = []) := by
  refine fn_val (C := seat) seat_ok [(4, (.of [(0, .take), (1, .take), (2, .take), (3, .take), (4, .take), (5, .take), (6, .take), (7, .take), (8, .take), (9, .take), (10, .take)]))] GG_no (Try.func11) rfl rfl rfl rfl rfl (fun _ => rfl) rfl ?_
  repeat' ((try conv => whnf); first
    | (with_reducible refine BB_true ?_)
    | (with_reducible refine BB_false ?_)
    | (with_reducible refine Both.mk ?_ ?_)
    | (with_reducible refine VS.mk ?_)
    | (refine PSem.go (C := seat) seat_ok ?_)
    | (refine And.intro (PlanOK.mk (by kernel_rfl) rfl (by kernel_rfl) (by kernel_rfl)) ?_)
    | (refine And.intro rfl (Exists.intro _ (And.intro (by first | assumption | rfl) ?_)))
    | (refine And.intro ⟨rfl, rfl, rfl⟩ ?_)
    | (refine And.intro (by omega) ?_)
    | (refine BB.mk (fun _h => ?_) (fun _h => ?_) <;> (first | (exact absurd _h (by decide)) | (exfalso; simp only [boolSet] at _h <;> omega) | skip)))
  all_goals (try conv => whnf)
  refine loop_rule (α := Nat) (fun k => k ≤ l.length ∧ ∀ j, j < k → ∀ y, l[j]? = some y → y.a ≤ y.b) (fun k => { slots := [(0, .s (.o 0) 2 0 l.length cap), (3, .v (.int .i64 k))], nt := 29, mem := ⟨GG, [.ro 2 ((l ++ more).map spC)], []⟩ }) (fun k => l.length - k) 0 ⟨Nat.zero_le _, fun j hj => by omega⟩ ⟨⟨[], List.nodup_nil, GG_no, rfl, (SubOld.refl _ rfl), trivial, ⟨.inl rfl, .inl rfl, trivial⟩⟩, rfl⟩ ?_ (fun _ => rfl)
  rintro k ⟨hk, hp⟩
  refine vc_sound (C := seat) seat_ok (pl := [(4, (.of [(0, .take), (1, .take), (2, .take), (3, .take), (4, .take), (5, .take), (6, .take), (7, .take), (8, .take), (9, .take), (10, .take)]))]) ?_
  by_cases hlt : k < l.length
  · obtain ⟨y, hy⟩ : ∃ y, l[k]? = some y := ⟨_, List.getElem?_eq_getElem hlt⟩
    have hrow := sp_at (more := more) hy
    repeat' ((try conv => whnf); first
      | (with_reducible refine BB_true ?_)
      | (with_reducible refine BB_false ?_)
      | (with_reducible refine Both.mk ?_ ?_)
      | (with_reducible refine VS.mk ?_)
      | (refine PSem.go (C := seat) seat_ok ?_)
      | (refine And.intro (PlanOK.mk (by kernel_rfl) rfl (by kernel_rfl) (by kernel_rfl)) ?_)
      | (refine And.intro rfl (Exists.intro _ (And.intro (by first | assumption | rfl) ?_)))
      | (refine And.intro ⟨rfl, rfl, rfl⟩ ?_)
      | (refine And.intro (by omega) ?_)
      | (refine BB.mk (fun _h => ?_) (fun _h => ?_) <;> (first | (exact absurd _h (by decide)) | (exfalso; simp only [boolSet] at _h <;> omega) | skip)))
    all_goals (try conv => whnf)
    · refine fin_bool ?_ rfl
      have := all_no (p := fun x : Sp_ => decide (x.a ≤ x.b)) hy (by simp only [boolSet] at _h ⊢; omega)
      simp [rightB, this]
    · have hh : y.a ≤ y.b := by simp only [boolSet] at _h; omega
      exact ⟨k + 1, ⟨by omega, snoc_inv hp (fun z hz => by rw [hy] at hz; cases hz; exact hh)⟩, by omega, ⟨⟨[], List.nodup_nil, GG_no, rfl, SubOld.refl _ rfl, trivial, ⟨.inl rfl, .inl (num_eq (by rw [IntKind.wrap_i64]; omega)), trivial⟩⟩, rfl⟩⟩
  · have hs : (l.all fun x => decide (x.a ≤ x.b)) = true := all_yes fun j z hj hz => decide_eq_true (hp j (by omega) z hz)
    repeat' ((try conv => whnf); first
      | (with_reducible refine BB_true ?_)
      | (with_reducible refine BB_false ?_)
      | (with_reducible refine Both.mk ?_ ?_)
      | (with_reducible refine VS.mk ?_)
      | (refine PSem.go (C := seat) seat_ok ?_)
      | (refine And.intro (PlanOK.mk (by kernel_rfl) rfl (by kernel_rfl) (by kernel_rfl)) ?_)
      | (refine And.intro rfl (Exists.intro _ (And.intro (by first | assumption | rfl) ?_)))
      | (refine And.intro ⟨rfl, rfl, rfl⟩ ?_)
      | (refine And.intro (by omega) ?_)
      | (refine BB.mk (fun _h => ?_) (fun _h => ?_) <;> (first | (exact absurd _h (by decide)) | (exfalso; simp only [boolSet] at _h <;> omega) | skip)))
    all_goals (try conv => whnf)
    all_goals
      refine fin_bool ?_ rfl
      rw [Bool.eq_iff_iff]
      simp only [rightB, hs, boolSet] at * <;> omega
end Go.Proofs.Ythcofkeiffpiiaa
