/- Package ident, by computing: more loops. -/
import Derived.Test.YtcjcnlahieddoaaI07b
namespace Go.Proofs.Ytcjcnlahieddoaa
open Go.RowKit

set_option maxRecDepth 100000 in
set_option maxHeartbeats 4000000 in
theorem has_p (l : List Id_) (x : Id_) (cap : Nat) (hl : l.length ≤ 1099511627776) : FnOK Try.prog GG 22 [.ro 3 (l.map idC)] [.s (.o 0) 3 0 l.length cap, idS x] (fun r _ ext => r = .v (.bool (l.any (fun y => eqB y x))) ∧ ext = []) := by
  refine fn_val (C := seat) seat_ok [] GG_no (Try.func22) rfl rfl rfl rfl rfl (fun _ => rfl) rfl ?_
  repeat' ((try conv => whnf); first
    | (with_reducible refine OKv.go (C := seat) seat_ok ?_)
    | (with_reducible refine BB_true ?_)
    | (with_reducible refine BB_false ?_)
    | (with_reducible refine Both.mk ?_ ?_)
    | (with_reducible refine VS.mk ?_)
    | (refine PSem.go (C := seat) seat_ok ?_)
    | (refine And.intro (PlanOK.mk (by kernel_rfl) rfl (by kernel_rfl) (by kernel_rfl)) ?_)
    | (refine And.intro rfl (Exists.intro _ (And.intro (by first | assumption | rfl) ?_)))
    | (refine call_ro [.o 0, _] (find_ok l x _ cap (fun y => eqB y x) hl (fun y => has1_ok x y)) GG_no rfl rfl rfl ⟨⟨_, rfl, rfl, rfl⟩, ⟨_, rfl, _, rfl, rfl, rfl, rfl⟩, trivial⟩ ?_; rintro r bs' ext ⟨rfl, rfl⟩)
    | (refine And.intro (by omega) ?_)
    | (refine BB.mk (fun _h => ?_) (fun _h => ?_) <;> (first | (exact absurd _h (by decide)) | (exfalso; simp only [boolSet] at _h <;> omega) | skip)))
  all_goals (try conv => whnf)
  all_goals (try (refine Fin.mk ?_))
  all_goals
    refine ⟨bool_eq ?_, rfl⟩
    rw [Bool.eq_iff_iff]
    simp only [decide_eq_true_eq, List.any_eq_true, Int.ofNat_lt]
    rw [List.findIdx_lt_length]
def risesAt (l : List Id_) (k : Nat) : Prop := ∀ i y z, i + 1 < k → l[i]? = some y → l[i + 1]? = some z → lessB y z = true
def risingB (l : List Id_) : Bool := match l with
  | [] => true
  | x :: r => go x r
where go (x : Id_) : List Id_ → Bool
  | [] => true
  | y :: r => lessB x y && go y r
theorem risingGo : ∀ (x : Id_) (r : List Id_), risingB.go x r = true ↔ risesAt (x :: r) (r.length + 1)
  | x, [] => by simp [risingB.go, risesAt]
  | x, y :: r => by
    simp only [risingB.go, Bool.and_eq_true, risingGo y r]
    constructor
    · rintro ⟨h1, h2⟩ i a b hi ha hb
      cases i with
      | zero => simp at ha hb; subst ha; subst hb; exact h1
      | succ i => exact h2 i a b (by simp at hi; omega) (by simpa using ha) (by simpa using hb)
    · intro h
      exact ⟨h 0 x y (by simp) rfl rfl, fun i a b hi ha hb => h (i + 1) a b (by simp; omega) (by simpa using ha) (by simpa using hb)⟩
theorem rising_iff (l : List Id_) : risingB l = true ↔ risesAt l l.length := by
  cases l with
  | nil => simp [risingB, risesAt]
  | cons x r => exact risingGo x r
theorem row_at1 {l : List Id_} {k : Nat} {y : Id_} (hk : 1 ≤ k) (h : l[k - 1]? = some y) (hb : k ≤ 1099511627776) : (l.map idC)[0 + (IntKind.i64.wrap ((k : Int) - 1)).toNat]? = some [.int .u8 y.n, .int .u16 y.i, .int .u32 y.s] := by
  have : (IntKind.i64.wrap ((k : Int) - 1)).toNat = k - 1 := by rw [IntKind.wrap_i64]; omega
  rw [this, Nat.zero_add]
  simp [h, idC]
set_option maxRecDepth 100000 in
set_option maxHeartbeats 4000000 in
theorem rising_p (l : List Id_) (cap : Nat) (hl : l.length ≤ 1099511627776) : FnOK Try.prog GG 21 [.ro 3 (l.map idC)] [.s (.o 0) 3 0 l.length cap] (fun r _ ext => r = .v (.bool (risingB l)) ∧ ext = []) := by
  refine fn_val (C := seat) seat_ok [(4, (.of [(0, .take), (1, .take), (2, .take), (3, .take), (4, .take), (5, .take), (6, .take), (7, .take), (8, .take), (9, .do_), (10, .take)]))] GG_no (Try.func21) rfl rfl rfl rfl rfl (fun _ => rfl) rfl ?_
  repeat' ((try conv => whnf); first
    | (with_reducible refine OKv.go (C := seat) seat_ok ?_)
    | (with_reducible refine BB_true ?_)
    | (with_reducible refine BB_false ?_)
    | (with_reducible refine Both.mk ?_ ?_)
    | (with_reducible refine VS.mk ?_)
    | (refine PSem.go (C := seat) seat_ok ?_)
    | (refine And.intro (PlanOK.mk (by kernel_rfl) rfl (by kernel_rfl) (by kernel_rfl)) ?_)
    | (refine And.intro rfl (Exists.intro _ (And.intro (by first | assumption | rfl) ?_)))
    | (refine And.intro (by omega) ?_)
    | (refine BB.mk (fun _h => ?_) (fun _h => ?_) <;> (first | (exact absurd _h (by decide)) | (exfalso; simp only [boolSet] at _h <;> omega) | skip)))
  all_goals (try conv => whnf)
  refine loop_rule (α := Nat) (fun k => 1 ≤ k ∧ (k ≤ l.length ∨ k = 1) ∧ risesAt l k) (fun k => { slots := [(0, .s (.o 0) 3 0 l.length cap), (3, .v (.int .i64 k))], nt := 21, mem := ⟨GG, [.ro 3 (l.map idC)], []⟩ }) (fun k => l.length - k) 1 ⟨Nat.le_refl _, .inr rfl, fun i y z hi => by omega⟩ ⟨⟨[], List.nodup_nil, GG_no, rfl, (SubOld.refl _ rfl), trivial, ⟨.inl rfl, .inl rfl, trivial⟩⟩, rfl⟩ ?_ (fun _ => rfl)
  rintro k ⟨hk1, hk, hp⟩
  refine vc_sound (C := seat) seat_ok (pl := [(4, (.of [(0, .take), (1, .take), (2, .take), (3, .take), (4, .take), (5, .take), (6, .take), (7, .take), (8, .take), (9, .do_), (10, .take)]))]) ?_
  by_cases hlt : k < l.length
  · obtain ⟨z, hz⟩ : ∃ z, l[k]? = some z := ⟨_, List.getElem?_eq_getElem hlt⟩
    obtain ⟨y, hy⟩ : ∃ y, l[k - 1]? = some y := ⟨_, List.getElem?_eq_getElem (by omega)⟩
    have hrow := row_at hz
    have hrow1 := row_at1 hk1 hy (by omega)
    repeat' ((try conv => whnf); first
      | (with_reducible refine OKv.go (C := seat) seat_ok ?_)
      | (with_reducible refine BB_true ?_)
      | (with_reducible refine BB_false ?_)
      | (with_reducible refine Both.mk ?_ ?_)
      | (with_reducible refine VS.mk ?_)
      | (refine PSem.go (C := seat) seat_ok ?_)
      | (refine And.intro (PlanOK.mk (by kernel_rfl) rfl (by kernel_rfl) (by kernel_rfl)) ?_)
      | (refine And.intro rfl (Exists.intro _ (And.intro (by first | assumption | rfl) ?_)))
      | (refine call_ro [] (less_p _ _) GG_no rfl rfl rfl trivial ?_; rintro r bs' ext ⟨rfl, rfl⟩)
      | (refine And.intro (by simp only [IntKind.wrap_i64]; omega) ?_)
      | (refine And.intro (by omega) ?_)
      | (refine BB.mk (fun _h => ?_) (fun _h => ?_) <;> (first | (exact absurd _h (by decide)) | (exfalso; simp only [boolSet] at _h <;> omega) | skip)))
    all_goals (try conv => whnf)
    · refine fin_bool ?_ rfl
      rw [Bool.eq_iff_iff]
      simp only [Bool.false_eq_true, false_iff, rising_iff]
      intro h
      have := h (k - 1) y z (by omega) hy (by rw [show k - 1 + 1 = k by omega]; exact hz)
      simp_all
    · have hh : lessB y z = true := by simpa using _h
      refine ⟨k + 1, ⟨by omega, by omega, fun i a b hi ha hb => ?_⟩, by omega, ⟨⟨[], List.nodup_nil, GG_no, rfl, SubOld.refl _ rfl, trivial, ⟨.inl rfl, .inl (num_eq (by rw [IntKind.wrap_i64]; omega)), trivial⟩⟩, rfl⟩⟩
      by_cases e : i + 1 = k
      · subst e
        rw [show i + 1 - 1 = i by omega] at hy
        rw [hy] at ha
        rw [hz] at hb
        cases ha; cases hb
        exact hh
      · exact hp i a b (by omega) ha hb
  · have hr : risingB l = true := (rising_iff l).2 fun i a b hi ha hb => hp i a b (by omega) ha hb
    repeat' ((try conv => whnf); first
      | (with_reducible refine OKv.go (C := seat) seat_ok ?_)
      | (with_reducible refine BB_true ?_)
      | (with_reducible refine BB_false ?_)
      | (with_reducible refine Both.mk ?_ ?_)
      | (with_reducible refine VS.mk ?_)
      | (refine PSem.go (C := seat) seat_ok ?_)
      | (refine And.intro (PlanOK.mk (by kernel_rfl) rfl (by kernel_rfl) (by kernel_rfl)) ?_)
      | (refine And.intro rfl (Exists.intro _ (And.intro (by first | assumption | rfl) ?_)))
      | (refine And.intro (by omega) ?_)
      | (refine BB.mk (fun _h => ?_) (fun _h => ?_) <;> (first | (exact absurd _h (by decide)) | (exfalso; simp only [boolSet] at _h <;> omega) | skip)))
    all_goals (try conv => whnf)
    exact fin_bool (by rw [hr]) rfl
end Go.Proofs.Ytcjcnlahieddoaa
