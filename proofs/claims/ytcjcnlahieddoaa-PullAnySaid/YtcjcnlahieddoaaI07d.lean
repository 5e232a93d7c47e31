/- Package ident, by computing: Same, Drop. -/
import Derived.Test.YtcjcnlahieddoaaI07c
namespace Go.Proofs.Ytcjcnlahieddoaa
open Go.RowKit

def sameB (l r : List Id_) : Bool := decide (l.length = r.length) && (l.zip r).all fun p => eqB p.1 p.2
theorem same_no {l r : List Id_} {k : Nat} {y z : Id_} (h1 : l[k]? = some y) (h2 : r[k]? = some z) (h : eqB y z = false) : sameB l r = false := by
  cases e : sameB l r with
  | false => rfl
  | true =>
    simp only [sameB, Bool.and_eq_true, List.all_eq_true] at e
    have := e.2 (y, z) (List.mem_of_getElem? (i := k) (by rw [List.getElem?_zip_eq_some]; exact ⟨h1, h2⟩))
    simp_all
theorem same_yes {l r : List Id_} (hl : l.length = r.length) (h : ∀ j y z, j < l.length → l[j]? = some y → r[j]? = some z → eqB y z = true) : sameB l r = true := by
  simp only [sameB, Bool.and_eq_true, decide_eq_true_eq, List.all_eq_true]
  refine ⟨hl, fun p hp => ?_⟩
  obtain ⟨j, hj⟩ := List.mem_iff_getElem?.1 hp
  rw [List.getElem?_zip_eq_some] at hj
  exact h j p.1 p.2 (getElem?_lt hj.1) hj.1 hj.2
set_option maxRecDepth 100000 in
set_option maxHeartbeats 4000000 in
theorem same_ok (l r : List Id_) (c1 c2 : Nat) (hl : l.length ≤ 1099511627776) : FnOK Try.prog GG 20 [.ro 3 (l.map idC), .ro 3 (r.map idC)] [.s (.o 0) 3 0 l.length c1, .s (.o 1) 3 0 r.length c2] (fun rr _ ext => rr = .v (.bool (sameB l r)) ∧ ext = []) := by
  by_cases hlen : l.length = r.length
  · refine fn_val (C := seat) seat_ok [(6, (.of [(0, .take), (1, .take), (2, .take), (3, .take), (4, .take), (5, .take), (6, .take), (7, .take), (8, .take)]))] GG_no (Try.func20) rfl rfl rfl rfl rfl (fun _ => rfl) rfl ?_
    repeat' ((try conv => whnf); first
      | (with_reducible refine OKv.go (C := seat) seat_ok ?_)
      | (with_reducible refine BB_true ?_)
      | (with_reducible refine BB_false ?_)
      | (with_reducible refine Both.mk ?_ ?_)
      | (with_reducible refine VS.mk ?_)
      | (refine PSem.go (C := seat) seat_ok ?_)
      | (refine And.intro (PlanOK.mk (by kernel_rfl) rfl (by kernel_rfl) (by kernel_rfl)) ?_)
      | (refine And.intro rfl (Exists.intro _ (And.intro (by first | assumption | rfl) ?_)))
      | (refine And.intro (by omega) ?_)
      | (refine BB.mk (fun _h => ?_) (fun _h => ?_) <;> (first | (exact absurd _h (by decide)) | (exfalso; simp only [boolSet] at _h <;> omega) | skip)))
    all_goals (try conv => whnf)
    refine loop_rule (α := Nat) (fun k => k ≤ l.length ∧ ∀ j y z, j < k → l[j]? = some y → r[j]? = some z → eqB y z = true) (fun k => { slots := [(0, .s (.o 0) 3 0 l.length c1), (1, .s (.o 1) 3 0 r.length c2), (12, .v (.int .i64 l.length)), (13, .v (.int .i64 k))], nt := 26, mem := ⟨GG, [.ro 3 (l.map idC), .ro 3 (r.map idC)], []⟩ }) (fun k => l.length - k) 0 ⟨Nat.zero_le _, fun j y z h => by omega⟩ ⟨⟨[], List.nodup_nil, GG_no, rfl, (SubOld.refl _ rfl), trivial, ⟨.inl rfl, .inl rfl, .inl rfl, .inl rfl, trivial⟩⟩, rfl⟩ ?_ (fun _ => rfl)
    rintro k ⟨hk, hp⟩
    refine vc_sound (C := seat) seat_ok (pl := [(6, (.of [(0, .take), (1, .take), (2, .take), (3, .take), (4, .take), (5, .take), (6, .take), (7, .take), (8, .take)]))]) ?_
    by_cases hlt : k < l.length
    · obtain ⟨y, hy⟩ : ∃ y, l[k]? = some y := ⟨_, List.getElem?_eq_getElem hlt⟩
      obtain ⟨z, hz⟩ : ∃ z, r[k]? = some z := ⟨_, List.getElem?_eq_getElem (by omega)⟩
      have hrow := row_at hy
      have hrow1 := row_at hz
      repeat' ((try conv => whnf); first
        | (with_reducible refine OKv.go (C := seat) seat_ok ?_)
        | (with_reducible refine BB_true ?_)
        | (with_reducible refine BB_false ?_)
        | (with_reducible refine Both.mk ?_ ?_)
        | (with_reducible refine VS.mk ?_)
        | (refine PSem.go (C := seat) seat_ok ?_)
        | (refine And.intro (PlanOK.mk (by kernel_rfl) rfl (by kernel_rfl) (by kernel_rfl)) ?_)
        | (refine And.intro rfl (Exists.intro _ (And.intro (by first | assumption | rfl) ?_)))
        | (refine And.intro (by omega) ?_)
        | (refine BB.mk (fun _h => ?_) (fun _h => ?_) <;> (first | (exact absurd _h (by decide)) | (exfalso; simp only [boolSet] at _h <;> omega) | skip)))
      all_goals (try conv => whnf)
      · refine fin_bool ?_ rfl
        rw [same_no hy hz (by simp only [eqB]; simp only [boolSet] at _h; simp only [decide_eq_false_iff_not]; omega)]
      · have hh : eqB y z = true := by simp only [eqB]; simp only [boolSet] at _h; simp only [decide_eq_true_eq]; omega
        refine ⟨k + 1, ⟨by omega, fun j a b hj ha hb => ?_⟩, by omega, ⟨⟨[], List.nodup_nil, GG_no, rfl, SubOld.refl _ rfl, trivial, ⟨.inl rfl, .inl rfl, .inl rfl, .inl (num_eq (by rw [IntKind.wrap_i64]; omega)), trivial⟩⟩, rfl⟩⟩
        by_cases e : j = k
        · subst e
          rw [hy] at ha
          rw [hz] at hb
          cases ha; cases hb
          exact hh
        · exact hp j a b (by omega) ha hb
    · have hs := same_yes hlen (fun j y z hj => hp j y z (by omega))
      repeat' ((try conv => whnf); first
        | (with_reducible refine OKv.go (C := seat) seat_ok ?_)
        | (with_reducible refine BB_true ?_)
        | (with_reducible refine BB_false ?_)
        | (with_reducible refine Both.mk ?_ ?_)
        | (with_reducible refine VS.mk ?_)
        | (refine PSem.go (C := seat) seat_ok ?_)
        | (refine And.intro (PlanOK.mk (by kernel_rfl) rfl (by kernel_rfl) (by kernel_rfl)) ?_)
        | (refine And.intro rfl (Exists.intro _ (And.intro (by first | assumption | rfl) ?_)))
        | (refine And.intro (by omega) ?_)
        | (refine BB.mk (fun _h => ?_) (fun _h => ?_) <;> (first | (exact absurd _h (by decide)) | (exfalso; simp only [boolSet] at _h <;> omega) | skip)))
      all_goals (try conv => whnf)
      exact fin_bool (by rw [hs]) rfl
  · have hs : sameB l r = false := by simp [sameB, hlen]
    refine fn_val (C := seat) seat_ok [(6, (.of [(0, .take), (1, .take), (2, .take), (3, .take), (4, .take), (5, .take), (6, .take), (7, .take), (8, .take)]))] GG_no (Try.func20) rfl rfl rfl rfl rfl (fun _ => rfl) rfl ?_
    repeat' ((try conv => whnf); first
      | (with_reducible refine OKv.go (C := seat) seat_ok ?_)
      | (with_reducible refine BB_true ?_)
      | (with_reducible refine BB_false ?_)
      | (with_reducible refine Both.mk ?_ ?_)
      | (with_reducible refine VS.mk ?_)
      | (refine PSem.go (C := seat) seat_ok ?_)
      | (refine And.intro (PlanOK.mk (by kernel_rfl) rfl (by kernel_rfl) (by kernel_rfl)) ?_)
      | (refine And.intro rfl (Exists.intro _ (And.intro (by first | assumption | rfl) ?_)))
      | (refine And.intro (by omega) ?_)
      | (refine BB.mk (fun _h => ?_) (fun _h => ?_) <;> (first | (exact absurd _h (by decide)) | (exfalso; simp only [boolSet] at _h <;> omega) | skip)))
    all_goals (try conv => whnf)
    all_goals exact fin_bool (by rw [hs]) rfl
end Go.Proofs.Ytcjcnlahieddoaa
