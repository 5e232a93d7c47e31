/- Package ident, by computing: Put whichever; the reference's Has, Put, Drop. -/
import Derived.Test.YtoigdnfepmbpbaaI07h
namespace Go.Proofs.Ytoigdnfepmbpbaa
open Go.RowKit

/-- What is handed back has room for what is in it. -/
theorem FnOK.cap {P : Program} {G : List (Nat × SB)} {f : Nat} {bs : List SB} {args : List SV} {K : SV → List SB → List SB → Prop} (h : FnOK P G f bs args K) :
    FnOK P G f bs args fun r bs' ext => K r bs' ext ∧ ∀ (i t sz cap : Nat) els, ext[i]? = some (.row t sz cap els) → els.length ≤ cap := by
  refine ⟨h.ent, fun ρ w us hm hr => (h.out ρ w us hm hr).mono ?_⟩
  rintro e w' ⟨ρ', r, bs', ext, u, h1, h2, h3, h4⟩
  exact ⟨ρ', r, bs', ext, u, h1, h2, h3, h4, fun i t sz cap els hi => (h2.mem.blk (.n i) _ hi).1⟩
def putL (l : List Id_) (x : Id_) : List Id_ := if (l.any fun y => eqB y x) then l else insL l x
theorem insL_len (l : List Id_) (x : Id_) : (insL l x).length = l.length + 1 := by
  have : l.findIdx (lessB x) ≤ l.length := List.findIdx_le_length
  simp only [insL, List.length_append, List.length_take, List.length_cons, List.length_drop]
  omega
theorem has_is (l : List Id_) (x : Id_) (cap : Nat) (hl : l.length ≤ 1099511627776) (b : Bool) (h : (l.any fun y => eqB y x) = b) : FnOK Try.prog GG 17 [.ro 3 (l.map idC)] [.s (.o 0) 3 0 l.length cap, idS x] (fun r _ ext => r = .v (.bool b) ∧ ext = []) := by
  subst h
  exact has_p l x cap hl
set_option maxRecDepth 100000 in
set_option maxHeartbeats 4000000 in
theorem clone_ok (l : List Id_) (cap : Nat) (hc : l.length ≤ cap) (hl : l.length ≤ 1099511627776) : FnOK Try.prog GG 28 [.ro 3 (l.map idC)] [.s (.o 0) 3 0 l.length cap] (fun r _ ext => ∃ cap', r = .s (.n 0) 3 0 l.length cap' ∧ ext = [.row 25 3 cap' (l.map idC)]) := by
  refine fn_newR (C := seat) seat_ok [] GG_no (Try.func28) rfl rfl rfl rfl rfl rfl ?_
  repeat' ((try conv => whnf); first
    | (with_reducible refine BB_true ?_)
    | (with_reducible refine BB_false ?_)
    | (with_reducible refine Both.mk ?_ ?_)
    | (with_reducible refine VS.mk ?_)
    | (refine PSem.go (C := seat) seat_ok ?_)
    | (refine And.intro (PlanOK.mk (by kernel_rfl) rfl (by kernel_rfl) (by kernel_rfl)) ?_)
    | (refine And.intro rfl (Exists.intro _ (And.intro (by first | assumption | rfl) ?_)))
    | (refine fun (b : Bool) hb => ?_)
    | (refine And.intro ⟨rfl, rfl, rfl, rfl⟩ ?_)
    | (refine And.intro ⟨rfl, by rw [List.length_map]; omega⟩ ?_)
    | (refine And.intro (by first | omega | (dsimp only; omega)) ?_)
    | (intro cap' hcap')
    | (refine And.intro (by omega) ?_)
    | (refine BB.mk (fun _h => ?_) (fun _h => ?_) <;> (first | (exact absurd _h (by decide)) | (exfalso; simp only [rightB, runL_len, wrapSet, boolSet] at _h <;> omega) | skip)))
  all_goals (try conv => whnf)
  · have h0 : cap = 0 := by
      by_cases h : cap = 0
      · exact h
      · rw [hb h] at _h; cases _h
    have hl0 : l = [] := List.eq_nil_of_length_eq_zero (by omega)
    subst hl0
    exact ⟨⟨[0], .s (.n 0) 3 0 0 0, [.row 25 3 0 []], by decide, .inl (.inr ⟨_, _, _, rfl, rfl⟩), ⟨.inl (.inl ⟨rfl, rfl⟩), trivial⟩, 0, rfl, rfl⟩, rfl⟩
  · refine ⟨⟨[1], .s (.n 0) 3 0 (0 + l.length) cap', [.row 25 3 cap' (l.map idC)], by decide, .inl (.inl rfl), ⟨.inr ?_, trivial⟩, cap', by rw [Nat.zero_add], rfl⟩, rfl⟩
    show some (SB.row 25 3 cap' ([] ++ ((l.map idC).drop 0).take l.length)) = _
    rw [List.nil_append, List.drop_zero, List.take_of_length_le (by rw [List.length_map]; omega)]
set_option maxRecDepth 100000 in
set_option maxHeartbeats 4000000 in
theorem put_old (l : List Id_) (x : Id_) (cap : Nat) (hl : l.length ≤ 1099511627000) (hc : l.length ≤ cap) (hn : (l.any fun y => eqB y x) = true) : FnOK Try.prog GG 20 [.ro 3 (l.map idC)] [.s (.o 0) 3 0 l.length cap, idS x] (fun r _ ext => ∃ cap, r = .s (.n 0) 3 0 l.length cap ∧ ext = [.row 25 3 cap (l.map idC)]) := by
  refine fn_new (C := seat) seat_ok [(4, (.of [(0, .take), (1, .take), (2, .take), (3, .take), (5, .take), (6, .take), (7, .take), (4, .do_), (8, .do_), (9, .last), (10, .last)]))] GG_no (Try.func20) rfl rfl rfl rfl rfl rfl ?_
  repeat' ((try conv => whnf); first
    | (with_reducible refine BB_true ?_)
    | (with_reducible refine BB_false ?_)
    | (with_reducible refine Both.mk ?_ ?_)
    | (with_reducible refine VS.mk ?_)
    | (refine PSem.go (C := seat) seat_ok ?_)
    | (refine And.intro (PlanOK.mk (by kernel_rfl) rfl (by kernel_rfl) (by kernel_rfl)) ?_)
    | (refine And.intro rfl (Exists.intro _ (And.intro (by first | assumption | rfl) ?_)))
    | (refine call_ro [.o 0] (has_is l x cap (by omega) true hn) GG_no rfl rfl rfl ⟨⟨_, rfl, rfl, rfl⟩, trivial⟩ ?_; rintro r bs' ext ⟨rfl, rfl⟩)
    | (refine call_ro [.o 0] (clone_ok l cap hc (by omega)) GG_no rfl rfl rfl ⟨⟨_, rfl, rfl, rfl⟩, trivial⟩ ?_; rintro r bs' ext ⟨cap', rfl, rfl⟩)
    | (refine And.intro (by omega) ?_)
    | (refine BB.mk (fun _h => ?_) (fun _h => ?_) <;> (first | (exact absurd _h (by decide)) | (exfalso; simp only [boolSet] at _h <;> omega) | skip)))
  all_goals (try conv => whnf)
  exact ⟨⟨[1], .s (.n 0) 3 0 l.length cap', [.row 25 3 cap' (l.map idC)], by decide, rfl, ⟨.inr rfl, trivial⟩, cap', rfl, rfl⟩, rfl⟩
theorem put_p (l : List Id_) (x : Id_) (cap : Nat) (hl : l.length ≤ 1099511627000) (hc : l.length ≤ cap) : FnOK Try.prog GG 20 [.ro 3 (l.map idC)] [.s (.o 0) 3 0 l.length cap, idS x]
    (fun r _ ext => ∃ cap, (putL l x).length ≤ cap ∧ r = .s (.n 0) 3 0 (putL l x).length cap ∧ ext = [.row 25 3 cap ((putL l x).map idC)]) := by
  cases h : l.any fun y => eqB y x
  · have hp : putL l x = insL l x := by simp [putL, h]
    rw [hp, insL_len]
    refine (put_new l x cap hl hc h).cap.mono ?_
    rintro r bs' ext ⟨⟨c, rfl, rfl⟩, hk⟩
    have := hk 0 _ _ _ _ rfl
    rw [List.length_map, insL_len] at this
    exact ⟨c, this, rfl, rfl⟩
  · have hp : putL l x = l := by simp [putL, h]
    rw [hp]
    refine (put_old l x cap hl hc h).cap.mono ?_
    rintro r bs' ext ⟨⟨c, rfl, rfl⟩, hk⟩
    have := hk 0 _ _ _ _ rfl
    rw [List.length_map] at this
    exact ⟨c, this, rfl, rfl⟩
set_option maxRecDepth 100000 in
set_option maxHeartbeats 4000000 in
theorem has_r (l : List Id_) (x : Id_) (cap : Nat) (hl : l.length ≤ 1099511627776) : FnOK Try.prog GG 18 [.ro 3 (l.map idC)] [.s (.o 0) 3 0 l.length cap, idS x] (fun r _ ext => r = .v (.bool (l.any fun y => eqB y x)) ∧ ext = []) := by
  refine fn_val (C := seat) seat_ok [(4, (.of [(0, .take), (1, .take), (2, .take), (3, .take), (4, .take), (5, .take)]))] GG_no (Try.func18) rfl rfl rfl rfl rfl (fun _ => rfl) rfl ?_
  repeat' ((try conv => whnf); first
    | (with_reducible refine BB_true ?_)
    | (with_reducible refine BB_false ?_)
    | (with_reducible refine Both.mk ?_ ?_)
    | (with_reducible refine VS.mk ?_)
    | (refine PSem.go (C := seat) seat_ok ?_)
    | (refine And.intro (PlanOK.mk (by kernel_rfl) rfl (by kernel_rfl) (by kernel_rfl)) ?_)
    | (refine And.intro rfl (Exists.intro _ (And.intro (by first | assumption | rfl) ?_)))
    | (refine And.intro (by omega) ?_)
    | (refine BB.mk (fun _h => ?_) (fun _h => ?_) <;> (first | (exact absurd _h (by decide)) | (exfalso; simp only [boolSet] at _h <;> omega) | skip)))
  all_goals (try conv => whnf)
  refine loop_rule (α := Nat) (fun k => k ≤ l.length ∧ ∀ z ∈ l.take k, eqB z x = false) (fun k => { slots := [(0, .s (.o 0) 3 0 l.length cap), (3, .p (.n 0) 0 0 0), (5, .v (.int .i64 k))], nt := 18, mem := ⟨GG, [.ro 3 (l.map idC)], [.box 25 [.v (.int .u8 x.n), .v (.int .u16 x.i), .v (.int .u32 x.s)]]⟩ }) (fun k => l.length - k) 0 ⟨Nat.zero_le _, by simp⟩ ⟨⟨[0], (by decide), GG_no, rfl, (SubOld.refl _ rfl), ⟨rfl, trivial⟩, ⟨.inl rfl, .inl rfl, .inl rfl, trivial⟩⟩, rfl⟩ ?_ (fun _ => rfl)
  rintro k ⟨hk, hp⟩
  refine vc_sound (C := seat) seat_ok (pl := [(4, (.of [(0, .take), (1, .take), (2, .take), (3, .take), (4, .take), (5, .take)]))]) ?_
  by_cases hlt : k < l.length
  · obtain ⟨y, hy⟩ : ∃ y, l[k]? = some y := ⟨_, List.getElem?_eq_getElem hlt⟩
    have hrow := row_at hy
    repeat' ((try conv => whnf); first
      | (with_reducible refine BB_true ?_)
      | (with_reducible refine BB_false ?_)
      | (with_reducible refine Both.mk ?_ ?_)
      | (with_reducible refine VS.mk ?_)
      | (refine PSem.go (C := seat) seat_ok ?_)
      | (refine And.intro (PlanOK.mk (by kernel_rfl) rfl (by kernel_rfl) (by kernel_rfl)) ?_)
      | (refine And.intro rfl (Exists.intro _ (And.intro (by first | assumption | rfl) ?_)))
      | (refine And.intro (by omega) ?_)
      | (refine BB.mk (fun _h => ?_) (fun _h => ?_) <;> (first | (exact absurd _h (by decide)) | (exfalso; simp only [boolSet] at _h <;> omega) | skip)))
    all_goals (try conv => whnf)
    · have hh : eqB y x = true := by simp only [eqB]; simp only [boolSet] at _h; simp only [decide_eq_true_eq]; omega
      refine fin_bool ?_ rfl
      symm
      rw [List.any_eq_true]
      exact ⟨y, List.mem_of_getElem? hy, hh⟩
    · have hh : eqB y x = false := by simp only [eqB]; simp only [boolSet] at _h; simp only [decide_eq_false_iff_not]; omega
      exact ⟨k + 1, ⟨by omega, take_snoc hp hy hh⟩, by omega, ⟨⟨[0], by decide, GG_no, rfl, SubOld.refl _ rfl, ⟨rfl, trivial⟩, ⟨.inl rfl, .inl rfl, .inl (num_eq (by rw [IntKind.wrap_i64]; omega)), trivial⟩⟩, rfl⟩⟩
  · have hr : (l.any fun y => eqB y x) = false := by
      rw [List.take_of_length_le (by omega)] at hp
      rw [List.any_eq_false]
      intro z hz
      rw [hp z hz]
      simp
    repeat' ((try conv => whnf); first
      | (with_reducible refine BB_true ?_)
      | (with_reducible refine BB_false ?_)
      | (with_reducible refine Both.mk ?_ ?_)
      | (with_reducible refine VS.mk ?_)
      | (refine PSem.go (C := seat) seat_ok ?_)
      | (refine And.intro (PlanOK.mk (by kernel_rfl) rfl (by kernel_rfl) (by kernel_rfl)) ?_)
      | (refine And.intro rfl (Exists.intro _ (And.intro (by first | assumption | rfl) ?_)))
      | (refine And.intro (by omega) ?_)
      | (refine BB.mk (fun _h => ?_) (fun _h => ?_) <;> (first | (exact absurd _h (by decide)) | (exfalso; simp only [boolSet] at _h <;> omega) | skip)))
    all_goals (try conv => whnf)
    exact fin_bool (by rw [hr]) rfl
theorem has_r_is (l : List Id_) (x : Id_) (cap : Nat) (hl : l.length ≤ 1099511627776) (b : Bool) (h : (l.any fun y => eqB y x) = b) : FnOK Try.prog GG 18 [.ro 3 (l.map idC)] [.s (.o 0) 3 0 l.length cap, idS x] (fun r _ ext => r = .v (.bool b) ∧ ext = []) := by
  subst h
  exact has_r l x cap hl
set_option maxRecDepth 100000 in
set_option maxHeartbeats 4000000 in
theorem drop_r (l : List Id_) (x : Id_) (cap : Nat) (hl : l.length ≤ 1099511627776) : FnOK Try.prog GG 23 [.ro 3 (l.map idC)] [.s (.o 0) 3 0 l.length cap, idS x] (fun r _ ext => ∃ cap, r = .s (.n 0) 3 0 (dropL l x).length cap ∧ ext = [.row 25 3 cap ((dropL l x).map idC)]) := by
  refine fn_new (C := seat) seat_ok [(5, (.of [(0, .take), (1, .take), (2, .take), (3, .take), (4, .take), (5, .take)]))] GG_no (Try.func23) rfl rfl rfl rfl rfl rfl ?_
  repeat' ((try conv => whnf); first
    | (with_reducible refine BB_true ?_)
    | (with_reducible refine BB_false ?_)
    | (with_reducible refine Both.mk ?_ ?_)
    | (with_reducible refine VS.mk ?_)
    | (refine PSem.go (C := seat) seat_ok ?_)
    | (refine And.intro (PlanOK.mk (by kernel_rfl) rfl (by kernel_rfl) (by kernel_rfl)) ?_)
    | (refine And.intro rfl (Exists.intro _ (And.intro (by first | assumption | rfl) ?_)))
    | (refine And.intro (by omega) ?_)
    | (refine BB.mk (fun _h => ?_) (fun _h => ?_) <;> (first | (exact absurd _h (by decide)) | (exfalso; simp only [boolSet] at _h <;> omega) | skip)))
  all_goals (try conv => whnf)
  refine loop_rule (α := Nat × Nat) (fun p => p.1 ≤ l.length ∧ (dropL (l.take p.1) x).length ≤ p.2) (fun p => { slots := [(0, .s (.o 0) 3 0 l.length cap), (3, .p (.n 0) 0 0 0), (5, .s (.n 1) 3 0 (dropL (l.take p.1) x).length p.2), (6, .v (.int .i64 p.1))], nt := 27, mem := ⟨GG, [.ro 3 (l.map idC)], [.box 25 [.v (.int .u8 x.n), .v (.int .u16 x.i), .v (.int .u32 x.s)], .row 25 3 p.2 ((dropL (l.take p.1) x).map idC)]⟩ }) (fun p => l.length - p.1) (0, 0) ⟨Nat.zero_le _, Nat.zero_le _⟩ ⟨⟨[0, 1], (by decide), GG_no, rfl, (SubOld.refl _ rfl), ⟨rfl, .inl (.inl ⟨rfl, rfl⟩), trivial⟩, ⟨.inl rfl, .inl rfl, .inr ⟨_, _, _, rfl, rfl⟩, .inl rfl, trivial⟩⟩, rfl⟩ ?_ (fun _ => rfl)
  rintro ⟨k, c⟩ ⟨hk, hc⟩
  dsimp only at hk hc ⊢
  have hF := dropL_le l x k
  refine vc_sound (C := seat) seat_ok (pl := [(5, (.of [(0, .take), (1, .take), (2, .take), (3, .take), (4, .take), (5, .take)]))]) ?_
  by_cases hlt : k < l.length
  · obtain ⟨y, hy⟩ : ∃ y, l[k]? = some y := ⟨_, List.getElem?_eq_getElem hlt⟩
    have hrow := row_at hy
    repeat' ((try conv => whnf); first
      | (with_reducible refine BB_true ?_)
      | (with_reducible refine BB_false ?_)
      | (with_reducible refine Both.mk ?_ ?_)
      | (with_reducible refine VS.mk ?_)
      | (refine PSem.go (C := seat) seat_ok ?_)
      | (refine And.intro (PlanOK.mk (by kernel_rfl) rfl (by kernel_rfl) (by kernel_rfl)) ?_)
      | (refine And.intro rfl (Exists.intro _ (And.intro (by first | assumption | rfl) ?_)))
      | (refine And.intro ⟨rfl, rfl, rfl, by rw [List.length_map]⟩ ?_)
      | (refine And.intro (by first | omega | (dsimp only; omega) | exact ⟨rfl, Nat.le_refl _⟩) ?_)
      | (intro cap' hcap')
      | (refine And.intro (by omega) ?_)
      | (refine BB.mk (fun _h => ?_) (fun _h => ?_) <;> (first | (exact absurd _h (by decide)) | (exfalso; simp only [boolSet] at _h <;> omega) | skip)))
    all_goals (try conv => whnf)
    · have hh : eqB y x = false := by simp only [eqB]; simp only [boolSet] at _h; simp only [decide_eq_false_iff_not]; omega
      refine ⟨(k + 1, cap'), ⟨by dsimp only; omega, ?_⟩, by dsimp only; omega, ⟨⟨[0, 3], by decide, GG_no, rfl, SubOld.refl _ rfl, ?_, ⟨.inl rfl, .inl rfl, .inl ?_, .inl (num_eq (by rw [IntKind.wrap_i64]; dsimp only; omega)), trivial⟩⟩, rfl⟩⟩
      · dsimp only
        rw [dropL_in hy hh]
        simpa using hcap'
      · refine ⟨rfl, .inr ?_, trivial⟩
        dsimp only
        rw [dropL_in hy hh, List.map_append]
        rfl
      · dsimp only
        rw [dropL_in hy hh, List.length_append]
        rfl
    · have hh : eqB y x = true := by simp only [eqB]; simp only [boolSet] at _h; simp only [decide_eq_true_eq]; omega
      refine ⟨(k + 1, c), ⟨by dsimp only; omega, ?_⟩, by dsimp only; omega, ⟨⟨[0, 1], by decide, GG_no, rfl, SubOld.refl _ rfl, ?_, ⟨.inl rfl, .inl rfl, .inl ?_, .inl (num_eq (by rw [IntKind.wrap_i64]; dsimp only; omega)), trivial⟩⟩, rfl⟩⟩
      · dsimp only
        rw [dropL_out hy hh]
        exact hc
      · refine ⟨rfl, .inr ?_, trivial⟩
        dsimp only
        rw [dropL_out hy hh]
        rfl
      · dsimp only
        rw [dropL_out hy hh]
        rfl
  · have hs : l.take k = l := List.take_of_length_le (by omega)
    rw [hs] at hc hF ⊢
    repeat' ((try conv => whnf); first
      | (with_reducible refine BB_true ?_)
      | (with_reducible refine BB_false ?_)
      | (with_reducible refine Both.mk ?_ ?_)
      | (with_reducible refine VS.mk ?_)
      | (refine PSem.go (C := seat) seat_ok ?_)
      | (refine And.intro (PlanOK.mk (by kernel_rfl) rfl (by kernel_rfl) (by kernel_rfl)) ?_)
      | (refine And.intro rfl (Exists.intro _ (And.intro (by first | assumption | rfl) ?_)))
      | (refine And.intro ⟨rfl, rfl, rfl, by rw [List.length_map]⟩ ?_)
      | (refine And.intro (by first | omega | (dsimp only; omega) | exact ⟨rfl, Nat.le_refl _⟩) ?_)
      | (intro cap' hcap')
      | (refine And.intro (by omega) ?_)
      | (refine BB.mk (fun _h => ?_) (fun _h => ?_) <;> (first | (exact absurd _h (by decide)) | (exfalso; simp only [boolSet] at _h <;> omega) | skip)))
    all_goals (try conv => whnf)
    exact ⟨⟨[1], .s (.n 0) 3 0 (dropL l x).length c, [.row 25 3 c ((dropL l x).map idC)], by decide, rfl, ⟨.inr rfl, trivial⟩, c, rfl, rfl⟩, rfl⟩
end Go.Proofs.Ytoigdnfepmbpbaa
