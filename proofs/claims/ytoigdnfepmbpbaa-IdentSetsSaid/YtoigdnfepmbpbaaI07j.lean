/- Package ident, by computing: the reference's Put. -/
import Derived.Test.YtoigdnfepmbpbaaI07i
namespace Go.Proofs.Ytoigdnfepmbpbaa
open Go.RowKit

theorem any_idx {l : List Id_} {p : Id_ → Bool} (h : l.any p = true) : l.findIdx p < l.length := by
  rw [List.any_eq_true] at h
  exact List.findIdx_lt_length.2 h
theorem none_idx {l : List Id_} {p : Id_ → Bool} (h : l.any p = false) : l.findIdx p = l.length := by
  rw [List.any_eq_false] at h
  exact List.findIdx_eq_length.2 fun y hy => by simpa using h y hy
theorem insL_any {a b : List Id_} {x : Id_} (h : a.any (lessB x) = true) : insL (a ++ b) x = insL a x ++ b := by
  have h1 := any_idx h
  have h2 : (a ++ b).findIdx (lessB x) = a.findIdx (lessB x) := by rw [List.findIdx_append, if_pos h1]
  simp only [insL, h2]
  rw [List.take_append_of_le_length (by omega), List.drop_append_of_le_length (by omega)]
  simp [List.append_assoc]
theorem insL_not {a : List Id_} {x y : Id_} (h : a.any (lessB x) = false) (hy : lessB x y = true) : insL (a ++ [y]) x = a ++ [x] ++ [y] := by
  have h1 := none_idx h
  have h2 : (a ++ [y]).findIdx (lessB x) = a.length := by rw [List.findIdx_append, if_neg (by omega)]; simp [hy]
  simp only [insL, h2]
  rw [List.take_left, List.drop_left]
  simp
theorem insL_none {a : List Id_} {x : Id_} (h : a.any (lessB x) = false) : insL a x = a ++ [x] := by
  simp only [insL, none_idx h, List.take_length, List.drop_length]
def doneB (l : List Id_) (x : Id_) (k : Nat) : Bool := (l.take k).any (lessB x)
def outL (l : List Id_) (x : Id_) (k : Nat) : List Id_ := if doneB l x k then insL (l.take k) x else l.take k
theorem take_suc {l : List Id_} {k : Nat} {y : Id_} (hy : l[k]? = some y) : l.take (k + 1) = l.take k ++ [y] := by rw [List.take_add_one, hy]; rfl
theorem done_suc {l : List Id_} {x : Id_} {k : Nat} {y : Id_} (hy : l[k]? = some y) : doneB l x (k + 1) = (doneB l x k || lessB x y) := by
  simp [doneB, take_suc hy, List.any_append]
theorem out_a {l : List Id_} {x : Id_} {k : Nat} {y : Id_} (hy : l[k]? = some y) (h : doneB l x k = false) (h2 : lessB x y = true) : outL l x (k + 1) = (outL l x k ++ [x]) ++ [y] := by
  simp only [outL, done_suc hy, h, h2, Bool.false_or, if_true, take_suc hy, Bool.false_eq_true, if_false]
  exact insL_not h h2
theorem out_b {l : List Id_} {x : Id_} {k : Nat} {y : Id_} (hy : l[k]? = some y) (h : doneB l x k = false) (h2 : lessB x y = false) : outL l x (k + 1) = outL l x k ++ [y] := by
  simp only [outL, done_suc hy, h, h2, Bool.or_false, Bool.false_eq_true, if_false, take_suc hy]
theorem out_c {l : List Id_} {x : Id_} {k : Nat} {y : Id_} (hy : l[k]? = some y) (h : doneB l x k = true) : outL l x (k + 1) = outL l x k ++ [y] := by
  simp only [outL, done_suc hy, h, Bool.true_or, if_true, take_suc hy]
  exact insL_any h
theorem outL_len (l : List Id_) (x : Id_) (k : Nat) : (outL l x k).length ≤ k + 1 := by
  unfold outL
  have : (l.take k).length ≤ k := List.length_take_le _ _
  split
  · rw [insL_len]; omega
  · omega
theorem out_t {l : List Id_} {x : Id_} {k : Nat} (hk : l.length ≤ k) (h : doneB l x k = true) : outL l x k = insL l x := by
  rw [outL, if_pos h, List.take_of_length_le hk]
theorem out_f {l : List Id_} {x : Id_} {k : Nat} (hk : l.length ≤ k) (h : doneB l x k = false) : outL l x k ++ [x] = insL l x := by
  have h' := h
  unfold doneB at h'
  rw [List.take_of_length_le hk] at h'
  rw [outL, h]
  simp only [Bool.false_eq_true, if_false]
  rw [List.take_of_length_le hk, insL_none h']
set_option maxRecDepth 100000 in
set_option maxHeartbeats 4000000 in
theorem put_r_old (l : List Id_) (x : Id_) (cap : Nat) (hl : l.length ≤ 1099511627000) (hn : (l.any fun y => eqB y x) = true) : FnOK Try.prog GG 21 [.ro 3 (l.map idC)] [.s (.o 0) 3 0 l.length cap, idS x] (fun r _ ext => ∃ cap, r = .s (.n 0) 3 0 (l).length cap ∧ ext = [.row 25 3 cap ((l).map idC)]) := by
  refine fn_new (C := seat) seat_ok [(6, (.of [(0, .take), (1, .take), (2, .take), (3, .take), (4, .take), (5, .take), (6, .take), (7, .take), (8, .do_), (9, .take)]))] GG_no (Try.func21) rfl rfl rfl rfl rfl rfl ?_
  repeat' ((try conv => whnf); first
    | (with_reducible refine BB_true ?_)
    | (with_reducible refine BB_false ?_)
    | (with_reducible refine Both.mk ?_ ?_)
    | (with_reducible refine VS.mk ?_)
    | (refine PSem.go (C := seat) seat_ok ?_)
    | (refine And.intro (PlanOK.mk (by kernel_rfl) rfl (by kernel_rfl) (by kernel_rfl)) ?_)
    | (refine And.intro rfl (Exists.intro _ (And.intro (by first | assumption | rfl) ?_)))
    | (refine call_ro [.o 0] (has_r_is l x cap (by omega) true hn) GG_no rfl rfl rfl ⟨⟨_, rfl, rfl, rfl⟩, trivial⟩ ?_; rintro r bs' ext ⟨rfl, rfl⟩)
    | (refine And.intro (by omega) ?_)
    | (refine BB.mk (fun _h => ?_) (fun _h => ?_) <;> (first | (exact absurd _h (by decide)) | (exfalso; simp only [boolSet] at _h <;> omega) | skip)))
  all_goals (try conv => whnf)
  refine loop_rule (α := Nat × Nat) (fun p => p.1 ≤ l.length ∧ (l.take p.1).length ≤ p.2) (fun p => { slots := [(0, .s (.o 0) 3 0 l.length cap), (3, .p (.n 0) 0 0 0), (5, .s (.n 1) 3 0 (l.take p.1).length p.2), (6, .v (.bool true)), (7, .v (.int .i64 p.1))], nt := 45, mem := ⟨GG, [.ro 3 (l.map idC)], [.box 25 [.v (.int .u8 x.n), .v (.int .u16 x.i), .v (.int .u32 x.s)], .row 25 3 p.2 ((l.take p.1).map idC)]⟩ }) (fun p => l.length - p.1) (0, 0) ⟨Nat.zero_le _, Nat.zero_le _⟩ ⟨⟨[0, 1], (by decide), GG_no, rfl, (SubOld.refl _ rfl), ⟨rfl, .inl (.inl ⟨rfl, rfl⟩), trivial⟩, ⟨.inl rfl, .inl rfl, .inr ⟨_, _, _, rfl, rfl⟩, .inl rfl, .inl rfl, trivial⟩⟩, rfl⟩ ?_ (fun _ => rfl)
  rintro ⟨k, c⟩ ⟨hk, hc⟩
  dsimp only at hk hc ⊢
  have hF : (l.take k).length ≤ k := List.length_take_le _ _
  refine vc_sound (C := seat) seat_ok (pl := [(6, (.of [(0, .take), (1, .take), (2, .take), (3, .take), (4, .take), (5, .take), (6, .take), (7, .take), (8, .do_), (9, .take)]))]) ?_
  by_cases hlt : k < l.length
  · obtain ⟨y, hy⟩ : ∃ y, l[k]? = some y := ⟨_, List.getElem?_eq_getElem hlt⟩
    have hrow := row_at hy
    repeat' ((try conv => whnf); first
      | (with_reducible refine BB_true ?_)
      | (with_reducible refine BB_false ?_)
      | (with_reducible refine Both.mk ?_ ?_)
      | (with_reducible refine VS.mk ?_)
      | (refine PSem.go (C := seat) seat_ok ?_)
      | (refine And.intro (PlanOK.mk (by kernel_rfl) rfl (by kernel_rfl) (by kernel_rfl)) ?_)
      | (refine And.intro rfl (Exists.intro _ (And.intro (by first | assumption | rfl) ?_)))
      | (refine And.intro ⟨rfl, rfl, rfl, by rw [List.length_map]⟩ ?_)
      | (refine And.intro (by first | omega | (dsimp only; omega) | exact ⟨rfl, Nat.le_refl _⟩) ?_)
      | (intro cap' hcap')
      | (refine And.intro (by omega) ?_)
      | (refine BB.mk (fun _h => ?_) (fun _h => ?_) <;> (first | (exact absurd _h (by decide)) | (exfalso; simp only [boolSet] at _h <;> omega) | skip)))
    all_goals (try conv => whnf)
    · refine ⟨(k + 1, cap'), ⟨by dsimp only; omega, ?_⟩, by dsimp only; omega, ⟨⟨[0, 3], by decide, GG_no, rfl, SubOld.refl _ rfl, ?_, ⟨.inl rfl, .inl rfl, .inl ?_, .inl (rfl), .inl (num_eq (by rw [IntKind.wrap_i64]; dsimp only; omega)), trivial⟩⟩, rfl⟩⟩
      · dsimp only
        rw [take_suc hy]
        simp only [List.length_append, List.length_cons, List.length_nil] at *
        omega
      · refine ⟨rfl, .inr ?_, trivial⟩
        dsimp only
        rw [take_suc hy]
        simp only [List.map_append]
        rfl
      · dsimp only
        rw [take_suc hy]
        simp only [List.length_append]
        rfl
  · have hs : l.take k = l := List.take_of_length_le (by omega)
    rw [hs] at hc hF ⊢
    repeat' ((try conv => whnf); first
      | (with_reducible refine BB_true ?_)
      | (with_reducible refine BB_false ?_)
      | (with_reducible refine Both.mk ?_ ?_)
      | (with_reducible refine VS.mk ?_)
      | (refine PSem.go (C := seat) seat_ok ?_)
      | (refine And.intro (PlanOK.mk (by kernel_rfl) rfl (by kernel_rfl) (by kernel_rfl)) ?_)
      | (refine And.intro rfl (Exists.intro _ (And.intro (by first | assumption | rfl) ?_)))
      | (refine And.intro ⟨rfl, rfl, rfl, by rw [List.length_map]⟩ ?_)
      | (refine And.intro (by first | omega | (dsimp only; omega) | exact ⟨rfl, Nat.le_refl _⟩) ?_)
      | (intro cap' hcap')
      | (refine And.intro (by omega) ?_)
      | (refine BB.mk (fun _h => ?_) (fun _h => ?_) <;> (first | (exact absurd _h (by decide)) | (exfalso; simp only [boolSet] at _h <;> omega) | skip)))
    all_goals (try conv => whnf)
    exact ⟨⟨[1], .s (.n 0) 3 0 l.length c, [.row 25 3 c (l.map idC)], by decide, rfl, ⟨.inr rfl, trivial⟩, c, rfl, rfl⟩, rfl⟩
set_option maxRecDepth 100000 in
set_option maxHeartbeats 4000000 in
theorem put_r_new (l : List Id_) (x : Id_) (cap : Nat) (hl : l.length ≤ 1099511627000) (hn : (l.any fun y => eqB y x) = false) : FnOK Try.prog GG 21 [.ro 3 (l.map idC)] [.s (.o 0) 3 0 l.length cap, idS x] (fun r _ ext => ∃ cap, r = .s (.n 0) 3 0 (insL l x).length cap ∧ ext = [.row 25 3 cap ((insL l x).map idC)]) := by
  refine fn_new (C := seat) seat_ok [(6, (.of [(0, .take), (1, .take), (2, .take), (3, .take), (4, .take), (5, .take), (6, .take), (7, .take), (8, .do_), (9, .take)]))] GG_no (Try.func21) rfl rfl rfl rfl rfl rfl ?_
  repeat' ((try conv => whnf); first
    | (with_reducible refine BB_true ?_)
    | (with_reducible refine BB_false ?_)
    | (with_reducible refine Both.mk ?_ ?_)
    | (with_reducible refine VS.mk ?_)
    | (refine PSem.go (C := seat) seat_ok ?_)
    | (refine And.intro (PlanOK.mk (by kernel_rfl) rfl (by kernel_rfl) (by kernel_rfl)) ?_)
    | (refine And.intro rfl (Exists.intro _ (And.intro (by first | assumption | rfl) ?_)))
    | (refine call_ro [.o 0] (has_r_is l x cap (by omega) false hn) GG_no rfl rfl rfl ⟨⟨_, rfl, rfl, rfl⟩, trivial⟩ ?_; rintro r bs' ext ⟨rfl, rfl⟩)
    | (refine And.intro (by omega) ?_)
    | (refine BB.mk (fun _h => ?_) (fun _h => ?_) <;> (first | (exact absurd _h (by decide)) | (exfalso; simp only [boolSet] at _h <;> omega) | skip)))
  all_goals (try conv => whnf)
  refine loop_rule (α := Nat × Nat) (fun p => p.1 ≤ l.length ∧ (outL l x p.1).length ≤ p.2) (fun p => { slots := [(0, .s (.o 0) 3 0 l.length cap), (3, .p (.n 0) 0 0 0), (5, .s (.n 1) 3 0 (outL l x p.1).length p.2), (6, .v (.bool (doneB l x p.1))), (7, .v (.int .i64 p.1))], nt := 45, mem := ⟨GG, [.ro 3 (l.map idC)], [.box 25 [.v (.int .u8 x.n), .v (.int .u16 x.i), .v (.int .u32 x.s)], .row 25 3 p.2 ((outL l x p.1).map idC)]⟩ }) (fun p => l.length - p.1) (0, 0) ⟨Nat.zero_le _, Nat.zero_le _⟩ ⟨⟨[0, 1], (by decide), GG_no, rfl, (SubOld.refl _ rfl), ⟨rfl, .inl (.inl ⟨rfl, rfl⟩), trivial⟩, ⟨.inl rfl, .inl rfl, .inr ⟨_, _, _, rfl, rfl⟩, .inl rfl, .inl rfl, trivial⟩⟩, rfl⟩ ?_ (fun _ => rfl)
  rintro ⟨k, c⟩ ⟨hk, hc⟩
  dsimp only at hk hc ⊢
  have hF := outL_len l x k
  refine vc_sound (C := seat) seat_ok (pl := [(6, (.of [(0, .take), (1, .take), (2, .take), (3, .take), (4, .take), (5, .take), (6, .take), (7, .take), (8, .do_), (9, .take)]))]) ?_
  by_cases hlt : k < l.length
  · obtain ⟨y, hy⟩ : ∃ y, l[k]? = some y := ⟨_, List.getElem?_eq_getElem hlt⟩
    have hrow := row_at hy
    repeat' ((try conv => whnf); first
      | (with_reducible refine BB_true ?_)
      | (with_reducible refine BB_false ?_)
      | (with_reducible refine Both.mk ?_ ?_)
      | (with_reducible refine VS.mk ?_)
      | (refine PSem.go (C := seat) seat_ok ?_)
      | (refine And.intro (PlanOK.mk (by kernel_rfl) rfl (by kernel_rfl) (by kernel_rfl)) ?_)
      | (refine And.intro rfl (Exists.intro _ (And.intro (by first | assumption | rfl) ?_)))
      | (refine call_ro [] (less_r x y) GG_no rfl rfl rfl trivial ?_; rintro r bs' ext ⟨rfl, rfl⟩)
      | (refine And.intro ⟨rfl, rfl, rfl, by first | rw [List.length_map] | (rw [List.length_append, List.length_map]; rfl)⟩ ?_)
      | (refine And.intro (by first | omega | (dsimp only; omega) | exact ⟨rfl, Nat.le_refl _⟩) ?_)
      | (intro cap' hcap')
      | (refine And.intro (by omega) ?_)
      | (refine BB.mk (fun _h => ?_) (fun _h => ?_) <;> (first | (exact absurd _h (by decide)) | (exfalso; simp only [boolSet] at _h <;> omega) | skip)))
    all_goals (try conv => whnf)
    · have hd : doneB l x k = false := by simpa using ‹(!doneB l x k) = true›
      refine ⟨(k + 1, cap'), ⟨by dsimp only; omega, ?_⟩, by dsimp only; omega, ⟨⟨[0, 5], by decide, GG_no, rfl, SubOld.refl _ rfl, ?_, ⟨.inl rfl, .inl rfl, .inl ?_, .inl (bool_eq (by rw [done_suc hy, _h, Bool.or_true])), .inl (num_eq (by rw [IntKind.wrap_i64]; dsimp only; omega)), trivial⟩⟩, rfl⟩⟩
      · dsimp only
        rw [out_a hy hd _h]
        simp only [List.length_append, List.length_cons, List.length_nil] at *
        omega
      · refine ⟨rfl, .inr ?_, trivial⟩
        dsimp only
        rw [out_a hy hd _h]
        simp only [List.map_append]
        rfl
      · dsimp only
        rw [out_a hy hd _h]
        simp only [List.length_append]
        rfl
    · have hd : doneB l x k = false := by simpa using ‹(!doneB l x k) = true›
      refine ⟨(k + 1, cap'), ⟨by dsimp only; omega, ?_⟩, by dsimp only; omega, ⟨⟨[0, 3], by decide, GG_no, rfl, SubOld.refl _ rfl, ?_, ⟨.inl rfl, .inl rfl, .inl ?_, .inl (bool_eq (by rw [done_suc hy, _h, Bool.or_false])), .inl (num_eq (by rw [IntKind.wrap_i64]; dsimp only; omega)), trivial⟩⟩, rfl⟩⟩
      · dsimp only
        rw [out_b hy hd _h]
        simp only [List.length_append, List.length_cons, List.length_nil] at *
        omega
      · refine ⟨rfl, .inr ?_, trivial⟩
        dsimp only
        rw [out_b hy hd _h]
        simp only [List.map_append]
        rfl
      · dsimp only
        rw [out_b hy hd _h]
        simp only [List.length_append]
        rfl
    · have hd : doneB l x k = true := by simpa using _h
      refine ⟨(k + 1, cap'), ⟨by dsimp only; omega, ?_⟩, by dsimp only; omega, ⟨⟨[0, 3], by decide, GG_no, rfl, SubOld.refl _ rfl, ?_, ⟨.inl rfl, .inl rfl, .inl ?_, .inl (bool_eq (by rw [done_suc hy, hd, Bool.true_or])), .inl (num_eq (by rw [IntKind.wrap_i64]; dsimp only; omega)), trivial⟩⟩, rfl⟩⟩
      · dsimp only
        rw [out_c hy hd]
        simp only [List.length_append, List.length_cons, List.length_nil] at *
        omega
      · refine ⟨rfl, .inr ?_, trivial⟩
        dsimp only
        rw [out_c hy hd]
        simp only [List.map_append]
        rfl
      · dsimp only
        rw [out_c hy hd]
        simp only [List.length_append]
        rfl
  · have hlk : l.length ≤ k := by omega
    repeat' ((try conv => whnf); first
      | (with_reducible refine BB_true ?_)
      | (with_reducible refine BB_false ?_)
      | (with_reducible refine Both.mk ?_ ?_)
      | (with_reducible refine VS.mk ?_)
      | (refine PSem.go (C := seat) seat_ok ?_)
      | (refine And.intro (PlanOK.mk (by kernel_rfl) rfl (by kernel_rfl) (by kernel_rfl)) ?_)
      | (refine And.intro rfl (Exists.intro _ (And.intro (by first | assumption | rfl) ?_)))
      | (refine And.intro ⟨rfl, rfl, rfl, by first | rw [List.length_map] | (rw [List.length_append, List.length_map]; rfl)⟩ ?_)
      | (refine And.intro (by first | omega | (dsimp only; omega) | exact ⟨rfl, Nat.le_refl _⟩) ?_)
      | (intro cap' hcap')
      | (refine And.intro (by omega) ?_)
      | (refine BB.mk (fun _h => ?_) (fun _h => ?_) <;> (first | (exact absurd _h (by decide)) | (exfalso; simp only [boolSet] at _h <;> omega) | skip)))
    all_goals (try conv => whnf)
    · have hd : doneB l x k = false := by simpa using _h
      refine ⟨⟨[3], .s (.n 0) 3 0 ((outL l x k).length + 1) cap', [.row 25 3 cap' ((outL l x k).map idC ++ [idC x])], by decide, rfl, ⟨.inr rfl, trivial⟩, cap', ?_, ?_⟩, rfl⟩
      · rw [← out_f hlk hd, List.length_append]
        rfl
      · rw [← out_f hlk hd, List.map_append]
        rfl
    · have hd : doneB l x k = true := by simpa using _h
      refine ⟨⟨[1], .s (.n 0) 3 0 (outL l x k).length c, [.row 25 3 c ((outL l x k).map idC)], by decide, rfl, ⟨.inr rfl, trivial⟩, c, ?_, ?_⟩, rfl⟩
      · rw [out_t hlk hd]
      · rw [out_t hlk hd]
theorem put_r (l : List Id_) (x : Id_) (cap : Nat) (hl : l.length ≤ 1099511627000) : FnOK Try.prog GG 21 [.ro 3 (l.map idC)] [.s (.o 0) 3 0 l.length cap, idS x]
    (fun r _ ext => ∃ cap, r = .s (.n 0) 3 0 (putL l x).length cap ∧ ext = [.row 25 3 cap ((putL l x).map idC)]) := by
  cases h : l.any fun y => eqB y x
  · rw [show putL l x = insL l x by simp [putL, h]]
    exact put_r_new l x cap hl h
  · rw [show putL l x = l by simp [putL, h]]
    exact put_r_old l x cap hl h
end Go.Proofs.Ytoigdnfepmbpbaa
