/- Package pulse, by computing: tables. -/
import Derived.Test.YtnkhdnmilncidaaU14
namespace Go.Proofs.Ytnkhdnmilncidaa
open Go.RowKit

theorem s_eq {a : Nm} {sz e e' m m' c c' : Nat} (h1 : e = e') (h2 : m = m') (h3 : c = c') : SV.s a sz e m c = SV.s a sz e' m' c' := by rw [h1, h2, h3]
def midF (f : Nat → Mb → Mb) (l : List Mb) (k : Nat) : List Mb := l.mapIdx fun i x => if i < k then f i x else x
theorem midF_len (f : Nat → Mb → Mb) (l : List Mb) (k : Nat) : (midF f l k).length = l.length := List.length_mapIdx
theorem midF_get (f : Nat → Mb → Mb) (l : List Mb) (k i : Nat) : (midF f l k)[i]? = l[i]?.map fun x => if i < k then f i x else x := by
  unfold midF
  rw [List.getElem?_mapIdx]
theorem midF_zero (f : Nat → Mb → Mb) (l : List Mb) : midF f l 0 = l := by
  apply List.ext_getElem?
  intro i
  rw [midF_get]
  simp
theorem midF_at {f : Nat → Mb → Mb} {l : List Mb} {k : Nat} {y : Mb} (h : l[k]? = some y) : (midF f l k)[k]? = some y := by
  rw [midF_get, h]
  simp
theorem midF_set {f : Nat → Mb → Mb} {l : List Mb} {k : Nat} {y : Mb} (h : l[k]? = some y) : (midF f l k).set k (f k y) = midF f l (k + 1) := by
  have hk := getElem?_lt h
  apply List.ext_getElem?
  intro i
  rw [List.getElem?_set, midF_len, midF_get, midF_get]
  by_cases hi : k = i
  · subst hi
    rw [if_pos rfl, if_pos hk, h]
    simp
  · rw [if_neg hi]
    have e : (i < k) = (i < k + 1) := by rw [eq_iff_iff]; omega
    simp only [e]
theorem midF_same {f : Nat → Mb → Mb} {l : List Mb} {k : Nat} {y : Mb} (h : l[k]? = some y) (hf : f k y = y) : midF f l k = midF f l (k + 1) := by
  rw [← midF_set h, hf]
  apply List.ext_getElem?
  intro i
  rw [List.getElem?_set, midF_len]
  by_cases hi : k = i
  · subst hi
    rw [midF_at h, if_pos rfl, if_pos (getElem?_lt h)]
  · rw [if_neg hi]
theorem midF_end {f : Nat → Mb → Mb} {l : List Mb} {k : Nat} (h : l.length ≤ k) : midF f l k = l.mapIdx f := by
  apply List.ext_getElem?
  intro i
  rw [midF_get, List.getElem?_mapIdx]
  cases hi : l[i]? with
  | none => rfl
  | some y =>
    have := getElem?_lt hi
    simp [show i < k by omega]
theorem midF_row {f : Nat → Mb → Mb} {l : List Mb} {k : Nat} {y : Mb} {a b c : Int} (h : l[k]? = some y) (hf : f k y = ⟨a, b, c⟩) : ((midF f l k).map mbC).set (0 + (k : Int).toNat) [.int .u16 a, .int .u8 b, .int .u8 c] = (midF f l (k + 1)).map mbC := by
  rw [← midF_set h, hf, List.map_set, Nat.zero_add, Int.toNat_natCast]
  rfl
def tabM (m : Mb) : Mb := if m.i = 0 then ⟨0, 0, 0⟩ else ⟨m.i, IntKind.u8.wrap (1 + m.s.tmod 3), m.q⟩
def upAt (l : List Mb) (k : Nat) : Bool := match l[k]? with
  | some y => upB y
  | none => false
theorem upAt_in {l : List Mb} {k : Nat} {y : Mb} (h : l[k]? = some y) : upAt l k = upB y := by unfold upAt; rw [h]
def upL (l : List Mb) : List Nat := (List.range l.length).filter (upAt l)
def bK (k : Nat) : List Value := [.int .u8 (k : Int)]
theorem range_in {q : Nat → Bool} {k : Nat} (h : q k = true) : (List.range (k + 1)).filter q = (List.range k).filter q ++ [k] := by
  rw [List.range_succ, List.filter_append]
  simp [h]
theorem range_out {q : Nat → Bool} {k : Nat} (h : q k = false) : (List.range (k + 1)).filter q = (List.range k).filter q := by
  rw [List.range_succ, List.filter_append]
  simp [h]
theorem range_le (q : Nat → Bool) (k : Nat) : ((List.range k).filter q).length ≤ k := by
  have := List.length_filter_le q (List.range k)
  rwa [List.length_range] at this
def mrg (x y : Mb) : Mb := if newerB y x then ⟨y.i, y.s, 0⟩ else x
def mrgAt (o : List Mb) (k : Nat) (x : Mb) : Mb := match o[k]? with
  | some y => mrg x y
  | none => x
theorem mrgAt_in {o : List Mb} {k : Nat} {x y : Mb} (h : o[k]? = some y) : mrgAt o k x = mrg x y := by unfold mrgAt; rw [h]
def mergeL (l o : List Mb) : List Mb := l.mapIdx (mrgAt o)
set_option maxRecDepth 100000 in
set_option maxHeartbeats 4000000 in
theorem table_ok (E : List (List Value)) (e m c : Nat) (l : List Mb) (hE : (E.drop e).take m = l.map mbC) (hm : l.length = m) (hb : e + m ≤ E.length) (hl : m ≤ 1000000) : FnOK Try.prog GG 8 [.ro 3 E] [.s (.o 0) 3 e m c] (fun r _ ext => ∃ cap, m ≤ cap ∧ r = .s (.n 0) 3 0 m cap ∧ ext = [.row 26 3 cap ((l.map tabM).map mbC)]) := by
  refine fn_newR (C := seat) seat_ok [] GG_no (Try.func8) rfl rfl rfl rfl rfl rfl ?_
  repeat' ((try conv => whnf); first
    | (with_reducible refine OKv.go (C := seat) seat_ok ?_)
    | (with_reducible refine BB_true ?_)
    | (with_reducible refine BB_false ?_)
    | (with_reducible refine Both.mk ?_ ?_)
    | (with_reducible refine VS.mk ?_)
    | (refine PSem.go (C := seat) seat_ok ?_)
    | (refine And.intro (PlanOK.mk (by kernel_rfl) rfl (by kernel_rfl) (by kernel_rfl)) ?_)
    | (refine And.intro rfl (Exists.intro _ (And.intro (by first | assumption | rfl) ?_)))
    | (refine And.intro ⟨rfl, rfl, rfl⟩ ?_)
    | (refine And.intro (by omega) ?_)
    | (refine BB.mk (fun _h => ?_) (fun _h => ?_) <;> (first | (exact absurd _h (by decide)) | (exfalso; simp only [boolSet] at _h <;> omega) | skip)))
  all_goals (try conv => whnf)
  refine loop_rule (α := Nat × Nat) (fun p => p.1 ≤ m ∧ p.1 ≤ p.2) (fun p => { slots := [(0, .s (.o 0) 3 e m c), (3, .s (.n 0) 3 0 p.1 p.2), (6, .s (.o 0) 3 e m c), (7, .v (.int .i64 m)), (8, .v (.int .i64 p.1))], nt := 27, mem := ⟨GG, [.ro 3 E], [.row 26 3 p.2 (((l.take p.1).map tabM).map mbC)]⟩ }) (fun p => m - p.1) (0, 0) ⟨Nat.zero_le _, Nat.zero_le _⟩ ⟨⟨[0], (by decide), GG_no, rfl, (SubOld.refl _ rfl), ⟨.inl (.inl ⟨rfl, rfl⟩), trivial⟩, ⟨.inl rfl, .inr ⟨_, _, _, rfl, rfl⟩, .inl rfl, .inl rfl, .inl rfl, trivial⟩⟩, rfl⟩ ?_ (fun _ => rfl)
  rintro ⟨k, c'⟩ ⟨hk, hc⟩
  dsimp only at hk hc ⊢
  refine vc_sound (C := seat) seat_ok (pl := []) ?_
  by_cases hlt : k < m
  · obtain ⟨y, hy⟩ : ∃ y, l[k]? = some y := ⟨_, List.getElem?_eq_getElem (by omega)⟩
    have hrow := win_at hE hy
    have hmin : min k l.length = k := by omega
    by_cases hi : y.i = 0
    · have ht : tabM y = ⟨0, 0, 0⟩ := if_pos hi
      repeat' ((try conv => whnf); first
        | (with_reducible refine OKv.go (C := seat) seat_ok ?_)
        | (with_reducible refine BB_true ?_)
        | (with_reducible refine BB_false ?_)
        | (with_reducible refine Both.mk ?_ ?_)
        | (with_reducible refine VS.mk ?_)
        | (refine PSem.go (C := seat) seat_ok ?_)
        | (refine And.intro (PlanOK.mk (by kernel_rfl) rfl (by kernel_rfl) (by kernel_rfl)) ?_)
        | (refine And.intro rfl (Exists.intro _ (And.intro (by first | assumption | rfl) ?_)))
        | (refine And.intro ⟨rfl, rfl, rfl⟩ ?_)
        | (refine And.intro ⟨rfl, rfl, rfl, by simp only [List.length_map, List.length_take] <;> omega⟩ ?_)
        | (refine And.intro ⟨rfl, rfl, rfl, by rw [List.length_map]⟩ ?_)
        | (refine And.intro ⟨rfl, rfl, rfl, by rw [List.length_map, List.length_map]⟩ ?_)
        | (refine And.intro ⟨rfl, by rw [List.length_map]; omega⟩ ?_)
        | (refine And.intro (by first | omega | (dsimp only; omega) | exact ⟨rfl, Nat.le_refl _⟩) ?_)
        | (intro cap' hcap')
        | (refine And.intro (by omega) ?_)
        | (refine BB.mk (fun _h => ?_) (fun _h => ?_) <;> (first | (exact absurd _h (by decide)) | (exfalso; simp only [boolSet] at _h <;> omega) | skip)))
      all_goals (try conv => whnf)
      refine ⟨(k + 1, cap'), ⟨by dsimp only; omega, by dsimp only; omega⟩, by dsimp only; omega, ⟨⟨[3], by decide, GG_no, rfl, SubOld.refl _ rfl, ⟨.inr ?_, trivial⟩, ⟨.inl rfl, .inl rfl, .inl rfl, .inl rfl, .inl (num_eq (by rw [IntKind.wrap_i64]; dsimp only; omega)), trivial⟩⟩, rfl⟩⟩
      · dsimp only
        rw [map_take_in hy, ht, List.map_append]
        rfl
    · have ht : tabM y = ⟨y.i, IntKind.u8.wrap (1 + y.s.tmod 3), y.q⟩ := if_neg hi
      repeat' ((try conv => whnf); first
        | (with_reducible refine OKv.go (C := seat) seat_ok ?_)
        | (with_reducible refine BB_true ?_)
        | (with_reducible refine BB_false ?_)
        | (with_reducible refine Both.mk ?_ ?_)
        | (with_reducible refine VS.mk ?_)
        | (refine PSem.go (C := seat) seat_ok ?_)
        | (refine And.intro (PlanOK.mk (by kernel_rfl) rfl (by kernel_rfl) (by kernel_rfl)) ?_)
        | (refine And.intro rfl (Exists.intro _ (And.intro (by first | assumption | rfl) ?_)))
        | (refine And.intro ⟨rfl, rfl, rfl⟩ ?_)
        | (refine And.intro ⟨rfl, rfl, rfl, by simp only [List.length_map, List.length_take] <;> omega⟩ ?_)
        | (refine And.intro ⟨rfl, rfl, rfl, by rw [List.length_map]⟩ ?_)
        | (refine And.intro ⟨rfl, rfl, rfl, by rw [List.length_map, List.length_map]⟩ ?_)
        | (refine And.intro ⟨rfl, by rw [List.length_map]; omega⟩ ?_)
        | (refine And.intro (by first | omega | (dsimp only; omega) | exact ⟨rfl, Nat.le_refl _⟩) ?_)
        | (intro cap' hcap')
        | (refine And.intro (by omega) ?_)
        | (refine BB.mk (fun _h => ?_) (fun _h => ?_) <;> (first | (exact absurd _h (by decide)) | (exfalso; simp only [boolSet] at _h <;> omega) | skip)))
      all_goals (try conv => whnf)
      refine ⟨(k + 1, cap'), ⟨by dsimp only; omega, by dsimp only; omega⟩, by dsimp only; omega, ⟨⟨[3], by decide, GG_no, rfl, SubOld.refl _ rfl, ⟨.inr ?_, trivial⟩, ⟨.inl rfl, .inl rfl, .inl rfl, .inl rfl, .inl (num_eq (by rw [IntKind.wrap_i64]; dsimp only; omega)), trivial⟩⟩, rfl⟩⟩
      · dsimp only
        rw [map_take_in hy, ht, List.map_append]
        rfl
  · obtain rfl : k = m := by omega
    repeat' ((try conv => whnf); first
      | (with_reducible refine OKv.go (C := seat) seat_ok ?_)
      | (with_reducible refine BB_true ?_)
      | (with_reducible refine BB_false ?_)
      | (with_reducible refine Both.mk ?_ ?_)
      | (with_reducible refine VS.mk ?_)
      | (refine PSem.go (C := seat) seat_ok ?_)
      | (refine And.intro (PlanOK.mk (by kernel_rfl) rfl (by kernel_rfl) (by kernel_rfl)) ?_)
      | (refine And.intro rfl (Exists.intro _ (And.intro (by first | assumption | rfl) ?_)))
      | (refine And.intro ⟨rfl, rfl, rfl⟩ ?_)
      | (refine And.intro (by omega) ?_)
      | (refine BB.mk (fun _h => ?_) (fun _h => ?_) <;> (first | (exact absurd _h (by decide)) | (exfalso; simp only [boolSet] at _h <;> omega) | skip)))
    all_goals (try conv => whnf)
    exact ⟨⟨[0], .s (.n 0) 3 0 k c', [.row 26 3 c' ((l.map tabM).map mbC)], by decide, .inl (.inl rfl), ⟨.inr (by rw [List.take_of_length_le (by omega)]; rfl), trivial⟩, c', hc, rfl, rfl⟩, rfl⟩
end Go.Proofs.Ytnkhdnmilncidaa
