/- Law SchemaBring, by computing: of. -/
import Derived.Test.YthcofkeiffpiiaaC03e
namespace Go.Proofs.Ythcofkeiffpiiaa
open Go.RowKit

def ofOne (x : Sp_) : Sp_ := ⟨if x.b < x.a then x.b else x.a, if x.b > x.a then x.b else x.a⟩
def ofM (l : List Sp_) : List Sp_ := (l.take 4).map ofOne
def ofL (l : List Sp_) : List Sp_ := if (ofM l).length = 0 then twoL else ofM l
theorem ofM_len (l : List Sp_) : (ofM l).length = min 4 l.length := by simp [ofM, List.length_take]
theorem ofM_take {l : List Sp_} {k : Nat} {y : Sp_} (h : l[k]? = some y) (hk : k < 4) : (ofM l).take (k + 1) = (ofM l).take k ++ [ofOne y] := by
  rw [List.take_add_one]
  congr 1
  rw [ofM, List.getElem?_map, List.getElem?_take, if_pos hk, h]
  rfl
theorem ofOne_le (x : Sp_) : (ofOne x).a ≤ (ofOne x).b := by
  simp only [ofOne]
  split <;> split <;> omega
theorem ofL_le (l : List Sp_) : ∀ y ∈ ofL l, y.a ≤ y.b := by
  intro y hy
  unfold ofL at hy
  split at hy
  · simp only [twoL, List.mem_cons, List.not_mem_nil, or_false] at hy
    rcases hy with rfl | rfl <;> decide
  · simp only [ofM, List.mem_map] at hy
    obtain ⟨x, _, rfl⟩ := hy
    exact ofOne_le x
theorem ofL_len (l : List Sp_) : 1 ≤ (ofL l).length ∧ (ofL l).length ≤ 4 := by
  unfold ofL
  have := ofM_len l
  split
  · decide
  · omega
theorem ofL_right (l : List Sp_) : rightB (ofL l) = true := by
  simp only [rightB, Bool.and_eq_true, decide_eq_true_eq, List.all_eq_true]
  exact ⟨ofL_len l, ofL_le l⟩
theorem slen_eq {a : Nm} {sz e n m c : Nat} (h : n = m) : SV.s a sz e n c = .s a sz e m c := by rw [h]
theorem of_le (l : List Sp_) (k : Nat) : ((ofM l).take k).length ≤ k := List.length_take_le _ _
set_option maxRecDepth 100000 in
set_option maxHeartbeats 4000000 in
theorem of_ok (l : List Sp_) (cap : Nat) (hc : l.length ≤ cap) : FnOK Try.prog GG 22 [.ro 2 (l.map spC)] [.s (.o 0) 2 0 l.length cap] (fun r _ ext => ∃ cap', (ofL l).length ≤ cap' ∧ r = .s (.n 0) 2 0 (ofL l).length cap' ∧ ext = [.row 44 2 cap' ((ofL l).map spC)]) := by
  obtain ⟨n, hn, hn4, hnl, hn1⟩ : ∃ n : Nat, (if (4 : Int) < (l.length : Int) then (4 : Int) else l.length) = n ∧ n ≤ 4 ∧ n ≤ l.length ∧ n = min 4 l.length := by
    by_cases h : (4 : Int) < (l.length : Int)
    · exact ⟨4, by rw [if_pos h]; rfl, by omega, by omega, by omega⟩
    · exact ⟨l.length, by rw [if_neg h], by omega, by omega, by omega⟩
  refine fn_new (C := seat) seat_ok [] GG_no (Try.func22) rfl rfl rfl rfl rfl rfl ?_
  repeat' ((try conv => whnf); first
    | (with_reducible refine BB_true ?_)
    | (with_reducible refine BB_false ?_)
    | (with_reducible refine Both.mk ?_ ?_)
    | (with_reducible refine VS.mk ?_)
    | (refine PSem.go (C := seat) seat_ok ?_)
    | (refine And.intro (PlanOK.mk (by kernel_rfl) rfl (by kernel_rfl) (by kernel_rfl)) ?_)
    | (refine And.intro rfl (Exists.intro _ (And.intro (by first | assumption | rfl) ?_)))
    | (refine And.intro ⟨rfl, rfl, rfl⟩ ?_)
    | (refine And.intro ⟨by decide, by show (0 : Int) ≤ (if (4 : Int) < (l.length : Int) then (4 : Int) else l.length); omega, by show (if (4 : Int) < (l.length : Int) then (4 : Int) else l.length) ≤ (cap : Int); omega⟩ ?_)
    | (refine And.intro ⟨rfl, rfl, rfl, by rw [List.length_map]⟩ ?_)
    | (refine And.intro (by first | omega | (dsimp only; omega) | exact ⟨rfl, Nat.le_refl _⟩) ?_)
    | (intro cap' hcap')
    | (refine And.intro (by omega) ?_)
    | (refine BB.mk (fun _h => ?_) (fun _h => ?_) <;> (first | (exact absurd _h (by decide)) | (exfalso; simp only [boolSet] at _h <;> omega) | skip)))
  all_goals (try conv => whnf)
  refine loop_rule (α := Nat × Nat) (fun p => p.1 ≤ n ∧ ((ofM l).take p.1).length ≤ p.2) (fun p => { slots := [(3, .s (.n 0) 2 0 ((ofM l).take p.1).length p.2), (10, .s (.o 0) 2 0 n cap), (11, .v (.int .i64 n)), (12, .v (.int .i64 p.1))], nt := 36, mem := ⟨GG, [.ro 2 (l.map spC)], [.row 44 2 p.2 (((ofM l).take p.1).map spC)]⟩ }) (fun p => n - p.1) (0, 0) ⟨Nat.zero_le _, Nat.zero_le _⟩ ⟨⟨[0], (by decide), GG_no, rfl, (SubOld.refl _ rfl), ⟨.inl (.inl ⟨rfl, rfl⟩), trivial⟩, ⟨.inr ⟨_, _, _, rfl, rfl⟩, .inl (slen_eq (show (if (4 : Int) < (l.length : Int) then (4 : Int) else l.length).toNat - 0 = n by rw [hn]; rfl)), .inl (num_eq (show (((if (4 : Int) < (l.length : Int) then (4 : Int) else l.length).toNat - 0 : Nat) : Int) = n by rw [hn]; rfl)), .inl rfl, trivial⟩⟩, rfl⟩ ?_ (fun _ => rfl)
  rintro ⟨k, c⟩ ⟨hk, hc'⟩
  dsimp only at hk hc' ⊢
  have hF := of_le l k
  refine vc_sound (C := seat) seat_ok (pl := []) ?_
  by_cases hlt : k < n
  · obtain ⟨y, hy⟩ : ∃ y, l[k]? = some y := ⟨_, List.getElem?_eq_getElem (by omega)⟩
    have hrow := sp_at0 hy
    repeat' ((try conv => whnf); first
      | (with_reducible refine BB_true ?_)
      | (with_reducible refine BB_false ?_)
      | (with_reducible refine Both.mk ?_ ?_)
      | (with_reducible refine VS.mk ?_)
      | (refine PSem.go (C := seat) seat_ok ?_)
      | (refine And.intro (PlanOK.mk (by kernel_rfl) rfl (by kernel_rfl) (by kernel_rfl)) ?_)
      | (refine And.intro rfl (Exists.intro _ (And.intro (by first | assumption | rfl) ?_)))
      | (refine And.intro ⟨rfl, rfl, rfl⟩ ?_)
      | (refine And.intro ⟨by decide, by show (0 : Int) ≤ (if (4 : Int) < (l.length : Int) then (4 : Int) else l.length); omega, by show (if (4 : Int) < (l.length : Int) then (4 : Int) else l.length) ≤ (cap : Int); omega⟩ ?_)
      | (refine And.intro ⟨rfl, rfl, rfl, by rw [List.length_map]⟩ ?_)
      | (refine And.intro (by first | omega | (dsimp only; omega) | exact ⟨rfl, Nat.le_refl _⟩) ?_)
      | (intro cap' hcap')
      | (refine And.intro (by omega) ?_)
      | (refine BB.mk (fun _h => ?_) (fun _h => ?_) <;> (first | (exact absurd _h (by decide)) | (exfalso; simp only [boolSet] at _h <;> omega) | skip)))
    all_goals (try conv => whnf)
    refine ⟨(k + 1, cap'), ⟨by dsimp only; omega, ?_⟩, by dsimp only; omega, ⟨⟨[3], by decide, GG_no, rfl, SubOld.refl _ rfl, ?_, ⟨.inl ?_, .inl rfl, .inl rfl, .inl (num_eq (by rw [IntKind.wrap_i64]; dsimp only; omega)), trivial⟩⟩, rfl⟩⟩
    · dsimp only
      rw [ofM_take hy (by omega)]
      simpa using hcap'
    · refine ⟨.inr ?_, trivial⟩
      dsimp only
      rw [ofM_take hy (by omega), List.map_append]
      rfl
    · dsimp only
      rw [ofM_take hy (by omega), List.length_append]
      rfl
  · have hs : (ofM l).take k = ofM l := List.take_of_length_le (by rw [ofM_len]; omega)
    rw [hs] at hc' hF ⊢
    by_cases h0 : (ofM l).length = 0
    · have ho : ofL l = twoL := by simp [ofL, h0]
      rw [ho]
      rw [h0]
      repeat' ((try conv => whnf); first
        | (with_reducible refine BB_true ?_)
        | (with_reducible refine BB_false ?_)
        | (with_reducible refine Both.mk ?_ ?_)
        | (with_reducible refine VS.mk ?_)
        | (refine PSem.go (C := seat) seat_ok ?_)
        | (refine And.intro (PlanOK.mk (by kernel_rfl) rfl (by kernel_rfl) (by kernel_rfl)) ?_)
        | (refine And.intro rfl (Exists.intro _ (And.intro (by first | assumption | rfl) ?_)))
        | (refine And.intro ⟨rfl, rfl, rfl⟩ ?_)
        | (refine call_ro [] (two_ok) GG_no rfl rfl rfl trivial ?_; rintro r bs' ext ⟨rfl, rfl⟩)
        | (refine And.intro (by omega) ?_)
        | (refine BB.mk (fun _h => ?_) (fun _h => ?_) <;> (first | (exact absurd _h (by decide)) | (exfalso; simp only [boolSet] at _h <;> omega) | skip)))
      all_goals (try conv => whnf)
      exact ⟨⟨[1], .s (.n 0) 2 0 2 2, [.row 44 2 2 (twoL.map spC)], by decide, rfl, ⟨.inr rfl, trivial⟩, 2, by decide, rfl, rfl⟩, rfl⟩
    · have ho : ofL l = ofM l := by simp [ofL, h0]
      rw [ho]
      repeat' ((try conv => whnf); first
        | (with_reducible refine BB_true ?_)
        | (with_reducible refine BB_false ?_)
        | (with_reducible refine Both.mk ?_ ?_)
        | (with_reducible refine VS.mk ?_)
        | (refine PSem.go (C := seat) seat_ok ?_)
        | (refine And.intro (PlanOK.mk (by kernel_rfl) rfl (by kernel_rfl) (by kernel_rfl)) ?_)
        | (refine And.intro rfl (Exists.intro _ (And.intro (by first | assumption | rfl) ?_)))
        | (refine And.intro ⟨rfl, rfl, rfl⟩ ?_)
        | (refine And.intro (by omega) ?_)
        | (refine BB.mk (fun _h => ?_) (fun _h => ?_) <;> (first | (exact absurd _h (by decide)) | (exfalso; simp only [boolSet] at _h <;> omega) | skip)))
      all_goals (try conv => whnf)
      exact ⟨⟨[0], .s (.n 0) 2 0 (ofM l).length c, [.row 44 2 c ((ofM l).map spC)], by decide, rfl, ⟨.inr rfl, trivial⟩, c, hc', rfl, rfl⟩, rfl⟩
end Go.Proofs.Ythcofkeiffpiiaa
