/- Descriptors by computing: View, one. -/
import Derived.Test.YtfjankcpnhfogaaD09l
namespace Go.Proofs.Ytfjankcpnhfogaa
open Go.RowKit

def fixD (y : De) : De := { y with inc := max y.inc 1 }
def goodD (self room : Int) (n m : Nat) (y : De) : Bool := decide (y.node = n) && decide (y.node ≠ self) && decide ((m : Int) < room)
def viewN (l : List De) (self room : Int) : Nat → List De
  | 0 => []
  | n + 1 => match l.find? (goodD self room n (viewN l self room n).length) with
    | some y => viewN l self room n ++ [fixD y]
    | none => viewN l self room n
theorem view_some {l : List De} {self room : Int} {n k : Nat} {y : De} (hb : ∀ z ∈ l.take k, goodD self room n (viewN l self room n).length z = false) (hy : l[k]? = some y) (hg : goodD self room n (viewN l self room n).length y = true) : viewN l self room (n + 1) = viewN l self room n ++ [fixD y] := by
  have hk := getElem?_lt hy
  have e : l.find? (goodD self room n (viewN l self room n).length) = some y := by
    generalize goodD self room n (viewN l self room n).length = q at hb hg
    obtain ⟨_, e⟩ := List.getElem?_eq_some_iff.1 hy
    have h2 : l.take k ++ y :: l.drop (k + 1) = l := by rw [← e, List.getElem_cons_drop, List.take_append_drop]
    rw [← h2, List.find?_append, List.find?_eq_none.2 (fun z hz => by rw [hb z hz]; decide), List.find?_cons_of_pos hg]
    rfl
  rw [viewN, e]
theorem view_none {l : List De} {self room : Int} {n : Nat} (hb : ∀ z ∈ l, goodD self room n (viewN l self room n).length z = false) : viewN l self room (n + 1) = viewN l self room n := by
  rw [viewN, List.find?_eq_none.2 (fun z hz => by rw [hb z hz]; decide)]
theorem view_len (l : List De) (self room : Int) : ∀ n, (viewN l self room n).length ≤ n ∧ ((viewN l self room n).length = 0 ∨ ((viewN l self room n).length : Int) ≤ room)
  | 0 => ⟨Nat.le_refl _, .inl rfl⟩
  | n + 1 => by
    have h := view_len l self room n
    unfold viewN
    split
    · rename_i y hy
      have := List.find?_some hy
      unfold goodD at this
      simp only [boolSet] at this
      rw [List.length_append]
      simp only [List.length_cons, List.length_nil]
      omega
    · omega
theorem view_mem {l : List De} {self room : Int} : ∀ n y, y ∈ viewN l self room n → ∃ z ∈ l, y = fixD z ∧ z.node < n ∧ 0 ≤ z.node ∧ z.node ≠ self
  | 0, y, h => by cases h
  | n + 1, y, h => by
    unfold viewN at h
    split at h
    · rename_i z hz
      rcases List.mem_append.1 h with h | h
      · obtain ⟨w, h1, h2, h3, h4⟩ := view_mem n y h
        exact ⟨w, h1, h2, by omega, h4⟩
      · cases List.mem_singleton.1 h
        have := List.find?_some hz
        unfold goodD at this
        simp only [boolSet] at this
        exact ⟨z, List.mem_of_find?_eq_some hz, rfl, by omega, by omega, by omega⟩
    · obtain ⟨w, h1, h2, h3, h4⟩ := view_mem n y h
      exact ⟨w, h1, h2, by omega, h4⟩
theorem view_rising (l : List De) (self room : Int) : ∀ n, Rising (viewN l self room n)
  | 0 => List.Pairwise.nil
  | n + 1 => by
    have h := view_rising l self room n
    unfold viewN
    split
    · rename_i y hy
      refine List.pairwise_append.2 ⟨h, List.pairwise_singleton _ _, fun a ha b hb => ?_⟩
      cases List.mem_singleton.1 hb
      obtain ⟨z, _, rfl, hz, _⟩ := view_mem n a ha
      have := List.find?_some hy
      unfold goodD at this
      simp only [boolSet] at this
      show z.node < y.node
      omega
    · exact h
set_option maxRecDepth 100000 in
set_option maxHeartbeats 4000000 in
theorem view_ok (l : List De) (cap : Nat) (self room : Int) (hl : l.length ≤ 1099511627776) (hi : ∀ y ∈ l, 0 ≤ y.node ∧ y.node ≤ 255) : FnOK Try.prog GG 15 [.ro 4 (l.map deC)] [.s (.o 0) 4 0 l.length cap, .v (.int .u8 self), .v (.int .i64 room)] (fun r _ ext => ∃ cap', (viewN l self room 256).length ≤ cap' ∧ r = .s (.n 0) 4 0 (viewN l self room 256).length cap' ∧ ext = [.row 27 4 cap' ((viewN l self room 256).map deC)]) := by
  refine fn_newR (C := seat) seat_ok [] GG_no (Try.func15) rfl rfl rfl rfl rfl rfl ?_
  repeat' ((try conv => whnf); first
    | (with_reducible refine OKv.go (C := seat) seat_ok ?_)
    | (with_reducible refine BB_true ?_)
    | (with_reducible refine BB_false ?_)
    | (with_reducible refine Both.mk ?_ ?_)
    | (with_reducible refine VS.mk ?_)
    | (refine PSem.go (C := seat) seat_ok ?_)
    | (refine And.intro (PlanOK.mk (by kernel_rfl) rfl (by kernel_rfl) (by kernel_rfl)) ?_)
    | (refine And.intro rfl (Exists.intro _ (And.intro (by first | assumption | rfl) ?_)))
    | (refine And.intro ⟨rfl, rfl, rfl⟩ ?_)
    | (refine And.intro (by omega) ?_)
    | (refine BB.mk (fun _h => ?_) (fun _h => ?_) <;> (first | (exact absurd _h (by decide)) | (exfalso; simp only [boolSet] at _h <;> omega) | skip)))
  all_goals (try conv => whnf)
  refine loop_rule (α := Nat × Nat) (fun p => p.1 ≤ 256 ∧ (viewN l self room p.1).length ≤ p.2) (fun p => { slots := [(0, .s (.o 0) 4 0 l.length cap), (1, .v (.int .u8 self)), (2, .v (.int .i64 room)), (7, .s (.n 0) 4 0 (viewN l self room p.1).length p.2), (11, .v (.int .i64 p.1))], nt := 48, mem := ⟨GG, [.ro 4 (l.map deC)], [.row 27 4 p.2 ((viewN l self room p.1).map deC)]⟩ }) (fun p => 256 - p.1) (0, 0) ⟨Nat.zero_le _, Nat.zero_le _⟩ ⟨⟨[0], (by decide), GG_no, rfl, (SubOld.refl _ rfl), ⟨.inl (.inl ⟨rfl, rfl⟩), trivial⟩, ⟨.inl rfl, .inl rfl, .inl rfl, .inr (.inl ⟨_, _, _, rfl, rfl⟩), .inl rfl, trivial⟩⟩, rfl⟩ ?_ (fun _ => rfl)
  rintro ⟨n, c⟩ ⟨hn, hc⟩
  dsimp only at hn hc ⊢
  refine vc_sound (C := seat) seat_ok (pl := []) ?_
  by_cases hnlt : n < 256
  · have hvl := (view_len l self room n).1
    repeat' ((try conv => whnf); first
      | (with_reducible refine OKv.go (C := seat) seat_ok ?_)
      | (with_reducible refine BB_true ?_)
      | (with_reducible refine BB_false ?_)
      | (with_reducible refine Both.mk ?_ ?_)
      | (with_reducible refine VS.mk ?_)
      | (refine PSem.go (C := seat) seat_ok ?_)
      | (refine And.intro (PlanOK.mk (by kernel_rfl) rfl (by kernel_rfl) (by kernel_rfl)) ?_)
      | (refine And.intro rfl (Exists.intro _ (And.intro (by first | assumption | rfl) ?_)))
      | (refine And.intro ⟨rfl, rfl, rfl⟩ ?_)
      | (refine And.intro (by omega) ?_)
      | (refine BB.mk (fun _h => ?_) (fun _h => ?_) <;> (first | (exact absurd _h (by decide)) | (exfalso; simp only [boolSet] at _h <;> omega) | skip)))
    all_goals (try conv => whnf)
    refine loop_rule (α := Nat) (fun k => k ≤ l.length ∧ (∀ z ∈ l.take k, goodD self room n (viewN l self room n).length z = false)) (fun k => { slots := [(0, .s (.o 0) 4 0 l.length cap), (1, .v (.int .u8 self)), (2, .v (.int .i64 room)), (7, .s (.n 0) 4 0 (viewN l self room n).length c), (8, .v (.int .i64 n)), (11, .v (.int .i64 n)), (14, .s (.o 0) 4 0 l.length cap), (15, .v (.int .i64 l.length)), (16, .v (.int .i64 (k : Int)))], nt := 48, mem := ⟨GG, [.ro 4 (l.map deC)], [.row 27 4 c ((viewN l self room n).map deC)]⟩ }) (fun k => l.length - k) 0 ⟨Nat.zero_le _, by simp⟩ ⟨⟨[0], (by decide), GG_no, rfl, (SubOld.refl _ rfl), ⟨.inr (.inl rfl), trivial⟩, ⟨.inl rfl, .inl rfl, .inl rfl, .inl rfl, .inl rfl, .inl rfl, .inl rfl, .inl rfl, .inl rfl, trivial⟩⟩, rfl⟩ ?_ (fun _ => rfl)
    rintro k ⟨hk, hb⟩
    refine vc_sound (C := seat) seat_ok (pl := []) ?_
    by_cases hlt : k < l.length
    · obtain ⟨y, hy⟩ : ∃ y, l[k]? = some y := ⟨_, List.getElem?_eq_getElem hlt⟩
      have hrow := de_at hy
      have hyi := hi y (List.mem_of_getElem? hy)
      repeat' ((try conv => whnf); first
        | (with_reducible refine OKv.go (C := seat) seat_ok ?_)
        | (with_reducible refine BB_true ?_)
        | (with_reducible refine BB_false ?_)
        | (with_reducible refine Both.mk ?_ ?_)
        | (with_reducible refine VS.mk ?_)
        | (refine PSem.go (C := seat) seat_ok ?_)
        | (refine And.intro (PlanOK.mk (by kernel_rfl) rfl (by kernel_rfl) (by kernel_rfl)) ?_)
        | (refine And.intro rfl (Exists.intro _ (And.intro (by first | assumption | rfl) ?_)))
        | (refine And.intro ⟨rfl, rfl, rfl⟩ ?_)
        | (refine And.intro ⟨rfl, rfl, rfl, by first | (simp only [chunks_len, List.length_map, List.length_take, List.length_drop, List.length_append, List.length_cons, List.length_nil] <;> omega) | omega | rfl⟩ ?_)
        | (refine And.intro ⟨rfl, by first | (simp only [chunks_len, List.length_map, List.length_take, List.length_drop, List.length_append, List.length_cons, List.length_nil] <;> omega) | omega | rfl⟩ ?_)
        | (refine And.intro (by first | exact ⟨rfl, Nat.le_refl _⟩ | first | (simp only [chunks_len, List.length_map, List.length_take, List.length_drop, List.length_append, List.length_cons, List.length_nil] <;> omega) | omega | rfl) ?_)
        | (refine fun (caps : Nat → Nat) hcaps => ?_; conv at hcaps => whnf)
        | (refine fun (cap' : Nat) hcap' => ?_)
        | (refine And.intro (by omega) ?_)
        | (refine BB.mk (fun _h => ?_) (fun _h => ?_) <;> (first | (exact absurd _h (by decide)) | (exfalso; simp only [boolSet] at _h <;> omega) | skip)))
      all_goals (try conv => whnf)
      · have hg : goodD self room n (viewN l self room n).length y = true := by
          unfold goodD
          simp only [boolSet, IntKind.wrap_i64] at *
          omega
        have hmx : (bif true then if (1 : Int) > y.inc then 1 else y.inc else if 1 < y.inc then 1 else y.inc) = max y.inc 1 := by
          simp only [cond_true]
          split <;> omega
        have hv := view_some hb hy hg
        refine ⟨(n + 1, cap'), ⟨by dsimp only; omega, ?_⟩, by dsimp only; omega, ⟨⟨[3], by decide, GG_no, rfl, SubOld.refl _ rfl, ⟨.inr (.inl ?_), trivial⟩, ⟨.inl rfl, .inl rfl, .inl rfl, .inl ?_, .inl (num_eq (by rw [IntKind.wrap_i64]; dsimp only; omega)), trivial⟩⟩, rfl⟩⟩
        · dsimp only
          rw [hv, List.length_append]
          exact hcap'
        · dsimp only
          rw [hv, List.map_append]
          show some (SB.row _ 4 cap' ((viewN l self room n).map deC ++ [[.v (.int .u8 y.node), .v (.int .u16 (bif true then if (1 : Int) > y.inc then 1 else y.inc else if 1 < y.inc then 1 else y.inc)), .v (.int .u8 y.age), .z 2 (y.fl.map spC)]])) = _
          rw [hmx]
          rfl
        · dsimp only
          rw [hv, List.length_append]
          rfl
      all_goals
        refine ⟨k + 1, ⟨by omega, ?_⟩, by omega, ⟨⟨[0], by decide, GG_no, rfl, SubOld.refl _ rfl, ⟨.inr (.inl rfl), trivial⟩, ⟨.inl rfl, .inl rfl, .inl rfl, .inl rfl, .inl rfl, .inl rfl, .inl rfl, .inl rfl, .inl (num_eq (by rw [IntKind.wrap_i64]; omega)), trivial⟩⟩, rfl⟩⟩
        rw [List.take_add_one, hy]
        intro z hz
        rcases List.mem_append.1 hz with hz | hz
        · exact hb z hz
        · simp only [Option.toList, List.mem_singleton] at hz
          subst hz
          unfold goodD
          simp only [boolSet, IntKind.wrap_i64] at *
          omega
    · have hs : l.take k = l := List.take_of_length_le (by omega)
      rw [hs] at hb
      have hv := view_none hb
      repeat' ((try conv => whnf); first
        | (with_reducible refine OKv.go (C := seat) seat_ok ?_)
        | (with_reducible refine BB_true ?_)
        | (with_reducible refine BB_false ?_)
        | (with_reducible refine Both.mk ?_ ?_)
        | (with_reducible refine VS.mk ?_)
        | (refine PSem.go (C := seat) seat_ok ?_)
        | (refine And.intro (PlanOK.mk (by kernel_rfl) rfl (by kernel_rfl) (by kernel_rfl)) ?_)
        | (refine And.intro rfl (Exists.intro _ (And.intro (by first | assumption | rfl) ?_)))
        | (refine And.intro ⟨rfl, rfl, rfl⟩ ?_)
        | (refine And.intro (by omega) ?_)
        | (refine BB.mk (fun _h => ?_) (fun _h => ?_) <;> (first | (exact absurd _h (by decide)) | (exfalso; simp only [boolSet] at _h <;> omega) | skip)))
      all_goals (try conv => whnf)
      refine ⟨(n + 1, c), ⟨by dsimp only; omega, by dsimp only; rw [hv]; exact hc⟩, by dsimp only; omega, ⟨⟨[0], by decide, GG_no, rfl, SubOld.refl _ rfl, ⟨.inr (.inl ?_), trivial⟩, ⟨.inl rfl, .inl rfl, .inl rfl, .inl ?_, .inl (num_eq (by rw [IntKind.wrap_i64]; dsimp only; omega)), trivial⟩⟩, rfl⟩⟩
      · dsimp only
        rw [hv]
        rfl
      · dsimp only
        rw [hv]
        rfl
  · obtain rfl : n = 256 := by omega
    repeat' ((try conv => whnf); first
      | (with_reducible refine OKv.go (C := seat) seat_ok ?_)
      | (with_reducible refine BB_true ?_)
      | (with_reducible refine BB_false ?_)
      | (with_reducible refine Both.mk ?_ ?_)
      | (with_reducible refine VS.mk ?_)
      | (refine PSem.go (C := seat) seat_ok ?_)
      | (refine And.intro (PlanOK.mk (by kernel_rfl) rfl (by kernel_rfl) (by kernel_rfl)) ?_)
      | (refine And.intro rfl (Exists.intro _ (And.intro (by first | assumption | rfl) ?_)))
      | (refine And.intro ⟨rfl, rfl, rfl⟩ ?_)
      | (refine And.intro (by omega) ?_)
      | (refine BB.mk (fun _h => ?_) (fun _h => ?_) <;> (first | (exact absurd _h (by decide)) | (exfalso; simp only [boolSet] at _h <;> omega) | skip)))
    all_goals (try conv => whnf)
    exact ⟨⟨[0], .s (.n 0) 4 0 (viewN l self room 256).length c, [.row 27 4 c ((viewN l self room 256).map deC)], by decide, .inl (.inl rfl), ⟨.inr (.inl rfl), trivial⟩, c, hc, rfl, rfl⟩, rfl⟩
set_option maxRecDepth 100000 in
set_option maxHeartbeats 4000000 in
theorem one_ok (n a : Int) : FnOK Try.prog GG 30 [] [.v (.int .u8 n), .v (.int .u8 a)] (fun r _ ext => ∃ cap', 1 ≤ cap' ∧ r = .agg [.v (.int .u8 n), .v (.int .u16 1), .v (.int .u8 a), .s (.n 0) 2 0 1 cap'] ∧ ext = [.row 49 2 cap' [spC ⟨0, 1⟩]]) := by
  refine fn_new (C := seat) seat_ok [] GG_no (Try.func30) rfl rfl rfl rfl rfl rfl ?_
  repeat' ((try conv => whnf); first
    | (with_reducible refine OKv.go (C := seat) seat_ok ?_)
    | (with_reducible refine BB_true ?_)
    | (with_reducible refine BB_false ?_)
    | (with_reducible refine Both.mk ?_ ?_)
    | (with_reducible refine VS.mk ?_)
    | (refine PSem.go (C := seat) seat_ok ?_)
    | (refine And.intro (PlanOK.mk (by kernel_rfl) rfl (by kernel_rfl) (by kernel_rfl)) ?_)
    | (refine And.intro rfl (Exists.intro _ (And.intro (by first | assumption | rfl) ?_)))
    | (refine And.intro ⟨rfl, rfl, rfl⟩ ?_)
    | (refine And.intro (by omega) ?_)
    | (refine BB.mk (fun _h => ?_) (fun _h => ?_) <;> (first | (exact absurd _h (by decide)) | (exfalso; simp only [boolSet] at _h <;> omega) | skip)))
  all_goals (try conv => whnf)
  exact Fin.mk ⟨⟨[1], .agg [.v (.int .u8 n), .v (.int .u16 1), .v (.int .u8 a), .s (.n 0) 2 0 1 1], [.row 49 2 1 [spC ⟨0, 1⟩]], by decide, rfl, ⟨.inr (.inl rfl), trivial⟩, 1, Nat.le_refl _, rfl, rfl⟩, rfl⟩
end Go.Proofs.Ytfjankcpnhfogaa
