/- Stage 10: Pick, walked. -/
import Derived.Test.YtccegmbklgmgnaaY10c
namespace Go.Proofs.Ytccegmbklgmgnaa
open Go.RowKit

def u4C (x : Int) : List CV := [.v (.int .u32 x)]
theorem u4_at {l : List Int} {k : Nat} {y : Int} (h : l[k]? = some y) : (l.map u4C)[(k : Int).toNat]? = some [.v (.int .u32 y)] := by
  rw [Int.toNat_natCast, List.getElem?_map, h]; rfl
def othN (l : List De) (x : Int) (k : Nat) : List De := (l.take k).filter fun d => decide (d.node ≠ x)
theorem oth_succ {l : List De} {x : Int} {k : Nat} {d : De} (h : l[k]? = some d) : othN l x (k + 1) = if d.node ≠ x then othN l x k ++ [d] else othN l x k := by
  unfold othN
  rw [List.take_add_one, h, List.filter_append]
  simp only [Option.toList_some, List.filter_cons, List.filter_nil]
  split <;> simp_all
theorem oth_len (l : List De) (x : Int) (k : Nat) : (othN l x k).length ≤ k := by
  unfold othN
  have := List.length_filter_le (fun d : De => decide (d.node ≠ x)) (l.take k)
  rw [List.length_take] at this
  omega
def pickAt (x : Int) (n : Nat) : Nat := (x % (n : Int)).toNat
/-- One draw: who is left, who is picked. -/
def pickS (many x : Int) (p : List De × List De) : List De × List De :=
  if many ≤ p.2.length ∨ p.1.length = 0 then p
  else match p.1[pickAt x p.1.length]? with
    | some d => (p.1.eraseIdx (pickAt x p.1.length), p.2 ++ [d])
    | none => p
def pickN (many : Int) (draws : List Int) (l : List De) : Nat → List De × List De
  | 0 => (l, [])
  | k + 1 => match draws[k]? with
    | some x => pickS many x (pickN many draws l k)
    | none => pickN many draws l k
theorem pick_stop {many : Int} {draws : List Int} {l : List De} {k : Nat} (h : many ≤ (pickN many draws l k).2.length ∨ (pickN many draws l k).1.length = 0) : ∀ j, k ≤ j → pickN many draws l j = pickN many draws l k := by
  intro j hj
  induction j with
  | zero => obtain rfl : k = 0 := by omega
            rfl
  | succ j ih =>
    by_cases e : k = j + 1
    · rw [e]
    · have ih := ih (by omega)
      rw [pickN]
      split
      · rename_i x hx
        rw [ih]
        unfold pickS
        rw [if_pos h]
      · exact ih
theorem pick_len (many : Int) (draws : List Int) (l : List De) : ∀ k, (pickN many draws l k).1.length ≤ l.length ∧ (pickN many draws l k).2.length ≤ k
  | 0 => ⟨Nat.le_refl _, Nat.le_refl _⟩
  | k + 1 => by
    obtain ⟨h1, h2⟩ := pick_len many draws l k
    rw [pickN]
    split
    · rename_i x hx
      unfold pickS
      split
      · exact ⟨h1, Nat.le_succ_of_le h2⟩
      · split
        · have := List.length_eraseIdx_le (pickN many draws l k).1 (pickAt x (pickN many draws l k).1.length)
          exact ⟨by dsimp only; omega, by simp only [List.length_append, List.length_cons, List.length_nil]; omega⟩
        · exact ⟨h1, Nat.le_succ_of_le h2⟩
    · exact ⟨h1, Nat.le_succ_of_le h2⟩
theorem zde_at0 {l : List De} {k : Nat} {y : De} (h : l[k]? = some y) : (l.map deC)[0 + (k : Int).toNat]? = some [.v (.int .u8 y.node), .v (.int .u16 y.inc), .v (.int .u8 y.age), .z 2 (y.fl.map spC)] := by
  rw [Nat.zero_add]; exact zde_at h
theorem delete_i (A : List (List CV)) (n k : Nat) (i j : Int) (cap c0 : Nat) (hi : i = k) (hn : n = A.length) (hk : k < n) (hj : j = k + 1) (hc : n ≤ cap) (hl : n ≤ 1099511627776) : FnOK Try.prog GG 30 [.row 34 4 c0 A] [.s (.o 0) 4 0 n cap, .v (.int .i64 i), .v (.int .i64 j)] (fun r bs' ext => r = .s (.o 0) 4 0 (n - 1) cap ∧ bs' = [.row 34 4 c0 (A.eraseIdx k ++ [[CV.v (.int .u8 0), .v (.int .u16 0), .v (.int .u8 0), .v (.slice none 0 0)]])] ∧ ext = []) := by
  subst hi
  exact delete_raw A n k j cap c0 hn hk hj hc hl
theorem pick_ix (y : Int) (n : Nat) (hy : 0 ≤ y ∧ y ≤ 4294967295) (hn : 0 < n) (hn2 : n ≤ 20) : IntKind.i64.wrap ((IntKind.u64.wrap y).tmod (IntKind.u64.wrap (n : Int))) = ((pickAt y n : Nat) : Int) := by
  have h1 : IntKind.u64.wrap y = y := by rw [IntKind.wrap_u64]; omega
  have h2 : IntKind.u64.wrap (n : Int) = n := by rw [IntKind.wrap_u64]; omega
  rw [h1, h2, Int.tmod_eq_emod_of_nonneg hy.1, IntKind.wrap_i64]
  have h3 := Int.emod_lt_of_pos y (show (0 : Int) < n by omega)
  have h4 := Int.emod_nonneg y (show (n : Int) ≠ 0 by omega)
  unfold pickAt
  omega
set_option maxRecDepth 100000 in
set_option maxHeartbeats 4000000 in
theorem pick_ok (l : List De) (cl : Nat) (many x : Int) (draws : List Int) (cd : Nat) (hl : l.length ≤ 20) (hf : FlOk l) (hdl : draws.length ≤ 1000) (hdr : ∀ y ∈ draws, 0 ≤ y ∧ y ≤ 4294967295) : FnOK Try.prog GG 15 [] [.z 4 (l.map deC) cl, .v (.int .i64 many), .v (.int .u8 x), .z 1 (draws.map u4C) cd] (fun r _ ext => (∃ c', (pickN many draws (othN l x l.length) draws.length).2.length ≤ c' ∧ r = .z 4 ((pickN many draws (othN l x l.length) draws.length).2.map deC) c') ∧ ext = []) := by
  have hlm : (l.map deC).length = l.length := List.length_map _
  have hdm : (draws.map u4C).length = draws.length := List.length_map _
  refine FnOK.pure GG_no rfl (fn_intro (C := seat) seat_ok [] GG_no (Try.func15) rfl rfl rfl rfl rfl ?_)
  repeat' ((try conv => whnf); first
    | (with_reducible refine OKv.go (C := seat) seat_ok ?_)
    | (with_reducible refine BB_true ?_)
    | (with_reducible refine BB_false ?_)
    | (with_reducible refine Both.mk ?_ ?_)
    | (with_reducible refine VS.mk ?_)
    | (refine PSem.go (C := seat) seat_ok ?_)
    | (refine And.intro (PlanOK.mk (by kernel_rfl) rfl (by kernel_rfl) (by kernel_rfl)) ?_)
    | (refine And.intro rfl (Exists.intro _ (And.intro (by first | assumption | rfl) ?_)))
    | (refine And.intro ⟨rfl, rfl, rfl⟩ ?_)
    | (refine call_ro [] (copy_zz l cl (by omega) hf) GG_no rfl rfl rfl trivial ?_; rintro r bs' ext ⟨⟨c', hc', rfl⟩, rfl⟩)
    | (refine And.intro (by omega) ?_)
    | (refine BB.mk (fun _h => ?_) (fun _h => ?_) <;> (first | (exact absurd _h (by decide)) | (exfalso; simp only [boolSet] at _h <;> omega) | skip)))
  all_goals (try conv => whnf)
  refine loop_rule (α := Nat × Nat) (fun p => p.1 ≤ l.length ∧ (othN l x p.1).length ≤ p.2) (fun p => { slots := [(1, .v (.int .i64 many)), (2, .v (.int .u8 x)), (3, .z 1 (draws.map u4C) cd), (9, .s (.n 0) 4 0 (othN l x p.1).length p.2), (10, .v (.slice none 0 0)), (17, .z 4 (l.map deC) c'), (18, .v (.int .i64 (l.map deC).length)), (19, .v (.int .i64 (p.1 : Int)))], nt := 68, mem := ⟨GG, [], [.row 34 4 p.2 ((othN l x p.1).map deC)]⟩ }) (fun p => l.length - p.1) (0, 0) ⟨Nat.zero_le _, Nat.zero_le _⟩ ⟨⟨[0], (by decide), GG_no, rfl, (SubOld.refl _ rfl), ⟨.inl (.inl ⟨rfl, rfl⟩), trivial⟩, ⟨.inl rfl, .inl rfl, .inl rfl, .inr (.inl ⟨_, _, _, rfl, rfl⟩), .inl rfl, .inl rfl, .inl rfl, .inl rfl, trivial⟩⟩, rfl⟩ ?_ (fun _ => rfl)
  rintro ⟨k, c⟩ ⟨hk, hc⟩
  dsimp only at hk hc ⊢
  refine vc_sound (C := seat) seat_ok (pl := []) ?_
  have hok := oth_len l x k
  have hom : ((othN l x k).map deC).length = (othN l x k).length := List.length_map _
  by_cases hlt : k < l.length
  · obtain ⟨d, hd⟩ : ∃ d, l[k]? = some d := ⟨_, List.getElem?_eq_getElem hlt⟩
    have hrow := zde_at hd
    have hsu := oth_succ (x := x) hd
    by_cases hx : d.node = x
    · rw [if_neg (by simp [hx])] at hsu
      repeat' ((try conv => whnf); first
        | (with_reducible refine OKv.go (C := seat) seat_ok ?_)
        | (with_reducible refine BB_true ?_)
        | (with_reducible refine BB_false ?_)
        | (with_reducible refine Both.mk ?_ ?_)
        | (with_reducible refine VS.mk ?_)
        | (refine PSem.go (C := seat) seat_ok ?_)
        | (refine And.intro (PlanOK.mk (by kernel_rfl) rfl (by kernel_rfl) (by kernel_rfl)) ?_)
        | (refine And.intro rfl (Exists.intro _ (And.intro (by first | assumption | rfl) ?_)))
        | (refine And.intro ⟨rfl, rfl, rfl⟩ ?_)
        | (refine And.intro ⟨by omega, by simp only [List.length_map]; omega⟩ (Exists.intro _ (And.intro (by first | assumption | rfl) ?_)))
        | (refine fun (caps : Nat → Nat) hcaps => ?_; conv at hcaps => whnf)
        | (refine BB.mk (fun _h => ?_) (fun _h => ?_) <;> (first | (exact absurd _h (by decide)) | (exfalso; simp only [boolSet, IntKind.wrap_i64] at _h <;> omega) | (simp only [boolSet, IntKind.wrap_i64] at _h) | skip))
        | (refine And.intro (by omega) ?_)
        | (refine BB.mk (fun _h => ?_) (fun _h => ?_) <;> (first | (exact absurd _h (by decide)) | (exfalso; simp only [boolSet] at _h <;> omega) | skip)))
      all_goals (try conv => whnf)
      exact ⟨(k + 1, c), ⟨by dsimp only; omega, by rw [hsu]; exact hc⟩, by dsimp only; omega, ⟨⟨[0], by decide, GG_no, rfl, SubOld.refl _ rfl, ⟨.inr (.inl (by dsimp only; rw [hsu]; rfl)), trivial⟩, ⟨.inl rfl, .inl rfl, .inl rfl, .inl (by dsimp only; rw [hsu]; rfl), .inl rfl, .inl rfl, .inl rfl, .inl (num_eq (by rw [IntKind.wrap_i64]; omega)), trivial⟩⟩, rfl⟩⟩
    · rw [if_pos hx] at hsu
      repeat' ((try conv => whnf); first
        | (with_reducible refine OKv.go (C := seat) seat_ok ?_)
        | (with_reducible refine BB_true ?_)
        | (with_reducible refine BB_false ?_)
        | (with_reducible refine Both.mk ?_ ?_)
        | (with_reducible refine VS.mk ?_)
        | (refine PSem.go (C := seat) seat_ok ?_)
        | (refine And.intro (PlanOK.mk (by kernel_rfl) rfl (by kernel_rfl) (by kernel_rfl)) ?_)
        | (refine And.intro rfl (Exists.intro _ (And.intro (by first | assumption | rfl) ?_)))
        | (refine And.intro ⟨rfl, rfl, rfl⟩ ?_)
        | (refine And.intro ⟨by omega, by simp only [List.length_map]; omega⟩ (Exists.intro _ (And.intro (by first | assumption | rfl) ?_)))
        | (refine BB.mk (fun _h => ?_) (fun _h => ?_) <;> (first | (exact absurd _h (by decide)) | (exfalso; simp only [boolSet, IntKind.wrap_i64] at _h <;> omega) | (simp only [boolSet, IntKind.wrap_i64] at _h) | skip))
        | (refine And.intro ⟨rfl, rfl, rfl, by first | (simp only [chunks_len, List.length_map, List.length_take, List.length_drop, List.length_append, List.length_cons, List.length_nil] <;> omega) | omega | rfl⟩ ?_)
        | (refine And.intro ⟨rfl, by first | (simp only [chunks_len, List.length_map, List.length_take, List.length_drop, List.length_append, List.length_cons, List.length_nil] <;> omega) | omega | rfl⟩ ?_)
        | (refine And.intro (by first | exact ⟨rfl, Nat.le_refl _⟩ | first | (simp only [chunks_len, List.length_map, List.length_take, List.length_drop, List.length_append, List.length_cons, List.length_nil] <;> omega) | omega | rfl) ?_)
        | (refine fun (caps : Nat → Nat) hcaps => ?_; conv at hcaps => whnf)
        | (refine fun (cap' : Nat) hcap' => ?_)
        | (refine And.intro (by omega) ?_)
        | (refine BB.mk (fun _h => ?_) (fun _h => ?_) <;> (first | (exact absurd _h (by decide)) | (exfalso; simp only [boolSet] at _h <;> omega) | skip)))
      all_goals (try conv => whnf)
      exact ⟨(k + 1, cap'), ⟨by dsimp only; omega, by rw [hsu, List.length_append]; exact hcap'⟩, by dsimp only; omega, ⟨⟨[3], by decide, GG_no, rfl, SubOld.refl _ rfl, ⟨.inr (.inl (by dsimp only; rw [hsu, List.map_append]; rfl)), trivial⟩, ⟨.inl rfl, .inl rfl, .inl rfl, .inl (by dsimp only; rw [hsu, List.length_append]; rfl), .inl rfl, .inl rfl, .inl rfl, .inl (num_eq (by rw [IntKind.wrap_i64]; omega)), trivial⟩⟩, rfl⟩⟩
  · obtain rfl : k = l.length := by omega
    repeat' ((try conv => whnf); first
      | (with_reducible refine OKv.go (C := seat) seat_ok ?_)
      | (with_reducible refine BB_true ?_)
      | (with_reducible refine BB_false ?_)
      | (with_reducible refine Both.mk ?_ ?_)
      | (with_reducible refine VS.mk ?_)
      | (refine PSem.go (C := seat) seat_ok ?_)
      | (refine And.intro (PlanOK.mk (by kernel_rfl) rfl (by kernel_rfl) (by kernel_rfl)) ?_)
      | (refine And.intro rfl (Exists.intro _ (And.intro (by first | assumption | rfl) ?_)))
      | (refine And.intro ⟨rfl, rfl, rfl⟩ ?_)
      | (refine And.intro (by omega) ?_)
      | (refine BB.mk (fun _h => ?_) (fun _h => ?_) <;> (first | (exact absurd _h (by decide)) | (exfalso; simp only [boolSet] at _h <;> omega) | skip)))
    all_goals (try conv => whnf)
    refine loop_rule (α := Nat × Nat × Nat) (fun p => p.1 ≤ draws.length ∧ (pickN many draws (othN l x l.length) p.1).1.length ≤ p.2.1 ∧ (pickN many draws (othN l x l.length) p.1).2.length ≤ p.2.2) (fun p => { slots := [(1, .v (.int .i64 many)), (9, .s (.n 0) 4 0 (pickN many draws (othN l x l.length) p.1).1.length p.2.1), (10, .s (.n 1) 4 0 (pickN many draws (othN l x l.length) p.1).2.length p.2.2), (32, .z 1 (draws.map u4C) cd), (33, .v (.int .i64 (draws.map u4C).length)), (34, .v (.int .i64 (p.1 : Int)))], nt := 68, mem := ⟨GG, [], [.row 34 4 p.2.1 ((pickN many draws (othN l x l.length) p.1).1.map deC), .row 34 4 p.2.2 ((pickN many draws (othN l x l.length) p.1).2.map deC)]⟩ }) (fun p => draws.length - p.1) (0, c, 0) ⟨Nat.zero_le _, hc, Nat.zero_le _⟩ ⟨⟨[0, 1], (by decide), GG_no, rfl, (SubOld.refl _ rfl), ⟨.inr (.inl rfl), .inl (.inl ⟨rfl, rfl⟩), trivial⟩, ⟨.inl rfl, .inl rfl, .inr (.inl ⟨_, _, _, rfl, rfl⟩), .inl rfl, .inl rfl, .inl rfl, trivial⟩⟩, rfl⟩ ?_ (fun _ => rfl)
    rintro ⟨k, c0, c1⟩ ⟨hk, hc0, hc1⟩
    dsimp only at hk hc0 hc1 ⊢
    refine vc_sound (C := seat) seat_ok (pl := []) ?_
    have hll : ∀ j, (pickN many draws (othN l x l.length) j).1.length ≤ 20 := fun j => Nat.le_trans (pick_len _ _ _ j).1 (Nat.le_trans (oth_len l x _) hl)
    have hol : ∀ j, (pickN many draws (othN l x l.length) j).2.length ≤ j := fun j => (pick_len _ _ _ j).2
    have hLk := hll k
    have hOk := hol k
    have hstop := pick_stop (many := many) (draws := draws) (l := othN l x l.length) (k := k)
    have hsucc : ∀ y, draws[k]? = some y → pickN many draws (othN l x l.length) (k + 1) = pickS many y (pickN many draws (othN l x l.length) k) := fun y hy => by rw [pickN, hy]
    by_cases hlt : k < draws.length
    · obtain ⟨y, hy⟩ : ∃ y, draws[k]? = some y := ⟨_, List.getElem?_eq_getElem hlt⟩
      have hrow := u4_at hy
      have hy0 := hdr y (List.mem_of_getElem? hy)
      have hnx := hsucc y hy
      have hst := hstop
      generalize hp : pickN many draws (othN l x l.length) k = p at *
      obtain ⟨L, O⟩ := p
      dsimp only at hLk hOk hc0 hc1 hnx hst ⊢
      have hLm : (L.map deC).length = L.length := List.length_map _
      by_cases hs : many ≤ O.length ∨ L.length = 0
      · have hfin := hst hs draws.length hk
        repeat' ((try conv => whnf); first
          | (with_reducible refine OKv.go (C := seat) seat_ok ?_)
          | (with_reducible refine BB_true ?_)
          | (with_reducible refine BB_false ?_)
          | (with_reducible refine Both.mk ?_ ?_)
          | (with_reducible refine VS.mk ?_)
          | (refine PSem.go (C := seat) seat_ok ?_)
          | (refine And.intro (PlanOK.mk (by kernel_rfl) rfl (by kernel_rfl) (by kernel_rfl)) ?_)
          | (refine And.intro rfl (Exists.intro _ (And.intro (by first | assumption | rfl) ?_)))
          | (refine And.intro ⟨rfl, rfl, rfl⟩ ?_)
          | (refine And.intro ⟨by omega, by simp only [List.length_map]; omega⟩ (Exists.intro _ (And.intro (by first | assumption | rfl) ?_)))
          | (refine BB.mk (fun _h => ?_) (fun _h => ?_) <;> (first | (exact absurd _h (by decide)) | (exfalso; simp only [boolSet, IntKind.wrap_i64] at _h <;> omega) | (simp only [boolSet, IntKind.wrap_i64] at _h) | skip))
          | (refine And.intro (by omega) ?_)
          | (refine BB.mk (fun _h => ?_) (fun _h => ?_) <;> (first | (exact absurd _h (by decide)) | (exfalso; simp only [boolSet] at _h <;> omega) | skip)))
        all_goals (try conv => whnf)
        all_goals first
          | exact ⟨_, _, frz_row (b := 1) rfl (List.length_map _).symm, rfl, rfl, fun _ => rfl, c1, (by rw [hfin]; exact hc1), (by rw [hfin])⟩
          | (exfalso; omega)
      · unfold pickS at hnx
        rw [if_neg hs] at hnx
        dsimp only at hnx
        have hL0 : 0 < L.length := by omega
        have hat : pickAt y L.length < L.length := by unfold pickAt; have := Int.emod_lt_of_pos y (show (0 : Int) < L.length by omega); have := Int.emod_nonneg y (show (L.length : Int) ≠ 0 by omega); omega
        obtain ⟨d, hd⟩ : ∃ d, L[pickAt y L.length]? = some d := ⟨_, List.getElem?_eq_getElem hat⟩
        rw [hd] at hnx
        dsimp only at hnx
        have hrow2 := zde_at0 hd
        have hix := pick_ix y L.length hy0 hL0 (by omega)
        generalize hpa : pickAt y L.length = a at *
        have hu : IntKind.u64.wrap (L.length : Int) = L.length := by rw [IntKind.wrap_u64]; omega
        have hrow3 : (L.map deC)[0 + (IntKind.i64.wrap ((IntKind.u64.wrap y).tmod (IntKind.u64.wrap (L.length : Int)))).toNat]? = some [.v (.int .u8 d.node), .v (.int .u16 d.inc), .v (.int .u8 d.age), .z 2 (d.fl.map spC)] := by rw [hix]; exact hrow2
        have hj : IntKind.i64.wrap (IntKind.i64.wrap ((IntKind.u64.wrap y).tmod (IntKind.u64.wrap (L.length : Int))) + 1) = (a : Int) + 1 := by rw [hix, IntKind.wrap_i64]; omega
        have hem : (L.eraseIdx a).map deC = (L.map deC).eraseIdx a := by
          apply List.ext_getElem?
          intro i
          rw [List.getElem?_map, List.getElem?_eraseIdx, List.getElem?_eraseIdx]
          split <;> rw [List.getElem?_map]
        have hel : (L.eraseIdx a).length = L.length - 1 := List.length_eraseIdx_of_lt hat
        repeat' ((try conv => whnf); first
          | (with_reducible refine OKv.go (C := seat) seat_ok ?_)
          | (with_reducible refine BB_true ?_)
          | (with_reducible refine BB_false ?_)
          | (with_reducible refine Both.mk ?_ ?_)
          | (with_reducible refine VS.mk ?_)
          | (refine PSem.go (C := seat) seat_ok ?_)
          | (refine And.intro (PlanOK.mk (by kernel_rfl) rfl (by kernel_rfl) (by kernel_rfl)) ?_)
          | (refine And.intro rfl (Exists.intro _ (And.intro (by first | assumption | rfl) ?_)))
          | (refine And.intro ⟨rfl, rfl, rfl⟩ ?_)
          | (refine call_own [.n 0] (delete_i (L.map deC) L.length a _ _ _ _ hix hLm.symm hat hj hc0 (by omega)) GG_no rfl rfl rfl ⟨⟨_, rfl, .inr ⟨(fun _ h => by cases h), rfl⟩⟩, trivial⟩ (by decide) ?_; rintro r bs' ext ⟨rfl, rfl, rfl⟩; refine ⟨⟨rfl, trivial⟩, ?_⟩)
          | (refine Exists.intro _ (And.intro hrow3 ?_))
          | (refine And.intro ⟨by omega, by simp only [List.length_map]; omega⟩ (Exists.intro _ (And.intro (by first | assumption | rfl) ?_)))
          | (refine And.intro (⟨by omega, by omega⟩ : _ ∧ _ < _) ?_)
          | (refine fun (caps : Nat → Nat) hcaps => ?_; conv at hcaps => whnf)
          | (refine BB.mk (fun _h => ?_) (fun _h => ?_) <;> (first | (exact absurd _h (by decide)) | (exfalso; simp only [boolSet, IntKind.wrap_i64] at _h <;> omega) | (simp only [boolSet, IntKind.wrap_i64] at _h) | skip))
          | (refine And.intro ⟨rfl, rfl, rfl, by first | (simp only [chunks_len, List.length_map, List.length_take, List.length_drop, List.length_append, List.length_cons, List.length_nil] <;> omega) | omega | rfl⟩ ?_)
          | (refine And.intro ⟨rfl, by first | (simp only [chunks_len, List.length_map, List.length_take, List.length_drop, List.length_append, List.length_cons, List.length_nil] <;> omega) | omega | rfl⟩ ?_)
          | (refine And.intro (by first | exact ⟨rfl, Nat.le_refl _⟩ | first | (simp only [chunks_len, List.length_map, List.length_take, List.length_drop, List.length_append, List.length_cons, List.length_nil] <;> omega) | omega | rfl) ?_)
          | (refine fun (caps : Nat → Nat) hcaps => ?_; conv at hcaps => whnf)
          | (refine fun (cap' : Nat) hcap' => ?_)
          | (refine And.intro (by omega) ?_)
          | (refine BB.mk (fun _h => ?_) (fun _h => ?_) <;> (first | (exact absurd _h (by decide)) | (exfalso; simp only [boolSet] at _h <;> omega) | skip)))
        all_goals (try conv => whnf)
        refine ⟨(k + 1, c0, cap'), ⟨by dsimp only; omega, by dsimp only; rw [hnx]; dsimp only; omega, by dsimp only; rw [hnx, List.length_append]; exact hcap'⟩, by dsimp only; omega, ⟨⟨[0, 3], by decide, GG_no, rfl, SubOld.refl _ rfl, ⟨.inl (.inr ⟨_, by dsimp only; rw [hnx]; dsimp only; rw [hem]; rfl⟩), .inr (.inl (by dsimp only; rw [hnx, List.map_append]; rfl)), trivial⟩, ⟨.inl rfl, .inl (by dsimp only; rw [hnx]; dsimp only; rw [hel]; rfl), .inl (by dsimp only; rw [hnx, List.length_append]; rfl), .inl rfl, .inl rfl, .inl (num_eq (by rw [IntKind.wrap_i64]; omega)), trivial⟩⟩, rfl⟩⟩
    · obtain rfl : k = draws.length := by omega
      repeat' ((try conv => whnf); first
        | (with_reducible refine OKv.go (C := seat) seat_ok ?_)
        | (with_reducible refine BB_true ?_)
        | (with_reducible refine BB_false ?_)
        | (with_reducible refine Both.mk ?_ ?_)
        | (with_reducible refine VS.mk ?_)
        | (refine PSem.go (C := seat) seat_ok ?_)
        | (refine And.intro (PlanOK.mk (by kernel_rfl) rfl (by kernel_rfl) (by kernel_rfl)) ?_)
        | (refine And.intro rfl (Exists.intro _ (And.intro (by first | assumption | rfl) ?_)))
        | (refine And.intro ⟨rfl, rfl, rfl⟩ ?_)
        | (refine And.intro (by omega) ?_)
        | (refine BB.mk (fun _h => ?_) (fun _h => ?_) <;> (first | (exact absurd _h (by decide)) | (exfalso; simp only [boolSet] at _h <;> omega) | skip)))
      all_goals (try conv => whnf)
      exact ⟨_, _, frz_row (b := 1) rfl (List.length_map _).symm, rfl, rfl, fun _ => rfl, c1, hc1, rfl⟩
end Go.Proofs.Ytccegmbklgmgnaa
