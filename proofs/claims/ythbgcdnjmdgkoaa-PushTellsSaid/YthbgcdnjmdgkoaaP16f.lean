/- Package push, by computing: the reference's Pick. -/
import Derived.Test.YthbgcdnjmdgkoaaPEach
namespace Go.Proofs.Ythbgcdnjmdgkoaa
open Go.RowKit

def gC (b : Bool) : List Value := [.bool b]
def keptL : List Int → List Bool → List Int
  | x :: l, b :: g => if b then keptL l g else x :: keptL l g
  | _, _ => []
theorem kept_start : ∀ l : List Int, keptL l (List.replicate l.length false) = l
  | [] => rfl
  | x :: l => by rw [List.length_cons, List.replicate_succ, keptL, kept_start l]; rfl
theorem kept_set : ∀ {l : List Int} {g : List Bool} {i : Nat} {y : Int}, g[i]? = some false → l[i]? = some y → keptL l (g.set i true) = (keptL l g).eraseIdx (keptL (l.take i) (g.take i)).length ∧ (keptL l g)[(keptL (l.take i) (g.take i)).length]? = some y
  | [], _, _, _, _, h => by simp at h
  | _ :: _, [], _, _, h, _ => by simp at h
  | x :: l, b :: g, 0, y, h1, h2 => by
    simp at h1 h2
    subst h1; subst h2
    exact ⟨rfl, rfl⟩
  | x :: l, b :: g, i + 1, y, h1, h2 => by
    simp at h1 h2
    obtain ⟨e1, e2⟩ := kept_set (l := l) (g := g) h1 h2
    rw [List.set_cons_succ, List.take_succ_cons, List.take_succ_cons]
    cases b with
    | true => exact ⟨e1, e2⟩
    | false =>
      refine ⟨?_, e2⟩
      show x :: keptL l (g.set i true) = (x :: keptL l g).eraseIdx ((keptL (l.take i) (g.take i)).length + 1)
      rw [e1]
      rfl
theorem kept_step : ∀ {l : List Int} {g : List Bool} {i : Nat} {b : Bool} {y : Int}, g[i]? = some b → l[i]? = some y → (keptL (l.take (i + 1)) (g.take (i + 1))).length = (keptL (l.take i) (g.take i)).length + (if b then 0 else 1)
  | [], _, _, _, _, _, h => by simp at h
  | _ :: _, [], _, _, _, h, _ => by simp at h
  | x :: l, c :: g, 0, b, y, h1, _ => by
    simp at h1
    subst h1
    cases c <;> simp [keptL]
  | x :: l, c :: g, i + 1, b, y, h1, h2 => by
    simp at h1 h2
    have e := kept_step (l := l) (g := g) h1 h2
    rw [List.take_succ_cons, List.take_succ_cons, List.take_succ_cons, List.take_succ_cons]
    cases c with
    | true => exact e
    | false =>
      show (keptL (l.take (i + 1)) (g.take (i + 1))).length + 1 = (keptL (l.take i) (g.take i)).length + 1 + _
      rw [e]
      omega
theorem g_at {g : List Bool} {k : Nat} {b : Bool} (h : g[k]? = some b) : (g.map gC)[0 + (k : Int).toNat]? = some [.bool b] := by
  rw [Nat.zero_add, Int.toNat_natCast, List.getElem?_map, h]
  rfl
theorem g_set {g : List Bool} {k : Nat} : (g.map gC).set (0 + (k : Int).toNat) [.bool true] = (g.set k true).map gC := by
  rw [Nat.zero_add, Int.toNat_natCast, List.map_set]
  rfl
theorem b_at0 {l : List Int} {k : Nat} {y : Int} (h : l[k]? = some y) : (l.map bC)[0 + (k : Int).toNat]? = some [.int .u8 y] := by
  rw [Nat.zero_add, Int.toNat_natCast, List.getElem?_map, h]
  rfl
set_option maxRecDepth 100000 in
set_option maxHeartbeats 4000000 in
theorem pick_ref (l d : List Int) (fan : Int) (c1 c2 N : Nat) (hN : manyN fan l.length = N) (hc : l.length ≤ c1) (hl : l.length ≤ 100) (hd : d.length ≤ 1099511627776) (hb : ∀ x ∈ d, 0 ≤ x ∧ x < 4294967296) : FnOK Try.prog GG 13 [.ro 1 (l.map bC), .ro 1 (d.map uC)] [.s (.o 0) 1 0 l.length c1, .v (.int .i64 fan), .s (.o 1) 1 0 d.length c2] (fun r _ ext => ∃ cap', (outL l d N).length ≤ cap' ∧ r = .s (.n 0) 1 0 (outL l d N).length cap' ∧ ext = [.row 5 1 cap' ((outL l d N).map bC)]) := by
  have hNl : N ≤ l.length := by rw [← hN, manyN]; omega
  simp only [manyN] at hN
  refine fn_newR (C := seat) seat_ok [] GG_no (Try.func13) rfl rfl rfl rfl rfl rfl ?_
  repeat' ((try conv => whnf); first
    | (with_reducible refine BB_true ?_)
    | (with_reducible refine BB_false ?_)
    | (with_reducible refine Both.mk ?_ ?_)
    | (with_reducible refine VS.mk ?_)
    | (refine PSem.go (C := seat) seat_ok ?_)
    | (refine And.intro (PlanOK.mk (by kernel_rfl) rfl (by kernel_rfl) (by kernel_rfl)) ?_)
    | (refine And.intro rfl (Exists.intro _ (And.intro (by first | assumption | rfl) ?_)))
    | (refine And.intro ⟨rfl, rfl, rfl⟩ ?_)
    | (refine And.intro (by first | omega | (dsimp only; omega)) ?_)
    | (refine And.intro (by omega) ?_)
    | (refine BB.mk (fun _h => ?_) (fun _h => ?_) <;> (first | (exact absurd _h (by decide)) | (exfalso; simp only [boolSet] at _h <;> omega) | skip)))
  all_goals (try conv => whnf)
  refine loop_rule (α := Nat × Nat × List Bool) (fun p => p.1 ≤ N ∧ (outL l d p.1).length ≤ p.2.1 ∧ p.2.2.length = l.length ∧ keptL l p.2.2 = leftL l d p.1) (fun p => { slots := [(0, .s (.o 0) 1 0 l.length c1), (1, .v (.int .i64 fan)), (2, .s (.o 1) 1 0 d.length c2), (7, .s (.n 1) 1 0 (outL l d p.1).length p.2.1), (8, .s (.n 0) 1 0 l.length l.length), (9, .v (.int .i64 p.1))], nt := 68, mem := ⟨GG, [.ro 1 (l.map bC), .ro 1 (d.map uC)], [.row 4 1 l.length (p.2.2.map gC), .row 5 1 p.2.1 ((outL l d p.1).map bC)]⟩ }) (fun p => N - p.1) (0, 0, List.replicate l.length false) ⟨Nat.zero_le _, Nat.le_refl _, List.length_replicate, kept_start l⟩ ⟨⟨[0, 1], (by decide), GG_no, rfl, (SubOld.refl _ rfl), ⟨.inr (congrArg (fun z => some (SB.row 4 1 l.length z)) (List.map_replicate (f := gC) (n := l.length) (a := false)).symm), .inl (.inl ⟨rfl, rfl⟩), trivial⟩, ⟨.inl rfl, .inl rfl, .inl rfl, .inr ⟨_, _, _, rfl, rfl⟩, .inl rfl, .inl rfl, trivial⟩⟩, rfl⟩ ?_ (fun _ => rfl)
  rintro ⟨k, c, g⟩ ⟨hk, hkc, hgl, hkept⟩
  dsimp only at hk hkc hgl hkept ⊢
  have hL := leftL_len l d k (by omega)
  have hO := outL_len l d k
  refine vc_sound (C := seat) seat_ok (pl := []) ?_
  by_cases hlt : k < N
  · have hA := atL_lt (l := l) (d := d) (i := k) (by omega)
    by_cases hdr : k < d.length
    · obtain ⟨y, hy⟩ : ∃ y, d[k]? = some y := ⟨_, List.getElem?_eq_getElem hdr⟩
      have hrow := u_at hy
      have hx := hb y (List.mem_of_getElem? hy)
      have hlf : IntKind.u32.wrap (IntKind.i64.wrap ((l.length : Int) - (k : Int))) = (leftL l d k).length := by rw [IntKind.wrap_i64, IntKind.wrap_u32]; omega
      have h5 := Int.emod_nonneg y (show ((leftL l d k).length : Int) ≠ 0 by omega)
      have hat : IntKind.i64.wrap (y.tmod (IntKind.u32.wrap (IntKind.i64.wrap ((l.length : Int) - (k : Int))))) = atL l d k := by
        rw [hlf, Int.tmod_eq_emod_of_nonneg hx.1]
        simp only [atL, getD_some hy] at hA ⊢
        rw [IntKind.wrap_i64]
        omega
      repeat' ((try conv => whnf); first
        | (with_reducible refine BB_true ?_)
        | (with_reducible refine BB_false ?_)
        | (with_reducible refine Both.mk ?_ ?_)
        | (with_reducible refine VS.mk ?_)
        | (refine PSem.go (C := seat) seat_ok ?_)
        | (refine And.intro (PlanOK.mk (by kernel_rfl) rfl (by kernel_rfl) (by kernel_rfl)) ?_)
        | (refine And.intro rfl (Exists.intro _ (And.intro (by first | assumption | rfl) ?_)))
        | (refine And.intro ⟨rfl, rfl, rfl⟩ ?_)
        | (refine And.intro (by rw [hlf]; omega) ?_)
        | (refine And.intro (by omega) ?_)
        | (refine BB.mk (fun _h => ?_) (fun _h => ?_) <;> (first | (exact absurd _h (by decide)) | (exfalso; simp only [boolSet] at _h <;> omega) | skip)))
      all_goals (try conv => whnf)
      refine loop_rule (α := Nat × Nat) (fun q => q.1 ≤ l.length ∧ q.2 + (keptL (l.take q.1) (g.take q.1)).length = atL l d k) (fun q => { slots := [(0, .s (.o 0) 1 0 l.length c1), (1, .v (.int .i64 fan)), (2, .s (.o 1) 1 0 d.length c2), (7, .s (.n 1) 1 0 (outL l d k).length c), (8, .s (.n 0) 1 0 l.length l.length), (9, .v (.int .i64 k)), (11, .v (.int .i64 q.2)), (12, .v (.int .i64 q.1))], nt := 68, mem := ⟨GG, [.ro 1 (l.map bC), .ro 1 (d.map uC)], [.row 4 1 l.length (g.map gC), .row 5 1 c ((outL l d k).map bC)]⟩ }) (fun q => l.length - q.1) (0, atL l d k) ⟨Nat.zero_le _, rfl⟩ ⟨⟨[0, 1], (by decide), GG_no, rfl, (SubOld.refl _ rfl), ⟨.inr rfl, .inr rfl, trivial⟩, ⟨.inl rfl, .inl rfl, .inl rfl, .inl rfl, .inl rfl, .inl rfl, .inl (num_eq hat), .inl rfl, trivial⟩⟩, rfl⟩ ?_ (fun _ => rfl)
      rintro ⟨i, A⟩ ⟨hi, hiA⟩
      dsimp only at hi hiA ⊢
      refine vc_sound (C := seat) seat_ok (pl := []) ?_
      by_cases hin : i < l.length
      · obtain ⟨b, hgb⟩ : ∃ b, g[i]? = some b := ⟨_, List.getElem?_eq_getElem (by omega)⟩
        obtain ⟨z, hz⟩ : ∃ z, l[i]? = some z := ⟨_, List.getElem?_eq_getElem hin⟩
        have hrow1 := g_at hgb
        have hrow2 := b_at0 hz
        have hst := kept_step hgb hz
        cases b with
        | true =>
          rw [if_pos rfl] at hst
          repeat' ((try conv => whnf); first
            | (with_reducible refine BB_true ?_)
            | (with_reducible refine BB_false ?_)
            | (with_reducible refine Both.mk ?_ ?_)
            | (with_reducible refine VS.mk ?_)
            | (refine PSem.go (C := seat) seat_ok ?_)
            | (refine And.intro (PlanOK.mk (by kernel_rfl) rfl (by kernel_rfl) (by kernel_rfl)) ?_)
            | (refine And.intro rfl (Exists.intro _ (And.intro (by first | assumption | rfl) ?_)))
            | (refine And.intro ⟨rfl, rfl, rfl⟩ ?_)
            | (refine And.intro (by omega) ?_)
            | (refine BB.mk (fun _h => ?_) (fun _h => ?_) <;> (first | (exact absurd _h (by decide)) | (exfalso; simp only [boolSet] at _h <;> omega) | skip)))
          all_goals (try conv => whnf)
          exact ⟨(i + 1, A), ⟨by dsimp only; omega, by dsimp only; omega⟩, by dsimp only; omega, ⟨⟨[0, 1], by decide, GG_no, rfl, SubOld.refl _ rfl, ⟨.inr rfl, .inr rfl, trivial⟩, ⟨.inl rfl, .inl rfl, .inl rfl, .inl rfl, .inl rfl, .inl rfl, .inl rfl, .inl (num_eq (by rw [IntKind.wrap_i64]; dsimp only; omega)), trivial⟩⟩, rfl⟩⟩
        | false =>
          rw [if_neg (by decide)] at hst
          by_cases hA0 : A = 0
          · obtain ⟨k1, k2⟩ := kept_set hgb hz
            have hAe : (keptL (l.take i) (g.take i)).length = atL l d k := by omega
            rw [hAe, hkept] at k1 k2
            have hz2 : outL l d (k + 1) = outL l d k ++ [z] := by rw [outL, k2]; rfl
            repeat' ((try conv => whnf); first
              | (with_reducible refine BB_true ?_)
              | (with_reducible refine BB_false ?_)
              | (with_reducible refine Both.mk ?_ ?_)
              | (with_reducible refine VS.mk ?_)
              | (refine PSem.go (C := seat) seat_ok ?_)
              | (refine And.intro (PlanOK.mk (by kernel_rfl) rfl (by kernel_rfl) (by kernel_rfl)) ?_)
              | (refine And.intro rfl (Exists.intro _ (And.intro (by first | assumption | rfl) ?_)))
              | (refine And.intro ⟨rfl, rfl, rfl⟩ ?_)
              | (refine And.intro ⟨rfl, rfl, rfl, by rw [List.length_map]⟩ ?_)
              | (refine And.intro (by first | omega | (dsimp only; omega) | exact ⟨rfl, Nat.le_refl _⟩) ?_)
              | (intro cap' hcap')
              | (refine And.intro (by omega) ?_)
              | (refine BB.mk (fun _h => ?_) (fun _h => ?_) <;> (first | (exact absurd _h (by decide)) | (exfalso; simp only [boolSet] at _h <;> omega) | skip)))
            all_goals (try conv => whnf)
            refine ⟨(k + 1, cap', g.set i true), ⟨by dsimp only; omega, ?_, by dsimp only; rw [List.length_set, hgl], k1⟩, by dsimp only; omega, ⟨⟨[0, 3], by decide, GG_no, rfl, SubOld.refl _ rfl, ⟨.inr (congrArg (fun z => some (SB.row 4 1 l.length z)) g_set), .inr ?_, trivial⟩, ⟨.inl rfl, .inl rfl, .inl rfl, .inl ?_, .inl rfl, .inl (num_eq (by rw [IntKind.wrap_i64]; dsimp only; omega)), trivial⟩⟩, rfl⟩⟩
            · dsimp only
              rw [outL_len] at hcap' ⊢
              exact hcap'
            · refine congrArg (fun z => some (SB.row 5 1 cap' z)) (?_ : List.map bC (outL l d k) ++ [bC z] = _)
              dsimp only
              rw [hz2, List.map_append]
              rfl
            · dsimp only
              rw [hz2, List.length_append]
              rfl
          · repeat' ((try conv => whnf); first
              | (with_reducible refine BB_true ?_)
              | (with_reducible refine BB_false ?_)
              | (with_reducible refine Both.mk ?_ ?_)
              | (with_reducible refine VS.mk ?_)
              | (refine PSem.go (C := seat) seat_ok ?_)
              | (refine And.intro (PlanOK.mk (by kernel_rfl) rfl (by kernel_rfl) (by kernel_rfl)) ?_)
              | (refine And.intro rfl (Exists.intro _ (And.intro (by first | assumption | rfl) ?_)))
              | (refine And.intro ⟨rfl, rfl, rfl⟩ ?_)
              | (refine And.intro (by omega) ?_)
              | (refine BB.mk (fun _h => ?_) (fun _h => ?_) <;> (first | (exact absurd _h (by decide)) | (exfalso; simp only [boolSet] at _h <;> omega) | skip)))
            all_goals (try conv => whnf)
            exact ⟨(i + 1, A - 1), ⟨by dsimp only; omega, by dsimp only; omega⟩, by dsimp only; omega, ⟨⟨[0, 1], by decide, GG_no, rfl, SubOld.refl _ rfl, ⟨.inr rfl, .inr rfl, trivial⟩, ⟨.inl rfl, .inl rfl, .inl rfl, .inl rfl, .inl rfl, .inl rfl, .inl (num_eq (by rw [IntKind.wrap_i64]; dsimp only; omega)), .inl (num_eq (by rw [IntKind.wrap_i64]; dsimp only; omega)), trivial⟩⟩, rfl⟩⟩
      · exfalso
        rw [List.take_of_length_le (by omega), List.take_of_length_le (by omega), hkept] at hiA
        omega
    · have hat : (0 : Int) = atL l d k := by
        simp only [atL, getD_none (show d.length ≤ k by omega), Int.zero_emod]
        rfl
      repeat' ((try conv => whnf); first
        | (with_reducible refine BB_true ?_)
        | (with_reducible refine BB_false ?_)
        | (with_reducible refine Both.mk ?_ ?_)
        | (with_reducible refine VS.mk ?_)
        | (refine PSem.go (C := seat) seat_ok ?_)
        | (refine And.intro (PlanOK.mk (by kernel_rfl) rfl (by kernel_rfl) (by kernel_rfl)) ?_)
        | (refine And.intro rfl (Exists.intro _ (And.intro (by first | assumption | rfl) ?_)))
        | (refine And.intro ⟨rfl, rfl, rfl⟩ ?_)
        | (refine And.intro (by omega) ?_)
        | (refine BB.mk (fun _h => ?_) (fun _h => ?_) <;> (first | (exact absurd _h (by decide)) | (exfalso; simp only [boolSet] at _h <;> omega) | skip)))
      all_goals (try conv => whnf)
      refine loop_rule (α := Nat × Nat) (fun q => q.1 ≤ l.length ∧ q.2 + (keptL (l.take q.1) (g.take q.1)).length = atL l d k) (fun q => { slots := [(0, .s (.o 0) 1 0 l.length c1), (1, .v (.int .i64 fan)), (2, .s (.o 1) 1 0 d.length c2), (7, .s (.n 1) 1 0 (outL l d k).length c), (8, .s (.n 0) 1 0 l.length l.length), (9, .v (.int .i64 k)), (11, .v (.int .i64 q.2)), (12, .v (.int .i64 q.1))], nt := 68, mem := ⟨GG, [.ro 1 (l.map bC), .ro 1 (d.map uC)], [.row 4 1 l.length (g.map gC), .row 5 1 c ((outL l d k).map bC)]⟩ }) (fun q => l.length - q.1) (0, atL l d k) ⟨Nat.zero_le _, rfl⟩ ⟨⟨[0, 1], (by decide), GG_no, rfl, (SubOld.refl _ rfl), ⟨.inr rfl, .inr rfl, trivial⟩, ⟨.inl rfl, .inl rfl, .inl rfl, .inl rfl, .inl rfl, .inl rfl, .inl (num_eq hat), .inl rfl, trivial⟩⟩, rfl⟩ ?_ (fun _ => rfl)
      rintro ⟨i, A⟩ ⟨hi, hiA⟩
      dsimp only at hi hiA ⊢
      refine vc_sound (C := seat) seat_ok (pl := []) ?_
      by_cases hin : i < l.length
      · obtain ⟨b, hgb⟩ : ∃ b, g[i]? = some b := ⟨_, List.getElem?_eq_getElem (by omega)⟩
        obtain ⟨z, hz⟩ : ∃ z, l[i]? = some z := ⟨_, List.getElem?_eq_getElem hin⟩
        have hrow1 := g_at hgb
        have hrow2 := b_at0 hz
        have hst := kept_step hgb hz
        cases b with
        | true =>
          rw [if_pos rfl] at hst
          repeat' ((try conv => whnf); first
            | (with_reducible refine BB_true ?_)
            | (with_reducible refine BB_false ?_)
            | (with_reducible refine Both.mk ?_ ?_)
            | (with_reducible refine VS.mk ?_)
            | (refine PSem.go (C := seat) seat_ok ?_)
            | (refine And.intro (PlanOK.mk (by kernel_rfl) rfl (by kernel_rfl) (by kernel_rfl)) ?_)
            | (refine And.intro rfl (Exists.intro _ (And.intro (by first | assumption | rfl) ?_)))
            | (refine And.intro ⟨rfl, rfl, rfl⟩ ?_)
            | (refine And.intro (by omega) ?_)
            | (refine BB.mk (fun _h => ?_) (fun _h => ?_) <;> (first | (exact absurd _h (by decide)) | (exfalso; simp only [boolSet] at _h <;> omega) | skip)))
          all_goals (try conv => whnf)
          exact ⟨(i + 1, A), ⟨by dsimp only; omega, by dsimp only; omega⟩, by dsimp only; omega, ⟨⟨[0, 1], by decide, GG_no, rfl, SubOld.refl _ rfl, ⟨.inr rfl, .inr rfl, trivial⟩, ⟨.inl rfl, .inl rfl, .inl rfl, .inl rfl, .inl rfl, .inl rfl, .inl rfl, .inl (num_eq (by rw [IntKind.wrap_i64]; dsimp only; omega)), trivial⟩⟩, rfl⟩⟩
        | false =>
          rw [if_neg (by decide)] at hst
          by_cases hA0 : A = 0
          · obtain ⟨k1, k2⟩ := kept_set hgb hz
            have hAe : (keptL (l.take i) (g.take i)).length = atL l d k := by omega
            rw [hAe, hkept] at k1 k2
            have hz2 : outL l d (k + 1) = outL l d k ++ [z] := by rw [outL, k2]; rfl
            repeat' ((try conv => whnf); first
              | (with_reducible refine BB_true ?_)
              | (with_reducible refine BB_false ?_)
              | (with_reducible refine Both.mk ?_ ?_)
              | (with_reducible refine VS.mk ?_)
              | (refine PSem.go (C := seat) seat_ok ?_)
              | (refine And.intro (PlanOK.mk (by kernel_rfl) rfl (by kernel_rfl) (by kernel_rfl)) ?_)
              | (refine And.intro rfl (Exists.intro _ (And.intro (by first | assumption | rfl) ?_)))
              | (refine And.intro ⟨rfl, rfl, rfl⟩ ?_)
              | (refine And.intro ⟨rfl, rfl, rfl, by rw [List.length_map]⟩ ?_)
              | (refine And.intro (by first | omega | (dsimp only; omega) | exact ⟨rfl, Nat.le_refl _⟩) ?_)
              | (intro cap' hcap')
              | (refine And.intro (by omega) ?_)
              | (refine BB.mk (fun _h => ?_) (fun _h => ?_) <;> (first | (exact absurd _h (by decide)) | (exfalso; simp only [boolSet] at _h <;> omega) | skip)))
            all_goals (try conv => whnf)
            refine ⟨(k + 1, cap', g.set i true), ⟨by dsimp only; omega, ?_, by dsimp only; rw [List.length_set, hgl], k1⟩, by dsimp only; omega, ⟨⟨[0, 3], by decide, GG_no, rfl, SubOld.refl _ rfl, ⟨.inr (congrArg (fun z => some (SB.row 4 1 l.length z)) g_set), .inr ?_, trivial⟩, ⟨.inl rfl, .inl rfl, .inl rfl, .inl ?_, .inl rfl, .inl (num_eq (by rw [IntKind.wrap_i64]; dsimp only; omega)), trivial⟩⟩, rfl⟩⟩
            · dsimp only
              rw [outL_len] at hcap' ⊢
              exact hcap'
            · refine congrArg (fun z => some (SB.row 5 1 cap' z)) (?_ : List.map bC (outL l d k) ++ [bC z] = _)
              dsimp only
              rw [hz2, List.map_append]
              rfl
            · dsimp only
              rw [hz2, List.length_append]
              rfl
          · exfalso; omega
      · exfalso
        rw [List.take_of_length_le (by omega), List.take_of_length_le (by omega), hkept] at hiA
        omega
  · have he : k = N := by omega
    subst he
    by_cases hkf : (k : Int) < fan
    all_goals
      repeat' ((try conv => whnf); first
        | (with_reducible refine BB_true ?_)
        | (with_reducible refine BB_false ?_)
        | (with_reducible refine Both.mk ?_ ?_)
        | (with_reducible refine VS.mk ?_)
        | (refine PSem.go (C := seat) seat_ok ?_)
        | (refine And.intro (PlanOK.mk (by kernel_rfl) rfl (by kernel_rfl) (by kernel_rfl)) ?_)
        | (refine And.intro rfl (Exists.intro _ (And.intro (by first | assumption | rfl) ?_)))
        | (refine And.intro ⟨rfl, rfl, rfl⟩ ?_)
        | (refine And.intro (by omega) ?_)
        | (refine BB.mk (fun _h => ?_) (fun _h => ?_) <;> (first | (exact absurd _h (by decide)) | (exfalso; simp only [boolSet] at _h <;> omega) | skip)))
      all_goals (try conv => whnf)
      exact ⟨⟨[1], .s (.n 0) 1 0 (outL l d k).length c, [.row 5 1 c ((outL l d k).map bC)], by decide, .inl (.inl rfl), ⟨.inr rfl, trivial⟩, c, hkc, rfl, rfl⟩, rfl⟩
end Go.Proofs.Ythbgcdnjmdgkoaa
