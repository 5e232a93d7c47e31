/- Law WireTells, by computing. -/
import Derived.Test.YtcjegbcljipcbaaW01g
namespace Go.Proofs.Ytcjegbcljipcbaa
open Go.RowKit

theorem putT_byte {b : List Nat} {x : Nat} {n : Int} (hb : ∀ y ∈ b, y < 256) : ∀ y ∈ putT b x n, y < 256 := fun y hy => by
  rcases List.mem_append.1 hy with h | h
  · exact hb y h
  · split at h
    · exact putB_byte _ _ y h
    · cases h
theorem putText_byte {b s : List Nat} (hb : ∀ y ∈ b, y < 256) (hs : ∀ y ∈ s, y < 256) : ∀ y ∈ putText b s, y < 256 := fun y hy => by
  unfold putText at hy
  split at hy
  · rcases List.mem_append.1 hy with h | h
    · rcases List.mem_append.1 h with h | h
      · exact hb y h
      · exact putB_byte _ _ y h
    · exact hs y h
  · exact hb y hy
theorem takeT_byte {l : List Nat} {n : Int} (hl : ∀ y ∈ l, y < 256) : ∀ y ∈ (takeT l n).2.1, y < 256 := fun y hy => by
  unfold takeT at hy
  split at hy
  · exact hl y (List.mem_of_mem_drop hy)
  · cases hy
theorem textT_byte {l : List Nat} {m : Int} (hl : ∀ y ∈ l, y < 256) : (∀ y ∈ (textT l m).1, y < 256) ∧ ∀ y ∈ (textT l m).2.1, y < 256 := by
  unfold textT
  split
  · exact ⟨fun y hy => hl y (List.mem_of_mem_drop (List.mem_of_mem_take hy)), fun y hy => hl y (List.mem_of_mem_drop hy)⟩
  · exact ⟨(fun y hy => by cases hy), (fun y hy => by cases hy)⟩
theorem same_all (l : List Nat) (c1 c2 : Nat) (hl : ∀ x ∈ l, x < 256) : FnOK Try.prog GG 13 [.ro 1 (l.map bN), .ro 1 (l.map bN)] [.s (.o 0) 1 0 l.length c1, .s (.o 1) 1 0 l.length c2] (fun r _ ext => r = .v (.bool true) ∧ ext = []) :=
  same_is l l _ _ 0 0 _ _ _ _ true hl hl (all_row l) (all_row l) (all_len l) (all_len l) (decide_eq_true rfl)
set_option maxRecDepth 100000 in
set_option maxHeartbeats 4000000 in
theorem wireTells_ok (b tx : List Nat) (c1 c2 : Nat) (x : Nat) (n most s : Int) (hb8 : ∀ y ∈ b, y < 256) (ht8 : ∀ y ∈ tx, y < 256) (hc1 : b.length ≤ c1) (hc2 : tx.length ≤ c2) (hx : x < 2 ^ 64) (hn : -9223372036854775808 ≤ n) (hs0 : -2147483648 ≤ s) (hs1 : s ≤ 2147483647) : FnOK Try.prog GG 3 [.ro 1 (b.map bN), .ro 1 (tx.map bN)] [.s (.o 0) 1 0 b.length c1, .v (.int .u64 x), .v (.int .i64 n), .s (.o 1) 1 0 tx.length c2, .v (.int .i64 most), .v (.int .i32 s)] (fun r _ ext => r = .v (.bool true) ∧ ext = []) := by
  by_cases hlen : b.length ≤ 200 ∧ tx.length ≤ 200
  · obtain ⟨hlen1, hlen2⟩ := hlen
    refine fn_val (C := seat) seat_ok [] GG_no (Try.func3) rfl rfl rfl rfl rfl (fun _ => rfl) rfl ?_
    repeat' ((try conv => whnf); first
      | (with_reducible refine BB_true ?_)
      | (with_reducible refine BB_false ?_)
      | (with_reducible refine Both.mk ?_ ?_)
      | (with_reducible refine VS.mk ?_)
      | (refine PSem.go (C := seat) seat_ok ?_)
      | (refine And.intro (PlanOK.mk (by kernel_rfl) rfl (by kernel_rfl) (by kernel_rfl)) ?_)
      | (refine And.intro rfl (Exists.intro _ (And.intro (by first | assumption | rfl) ?_)))
      | (refine And.intro ⟨rfl, rfl, rfl⟩ ?_)
      | (refine call_ro [.o 0] (take_ok b _ 0 _ _ n (all_row b) (all_len b) hc1 (by omega) hb8) GG_no rfl rfl rfl ⟨⟨_, rfl, rfl, rfl⟩, trivial⟩ ?_; rintro r bs' ext ⟨ca, hca, rfl, rfl⟩)
      | (refine call_ro [.o 0] (takeR_ok b _ 0 _ _ n (all_row b) (all_len b) hc1 (by omega) hb8) GG_no rfl rfl rfl ⟨⟨_, rfl, rfl, rfl⟩, trivial⟩ ?_; rintro r bs' ext ⟨ca2, hca2, rfl, rfl⟩)
      | (refine call_ro [.o 0] (takeText_ok b _ 0 _ _ most (all_row b) (all_len b) hc1 (by omega) hb8) GG_no rfl rfl rfl ⟨⟨_, rfl, rfl, rfl⟩, trivial⟩ ?_; rintro r bs' ext ⟨cb, cc, hcb, hcc, rfl, rfl⟩)
      | (refine call_ro [.o 0] (takeTextR_ok b _ 0 _ _ most (all_row b) (all_len b) hc1 (by omega) hb8) GG_no rfl rfl rfl ⟨⟨_, rfl, rfl, rfl⟩, trivial⟩ ?_; rintro r bs' ext ⟨cb2, cc2, hcb2, hcc2, rfl, rfl⟩)
      | (refine call_ro [.o 0] (put_ok b _ 0 _ _ x n (all_row b) (all_len b) (by omega) hx) GG_no rfl rfl rfl ⟨⟨_, rfl, rfl, rfl⟩, trivial⟩ ?_; rintro r bs' ext ⟨cp, hcp, rfl, rfl⟩)
      | (refine call_ro [.o 0] (putR_ok b _ 0 _ _ x n (all_row b) (all_len b) (by omega) hx hn) GG_no rfl rfl rfl ⟨⟨_, rfl, rfl, rfl⟩, trivial⟩ ?_; rintro r bs' ext ⟨cq, hcq, rfl, rfl⟩)
      | (refine call_ro [.o 0, .o 1] (putText_ok b tx _ _ 0 _ _ 0 _ _ (all_row b) (all_len b) (all_row tx) (all_len tx) (by omega) (by omega)) GG_no rfl rfl rfl ⟨⟨_, rfl, rfl, rfl⟩, ⟨_, rfl, rfl, rfl⟩, trivial⟩ ?_; rintro r bs' ext ⟨cr, hcr, rfl, rfl⟩)
      | (refine call_ro [.o 0, .o 1] (putTextR_ok b tx _ _ 0 _ _ 0 _ _ (all_row b) (all_len b) (all_row tx) (all_len tx) (by omega) (by omega) hc1) GG_no rfl rfl rfl ⟨⟨_, rfl, rfl, rfl⟩, ⟨_, rfl, rfl, rfl⟩, trivial⟩ ?_; rintro r bs' ext ⟨cs, hcs, rfl, rfl⟩)
      | (refine call_ro [_, _] (same_all (putT b x n) _ _ (putT_byte hb8)) GG_no rfl rfl rfl ⟨⟨_, rfl, rfl, rfl⟩, ⟨_, rfl, rfl, rfl⟩, trivial⟩ ?_; rintro r bs' ext ⟨rfl, rfl⟩)
      | (refine call_ro [_, _] (same_all (takeT b n).2.1 _ _ (takeT_byte hb8)) GG_no rfl rfl rfl ⟨⟨_, rfl, rfl, rfl⟩, ⟨_, rfl, rfl, rfl⟩, trivial⟩ ?_; rintro r bs' ext ⟨rfl, rfl⟩)
      | (refine call_ro [_, _] (same_all (putText b tx) _ _ (putText_byte hb8 ht8)) GG_no rfl rfl rfl ⟨⟨_, rfl, rfl, rfl⟩, ⟨_, rfl, rfl, rfl⟩, trivial⟩ ?_; rintro r bs' ext ⟨rfl, rfl⟩)
      | (refine call_ro [_, _] (same_all (textT b most).1 _ _ (textT_byte hb8).1) GG_no rfl rfl rfl ⟨⟨_, rfl, rfl, rfl⟩, ⟨_, rfl, rfl, rfl⟩, trivial⟩ ?_; rintro r bs' ext ⟨rfl, rfl⟩)
      | (refine call_ro [_, _] (same_all (textT b most).2.1 _ _ (textT_byte hb8).2) GG_no rfl rfl rfl ⟨⟨_, rfl, rfl, rfl⟩, ⟨_, rfl, rfl, rfl⟩, trivial⟩ ?_; rintro r bs' ext ⟨rfl, rfl⟩)
      | (refine call_ro [] (unsigned_p s hs0 hs1) GG_no rfl rfl rfl trivial ?_; rintro r bs' ext ⟨rfl, rfl⟩)
      | (refine call_ro [] (unsigned_r s hs0 hs1) GG_no rfl rfl rfl trivial ?_; rintro r bs' ext ⟨rfl, rfl⟩)
      | (refine call_ro [] (signed_p x hx) GG_no rfl rfl rfl trivial ?_; rintro r bs' ext ⟨rfl, rfl⟩)
      | (refine call_ro [] (signed_r x hx) GG_no rfl rfl rfl trivial ?_; rintro r bs' ext ⟨rfl, rfl⟩)
      | (refine call_ro [] (awake_ok) GG_no rfl rfl rfl trivial ?_; rintro r bs' ext ⟨rfl, rfl⟩)
      | (refine And.intro (by omega) ?_)
      | (refine BB.mk (fun _h => ?_) (fun _h => ?_) <;> (first | (exact absurd _h (by decide)) | (exfalso; simp only [boolSet] at _h <;> omega) | skip)))
    all_goals (try conv => whnf)
    all_goals exact Fin.mk ⟨rfl, rfl⟩
  · rcases (show 200 < b.length ∨ 200 < tx.length by omega) with hx2 | hx2
    all_goals
      refine fn_val (C := seat) seat_ok [] GG_no (Try.func3) rfl rfl rfl rfl rfl (fun _ => rfl) rfl ?_
      repeat' ((try conv => whnf); first
        | (with_reducible refine BB_true ?_)
        | (with_reducible refine BB_false ?_)
        | (with_reducible refine Both.mk ?_ ?_)
        | (with_reducible refine VS.mk ?_)
        | (refine PSem.go (C := seat) seat_ok ?_)
        | (refine And.intro (PlanOK.mk (by kernel_rfl) rfl (by kernel_rfl) (by kernel_rfl)) ?_)
        | (refine And.intro rfl (Exists.intro _ (And.intro (by first | assumption | rfl) ?_)))
        | (refine And.intro ⟨rfl, rfl, rfl⟩ ?_)
        | (refine call_ro [] (awake_ok) GG_no rfl rfl rfl trivial ?_; rintro r bs' ext ⟨rfl, rfl⟩)
        | (refine And.intro (by omega) ?_)
        | (refine BB.mk (fun _h => ?_) (fun _h => ?_) <;> (first | (exact absurd _h (by decide)) | (exfalso; simp only [boolSet] at _h <;> omega) | skip)))
      all_goals (try conv => whnf)
      all_goals exact Fin.mk ⟨rfl, rfl⟩
end Go.Proofs.Ytcjegbcljipcbaa
