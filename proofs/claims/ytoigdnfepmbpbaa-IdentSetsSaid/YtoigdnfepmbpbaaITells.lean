/- Law IdentTells, by computing. -/
import Derived.Test.YtoigdnfepmbpbaaI07j
namespace Go.Proofs.Ytoigdnfepmbpbaa
open Go.RowKit

theorem eqB_refl (x : Id_) : eqB x x = true := by simp [eqB]
theorem same_self (l : List Id_) (c1 c2 : Nat) (hl : l.length ≤ 1099511627776) : FnOK Try.prog GG 19 [.ro 3 (l.map idC), .ro 3 (l.map idC)] [.s (.o 0) 3 0 l.length c1, .s (.o 1) 3 0 l.length c2] (fun r _ ext => r = .v (.bool true) ∧ ext = []) := by
  refine (same_ok l l c1 c2 hl).mono ?_
  rintro r bs' ext ⟨rfl, rfl⟩
  refine ⟨?_, rfl⟩
  rw [same_yes rfl (fun j y z hj hy hz => by rw [hy] at hz; cases hz; exact eqB_refl y)]
theorem putL_len (l : List Id_) (x : Id_) : (putL l x).length ≤ l.length + 1 := by
  unfold putL
  split
  · omega
  · rw [insL_len]; omega
theorem dropL_len (l : List Id_) (x : Id_) : (dropL l x).length ≤ l.length := List.length_filter_le _ _
set_option maxRecDepth 100000 in
set_option maxHeartbeats 4000000 in
theorem identTells_g (x y q : Id_) (c : Int) (l : List Id_) (cap : Nat) (nodes last : Int) (hx : x.ok) (hl : last ≤ 4294967295) (hc : l.length ≤ cap) (hlen : l.length ≤ 200)
    (h1 : FnOK Try.prog GG 9 [] [idS x, .v (.int .u32 last)] (fun r _ ext => r = .tup [idS q, .v (.int .i64 c)] ∧ ext = [])) (h2 : FnOK Try.prog GG 10 [] [idS x, .v (.int .u32 last)] (fun r _ ext => r = .tup [idS q, .v (.int .i64 c)] ∧ ext = [])) : FnOK Try.prog GG 3 [.ro 3 (l.map idC)] [idS x, idS y, .s (.o 0) 3 0 l.length cap, .v (.int .i64 nodes), .v (.int .u32 last)] (fun r _ ext => r = .v (.bool true) ∧ ext = []) := by
  have hp := putL_len l x
  have hd := dropL_len l x
  refine fn_val (C := seat) seat_ok [(5, (.of [(0, .take), (1, .take), (2, .take), (4, .take), (5, .take), (6, .take), (3, .do_), (7, .do_), (8, .take), (9, .take), (10, .take), (11, .take), (13, .take), (14, .take), (12, .do_), (15, .do_), (16, .take), (17, .take), (18, .take), (19, .take), (20, .take), (21, .take), (22, .take), (23, .take), (24, .take), (25, .take), (26, .take), (27, .take), (28, .take), (29, .take), (31, .take), (30, .do_), (32, .do_), (33, .take), (34, .take), (35, .take), (36, .take), (37, .take), (39, .take), (40, .take), (38, .do_), (41, .do_), (42, .take), (43, .take), (44, .take), (45, .take), (46, .take), (48, .take), (49, .take), (47, .do_), (50, .do_), (51, .do_), (52, .take), (53, .take), (54, .take), (55, .take), (57, .take), (58, .take), (56, .do_), (59, .do_), (60, .do_), (61, .take), (62, .take), (63, .do_), (64, .take), (65, .take)]))] GG_no (Try.func3) rfl rfl rfl rfl rfl (fun _ => rfl) rfl ?_
  repeat' ((try conv => whnf); first
    | (with_reducible refine BB_true ?_)
    | (with_reducible refine BB_false ?_)
    | (with_reducible refine Both.mk ?_ ?_)
    | (with_reducible refine VS.mk ?_)
    | (refine PSem.go (C := seat) seat_ok ?_)
    | (refine And.intro (PlanOK.mk (by kernel_rfl) rfl (by kernel_rfl) (by kernel_rfl)) ?_)
    | (refine And.intro rfl (Exists.intro _ (And.intro (by first | assumption | rfl) ?_)))
    | (refine call_ro [] (h1) GG_no rfl rfl rfl trivial ?_; rintro r bs' ext ⟨rfl, rfl⟩)
    | (refine call_ro [] (h2) GG_no rfl rfl rfl trivial ?_; rintro r bs' ext ⟨rfl, rfl⟩)
    | (refine call_ro [] (right_p x nodes last hx) GG_no rfl rfl rfl trivial ?_; rintro r bs' ext ⟨rfl, rfl⟩)
    | (refine call_ro [] (right_r x nodes last hx) GG_no rfl rfl rfl trivial ?_; rintro r bs' ext ⟨rfl, rfl⟩)
    | (refine call_ro [] (less_p x y) GG_no rfl rfl rfl trivial ?_; rintro r bs' ext ⟨rfl, rfl⟩)
    | (refine call_ro [] (less_r x y) GG_no rfl rfl rfl trivial ?_; rintro r bs' ext ⟨rfl, rfl⟩)
    | (refine call_ro [.o 0] (rising_p l cap (by omega)) GG_no rfl rfl rfl ⟨⟨_, rfl, rfl, rfl⟩, trivial⟩ ?_; rintro r bs' ext ⟨rfl, rfl⟩)
    | (refine call_ro [.o 0] (rising_r l cap (by omega)) GG_no rfl rfl rfl ⟨⟨_, rfl, rfl, rfl⟩, trivial⟩ ?_; rintro r bs' ext ⟨rfl, rfl⟩)
    | (refine call_ro [.o 0] (has_p l x cap (by omega)) GG_no rfl rfl rfl ⟨⟨_, rfl, rfl, rfl⟩, trivial⟩ ?_; rintro r bs' ext ⟨rfl, rfl⟩)
    | (refine call_ro [.o 0] (has_r l x cap (by omega)) GG_no rfl rfl rfl ⟨⟨_, rfl, rfl, rfl⟩, trivial⟩ ?_; rintro r bs' ext ⟨rfl, rfl⟩)
    | (refine call_ro [.o 0] (put_p l x cap (by omega) hc) GG_no rfl rfl rfl ⟨⟨_, rfl, rfl, rfl⟩, trivial⟩ ?_; rintro r bs' ext ⟨c1, hc1, rfl, rfl⟩)
    | (refine call_ro [.o 0] (put_r l x cap (by omega)) GG_no rfl rfl rfl ⟨⟨_, rfl, rfl, rfl⟩, trivial⟩ ?_; rintro r bs' ext ⟨c2, rfl, rfl⟩)
    | (refine call_ro [_, _] (same_self (putL l x) _ _ (by omega)) GG_no rfl rfl rfl ⟨⟨_, rfl, rfl, rfl⟩, ⟨_, rfl, rfl, rfl⟩, trivial⟩ ?_; rintro r bs' ext ⟨rfl, rfl⟩)
    | (refine call_ro [.o 0] (drop_p l x cap (by omega)) GG_no rfl rfl rfl ⟨⟨_, rfl, rfl, rfl⟩, trivial⟩ ?_; rintro r bs' ext ⟨c3, rfl, rfl⟩)
    | (refine call_ro [.o 0] (drop_r l x cap (by omega)) GG_no rfl rfl rfl ⟨⟨_, rfl, rfl, rfl⟩, trivial⟩ ?_; rintro r bs' ext ⟨c4, rfl, rfl⟩)
    | (refine call_ro [_, _] (same_self (dropL l x) _ _ (by omega)) GG_no rfl rfl rfl ⟨⟨_, rfl, rfl, rfl⟩, ⟨_, rfl, rfl, rfl⟩, trivial⟩ ?_; rintro r bs' ext ⟨rfl, rfl⟩)
    | (refine call_ro [] (awake_ok) GG_no rfl rfl rfl trivial ?_; rintro r bs' ext ⟨rfl, rfl⟩)
    | (refine And.intro (by omega) ?_)
    | (refine BB.mk (fun _h => ?_) (fun _h => ?_) <;> (first | (exact absurd _h (by decide)) | (exfalso; simp only [boolSet] at _h <;> omega) | skip)))
  all_goals (try conv => whnf)
  all_goals (try (refine Fin.mk ?_))
  all_goals exact ⟨rfl, rfl⟩
set_option maxRecDepth 100000 in
set_option maxHeartbeats 4000000 in
theorem identTells_long (x y : Id_) (l : List Id_) (cap : Nat) (nodes last : Int) (hlen : ¬ l.length ≤ 200) : FnOK Try.prog GG 3 [.ro 3 (l.map idC)] [idS x, idS y, .s (.o 0) 3 0 l.length cap, .v (.int .i64 nodes), .v (.int .u32 last)] (fun r _ ext => r = .v (.bool true) ∧ ext = []) := by
  refine fn_val (C := seat) seat_ok [(5, (.of [(0, .take), (1, .take), (2, .take), (4, .take), (5, .take), (6, .take), (3, .do_), (7, .do_), (8, .take), (9, .take), (10, .take), (11, .take), (13, .take), (14, .take), (12, .do_), (15, .do_), (16, .take), (17, .take), (18, .take), (19, .take), (20, .take), (21, .take), (22, .take), (23, .take), (24, .take), (25, .take), (26, .take), (27, .take), (28, .take), (29, .take), (31, .take), (30, .do_), (32, .do_), (33, .take), (34, .take), (35, .take), (36, .take), (37, .take), (39, .take), (40, .take), (38, .do_), (41, .do_), (42, .take), (43, .take), (44, .take), (45, .take), (46, .take), (48, .take), (49, .take), (47, .do_), (50, .do_), (51, .do_), (52, .take), (53, .take), (54, .take), (55, .take), (57, .take), (58, .take), (56, .do_), (59, .do_), (60, .do_), (61, .take), (62, .take), (63, .do_), (64, .take), (65, .take)]))] GG_no (Try.func3) rfl rfl rfl rfl rfl (fun _ => rfl) rfl ?_
  repeat' ((try conv => whnf); first
    | (with_reducible refine BB_true ?_)
    | (with_reducible refine BB_false ?_)
    | (with_reducible refine Both.mk ?_ ?_)
    | (with_reducible refine VS.mk ?_)
    | (refine PSem.go (C := seat) seat_ok ?_)
    | (refine And.intro (PlanOK.mk (by kernel_rfl) rfl (by kernel_rfl) (by kernel_rfl)) ?_)
    | (refine And.intro rfl (Exists.intro _ (And.intro (by first | assumption | rfl) ?_)))
    | (refine call_ro [] (awake_ok) GG_no rfl rfl rfl trivial ?_; rintro r bs' ext ⟨rfl, rfl⟩)
    | (refine And.intro (by omega) ?_)
    | (refine BB.mk (fun _h => ?_) (fun _h => ?_) <;> (first | (exact absurd _h (by decide)) | (exfalso; simp only [boolSet] at _h <;> omega) | skip)))
  all_goals (try conv => whnf)
  all_goals (try (refine Fin.mk ?_))
  all_goals exact ⟨rfl, rfl⟩
theorem identTells_ok (x y : Id_) (l : List Id_) (cap : Nat) (nodes last : Int) (hx : x.ok) (hl : last ≤ 4294967295) (hc : l.length ≤ cap) :
    FnOK Try.prog GG 3 [.ro 3 (l.map idC)] [idS x, idS y, .s (.o 0) 3 0 l.length cap, .v (.int .i64 nodes), .v (.int .u32 last)] (fun r _ ext => r = .v (.bool true) ∧ ext = []) := by
  by_cases hlen : l.length ≤ 200
  · by_cases h : x.s < last
    · exact identTells_g x y _ _ l cap nodes last hx hl hc hlen (next_yes_p x last h (by omega) hx.s0) (next_yes_r x last h (by omega) hx.s0)
    · exact identTells_g x y _ _ l cap nodes last hx hl hc hlen (next_no_p x last (by omega)) (next_no_r x last (by omega))
  · exact identTells_long x y l cap nodes last hlen
end Go.Proofs.Ytoigdnfepmbpbaa
