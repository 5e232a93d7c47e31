/- Package wire, by computing: the examples. -/
import Derived.Test.YtcjegbcljipcbaaW01f
namespace Go.Proofs.Ytcjegbcljipcbaa
open Go.RowKit

theorem take_is (l : List Nat) (E : List (List Value)) (e m c : Nat) (n : Int) (h : (E.drop e).take m = l.map bN) (hb : e + m ≤ E.length) (hc : m ≤ c) (hl : m ≤ 1000000000) (hl8 : ∀ x ∈ l, x < 256) (T : _) (hT : takeT l n = T) : FnOK Try.prog GG 9 [.ro 1 E] [.s (.o 0) 1 e m c, .v (.int .i64 n)] (fun r _ ext => ∃ cap, T.2.1.length ≤ cap ∧ r = .tup [.v (.int .u64 (T.1 : Nat)), .s (.n 0) 1 0 T.2.1.length cap, .v (.bool T.2.2)] ∧ ext = [.row 5 1 cap (T.2.1.map bN)]) := by
  subst hT
  exact take_ok l E e m c n h hb hc hl hl8
theorem takeText_is (l : List Nat) (E : List (List Value)) (e m c : Nat) (most : Int) (h : (E.drop e).take m = l.map bN) (hb : e + m ≤ E.length) (hc : m ≤ c) (hl : m ≤ 1000000000) (hl8 : ∀ x ∈ l, x < 256) (T : _) (hT : textT l most = T) : FnOK Try.prog GG 11 [.ro 1 E] [.s (.o 0) 1 e m c, .v (.int .i64 most)] (fun r _ ext => ∃ c1 c2, T.1.length ≤ c1 ∧ T.2.1.length ≤ c2 ∧ r = .tup [.s (.n 0) 1 0 T.1.length c1, .s (.n 1) 1 0 T.2.1.length c2, .v (.bool T.2.2)] ∧ ext = [.row 5 1 c1 (T.1.map bN), .row 5 1 c2 (T.2.1.map bN)]) := by
  subst hT
  exact takeText_ok l E e m c most h hb hc hl hl8
theorem put_is (b : List Nat) (E : List (List Value)) (e m c : Nat) (x : Nat) (x' : Int) (n : Int) (hx' : x' = x) (h : (E.drop e).take m = b.map bN) (hb : e + m ≤ E.length) (hl : m ≤ 1000000000) (hx : x < 2 ^ 64) (T : _) (hT : putT b x n = T) : FnOK Try.prog GG 14 [.ro 1 E] [.s (.o 0) 1 e m c, .v (.int .u64 x'), .v (.int .i64 n)] (fun r _ ext => ∃ cap, T.length ≤ cap ∧ r = .s (.n 0) 1 0 T.length cap ∧ ext = [.row 5 1 cap (T.map bN)]) := by
  subst hT
  exact put_at b E e m c x x' n hx' h hb hl hx
theorem putText_is (b s : List Nat) (E1 E2 : List (List Value)) (e1 m1 c1 e2 m2 c2 : Nat) (h1 : (E1.drop e1).take m1 = b.map bN) (hb1 : e1 + m1 ≤ E1.length) (h2 : (E2.drop e2).take m2 = s.map bN) (hb2 : e2 + m2 ≤ E2.length) (hl1 : m1 ≤ 1000000) (hl2 : m2 ≤ 1000000) (T : _) (hT : putText b s = T) : FnOK Try.prog GG 16 [.ro 1 E1, .ro 1 E2] [.s (.o 0) 1 e1 m1 c1, .s (.o 1) 1 e2 m2 c2] (fun r _ ext => ∃ cap, T.length ≤ cap ∧ r = .s (.n 0) 1 0 T.length cap ∧ ext = [.row 5 1 cap (T.map bN)]) := by
  subst hT
  exact putText_ok b s E1 E2 e1 m1 c1 e2 m2 c2 h1 hb1 h2 hb2 hl1 hl2
theorem same_is (l r : List Nat) (E1 E2 : List (List Value)) (e1 e2 n1 n2 c1 c2 : Nat) (v : Bool) (hl : ∀ x ∈ l, x < 256) (hr : ∀ x ∈ r, x < 256) (h1 : (E1.drop e1).take n1 = l.map bN) (h2 : (E2.drop e2).take n2 = r.map bN) (b1 : e1 + n1 ≤ E1.length) (b2 : e2 + n2 ≤ E2.length) (hv : decide (l = r) = v) : FnOK Try.prog GG 13 [.ro 1 E1, .ro 1 E2] [.s (.o 0) 1 e1 n1 c1, .s (.o 1) 1 e2 n2 c2] (fun r _ ext => r = .v (.bool v) ∧ ext = []) := by
  subst hv
  exact same_gen l r E1 E2 e1 e2 n1 n2 c1 c2 hl hr h1 h2 b1 b2
theorem signed_at (x : Nat) (x' : Int) (hx' : x' = x) (hx : x < 2 ^ 64) : FnOK Try.prog GG 20 [] [.v (.int .u64 x')] (fun r _ ext => r = .v (.int .i32 (((x % 4294967296 : Nat) : Int) - 2147483648)) ∧ ext = []) := by
  subst hx'
  exact signed_p x hx
set_option maxRecDepth 100000 in
set_option maxHeartbeats 4000000 in
theorem awake_ok  : FnOK Try.prog GG 8 [] [] (fun r _ ext => r = .v (.bool true) ∧ ext = []) := by
  refine fn_val (C := seat) seat_ok [] GG_no (Try.func8) rfl rfl rfl rfl rfl (fun _ => rfl) rfl ?_
  repeat' ((try conv => whnf); first
    | (with_reducible refine BB_true ?_)
    | (with_reducible refine BB_false ?_)
    | (with_reducible refine Both.mk ?_ ?_)
    | (with_reducible refine VS.mk ?_)
    | (refine PSem.go (C := seat) seat_ok ?_)
    | (refine And.intro (PlanOK.mk (by kernel_rfl) rfl (by kernel_rfl) (by kernel_rfl)) ?_)
    | (refine And.intro rfl (Exists.intro _ (And.intro (by first | assumption | rfl) ?_)))
    | (refine And.intro ⟨rfl, rfl, rfl⟩ ?_)
    | (refine call_ro [_] (take_is [1, 2, 3] _ 0 _ _ 2 rfl (by decide) (by decide) (by decide) (by decide) (258, [3], true) (by decide)) GG_no rfl rfl rfl ⟨⟨_, rfl, rfl, rfl⟩, trivial⟩ ?_; rintro r bs' ext ⟨ca, hca, rfl, rfl⟩)
    | (refine call_ro [_] (take_is [1] _ 0 _ _ 2 rfl (by decide) (by decide) (by decide) (by decide) (0, [], false) (by decide)) GG_no rfl rfl rfl ⟨⟨_, rfl, rfl, rfl⟩, trivial⟩ ?_; rintro r bs' ext ⟨cb, hcb, rfl, rfl⟩)
    | (refine call_ro [_] (takeText_is [0, 2, 97, 98, 9] _ 0 _ _ 2 rfl (by decide) (by decide) (by decide) (by decide) ([97, 98], [9], true) (by decide)) GG_no rfl rfl rfl ⟨⟨_, rfl, rfl, rfl⟩, trivial⟩ ?_; rintro r bs' ext ⟨cd1, cd2, hcd1, hcd2, rfl, rfl⟩)
    | (refine call_ro [_] (takeText_is [0, 2, 97, 98, 9] _ 0 _ _ 1 rfl (by decide) (by decide) (by decide) (by decide) ([], [], false) (by decide)) GG_no rfl rfl rfl ⟨⟨_, rfl, rfl, rfl⟩, trivial⟩ ?_; rintro r bs' ext ⟨ce1, ce2, hce1, hce2, rfl, rfl⟩)
    | (refine call_roN [.g 0] (put_is [] [] 0 0 0 258 258 2 rfl rfl (by decide) (by decide) (by decide) [1, 2] (by decide)) GG_no rfl rfl ⟨.inr ⟨_, _, _, rfl, rfl⟩, .inl rfl, .inl rfl, trivial⟩ ⟨.inr ⟨rfl, _, rfl⟩, trivial⟩ ?_; rintro r bs' ext ⟨cf, hcf, rfl, rfl⟩)
    | (refine call_roN [.g 0] (put_is [] [] 0 0 0 258 258 1 rfl rfl (by decide) (by decide) (by decide) [2] (by decide)) GG_no rfl rfl ⟨.inr ⟨_, _, _, rfl, rfl⟩, .inl rfl, .inl rfl, trivial⟩ ⟨.inr ⟨rfl, _, rfl⟩, trivial⟩ ?_; rintro r bs' ext ⟨cg, hcg, rfl, rfl⟩)
    | (refine call_ro [_] (put_is [7] _ 0 _ _ 1 1 9 rfl rfl (by decide) (by decide) (by decide) [7] (by decide)) GG_no rfl rfl rfl ⟨⟨_, rfl, rfl, rfl⟩, trivial⟩ ?_; rintro r bs' ext ⟨ch, hch, rfl, rfl⟩)
    | (refine call_roN [.g 0, _] (putText_is [] [97, 98] [] _ 0 0 0 0 _ _ rfl (by decide) rfl (by decide) (by decide) (by decide) [0, 2, 97, 98] (by decide)) GG_no rfl rfl ⟨.inr ⟨_, _, _, rfl, rfl⟩, .inl rfl, trivial⟩ ⟨.inr ⟨rfl, _, rfl⟩, .inl ⟨_, rfl, rfl, rfl⟩, trivial⟩ ?_; rintro r bs' ext ⟨ci, hci, rfl, rfl⟩)
    | (refine call_ro [] (unsigned_p (-1) (by decide) (by decide)) GG_no rfl rfl rfl trivial ?_; rintro r bs' ext ⟨rfl, rfl⟩)
    | (refine call_ro [] (signed_at 0 0 rfl (by decide)) GG_no rfl rfl rfl trivial ?_; rintro r bs' ext ⟨rfl, rfl⟩)
    | (refine call_ro [_, _] (same_is [1, 2] [1, 2] _ _ 0 0 _ _ _ _ true (by decide) (by decide) rfl rfl (by decide) (by decide) (by decide)) GG_no rfl rfl rfl ⟨⟨_, rfl, rfl, rfl⟩, ⟨_, rfl, rfl, rfl⟩, trivial⟩ ?_; rintro r bs' ext ⟨rfl, rfl⟩)
    | (refine call_ro [_, _] (same_is [2] [2] _ _ 0 0 _ _ _ _ true (by decide) (by decide) rfl rfl (by decide) (by decide) (by decide)) GG_no rfl rfl rfl ⟨⟨_, rfl, rfl, rfl⟩, ⟨_, rfl, rfl, rfl⟩, trivial⟩ ?_; rintro r bs' ext ⟨rfl, rfl⟩)
    | (refine call_ro [_, _] (same_is [7] [7] _ _ 0 0 _ _ _ _ true (by decide) (by decide) rfl rfl (by decide) (by decide) (by decide)) GG_no rfl rfl rfl ⟨⟨_, rfl, rfl, rfl⟩, ⟨_, rfl, rfl, rfl⟩, trivial⟩ ?_; rintro r bs' ext ⟨rfl, rfl⟩)
    | (refine call_ro [_, _] (same_is [3] [3] _ _ 0 0 _ _ _ _ true (by decide) (by decide) rfl rfl (by decide) (by decide) (by decide)) GG_no rfl rfl rfl ⟨⟨_, rfl, rfl, rfl⟩, ⟨_, rfl, rfl, rfl⟩, trivial⟩ ?_; rintro r bs' ext ⟨rfl, rfl⟩)
    | (refine call_ro [_, _] (same_is [0, 2, 97, 98] [0, 2, 97, 98] _ _ 0 0 _ _ _ _ true (by decide) (by decide) rfl rfl (by decide) (by decide) (by decide)) GG_no rfl rfl rfl ⟨⟨_, rfl, rfl, rfl⟩, ⟨_, rfl, rfl, rfl⟩, trivial⟩ ?_; rintro r bs' ext ⟨rfl, rfl⟩)
    | (refine call_ro [_, _] (same_is [97, 98] [97, 98] _ _ 0 0 _ _ _ _ true (by decide) (by decide) rfl rfl (by decide) (by decide) (by decide)) GG_no rfl rfl rfl ⟨⟨_, rfl, rfl, rfl⟩, ⟨_, rfl, rfl, rfl⟩, trivial⟩ ?_; rintro r bs' ext ⟨rfl, rfl⟩)
    | (refine call_ro [_, _] (same_is [9] [9] _ _ 0 0 _ _ _ _ true (by decide) (by decide) rfl rfl (by decide) (by decide) (by decide)) GG_no rfl rfl rfl ⟨⟨_, rfl, rfl, rfl⟩, ⟨_, rfl, rfl, rfl⟩, trivial⟩ ?_; rintro r bs' ext ⟨rfl, rfl⟩)
    | (intro cap' hcap')
    | (refine And.intro (by omega) ?_)
    | (refine BB.mk (fun _h => ?_) (fun _h => ?_) <;> (first | (exact absurd _h (by decide)) | (exfalso; simp only [boolSet] at _h <;> omega) | skip)))
  all_goals (try conv => whnf)
  all_goals (try (refine Fin.mk ?_))
  all_goals (exact ⟨rfl, rfl⟩)
end Go.Proofs.Ytcjegbcljipcbaa
