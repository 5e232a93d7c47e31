/- Package pull, by computing: the examples; law PullTells. -/
import Derived.Test.YtcjcnlahieddoaaK18g
namespace Go.Proofs.Ytcjcnlahieddoaa
open Go.RowKit

set_option maxRecDepth 100000 in
set_option maxHeartbeats 4000000 in
theorem ask_ok (n s f : Int) : FnOK Try.prog GG 25 [] [.v (.int .u8 n), .v (.int .u32 s), .v (.int .u8 f)] (fun r _ ext => r = askS ⟨⟨n, 1, s⟩, 3, f⟩ ∧ ext = []) := by
  refine fn_val (C := seat) seat_ok [] GG_no (Try.func25) rfl rfl rfl rfl rfl (fun _ => rfl) rfl ?_
  repeat' ((try conv => whnf); first
    | (with_reducible refine OKv.go (C := seat) seat_ok ?_)
    | (with_reducible refine BB_true ?_)
    | (with_reducible refine BB_false ?_)
    | (with_reducible refine Both.mk ?_ ?_)
    | (with_reducible refine VS.mk ?_)
    | (refine PSem.go (C := seat) seat_ok ?_)
    | (refine And.intro (PlanOK.mk (by kernel_rfl) rfl (by kernel_rfl) (by kernel_rfl)) ?_)
    | (refine And.intro rfl (Exists.intro _ (And.intro (by first | assumption | rfl) ?_)))
    | (refine And.intro ⟨rfl, rfl, rfl⟩ ?_)
    | (refine And.intro (by omega) ?_)
    | (refine BB.mk (fun _h => ?_) (fun _h => ?_) <;> (first | (exact absurd _h (by decide)) | (exfalso; simp only [boolSet] at _h <;> omega) | skip)))
  all_goals (try conv => whnf)
  all_goals (try (refine Fin.mk ?_))
  all_goals (exact ⟨rfl, rfl⟩)
theorem addA_is (l : List Ask_) (cap : Nat) (x : Ask_) (most : Int) (T : List Ask_ × Int) (hT : addR l x most = T) (hc : l.length ≤ cap) (hl : l.length ≤ 400000000000) : FnOK Try.prog GG 13 [.ro 5 (l.map askC)] [.s (.o 0) 5 0 l.length cap, askS x, .v (.int .i64 most)] (fun r _ ext => ∃ cap, T.1.length ≤ cap ∧ r = .tup [.s (.n 0) 5 0 T.1.length cap, .v (.int .i64 T.2)] ∧ ext = [.row 28 5 cap (T.1.map askC)]) := by
  subst hT
  exact addA_ok l cap x most hc hl
theorem addF_is (l : List Ask_) (cap : Nat) (x : Ask_) (most : Int) (T : List Ask_ × Int) (hT : addF l x most = T) (hl : l.length ≤ 400000000000) : FnOK Try.prog GG 14 [.ro 5 (l.map askC)] [.s (.o 0) 5 0 l.length cap, askS x, .v (.int .i64 most)] (fun r _ ext => ∃ cap, T.1.length ≤ cap ∧ r = .tup [.s (.n 0) 5 0 T.1.length cap, .v (.int .i64 T.2)] ∧ ext = [.row 28 5 cap (T.1.map askC)]) := by
  subst hT
  exact addF_ok l cap x most hl
theorem tickA_is (l : List Ask_) (cap : Nat) (T : List Ask_) (D : List Id_) (hT : tickL l = T) (hD : goneL l = D) (hl : l.length ≤ 1099511620000) (hok : ∀ y ∈ l, y.ok) : FnOK Try.prog GG 15 [.ro 5 (l.map askC)] [.s (.o 0) 5 0 l.length cap] (fun r _ ext => ∃ c1 c2, T.length ≤ c1 ∧ D.length ≤ c2 ∧ r = .tup [.s (.n 0) 5 0 T.length c1, .s (.n 1) 3 0 D.length c2] ∧ ext = [.row 28 5 c1 (T.map askC), .row 26 3 c2 (D.map idC)]) := by
  subst hT hD
  exact tickA_ok l cap hl hok
theorem sameA_is (l r : List Ask_) (c1 c2 : Nat) (b : Bool) (hl : l.length ≤ 1099511627776) (hb : decide (l = r) = b) : FnOK Try.prog GG 17 [.ro 5 (l.map askC), .ro 5 (r.map askC)] [.s (.o 0) 5 0 l.length c1, .s (.o 1) 5 0 r.length c2] (fun rr _ ext => rr = .v (.bool b) ∧ ext = []) := by
  subst hb
  exact sameA_ok l r c1 c2 hl
theorem sameI_is (l r : List Id_) (c1 c2 : Nat) (b : Bool) (hl : l.length ≤ 1099511627776) (hb : sameB l r = b) : FnOK Try.prog GG 20 [.ro 3 (l.map idC), .ro 3 (r.map idC)] [.s (.o 0) 3 0 l.length c1, .s (.o 1) 3 0 r.length c2] (fun rr _ ext => rr = .v (.bool b) ∧ ext = []) := by
  subst hb
  exact same_ok l r c1 c2 hl
abbrev exA : Ask_ := ⟨⟨0, 1, 2⟩, 3, 2⟩
abbrev exB : Ask_ := ⟨⟨0, 1, 1⟩, 3, 1⟩
theorem ex_ok : ∀ y ∈ [exB, exA], y.ok := fun y hy => by
  simp only [List.mem_cons, List.not_mem_nil, or_false] at hy
  rcases hy with rfl | rfl <;> exact ⟨⟨by decide, by decide, by decide, by decide, by decide, by decide⟩, by decide, by decide, by decide, by decide⟩
set_option maxRecDepth 100000 in
set_option maxHeartbeats 4000000 in
theorem awake_ok  : FnOK Try.prog GG 8 [] [] (fun r _ ext => r = .v (.bool true) ∧ ext = []) := by
  refine fn_val (C := seat) seat_ok [] GG_no (Try.func8) rfl rfl rfl rfl rfl (fun _ => rfl) rfl ?_
  repeat' ((try conv => whnf); first
    | (with_reducible refine OKv.go (C := seat) seat_ok ?_)
    | (with_reducible refine BB_true ?_)
    | (with_reducible refine BB_false ?_)
    | (with_reducible refine Both.mk ?_ ?_)
    | (with_reducible refine VS.mk ?_)
    | (refine PSem.go (C := seat) seat_ok ?_)
    | (refine And.intro (PlanOK.mk (by kernel_rfl) rfl (by kernel_rfl) (by kernel_rfl)) ?_)
    | (refine And.intro rfl (Exists.intro _ (And.intro (by first | assumption | rfl) ?_)))
    | (refine And.intro ⟨rfl, rfl, rfl⟩ ?_)
    | (refine call_ro [] (ask_ok _ _ _) GG_no rfl rfl rfl trivial ?_; rintro r bs' ext ⟨rfl, rfl⟩)
    | (refine call_roN [.g 0] (addA_is [] 0 exA 2 ([exA], 0) (by decide) (by decide) (by decide)) GG_no rfl rfl ⟨.inr ⟨_, _, _, rfl, rfl⟩, .inl rfl, .inl rfl, trivial⟩ ⟨.inr ⟨rfl, _, rfl⟩, trivial⟩ ?_; rintro r bs' ext ⟨ca, hca, rfl, rfl⟩)
    | (refine call_ro [_] (addA_is [exA] _ exB 2 ([exB, exA], 0) (by decide) hca (by decide)) GG_no rfl rfl rfl ⟨⟨_, rfl, rfl, rfl⟩, trivial⟩ ?_; rintro r bs' ext ⟨cb, hcb, rfl, rfl⟩)
    | (refine call_ro [_] (addA_is [exB, exA] _ exB 2 ([exB, exA], 150) (by decide) hcb (by decide)) GG_no rfl rfl rfl ⟨⟨_, rfl, rfl, rfl⟩, trivial⟩ ?_; rintro r bs' ext ⟨cc, hcc, rfl, rfl⟩)
    | (refine call_ro [_] (addA_is [exB, exA] _ ⟨⟨1, 1, 1⟩, 3, 1⟩ 2 ([exB, exA], 52) (by decide) hcb (by decide)) GG_no rfl rfl rfl ⟨⟨_, rfl, rfl, rfl⟩, trivial⟩ ?_; rintro r bs' ext ⟨cd, hcd, rfl, rfl⟩)
    | (refine call_ro [_] (addA_is [exB, exA] _ ⟨⟨1, 1, 1⟩, 3, 0⟩ 2 ([exB, exA], 2) (by decide) hcb (by decide)) GG_no rfl rfl rfl ⟨⟨_, rfl, rfl, rfl⟩, trivial⟩ ?_; rintro r bs' ext ⟨ce, hce, rfl, rfl⟩)
    | (refine call_ro [_] (tickA_is [exB, exA] _ [⟨⟨0, 1, 2⟩, 3, 1⟩] [⟨0, 1, 1⟩] (by decide) (by decide) (by decide) ex_ok) GG_no rfl rfl rfl ⟨⟨_, rfl, rfl, rfl⟩, trivial⟩ ?_; rintro r bs' ext ⟨cf, cg, hcf, hcg, rfl, rfl⟩)
    | (refine call_ro [_, _] (sameA_is [exB, exA] [exB, exA] _ _ true (by decide) (by decide)) GG_no rfl rfl rfl ⟨⟨_, rfl, rfl, rfl⟩, ⟨_, rfl, rfl, rfl⟩, trivial⟩ ?_; rintro r bs' ext ⟨rfl, rfl⟩)
    | (refine call_ro [_, _] (sameA_is [⟨⟨0, 1, 2⟩, 3, 1⟩] [⟨⟨0, 1, 2⟩, 3, 1⟩] _ _ true (by decide) (by decide)) GG_no rfl rfl rfl ⟨⟨_, rfl, rfl, rfl⟩, ⟨_, rfl, rfl, rfl⟩, trivial⟩ ?_; rintro r bs' ext ⟨rfl, rfl⟩)
    | (refine call_ro [_, _] (sameI_is [⟨0, 1, 1⟩] [⟨0, 1, 1⟩] _ _ true (by decide) (by decide)) GG_no rfl rfl rfl ⟨⟨_, rfl, rfl, rfl⟩, ⟨_, rfl, rfl, rfl⟩, trivial⟩ ?_; rintro r bs' ext ⟨rfl, rfl⟩)
    | (refine And.intro (by omega) ?_)
    | (refine BB.mk (fun _h => ?_) (fun _h => ?_) <;> (first | (exact absurd _h (by decide)) | (exfalso; simp only [boolSet] at _h <;> omega) | skip)))
  all_goals (try conv => whnf)
  all_goals (try (refine Fin.mk ?_))
  all_goals (exact ⟨rfl, rfl⟩)
end Go.Proofs.Ytcjcnlahieddoaa
