/- Package pulse, by computing: awake. -/
import Derived.Test.YtnkhdnmilncidaaU14d
import Derived.Test.YtnkhdnmilncidaaU14e
namespace Go.Proofs.Ytnkhdnmilncidaa
open Go.RowKit

def Z3 : List Mb := [⟨0, 0, 0⟩, ⟨0, 0, 0⟩, ⟨0, 0, 0⟩]
def Z4 : List Mb := [⟨0, 0, 0⟩, ⟨0, 0, 0⟩, ⟨0, 0, 0⟩, ⟨0, 0, 0⟩]
def A3 (i s q : Int) : List Mb := [⟨0, 0, 0⟩, ⟨i, s, q⟩, ⟨0, 0, 0⟩]
set_option maxRecDepth 100000 in
set_option maxHeartbeats 4000000 in
theorem new3_ok (u : Unit) : FnOK Try.prog GG 12 [] [.v (.int .i64 3)] (fun r _ ext => ∃ cap, 3 ≤ cap ∧ r = .s (.n 0) 3 0 3 cap ∧ ext = [.row 26 3 cap (Z3.map mbC)]) := by
  refine fn_newR (C := seat) seat_ok [] GG_no (Try.func12) rfl rfl rfl rfl rfl rfl ?_
  repeat' ((try conv => whnf); first
    | (with_reducible refine OKv.go (C := seat) seat_ok ?_)
    | (with_reducible refine BB_true ?_)
    | (with_reducible refine BB_false ?_)
    | (with_reducible refine Both.mk ?_ ?_)
    | (with_reducible refine VS.mk ?_)
    | (refine PSem.go (C := seat) seat_ok ?_)
    | (refine And.intro (PlanOK.mk (by kernel_rfl) rfl (by kernel_rfl) (by kernel_rfl)) ?_)
    | (refine And.intro rfl (Exists.intro _ (And.intro (by first | assumption | rfl) ?_)))
    | (refine And.intro ⟨rfl, rfl, rfl⟩ ?_)
    | (refine And.intro (by decide) ?_)
    | (refine And.intro (by omega) ?_)
    | (refine BB.mk (fun _h => ?_) (fun _h => ?_) <;> (first | (exact absurd _h (by decide)) | (exfalso; simp only [boolSet] at _h <;> omega) | skip)))
  all_goals (try conv => whnf)
  exact ⟨⟨[0], .s (.n 0) 3 0 3 3, [.row 26 3 3 (Z3.map mbC)], by decide, .inl (.inl rfl), ⟨.inr rfl, trivial⟩, 3, by decide, rfl, rfl⟩, rfl⟩
set_option maxRecDepth 100000 in
set_option maxHeartbeats 4000000 in
theorem new4_ok (u : Unit) : FnOK Try.prog GG 12 [] [.v (.int .i64 4)] (fun r _ ext => ∃ cap, 4 ≤ cap ∧ r = .s (.n 0) 3 0 4 cap ∧ ext = [.row 26 3 cap (Z4.map mbC)]) := by
  refine fn_newR (C := seat) seat_ok [] GG_no (Try.func12) rfl rfl rfl rfl rfl rfl ?_
  repeat' ((try conv => whnf); first
    | (with_reducible refine OKv.go (C := seat) seat_ok ?_)
    | (with_reducible refine BB_true ?_)
    | (with_reducible refine BB_false ?_)
    | (with_reducible refine Both.mk ?_ ?_)
    | (with_reducible refine VS.mk ?_)
    | (refine PSem.go (C := seat) seat_ok ?_)
    | (refine And.intro (PlanOK.mk (by kernel_rfl) rfl (by kernel_rfl) (by kernel_rfl)) ?_)
    | (refine And.intro rfl (Exists.intro _ (And.intro (by first | assumption | rfl) ?_)))
    | (refine And.intro ⟨rfl, rfl, rfl⟩ ?_)
    | (refine And.intro (by decide) ?_)
    | (refine And.intro (by omega) ?_)
    | (refine BB.mk (fun _h => ?_) (fun _h => ?_) <;> (first | (exact absurd _h (by decide)) | (exfalso; simp only [boolSet] at _h <;> omega) | skip)))
  all_goals (try conv => whnf)
  exact ⟨⟨[0], .s (.n 0) 3 0 4 4, [.row 26 3 4 (Z4.map mbC)], by decide, .inl (.inl rfl), ⟨.inr rfl, trivial⟩, 4, by decide, rfl, rfl⟩, rfl⟩
set_option maxRecDepth 100000 in
set_option maxHeartbeats 4000000 in
theorem is_yes (I S q : Int) (cap : Nat) : FnOK Try.prog GG 32 [.ro 3 ((A3 I S q).map mbC)] [.s (.o 0) 3 0 3 cap, .v (.int .i64 1), .v (.int .u16 I), .v (.int .u8 S)] (fun r _ ext => r = .v (.bool true) ∧ ext = []) := by
  refine fn_val (C := seat) seat_ok [] GG_no (Try.func32) rfl rfl rfl rfl rfl (fun _ => rfl) rfl ?_
  repeat' ((try conv => whnf); first
    | (with_reducible refine OKv.go (C := seat) seat_ok ?_)
    | (with_reducible refine BB_true ?_)
    | (with_reducible refine BB_false ?_)
    | (with_reducible refine Both.mk ?_ ?_)
    | (with_reducible refine VS.mk ?_)
    | (refine PSem.go (C := seat) seat_ok ?_)
    | (refine And.intro (PlanOK.mk (by kernel_rfl) rfl (by kernel_rfl) (by kernel_rfl)) ?_)
    | (refine And.intro rfl (Exists.intro _ (And.intro (by first | assumption | rfl) ?_)))
    | (refine And.intro ⟨rfl, rfl, rfl⟩ ?_)
    | (refine And.intro (by omega) ?_)
    | (refine BB.mk (fun _h => ?_) (fun _h => ?_) <;> (first | (exact absurd _h (by decide)) | (exfalso; simp only [boolSet] at _h <;> omega) | skip)))
  all_goals (try conv => whnf)
  all_goals (try (refine Fin.mk ?_))
  all_goals first
    | exact ⟨rfl, rfl⟩
    | (exfalso; simp only [boolSet] at * <;> omega)
    | (refine ⟨bool_eq ?_, rfl⟩; simp)
theorem heard_is (L T : List Mb) (n cap : Nat) (k : Nat) (x : Int) (hx : x = k) (v : Int) (hn : L.length = n) (hc : n ≤ cap) (hm : n ≤ 300) (hk : k ≤ 255) (h : modL L k (heardM v) = T) : FnOK Try.prog GG 14 [.ro 3 (L.map mbC)] [.s (.o 0) 3 0 n cap, .v (.int .u8 x), .v (.int .u16 v)] (fun r _ ext => ∃ cap, n ≤ cap ∧ r = .s (.n 0) 3 0 n cap ∧ ext = [.row 26 3 cap (T.map mbC)]) := by
  subst h
  subst hx
  exact heard_ok L n cap hn hc (by omega) k hk v
theorem left_is (L T : List Mb) (n cap : Nat) (k : Nat) (x : Int) (hx : x = k) (v : Int) (hn : L.length = n) (hc : n ≤ cap) (hm : n ≤ 300) (hk : k ≤ 255) (h : modL L k (leftM v) = T) : FnOK Try.prog GG 16 [.ro 3 (L.map mbC)] [.s (.o 0) 3 0 n cap, .v (.int .u8 x), .v (.int .u16 v)] (fun r _ ext => ∃ cap, n ≤ cap ∧ r = .s (.n 0) 3 0 n cap ∧ ext = [.row 26 3 cap (T.map mbC)]) := by
  subst h
  subst hx
  exact left_ok L n cap hn hc (by omega) k hk v
theorem tick_is (L T : List Mb) (G : List Nat) (n cap : Nat) (af : Int) (hn : L.length = n) (hc : n ≤ cap) (hl : n ≤ 256) (hok : ∀ y ∈ L, y.ok) (h1 : tickL af L = T) (h2 : goneL af L = G) : FnOK Try.prog GG 20 [.ro 3 (L.map mbC)] [.s (.o 0) 3 0 n cap, .v (.int .u8 0), .v (.int .i64 af)] (fun r _ ext => ∃ c1 c2, n ≤ c1 ∧ G.length ≤ c2 ∧ r = .tup [.s (.n 0) 3 0 n c1, .s (.n 1) 1 0 G.length c2] ∧ ext = [.row 26 3 c1 (T.map mbC), .row 5 1 c2 (G.map bK)]) := by
  subst h1
  subst h2
  exact tick_ok L n cap af hn hc hl hok
theorem up3_is (L : List Mb) (G : List Nat) (n cap : Nat) (hn : L.length = n) (hl : n ≤ 256) (h : upL L = G) : FnOK Try.prog GG 22 [.ro 3 (L.map mbC)] [.s (.o 0) 3 0 n cap] (fun r _ ext => ∃ cap, G.length ≤ cap ∧ r = .s (.n 0) 1 0 G.length cap ∧ ext = [.row 5 1 cap (G.map bK)]) := by
  subst h
  exact upL_ok L n cap hn hl
theorem A3_ok {i s q : Int} (h : 0 ≤ i ∧ i ≤ 65535 ∧ 0 ≤ s ∧ s ≤ 255 ∧ 0 ≤ q ∧ q ≤ 255) : ∀ y ∈ A3 i s q, y.ok := fun y hy => by
  simp only [A3, List.mem_cons, List.not_mem_nil, or_false] at hy
  rcases hy with rfl | rfl | rfl
  · exact ⟨by decide, by decide, by decide, by decide, by decide, by decide⟩
  · exact ⟨by dsimp only; omega, by dsimp only; omega, by dsimp only; omega, by dsimp only; omega, by dsimp only; omega, by dsimp only; omega⟩
  · exact ⟨by decide, by decide, by decide, by decide, by decide, by decide⟩
theorem one_txt : ((strOfNums [1]).toList == ({ data := #[1] } : ByteArray).toList) = true := by
  rw [ByteArray.toList_eq, strOfNums_data, ByteArray.toList_eq]
  rfl
set_option maxRecDepth 100000 in
set_option maxHeartbeats 4000000 in
theorem awake_ok (u : Unit) : FnOK Try.prog GG 24 [] [] (fun r _ ext => r = .v (.bool true) ∧ ext = []) := by
  refine fn_val (C := seat) seat_ok [] GG_no (Try.func24) rfl rfl rfl rfl rfl (fun _ => rfl) rfl ?_
  repeat' ((try conv => whnf); first
    | (with_reducible refine OKv.go (C := seat) seat_ok ?_)
    | (with_reducible refine BB_true ?_)
    | (with_reducible refine BB_false ?_)
    | (with_reducible refine Both.mk ?_ ?_)
    | (with_reducible refine VS.mk ?_)
    | (refine PSem.go (C := seat) seat_ok ?_)
    | (refine And.intro (PlanOK.mk (by kernel_rfl) rfl (by kernel_rfl) (by kernel_rfl)) ?_)
    | (refine And.intro rfl (Exists.intro _ (And.intro (by first | assumption | rfl) ?_)))
    | (refine And.intro ⟨rfl, rfl, rfl⟩ ?_)
    | (refine call_ro [] (new3_ok ()) GG_no rfl rfl rfl trivial ?_; rintro r bs' ext ⟨c0, hc0, rfl, rfl⟩)
    | (refine call_ro [_] (heard_is (Z3) (A3 4 1 0) 3 _ 1 _ rfl 4 rfl (by omega) (by decide) (by decide) (by decide)) GG_no rfl rfl rfl ⟨⟨_, rfl, rfl, rfl⟩, trivial⟩ ?_; rintro r bs' ext ⟨ca, hca, rfl, rfl⟩)
    | (refine call_ro [_] (tick_is (A3 4 1 0) (A3 4 1 1) ([]) 3 _ 2 rfl (by omega) (by decide) (A3_ok (by decide)) (by decide) (by decide)) GG_no rfl rfl rfl ⟨⟨_, rfl, rfl, rfl⟩, trivial⟩ ?_; rintro r bs' ext ⟨cba, cbb, hcba, hcbb, rfl, rfl⟩)
    | (refine call_ro [_] (tick_is (A3 4 1 1) (A3 4 2 2) ([1]) 3 _ 2 rfl (by omega) (by decide) (A3_ok (by decide)) (by decide) (by decide)) GG_no rfl rfl rfl ⟨⟨_, rfl, rfl, rfl⟩, trivial⟩ ?_; rintro r bs' ext ⟨cca, ccb, hcca, hccb, rfl, rfl⟩)
    | (refine call_ro [_] (heard_is (A3 4 2 2) (A3 4 1 0) 3 _ 1 _ rfl 4 rfl (by omega) (by decide) (by decide) (by decide)) GG_no rfl rfl rfl ⟨⟨_, rfl, rfl, rfl⟩, trivial⟩ ?_; rintro r bs' ext ⟨cd, hcd, rfl, rfl⟩)
    | (refine call_ro [_] (heard_is (A3 4 1 0) (A3 4 1 0) 3 _ 1 _ rfl 3 rfl (by omega) (by decide) (by decide) (by decide)) GG_no rfl rfl rfl ⟨⟨_, rfl, rfl, rfl⟩, trivial⟩ ?_; rintro r bs' ext ⟨ce, hce, rfl, rfl⟩)
    | (refine call_ro [_] (left_is (A3 4 1 0) (A3 4 3 0) 3 _ 1 _ rfl 4 rfl (by omega) (by decide) (by decide) (by decide)) GG_no rfl rfl rfl ⟨⟨_, rfl, rfl, rfl⟩, trivial⟩ ?_; rintro r bs' ext ⟨cf, hcf, rfl, rfl⟩)
    | (refine call_ro [_] (is_yes 4 1 0 _) GG_no rfl rfl rfl ⟨⟨_, rfl, rfl, rfl⟩, trivial⟩ ?_; rintro r bs' ext ⟨rfl, rfl⟩)
    | (refine call_ro [_] (is_yes 4 1 1 _) GG_no rfl rfl rfl ⟨⟨_, rfl, rfl, rfl⟩, trivial⟩ ?_; rintro r bs' ext ⟨rfl, rfl⟩)
    | (refine call_ro [_] (is_yes 4 2 2 _) GG_no rfl rfl rfl ⟨⟨_, rfl, rfl, rfl⟩, trivial⟩ ?_; rintro r bs' ext ⟨rfl, rfl⟩)
    | (refine call_ro [_] (is_yes 4 3 0 _) GG_no rfl rfl rfl ⟨⟨_, rfl, rfl, rfl⟩, trivial⟩ ?_; rintro r bs' ext ⟨rfl, rfl⟩)
    | (refine call_ro [_] (is_yes 5 1 0 _) GG_no rfl rfl rfl ⟨⟨_, rfl, rfl, rfl⟩, trivial⟩ ?_; rintro r bs' ext ⟨rfl, rfl⟩)
    | (refine call_ro [_] (heard_is (A3 4 3 0) (A3 4 3 0) 3 _ 1 _ rfl 4 rfl (by omega) (by decide) (by decide) (by decide)) GG_no rfl rfl rfl ⟨⟨_, rfl, rfl, rfl⟩, trivial⟩ ?_; rintro r bs' ext ⟨cg, hcg, rfl, rfl⟩)
    | (refine call_ro [_] (heard_is (A3 4 3 0) (A3 5 1 0) 3 _ 1 _ rfl 5 rfl (by omega) (by decide) (by decide) (by decide)) GG_no rfl rfl rfl ⟨⟨_, rfl, rfl, rfl⟩, trivial⟩ ?_; rintro r bs' ext ⟨ch, hch, rfl, rfl⟩)
    | (refine call_ro [_] (up3_is (A3 4 1 0) [1] 3 _ rfl (by decide) (by decide)) GG_no rfl rfl rfl ⟨⟨_, rfl, rfl, rfl⟩, trivial⟩ ?_; rintro r bs' ext ⟨ci, hci, rfl, rfl⟩)
    | (refine And.intro ⟨rfl, by decide⟩ ?_)
    | (refine Exists.intro [1] (And.intro rfl ?_))
    | (refine And.intro (by omega) ?_)
    | (refine BB.mk (fun _h => ?_) (fun _h => ?_) <;> (first | (exact absurd _h (by decide)) | (exfalso; simp only [one_txt, boolSet] at _h <;> omega) | skip)))
  all_goals (try conv => whnf)
  all_goals (try (refine Fin.mk ?_))
  all_goals first
    | exact ⟨rfl, rfl⟩
    | exact ⟨bool_eq one_txt, rfl⟩
    | (exfalso; simp only [boolSet] at * <;> omega)
end Go.Proofs.Ytnkhdnmilncidaa
