/- Law package of desc by computing: the chapter's examples. -/
import Derived.Test.YtfjankcpnhfogaaD09m
import Derived.Test.YtfjankcpnhfogaaZY
namespace Go.Proofs.Ytfjankcpnhfogaa
open Go.RowKit

abbrev oneD (n a : Int) : De := ⟨n, 1, a, [⟨0, 1⟩]⟩
abbrev l2 : List De := [oneD 1 4, oneD 3 4]
abbrev l3 : List De := [oneD 1 4, oneD 3 4, oneD 5 255]
abbrev o3 : List De := [oneD 1 5, oneD 3 5, oneD 5 255]
abbrev n2 : List De := [oneD 1 4, oneD 3 2]
theorem oldest_z (l : List De) (cap : Nat) (z : Int) (hl : l.length ≤ 1099511627776) (hz : oldZ (oldAt l l.length) = z) : FnOK Try.prog GG 27 [.ro 4 (l.map deC)] [.s (.o 0) 4 0 l.length cap] (fun r _ ext => r = .v (.int .i64 z) ∧ ext = []) := by
  subst hz
  exact oldest_ok l cap hl
theorem right_z (l : List De) (cap : Nat) (self room : Int) (b : Bool) (hl : l.length ≤ 1099511627776) (hb : rightB l self room = b) : FnOK Try.prog GG 10 [.ro 4 (l.map deC)] [.s (.o 0) 4 0 l.length cap, .v (.int .u8 self), .v (.int .i64 room)] (fun r _ ext => r = .v (.bool b) ∧ ext = []) := by
  subst hb
  exact right_ok l cap self room hl
theorem older_z (l : List De) (cap : Nat) (hl : l.length ≤ 1099511627776) (hf : FlOk l) (hb : ∀ y ∈ l, 0 ≤ y.age ∧ y.age ≤ 255) (o : List De) (ho : l.map older = o) : FnOK Try.prog GG 25 [.ro 4 (l.map deC)] [.s (.o 0) 4 0 l.length cap] (fun r _ ext => ∃ cap', l.length ≤ cap' ∧ r = .s (.n 0) 4 0 l.length cap' ∧ ext = [.row 27 4 cap' (o.map deC)]) := by
  subst ho
  exact older_ok l cap hl hf hb
theorem drop_z (l : List De) (cap : Nat) (x : Int) (hl : l.length ≤ 1099511627776) (hr : Rising l) (hf : FlOk l) (o : List De) (ho : dropL x l = o) : FnOK Try.prog GG 23 [.ro 4 (l.map deC)] [.s (.o 0) 4 0 l.length cap, .v (.int .u8 x)] (fun r _ ext => ∃ cap' m, o.length ≤ cap' ∧ r = .s (.n 0) 4 0 o.length cap' ∧ ext = [.row 27 4 cap' (o.map deC ++ m)]) := by
  subst ho
  exact drop_ok l cap x hl hr hf
theorem put_z (l : List De) (cap : Nat) (hl : l.length ≤ 1099511627776) (hr : Rising l) (hf : FlOk l) (d : De) (cd : Nat) (hcd : d.fl.length ≤ cd) (hdl : d.fl.length ≤ 1099511627776) (self room : Int) (y : De) (hy : l[placeN d.node l]? = some y) (hx : y.node = d.node) (hb : d.node ≠ self ∧ d.inc ≠ 0) (hnb : newB d y = true) (o : List De) (ho : l.set (placeN d.node l) d = o) : FnOK Try.prog GG 19 [.ro 4 (l.map deC)] [.s (.o 0) 4 0 l.length cap, deS d cd, .v (.int .u8 self), .v (.int .i64 room)] (fun r _ ext => ∃ cap', (o).length ≤ cap' ∧ r = .tup [.s (.n 0) 4 0 (o).length cap', .v (.bool true)] ∧ ext = [.row 27 4 cap' ((o).map deC)]) := by
  subst ho
  exact put_new l cap hl hr hf d cd hcd hdl self room y hy hx hb hnb
theorem descs_z (l : List De) (c1 c2 : Nat) (A B : List (List CV)) (e1 e2 : Nat) (hl : l.length ≤ 1099511627776) (hA : AtE A e1 l) (hB : AtE B e2 l) (hfl : FlOk l) : FnOK Try.prog GG 12 [.ro 4 A, .ro 4 B] [.s (.o 0) 4 e1 l.length c1, .s (.o 1) 4 e2 l.length c2] (fun r _ ext => r = .v (.bool true) ∧ ext = []) := by
  have h := descs_raw l l c1 c2 hl A B e1 e2 hA hB hfl
  rw [decide_eq_true rfl] at h
  exact h
theorem rising2 : Rising l2 := by decide
theorem flok2 : FlOk l2 := by decide
theorem flok3 : FlOk l3 := by decide
set_option maxRecDepth 100000 in
set_option maxHeartbeats 4000000 in
theorem awake_ok  : FnOK Try.prog GG 9 [] [] (fun r _ ext => r = .v (.bool true) ∧ ext = []) := by
  refine fn_val (C := seat) seat_ok [(9, (.of [(0, .take), (1, .take), (2, .take), (3, .take), (4, .take), (5, .take), (6, .take), (7, .take), (8, .take), (9, .take), (10, .take), (11, .take), (12, .take), (13, .take), (14, .take), (15, .take), (16, .take), (17, .take), (18, .take), (19, .take), (20, .take), (21, .take), (22, .take), (23, .take), (24, .take), (25, .take), (26, .do_), (27, .take), (28, .take), (29, .take), (30, .take), (31, .do_), (32, .take), (33, .take), (34, .take), (35, .do_), (36, .take), (37, .take), (38, .take), (39, .take), (41, .take), (42, .take), (40, .do_), (43, .do_), (44, .take), (45, .take), (46, .take), (47, .do_), (48, .take), (49, .take), (50, .take), (51, .do_), (52, .take), (53, .take), (54, .take), (55, .take), (56, .do_), (57, .take), (58, .take), (59, .take)]))] GG_no (Try.func9) rfl rfl rfl rfl rfl (fun _ => rfl) rfl ?_
  repeat' ((try conv => whnf); first
    | (with_reducible refine OKv.go (C := seat) seat_ok ?_)
    | (with_reducible refine BB_true ?_)
    | (with_reducible refine BB_false ?_)
    | (with_reducible refine Both.mk ?_ ?_)
    | (with_reducible refine VS.mk ?_)
    | (refine PSem.go (C := seat) seat_ok ?_)
    | (refine And.intro (PlanOK.mk (by kernel_rfl) rfl (by kernel_rfl) (by kernel_rfl)) ?_)
    | (refine And.intro rfl (Exists.intro _ (And.intro (by first | assumption | rfl) ?_)))
    | (refine And.intro ⟨rfl, rfl, rfl⟩ ?_)
    | (refine call_ro [] (one_ok 1 4) GG_no rfl rfl rfl trivial ?_; rintro r bs' ext ⟨a1, ha1, rfl, rfl⟩)
    | (refine call_ro [] (one_ok 3 4) GG_no rfl rfl rfl trivial ?_; rintro r bs' ext ⟨a2, ha2, rfl, rfl⟩)
    | (refine call_ro [] (one_ok 2 0) GG_no rfl rfl rfl trivial ?_; rintro r bs' ext ⟨a3, ha3, rfl, rfl⟩)
    | (refine call_ro [] (one_ok 3 2) GG_no rfl rfl rfl trivial ?_; rintro r bs' ext ⟨a4, ha4, rfl, rfl⟩)
    | (refine call_ro [] (one_ok 0 0) GG_no rfl rfl rfl trivial ?_; rintro r bs' ext ⟨a6, ha6, rfl, rfl⟩)
    | (refine call_ro [] (one_ok 5 255) GG_no rfl rfl rfl trivial ?_; rintro r bs' ext ⟨a7, ha7, rfl, rfl⟩)
    | (refine call_toRo 2 rfl ?_; refine call_frz 1 rfl (frz_agg (j := 3) rfl (frz_s rfl (by decide))) ?_; refine call_ro [.n 2] (put_full l2 2 (by decide) rising2 flok2 (oneD 2 0) a3 ha3 (by decide) 0 2 (by decide) (by decide) (by decide)) GG_no rfl rfl rfl ⟨⟨_, rfl, rfl, rfl⟩, trivial⟩ ?_; rintro r bs' ext ⟨p1, hp1, rfl, rfl⟩)
    | (refine call_frz 1 rfl (frz_agg (j := 3) rfl (frz_s rfl (by decide))) ?_; refine call_ro [.n 2] (put_z l2 2 (by decide) rising2 flok2 (oneD 3 2) a4 ha4 (by decide) 0 2 (oneD 3 4) rfl rfl (by decide) (by decide) n2 (by decide)) GG_no rfl rfl rfl ⟨⟨_, rfl, rfl, rfl⟩, trivial⟩ ?_; rintro r bs' ext ⟨p2, hp2, rfl, rfl⟩)
    | (refine call_frz 1 rfl (frz_agg (j := 3) rfl (frz_s rfl (by decide))) ?_; refine call_ro [.n 2] (put_old l2 2 (by decide) rising2 flok2 (oneD 3 4) a2 ha2 (by decide) 0 2 (oneD 3 4) rfl rfl (by decide) (by decide)) GG_no rfl rfl rfl ⟨⟨_, rfl, rfl, rfl⟩, trivial⟩ ?_; rintro r bs' ext ⟨p3, hp3, rfl, rfl⟩)
    | (refine call_frz 1 rfl (frz_agg (j := 3) rfl (frz_s rfl (by decide))) ?_; refine call_ro [.n 2] (put_bad l2 2 (by decide) rising2 flok2 (oneD 0 0) a6 ha6 (by decide) 0 9 (.inl rfl)) GG_no rfl rfl rfl ⟨⟨_, rfl, rfl, rfl⟩, trivial⟩ ?_; rintro r bs' ext ⟨p4, hp4, rfl, rfl⟩)
    | (refine call_ro [.n 13] (older_z l3 _ (by decide) flok3 (by decide) o3 (by decide)) GG_no rfl rfl rfl ⟨⟨_, rfl, rfl, rfl⟩, trivial⟩ ?_; rintro r bs' ext ⟨oc, hoc, rfl, rfl⟩)
    | (refine call_ro [.n 2] (oldest_z l2 _ 0 (by decide) (by decide)) GG_no rfl rfl rfl ⟨⟨_, rfl, rfl, rfl⟩, trivial⟩ ?_; rintro r bs' ext ⟨rfl, rfl⟩)
    | (refine call_ro [.n 14] (oldest_z o3 _ 2 (by decide) (by decide)) GG_no rfl rfl rfl ⟨⟨_, rfl, rfl, rfl⟩, trivial⟩ ?_; rintro r bs' ext ⟨rfl, rfl⟩)
    | (refine call_roN [.g 0] (oldest_z [] 0 (-1) (by decide) (by decide)) GG_no rfl rfl ⟨.inr (.inl ⟨_, _, _, rfl, rfl⟩), trivial⟩ ⟨.inr ⟨rfl, _, rfl⟩, trivial⟩ ?_; rintro r bs' ext ⟨rfl, rfl⟩)
    | (refine call_ro [.n 2] (drop_z l2 _ 1 (by decide) rising2 flok2 [oneD 3 4] (by decide)) GG_no rfl rfl rfl ⟨⟨_, rfl, rfl, rfl⟩, trivial⟩ ?_; rintro r bs' ext ⟨dc, dm, hdc, rfl, rfl⟩)
    | (refine call_ro [.n 15, .n 2] (descs_z [oneD 3 4] _ _ _ _ 0 1 (by decide) atE_more (atE_drop (x := oneD 1 4)) (by decide)) GG_no rfl rfl rfl ⟨⟨_, rfl, rfl, rfl⟩, ⟨_, rfl, rfl, rfl⟩, trivial⟩ ?_; rintro r bs' ext ⟨rfl, rfl⟩)
    | (refine call_ro [.n 2] (right_z l2 _ 0 2 true (by decide) (by decide)) GG_no rfl rfl rfl ⟨⟨_, rfl, rfl, rfl⟩, trivial⟩ ?_; rintro r bs' ext ⟨rfl, rfl⟩)
    | (refine call_ro [.n 2] (right_z l2 _ 0 1 false (by decide) (by decide)) GG_no rfl rfl rfl ⟨⟨_, rfl, rfl, rfl⟩, trivial⟩ ?_; rintro r bs' ext ⟨rfl, rfl⟩)
    | (refine call_ro [.n 2] (right_z l2 _ 3 2 false (by decide) (by decide)) GG_no rfl rfl rfl ⟨⟨_, rfl, rfl, rfl⟩, trivial⟩ ?_; rintro r bs' ext ⟨rfl, rfl⟩)
    | (refine op_appN seat_ok rfl ?_)
    | (refine And.intro (⟨by decide, by decide⟩ : 2 < 2 + 1 ∧ (2 + 1) * _ ≤ 140737488355328) ?_)
    | (refine And.intro ⟨rfl, rfl, rfl, by first | (simp only [chunks_len, List.length_map, List.length_take, List.length_drop, List.length_append, List.length_cons, List.length_nil] <;> omega) | omega | rfl⟩ ?_)
    | (refine And.intro ⟨rfl, by first | (simp only [chunks_len, List.length_map, List.length_take, List.length_drop, List.length_append, List.length_cons, List.length_nil] <;> omega) | omega | rfl⟩ ?_)
    | (refine And.intro (by first | exact ⟨rfl, Nat.le_refl _⟩ | first | (simp only [chunks_len, List.length_map, List.length_take, List.length_drop, List.length_append, List.length_cons, List.length_nil] <;> omega) | omega | rfl) ?_)
    | (refine fun (caps : Nat → Nat) hcaps => ?_; conv at hcaps => whnf)
    | (refine fun (cap' : Nat) hcap' => ?_)
    | (refine And.intro (by omega) ?_)
    | (refine BB.mk (fun _h => ?_) (fun _h => ?_) <;> (first | (exact absurd _h (by decide)) | (exfalso; simp only [boolSet] at _h <;> omega) | skip)))
  all_goals (try conv => whnf)
  all_goals exact Fin.mk ⟨rfl, rfl⟩
end Go.Proofs.Ytfjankcpnhfogaa
