/- Law DescBounds, by computing. -/
import Derived.Test.YtfjankcpnhfogaaD09v
namespace Go.Proofs.Ytfjankcpnhfogaa
open Go.RowKit

def bZ (x : Int) : List CV := [.v (.int .u8 x)]
theorem bz_at {l : List Int} {k : Nat} {y : Int} (h : l[k]? = some y) : (l.map bZ)[0 + (k : Int).toNat]? = some [.v (.int .u8 y)] := by
  rw [Nat.zero_add, Int.toNat_natCast, List.getElem?_map, h]; rfl
theorem view_deOk {l : List De} {self room : Int} (h : ∀ y ∈ l, DeOk y) : ∀ y ∈ viewN l self room 256, DeOk y := view_ok_mem h
set_option maxRecDepth 100000 in
set_option maxHeartbeats 4000000 in
theorem boundsFew (l more : List De) (drops : List Int) (c1 c2 c3 : Nat) (self room : Int) (hl : l.length ≤ 9223372036854775807) (hml : more.length ≤ 9223372036854775807) (hdl : drops.length ≤ 9223372036854775807) (hok : ∀ y ∈ l, DeOk y) (hmok : ∀ y ∈ more, DeOk y) (hdr : ∀ y ∈ drops, 0 ≤ y ∧ y ≤ 255) (hrm : 0 ≤ room ∧ room ≤ 255) (hbad : (l.all (fun d => decide (d.fl.length ≤ 8)) && decide (l.length ≤ 20)) = false ∨ (more.all (fun d => decide (d.fl.length ≤ 8)) && decide (more.length ≤ 20)) = false) : FnOK Try.prog GG 4 [.ro 4 (l.map deC), .ro 4 (more.map deC), .ro 1 (drops.map bZ)] [.s (.o 0) 4 0 l.length c1, .s (.o 1) 4 0 more.length c2, .s (.o 2) 1 0 drops.length c3, .v (.int .u8 self), .v (.int .u8 room)] (fun r _ ext => r = .v (.bool true) ∧ ext = []) := by
  cases hfew : (l.all (fun d => decide (d.fl.length ≤ 8)) && decide (l.length ≤ 20)) with
  | false =>
    refine fn_val (C := seat) seat_ok [(11, (.of [(0, .take), (1, .take), (2, .take), (3, .take), (4, .take), (5, .take), (6, .take), (7, .take), (8, .take), (9, .take), (10, .take), (11, .take), (12, .take), (13, .take), (14, .take), (15, .do_), (16, .take), (17, .take), (18, .take), (19, .take), (20, .take), (21, .take), (22, .take), (23, .take), (24, .take), (25, .take), (26, .do_), (27, .take), (28, .take), (29, .take)])), (15, (.of [(0, .take), (1, .take), (2, .take), (3, .take), (4, .take), (5, .take), (6, .take), (7, .take), (8, .take), (9, .take), (10, .take), (11, .take), (12, .take), (13, .take), (14, .take), (15, .take), (16, .take), (17, .take), (18, .take), (19, .take), (20, .take), (21, .take), (22, .take), (23, .take), (24, .take), (25, .take), (26, .take), (27, .take), (28, .take), (29, .take), (30, .take), (31, .take), (32, .take), (33, .take), (34, .take), (35, .take)]))] GG_no (Try.func4) rfl rfl rfl rfl rfl (fun _ => rfl) rfl ?_
    repeat' ((try conv => whnf); first
      | (with_reducible refine BB_true ?_)
      | (with_reducible refine BB_false ?_)
      | (with_reducible refine Both.mk ?_ ?_)
      | (with_reducible refine VS.mk ?_)
      | (refine PSem.go (C := seat) seat_ok ?_)
      | (refine And.intro (PlanOK.mk (by kernel_rfl) rfl (by kernel_rfl) (by kernel_rfl)) ?_)
      | (refine And.intro rfl (Exists.intro _ (And.intro (by first | assumption | rfl) ?_)))
      | (refine And.intro ⟨rfl, rfl, rfl⟩ ?_)
      | (refine call_ro [.o 0] (few_b l c1 _ hl hfew) GG_no rfl rfl rfl ⟨⟨_, rfl, rfl, rfl⟩, trivial⟩ ?_; rintro r bs' ext ⟨rfl, rfl⟩)
      | (refine call_ro [] (awake_ok) GG_no rfl rfl rfl trivial ?_; rintro r bs' ext ⟨rfl, rfl⟩)
      | (refine And.intro (by omega) ?_)
      | (refine BB.mk (fun _h => ?_) (fun _h => ?_) <;> (first | (exact absurd _h (by decide)) | (exfalso; simp only [boolSet] at _h <;> omega) | skip)))
    all_goals (try conv => whnf)
    exact Fin.mk ⟨rfl, rfl⟩
  | true =>
    have hfew2 : (more.all (fun d => decide (d.fl.length ≤ 8)) && decide (more.length ≤ 20)) = false := by
      rcases hbad with h | h
      · rw [h] at hfew; cases hfew
      · exact h
    refine fn_val (C := seat) seat_ok [(11, (.of [(0, .take), (1, .take), (2, .take), (3, .take), (4, .take), (5, .take), (6, .take), (7, .take), (8, .take), (9, .take), (10, .take), (11, .take), (12, .take), (13, .take), (14, .take), (15, .do_), (16, .take), (17, .take), (18, .take), (19, .take), (20, .take), (21, .take), (22, .take), (23, .take), (24, .take), (25, .take), (26, .do_), (27, .take), (28, .take), (29, .take)])), (15, (.of [(0, .take), (1, .take), (2, .take), (3, .take), (4, .take), (5, .take), (6, .take), (7, .take), (8, .take), (9, .take), (10, .take), (11, .take), (12, .take), (13, .take), (14, .take), (15, .take), (16, .take), (17, .take), (18, .take), (19, .take), (20, .take), (21, .take), (22, .take), (23, .take), (24, .take), (25, .take), (26, .take), (27, .take), (28, .take), (29, .take), (30, .take), (31, .take), (32, .take), (33, .take), (34, .take), (35, .take)]))] GG_no (Try.func4) rfl rfl rfl rfl rfl (fun _ => rfl) rfl ?_
    repeat' ((try conv => whnf); first
      | (with_reducible refine BB_true ?_)
      | (with_reducible refine BB_false ?_)
      | (with_reducible refine Both.mk ?_ ?_)
      | (with_reducible refine VS.mk ?_)
      | (refine PSem.go (C := seat) seat_ok ?_)
      | (refine And.intro (PlanOK.mk (by kernel_rfl) rfl (by kernel_rfl) (by kernel_rfl)) ?_)
      | (refine And.intro rfl (Exists.intro _ (And.intro (by first | assumption | rfl) ?_)))
      | (refine And.intro ⟨rfl, rfl, rfl⟩ ?_)
      | (refine call_ro [.o 0] (few_b l c1 _ hl hfew) GG_no rfl rfl rfl ⟨⟨_, rfl, rfl, rfl⟩, trivial⟩ ?_; rintro r bs' ext ⟨rfl, rfl⟩)
      | (refine call_ro [.o 1] (few_b more c2 _ hml hfew2) GG_no rfl rfl rfl ⟨⟨_, rfl, rfl, rfl⟩, trivial⟩ ?_; rintro r bs' ext ⟨rfl, rfl⟩)
      | (refine call_ro [] (awake_ok) GG_no rfl rfl rfl trivial ?_; rintro r bs' ext ⟨rfl, rfl⟩)
      | (refine And.intro (by omega) ?_)
      | (refine BB.mk (fun _h => ?_) (fun _h => ?_) <;> (first | (exact absurd _h (by decide)) | (exfalso; simp only [boolSet] at _h <;> omega) | skip)))
    all_goals (try conv => whnf)
    exact Fin.mk ⟨rfl, rfl⟩
theorem put_e (l : List De) (cap : Nat) (hl : l.length ≤ 1099511627776) (hr : Rising l) (hf : FlOk l) (d : De) (cd : Nat) (hcd : d.fl.length ≤ cd) (hdl : d.fl.length ≤ 1099511627776) (self room : Int) (o : List De) (b : Bool) (he : putP l d self room = (o, b)) : FnOK Try.prog GG 19 [.ro 4 (l.map deC)] [.s (.o 0) 4 0 l.length cap, deS d cd, .v (.int .u8 self), .v (.int .i64 room)] (fun r _ ext => ∃ cap', (o).length ≤ cap' ∧ r = .tup [.s (.n 0) 4 0 (o).length cap', .v (.bool b)] ∧ ext = [.row 27 4 cap' ((o).map deC)]) := by
  have h := put_ok l cap hl hr hf d cd hcd hdl self room
  rw [he] at h
  exact h
theorem same_t (d : De) (c1 c2 : Nat) (hf : d.fl.length ≤ 1099511627776) : FnOK Try.prog GG 17 [] [deS d c1, deS d c2] (fun r _ ext => r = .v (.bool true) ∧ ext = []) := by
  have h := same_ok d d c1 c2 hf
  rw [decide_eq_true rfl] at h
  exact h
theorem put_okm {l : List De} {d : De} {self room : Int} (h : ∀ y ∈ l, DeOk y) (hd : DeOk d) : ∀ y ∈ (putP l d self room).1, DeOk y := fun y hy => by
  rcases put_mem hy with rfl | hy
  · exact hd
  · exact h y hy
theorem put_fl {l : List De} {d : De} {self room : Int} (h : FlOk l) (hd : d.fl.length ≤ 1099511627776) : FlOk (putP l d self room).1 := fun y hy => by
  rcases put_mem hy with rfl | hy
  · exact hd
  · exact h y hy
theorem older_okm {l : List De} (h : ∀ y ∈ l, DeOk y) : ∀ y ∈ l.map older, DeOk y := fun y hy => by
  obtain ⟨z, hz, rfl⟩ := List.mem_map.1 hy
  obtain ⟨h1, h2, h3⟩ := h z hz
  refine ⟨h1, h2, ?_⟩
  unfold older
  simp only
  split <;> omega
theorem older_fl {l : List De} (h : FlOk l) : FlOk (l.map older) := fun y hy => by
  obtain ⟨z, hz, rfl⟩ := List.mem_map.1 hy
  exact h z hz
theorem right_y (l : List De) (cap n : Nat) (self room : Int) (b : Bool) (hn : n = l.length) (hl : n ≤ 1099511627776) (hb : rightB l self room = b) : FnOK Try.prog GG 10 [.ro 4 (l.map deC)] [.s (.o 0) 4 0 n cap, .v (.int .u8 self), .v (.int .i64 room)] (fun r _ ext => r = .v (.bool b) ∧ ext = []) := by
  subst hn
  exact right_z l cap self room b hl hb
set_option maxRecDepth 100000 in
set_option maxHeartbeats 4000000 in
theorem boundsGood (l more : List De) (drops : List Int) (c1 c2 c3 : Nat) (self room : Int) (hl : l.length ≤ 9223372036854775807) (hml : more.length ≤ 9223372036854775807) (hdl : drops.length ≤ 9223372036854775807) (hok : ∀ y ∈ l, DeOk y) (hmok : ∀ y ∈ more, DeOk y) (hdr : ∀ y ∈ drops, 0 ≤ y ∧ y ≤ 255) (hrm : 0 ≤ room ∧ room ≤ 255) (hfew : (l.all (fun d => decide (d.fl.length ≤ 8)) && decide (l.length ≤ 20)) = true) (hfew2 : (more.all (fun d => decide (d.fl.length ≤ 8)) && decide (more.length ≤ 20)) = true) : FnOK Try.prog GG 4 [.ro 4 (l.map deC), .ro 4 (more.map deC), .ro 1 (drops.map bZ)] [.s (.o 0) 4 0 l.length c1, .s (.o 1) 4 0 more.length c2, .s (.o 2) 1 0 drops.length c3, .v (.int .u8 self), .v (.int .u8 room)] (fun r _ ext => r = .v (.bool true) ∧ ext = []) := by
  obtain ⟨hf, hl20⟩ := few_facts hfew
  obtain ⟨hmf, hml20⟩ := few_facts hfew2
  obtain ⟨N, hN⟩ : ∃ N, IntKind.i64.wrap (room.tmod 21) = N := ⟨_, rfl⟩
  have hN20 : 0 ≤ N ∧ N ≤ 20 := by
    rw [← hN, Int.tmod_eq_emod_of_nonneg hrm.1, IntKind.wrap_i64]
    omega
  have hV0 : VOk self N (viewN l self (IntKind.i64.wrap (room.tmod 21)) 256) := by
    rw [hN]
    exact VOk.view hN20.1 (fun y hy => (hok y hy).2.1.1)
  refine fn_val (C := seat) seat_ok [(11, (.of [(0, .take), (1, .take), (2, .take), (3, .take), (4, .take), (5, .take), (6, .take), (7, .take), (8, .take), (9, .take), (10, .take), (11, .take), (12, .take), (13, .take), (14, .take), (15, .do_), (16, .take), (17, .take), (18, .take), (19, .take), (20, .take), (21, .take), (22, .take), (23, .take), (24, .take), (25, .take), (26, .do_), (27, .take), (28, .take), (29, .take)])), (15, (.of [(0, .take), (1, .take), (2, .take), (3, .take), (4, .take), (5, .take), (6, .take), (7, .take), (8, .take), (9, .take), (10, .take), (11, .take), (12, .take), (13, .take), (14, .take), (15, .take), (16, .take), (17, .take), (18, .take), (19, .take), (20, .take), (21, .take), (22, .take), (23, .take), (24, .take), (25, .take), (26, .take), (27, .take), (28, .take), (29, .take), (30, .take), (31, .take), (32, .take), (33, .take), (34, .take), (35, .take)]))] GG_no (Try.func4) rfl rfl rfl rfl rfl (fun _ => rfl) rfl ?_
  repeat' ((try conv => whnf); first
    | (with_reducible refine BB_true ?_)
    | (with_reducible refine BB_false ?_)
    | (with_reducible refine Both.mk ?_ ?_)
    | (with_reducible refine VS.mk ?_)
    | (refine PSem.go (C := seat) seat_ok ?_)
    | (refine And.intro (PlanOK.mk (by kernel_rfl) rfl (by kernel_rfl) (by kernel_rfl)) ?_)
    | (refine And.intro rfl (Exists.intro _ (And.intro (by first | assumption | rfl) ?_)))
    | (refine And.intro ⟨rfl, rfl, rfl⟩ ?_)
    | (refine call_ro [.o 0] (few_b l c1 _ hl hfew) GG_no rfl rfl rfl ⟨⟨_, rfl, rfl, rfl⟩, trivial⟩ ?_; rintro r bs' ext ⟨rfl, rfl⟩)
    | (refine call_ro [.o 1] (few_b more c2 _ hml hfew2) GG_no rfl rfl rfl ⟨⟨_, rfl, rfl, rfl⟩, trivial⟩ ?_; rintro r bs' ext ⟨rfl, rfl⟩)
    | (refine call_ro [.o 0] (view_ok l c1 self _ (by omega) (fun y hy => (hok y hy).1)) GG_no rfl rfl rfl ⟨⟨_, rfl, rfl, rfl⟩, trivial⟩ ?_; rintro r bs' ext ⟨cv, hcv, rfl, rfl⟩)
    | (refine And.intro (by omega) ?_)
    | (refine BB.mk (fun _h => ?_) (fun _h => ?_) <;> (first | (exact absurd _h (by decide)) | (exfalso; simp only [boolSet] at _h <;> omega) | skip)))
  all_goals (try conv => whnf)
  refine loop_rule (α := Nat × List De × Nat) (fun p => p.1 ≤ more.length ∧ VOk self N p.2.1 ∧ (∀ y ∈ p.2.1, DeOk y) ∧ FlOk p.2.1 ∧ p.2.1.length ≤ p.2.2) (fun p => { slots := [(2, .s (.o 2) 1 0 drops.length c3), (3, .v (.int .u8 self)), (11, .v (.int .i64 N)), (12, .s (.n 0) 4 0 p.2.1.length p.2.2), (35, .s (.o 1) 4 0 more.length c2), (36, .v (.int .i64 more.length)), (37, .v (.int .i64 (p.1 : Int)))], nt := 193, mem := ⟨GG, [.ro 4 (l.map deC), .ro 4 (more.map deC), .ro 1 (drops.map bZ)], [.row 27 4 p.2.2 (p.2.1.map deC)]⟩ }) (fun p => more.length - p.1) (0, viewN l self (IntKind.i64.wrap (room.tmod 21)) 256, cv) ⟨Nat.zero_le _, hV0, view_ok_mem hok, view_fl hf, hcv⟩ ⟨⟨[0], (by decide), GG_no, rfl, (SubOld.refl _ rfl), ⟨.inr (.inl rfl), trivial⟩, ⟨.inl rfl, .inl rfl, .inl (num_eq hN), .inl rfl, .inl rfl, .inl rfl, .inl rfl, trivial⟩⟩, rfl⟩ ?_ (fun _ => rfl)
  rintro ⟨k, v, cv⟩ ⟨hk, hV, hvok, hvf, hcv⟩
  dsimp only at hk hV hvok hvf hcv ⊢
  have hvl := hV.len
  refine vc_sound (C := seat) seat_ok (pl := [(11, (.of [(0, .take), (1, .take), (2, .take), (3, .take), (4, .take), (5, .take), (6, .take), (7, .take), (8, .take), (9, .take), (10, .take), (11, .take), (12, .take), (13, .take), (14, .take), (15, .do_), (16, .take), (17, .take), (18, .take), (19, .take), (20, .take), (21, .take), (22, .take), (23, .take), (24, .take), (25, .take), (26, .do_), (27, .take), (28, .take), (29, .take)])), (15, (.of [(0, .take), (1, .take), (2, .take), (3, .take), (4, .take), (5, .take), (6, .take), (7, .take), (8, .take), (9, .take), (10, .take), (11, .take), (12, .take), (13, .take), (14, .take), (15, .take), (16, .take), (17, .take), (18, .take), (19, .take), (20, .take), (21, .take), (22, .take), (23, .take), (24, .take), (25, .take), (26, .take), (27, .take), (28, .take), (29, .take), (30, .take), (31, .take), (32, .take), (33, .take), (34, .take), (35, .take)]))]) ?_
  by_cases hlt : k < more.length
  · obtain ⟨d, hd⟩ : ∃ d, more[k]? = some d := ⟨_, List.getElem?_eq_getElem hlt⟩
    have hrow := de_at hd
    have hdm := List.mem_of_getElem? hd
    have hdo := hmok d hdm
    have hdi := hdo.2.1.1
    have hdf := hmf d hdm
    have hX := hV.put d
    have hXo := put_okm (self := self) (room := N) hvok hdo
    have hXf := put_fl (self := self) (room := N) hvf hdf
    rcases put_found hV (fun y hy => (hvok y hy).2.1.1) d hdo.2.1.1 with ⟨kk, h1, hF, hg⟩ | ⟨he, hF, hw⟩ | ⟨kk, y, he, hF, hg, hnb⟩
    · have he : putP v d self N = ((putP v d self N).1, true) := by rw [← h1]
      generalize (putP v d self N).1 = nx at he hF hg hX hXo hXf
      have hkk := getElem?_lt hg
      have hrow2 := de_at hg
      have hxl := hX.len
      by_cases hdk : k < drops.length
      · obtain ⟨z, hzd⟩ : ∃ z, drops[k]? = some z := ⟨_, List.getElem?_eq_getElem hdk⟩
        have hrowd := bz_at hzd
        repeat' ((try conv => whnf); first
          | (with_reducible refine BB_true ?_)
          | (with_reducible refine BB_false ?_)
          | (with_reducible refine Both.mk ?_ ?_)
          | (with_reducible refine VS.mk ?_)
          | (refine PSem.go (C := seat) seat_ok ?_)
          | (refine And.intro (PlanOK.mk (by kernel_rfl) rfl (by kernel_rfl) (by kernel_rfl)) ?_)
          | (refine And.intro rfl (Exists.intro _ (And.intro (by first | assumption | rfl) ?_)))
          | (refine And.intro ⟨rfl, rfl, rfl⟩ ?_)
          | (refine call_ro [.n 0] (put_e v cv (by omega) hV.rising hvf d _ (by simpa using hcaps.1) hdf self N nx true he) GG_no rfl rfl rfl ⟨⟨_, rfl, rfl, rfl⟩, trivial⟩ ?_; rintro r bs' ext ⟨c1x, hc1x, rfl, rfl⟩)
          | (refine call_ro [.n 2] (find_z nx c1x d.node (by omega) hX.rising _ hF) GG_no rfl rfl rfl ⟨⟨_, rfl, rfl, rfl⟩, trivial⟩ ?_; rintro r bs' ext ⟨rfl, rfl⟩)
          | (refine call_ro [] (same_t d _ _ hdf) GG_no rfl rfl rfl trivial ?_; rintro r bs' ext ⟨rfl, rfl⟩)
          | (refine call_ro [.n 2, .n 0] (descs_z v _ _ _ _ 0 0 (by omega) atE_map atE_map hvf) GG_no rfl rfl rfl ⟨⟨_, rfl, rfl, rfl⟩, ⟨_, rfl, rfl, rfl⟩, trivial⟩ ?_; rintro r bs' ext ⟨rfl, rfl⟩)
          | (refine call_ro [.n 2] (drop_ok nx c1x _ (by omega) hX.rising hXf) GG_no rfl rfl rfl ⟨⟨_, rfl, rfl, rfl⟩, trivial⟩ ?_; rintro r bs' ext ⟨c2x, m2x, hc2x, rfl, rfl⟩)
          | (refine call_cut 3 rfl ?_; refine call_ro [.n 3] (find_z (dropL _ nx) c2x _ (Nat.le_trans drop_len (by omega)) (drop_rising hX.rising) (-1) (find_none (drop_none hX.rising))) GG_no rfl rfl rfl ⟨⟨_, rfl, rfl, rfl⟩, trivial⟩ ?_; rintro r bs' ext ⟨rfl, rfl⟩)
          | (refine call_ro [.n 2] (older_ok nx c1x (by omega) hXf (fun y hy => (hXo y hy).2.2)) GG_no rfl rfl rfl ⟨⟨_, rfl, rfl, rfl⟩, trivial⟩ ?_; rintro r bs' ext ⟨c3x, hc3x, rfl, rfl⟩)
          | (refine call_ro [.n 2] (right_y nx c1x _ self N true rfl (by omega) hX.right) GG_no rfl rfl rfl ⟨⟨_, rfl, rfl, rfl⟩, trivial⟩ ?_; rintro r bs' ext ⟨rfl, rfl⟩)
          | (refine call_ro [.n 3] (right_y (dropL _ nx) c2x _ self N true rfl (Nat.le_trans drop_len (by omega)) (hX.drop _).right) GG_no rfl rfl rfl ⟨⟨_, rfl, rfl, rfl⟩, trivial⟩ ?_; rintro r bs' ext ⟨rfl, rfl⟩)
          | (refine call_ro [.n 3] (right_y (nx.map older) c3x _ self N true (by rw [List.length_map]) (by omega) hX.older.right) GG_no rfl rfl rfl ⟨⟨_, rfl, rfl, rfl⟩, trivial⟩ ?_; rintro r bs' ext ⟨rfl, rfl⟩)
          | (refine BB.mk (fun _h => ?_) (fun _h => ?_) <;> (first | (exact absurd _h (by decide)) | (exfalso; simp only [boolSet] at _h <;> omega) | (simp only [boolSet] at _h) | skip))
          | (refine And.intro ⟨rfl, rfl, rfl, by first | (simp only [chunks_len, List.length_map, List.length_take, List.length_drop, List.length_append, List.length_cons, List.length_nil] <;> omega) | omega | rfl⟩ ?_)
          | (refine And.intro ⟨rfl, by first | (simp only [chunks_len, List.length_map, List.length_take, List.length_drop, List.length_append, List.length_cons, List.length_nil] <;> omega) | omega | rfl⟩ ?_)
          | (refine And.intro (by first | exact ⟨rfl, Nat.le_refl _⟩ | first | (simp only [chunks_len, List.length_map, List.length_take, List.length_drop, List.length_append, List.length_cons, List.length_nil] <;> omega) | omega | rfl) ?_)
          | (refine fun (caps : Nat → Nat) hcaps => ?_; conv at hcaps => whnf)
          | (refine fun (cap' : Nat) hcap' => ?_)
          | (refine And.intro (by omega) ?_)
          | (refine BB.mk (fun _h => ?_) (fun _h => ?_) <;> (first | (exact absurd _h (by decide)) | (exfalso; simp only [boolSet] at _h <;> omega) | skip)))
        all_goals (try conv => whnf)
        all_goals first
          | (exact Fin.mk ⟨rfl, rfl⟩)
          | (refine ⟨(k + 1, nx, c1x), ⟨by dsimp only; omega, hX, hXo, hXf, hc1x⟩, by dsimp only; omega, ⟨⟨[2], by decide, GG_no, rfl, SubOld.refl _ rfl, ⟨.inr (.inl rfl), trivial⟩, ⟨.inl rfl, .inl rfl, .inl rfl, .inl rfl, .inl rfl, .inl rfl, .inl (num_eq (by rw [IntKind.wrap_i64]; dsimp only; omega)), trivial⟩⟩, rfl⟩⟩)
          | (refine ⟨(k + 1, dropL _ nx, c2x), ⟨by dsimp only; omega, hX.drop _, fun y hy => hXo y (drop_mem hy), fun y hy => hXf y (drop_mem hy), hc2x⟩, by dsimp only; omega, ⟨⟨[3], by decide, GG_no, rfl, SubOld.refl _ rfl, ⟨.inr (.inl rfl), trivial⟩, ⟨.inl rfl, .inl rfl, .inl rfl, .inl rfl, .inl rfl, .inl rfl, .inl (num_eq (by rw [IntKind.wrap_i64]; dsimp only; omega)), trivial⟩⟩, rfl⟩⟩)
          | (refine ⟨(k + 1, nx.map older, c3x), ⟨by dsimp only; omega, hX.older, older_okm hXo, older_fl hXf, by dsimp only; rw [List.length_map]; exact hc3x⟩, by dsimp only; omega, ⟨⟨[3], by decide, GG_no, rfl, SubOld.refl _ rfl, ⟨.inr (.inl rfl), trivial⟩, ⟨.inl rfl, .inl rfl, .inl rfl, .inl (by dsimp only; rw [List.length_map]; rfl), .inl rfl, .inl rfl, .inl (num_eq (by rw [IntKind.wrap_i64]; dsimp only; omega)), trivial⟩⟩, rfl⟩⟩)
      · skip
        repeat' ((try conv => whnf); first
          | (with_reducible refine BB_true ?_)
          | (with_reducible refine BB_false ?_)
          | (with_reducible refine Both.mk ?_ ?_)
          | (with_reducible refine VS.mk ?_)
          | (refine PSem.go (C := seat) seat_ok ?_)
          | (refine And.intro (PlanOK.mk (by kernel_rfl) rfl (by kernel_rfl) (by kernel_rfl)) ?_)
          | (refine And.intro rfl (Exists.intro _ (And.intro (by first | assumption | rfl) ?_)))
          | (refine And.intro ⟨rfl, rfl, rfl⟩ ?_)
          | (refine call_ro [.n 0] (put_e v cv (by omega) hV.rising hvf d _ (by simpa using hcaps.1) hdf self N nx true he) GG_no rfl rfl rfl ⟨⟨_, rfl, rfl, rfl⟩, trivial⟩ ?_; rintro r bs' ext ⟨c1x, hc1x, rfl, rfl⟩)
          | (refine call_ro [.n 2] (find_z nx c1x d.node (by omega) hX.rising _ hF) GG_no rfl rfl rfl ⟨⟨_, rfl, rfl, rfl⟩, trivial⟩ ?_; rintro r bs' ext ⟨rfl, rfl⟩)
          | (refine call_ro [] (same_t d _ _ hdf) GG_no rfl rfl rfl trivial ?_; rintro r bs' ext ⟨rfl, rfl⟩)
          | (refine call_ro [.n 2, .n 0] (descs_z v _ _ _ _ 0 0 (by omega) atE_map atE_map hvf) GG_no rfl rfl rfl ⟨⟨_, rfl, rfl, rfl⟩, ⟨_, rfl, rfl, rfl⟩, trivial⟩ ?_; rintro r bs' ext ⟨rfl, rfl⟩)
          | (refine call_ro [.n 2] (drop_ok nx c1x _ (by omega) hX.rising hXf) GG_no rfl rfl rfl ⟨⟨_, rfl, rfl, rfl⟩, trivial⟩ ?_; rintro r bs' ext ⟨c2x, m2x, hc2x, rfl, rfl⟩)
          | (refine call_cut 3 rfl ?_; refine call_ro [.n 3] (find_z (dropL _ nx) c2x _ (Nat.le_trans drop_len (by omega)) (drop_rising hX.rising) (-1) (find_none (drop_none hX.rising))) GG_no rfl rfl rfl ⟨⟨_, rfl, rfl, rfl⟩, trivial⟩ ?_; rintro r bs' ext ⟨rfl, rfl⟩)
          | (refine call_ro [.n 2] (older_ok nx c1x (by omega) hXf (fun y hy => (hXo y hy).2.2)) GG_no rfl rfl rfl ⟨⟨_, rfl, rfl, rfl⟩, trivial⟩ ?_; rintro r bs' ext ⟨c3x, hc3x, rfl, rfl⟩)
          | (refine call_ro [.n 2] (right_y nx c1x _ self N true rfl (by omega) hX.right) GG_no rfl rfl rfl ⟨⟨_, rfl, rfl, rfl⟩, trivial⟩ ?_; rintro r bs' ext ⟨rfl, rfl⟩)
          | (refine call_ro [.n 3] (right_y (dropL _ nx) c2x _ self N true rfl (Nat.le_trans drop_len (by omega)) (hX.drop _).right) GG_no rfl rfl rfl ⟨⟨_, rfl, rfl, rfl⟩, trivial⟩ ?_; rintro r bs' ext ⟨rfl, rfl⟩)
          | (refine call_ro [.n 3] (right_y (nx.map older) c3x _ self N true (by rw [List.length_map]) (by omega) hX.older.right) GG_no rfl rfl rfl ⟨⟨_, rfl, rfl, rfl⟩, trivial⟩ ?_; rintro r bs' ext ⟨rfl, rfl⟩)
          | (refine BB.mk (fun _h => ?_) (fun _h => ?_) <;> (first | (exact absurd _h (by decide)) | (exfalso; simp only [boolSet] at _h <;> omega) | (simp only [boolSet] at _h) | skip))
          | (refine And.intro ⟨rfl, rfl, rfl, by first | (simp only [chunks_len, List.length_map, List.length_take, List.length_drop, List.length_append, List.length_cons, List.length_nil] <;> omega) | omega | rfl⟩ ?_)
          | (refine And.intro ⟨rfl, by first | (simp only [chunks_len, List.length_map, List.length_take, List.length_drop, List.length_append, List.length_cons, List.length_nil] <;> omega) | omega | rfl⟩ ?_)
          | (refine And.intro (by first | exact ⟨rfl, Nat.le_refl _⟩ | first | (simp only [chunks_len, List.length_map, List.length_take, List.length_drop, List.length_append, List.length_cons, List.length_nil] <;> omega) | omega | rfl) ?_)
          | (refine fun (caps : Nat → Nat) hcaps => ?_; conv at hcaps => whnf)
          | (refine fun (cap' : Nat) hcap' => ?_)
          | (refine And.intro (by omega) ?_)
          | (refine BB.mk (fun _h => ?_) (fun _h => ?_) <;> (first | (exact absurd _h (by decide)) | (exfalso; simp only [boolSet] at _h <;> omega) | skip)))
        all_goals (try conv => whnf)
        all_goals first
          | (exact Fin.mk ⟨rfl, rfl⟩)
          | (refine ⟨(k + 1, nx, c1x), ⟨by dsimp only; omega, hX, hXo, hXf, hc1x⟩, by dsimp only; omega, ⟨⟨[2], by decide, GG_no, rfl, SubOld.refl _ rfl, ⟨.inr (.inl rfl), trivial⟩, ⟨.inl rfl, .inl rfl, .inl rfl, .inl rfl, .inl rfl, .inl rfl, .inl (num_eq (by rw [IntKind.wrap_i64]; dsimp only; omega)), trivial⟩⟩, rfl⟩⟩)
          | (refine ⟨(k + 1, dropL _ nx, c2x), ⟨by dsimp only; omega, hX.drop _, fun y hy => hXo y (drop_mem hy), fun y hy => hXf y (drop_mem hy), hc2x⟩, by dsimp only; omega, ⟨⟨[3], by decide, GG_no, rfl, SubOld.refl _ rfl, ⟨.inr (.inl rfl), trivial⟩, ⟨.inl rfl, .inl rfl, .inl rfl, .inl rfl, .inl rfl, .inl rfl, .inl (num_eq (by rw [IntKind.wrap_i64]; dsimp only; omega)), trivial⟩⟩, rfl⟩⟩)
          | (refine ⟨(k + 1, nx.map older, c3x), ⟨by dsimp only; omega, hX.older, older_okm hXo, older_fl hXf, by dsimp only; rw [List.length_map]; exact hc3x⟩, by dsimp only; omega, ⟨⟨[3], by decide, GG_no, rfl, SubOld.refl _ rfl, ⟨.inr (.inl rfl), trivial⟩, ⟨.inl rfl, .inl rfl, .inl rfl, .inl (by dsimp only; rw [List.length_map]; rfl), .inl rfl, .inl rfl, .inl (num_eq (by rw [IntKind.wrap_i64]; dsimp only; omega)), trivial⟩⟩, rfl⟩⟩)
    · rw [he] at hX hXo hXf
      dsimp only at hX hXo hXf
      by_cases hdk : k < drops.length
      · obtain ⟨z, hzd⟩ : ∃ z, drops[k]? = some z := ⟨_, List.getElem?_eq_getElem hdk⟩
        have hrowd := bz_at hzd
        repeat' ((try conv => whnf); first
          | (with_reducible refine BB_true ?_)
          | (with_reducible refine BB_false ?_)
          | (with_reducible refine Both.mk ?_ ?_)
          | (with_reducible refine VS.mk ?_)
          | (refine PSem.go (C := seat) seat_ok ?_)
          | (refine And.intro (PlanOK.mk (by kernel_rfl) rfl (by kernel_rfl) (by kernel_rfl)) ?_)
          | (refine And.intro rfl (Exists.intro _ (And.intro (by first | assumption | rfl) ?_)))
          | (refine And.intro ⟨rfl, rfl, rfl⟩ ?_)
          | (refine call_ro [.n 0] (put_e v cv (by omega) hV.rising hvf d _ (by simpa using hcaps.1) hdf self N v false he) GG_no rfl rfl rfl ⟨⟨_, rfl, rfl, rfl⟩, trivial⟩ ?_; rintro r bs' ext ⟨c1x, hc1x, rfl, rfl⟩)
          | (refine call_ro [.n 2] (find_z v c1x d.node (by omega) hX.rising _ hF) GG_no rfl rfl rfl ⟨⟨_, rfl, rfl, rfl⟩, trivial⟩ ?_; rintro r bs' ext ⟨rfl, rfl⟩)
          | (refine call_ro [] (same_t d _ _ hdf) GG_no rfl rfl rfl trivial ?_; rintro r bs' ext ⟨rfl, rfl⟩)
          | (refine call_ro [.n 2, .n 0] (descs_z v _ _ _ _ 0 0 (by omega) atE_map atE_map hvf) GG_no rfl rfl rfl ⟨⟨_, rfl, rfl, rfl⟩, ⟨_, rfl, rfl, rfl⟩, trivial⟩ ?_; rintro r bs' ext ⟨rfl, rfl⟩)
          | (refine call_ro [.n 2] (drop_ok v c1x _ (by omega) hX.rising hXf) GG_no rfl rfl rfl ⟨⟨_, rfl, rfl, rfl⟩, trivial⟩ ?_; rintro r bs' ext ⟨c2x, m2x, hc2x, rfl, rfl⟩)
          | (refine call_cut 3 rfl ?_; refine call_ro [.n 3] (find_z (dropL _ v) c2x _ (Nat.le_trans drop_len (by omega)) (drop_rising hX.rising) (-1) (find_none (drop_none hX.rising))) GG_no rfl rfl rfl ⟨⟨_, rfl, rfl, rfl⟩, trivial⟩ ?_; rintro r bs' ext ⟨rfl, rfl⟩)
          | (refine call_ro [.n 2] (older_ok v c1x (by omega) hXf (fun y hy => (hXo y hy).2.2)) GG_no rfl rfl rfl ⟨⟨_, rfl, rfl, rfl⟩, trivial⟩ ?_; rintro r bs' ext ⟨c3x, hc3x, rfl, rfl⟩)
          | (refine call_ro [.n 2] (right_y v c1x _ self N true rfl (by omega) hX.right) GG_no rfl rfl rfl ⟨⟨_, rfl, rfl, rfl⟩, trivial⟩ ?_; rintro r bs' ext ⟨rfl, rfl⟩)
          | (refine call_ro [.n 3] (right_y (dropL _ v) c2x _ self N true rfl (Nat.le_trans drop_len (by omega)) (hX.drop _).right) GG_no rfl rfl rfl ⟨⟨_, rfl, rfl, rfl⟩, trivial⟩ ?_; rintro r bs' ext ⟨rfl, rfl⟩)
          | (refine call_ro [.n 3] (right_y (v.map older) c3x _ self N true (by rw [List.length_map]) (by omega) hX.older.right) GG_no rfl rfl rfl ⟨⟨_, rfl, rfl, rfl⟩, trivial⟩ ?_; rintro r bs' ext ⟨rfl, rfl⟩)
          | (refine BB.mk (fun _h => ?_) (fun _h => ?_) <;> (first | (exact absurd _h (by decide)) | (exfalso; simp only [boolSet] at _h <;> omega) | (simp only [boolSet] at _h) | skip))
          | (refine And.intro ⟨rfl, rfl, rfl, by first | (simp only [chunks_len, List.length_map, List.length_take, List.length_drop, List.length_append, List.length_cons, List.length_nil] <;> omega) | omega | rfl⟩ ?_)
          | (refine And.intro ⟨rfl, by first | (simp only [chunks_len, List.length_map, List.length_take, List.length_drop, List.length_append, List.length_cons, List.length_nil] <;> omega) | omega | rfl⟩ ?_)
          | (refine And.intro (by first | exact ⟨rfl, Nat.le_refl _⟩ | first | (simp only [chunks_len, List.length_map, List.length_take, List.length_drop, List.length_append, List.length_cons, List.length_nil] <;> omega) | omega | rfl) ?_)
          | (refine fun (caps : Nat → Nat) hcaps => ?_; conv at hcaps => whnf)
          | (refine fun (cap' : Nat) hcap' => ?_)
          | (refine And.intro (by omega) ?_)
          | (refine BB.mk (fun _h => ?_) (fun _h => ?_) <;> (first | (exact absurd _h (by decide)) | (exfalso; simp only [boolSet] at _h <;> omega) | skip)))
        all_goals (try conv => whnf)
        all_goals first
          | (exact Fin.mk ⟨rfl, rfl⟩)
          | (refine ⟨(k + 1, v, c1x), ⟨by dsimp only; omega, hX, hXo, hXf, hc1x⟩, by dsimp only; omega, ⟨⟨[2], by decide, GG_no, rfl, SubOld.refl _ rfl, ⟨.inr (.inl rfl), trivial⟩, ⟨.inl rfl, .inl rfl, .inl rfl, .inl rfl, .inl rfl, .inl rfl, .inl (num_eq (by rw [IntKind.wrap_i64]; dsimp only; omega)), trivial⟩⟩, rfl⟩⟩)
          | (refine ⟨(k + 1, dropL _ v, c2x), ⟨by dsimp only; omega, hX.drop _, fun y hy => hXo y (drop_mem hy), fun y hy => hXf y (drop_mem hy), hc2x⟩, by dsimp only; omega, ⟨⟨[3], by decide, GG_no, rfl, SubOld.refl _ rfl, ⟨.inr (.inl rfl), trivial⟩, ⟨.inl rfl, .inl rfl, .inl rfl, .inl rfl, .inl rfl, .inl rfl, .inl (num_eq (by rw [IntKind.wrap_i64]; dsimp only; omega)), trivial⟩⟩, rfl⟩⟩)
          | (refine ⟨(k + 1, v.map older, c3x), ⟨by dsimp only; omega, hX.older, older_okm hXo, older_fl hXf, by dsimp only; rw [List.length_map]; exact hc3x⟩, by dsimp only; omega, ⟨⟨[3], by decide, GG_no, rfl, SubOld.refl _ rfl, ⟨.inr (.inl rfl), trivial⟩, ⟨.inl rfl, .inl rfl, .inl rfl, .inl (by dsimp only; rw [List.length_map]; rfl), .inl rfl, .inl rfl, .inl (num_eq (by rw [IntKind.wrap_i64]; dsimp only; omega)), trivial⟩⟩, rfl⟩⟩)
      · skip
        repeat' ((try conv => whnf); first
          | (with_reducible refine BB_true ?_)
          | (with_reducible refine BB_false ?_)
          | (with_reducible refine Both.mk ?_ ?_)
          | (with_reducible refine VS.mk ?_)
          | (refine PSem.go (C := seat) seat_ok ?_)
          | (refine And.intro (PlanOK.mk (by kernel_rfl) rfl (by kernel_rfl) (by kernel_rfl)) ?_)
          | (refine And.intro rfl (Exists.intro _ (And.intro (by first | assumption | rfl) ?_)))
          | (refine And.intro ⟨rfl, rfl, rfl⟩ ?_)
          | (refine call_ro [.n 0] (put_e v cv (by omega) hV.rising hvf d _ (by simpa using hcaps.1) hdf self N v false he) GG_no rfl rfl rfl ⟨⟨_, rfl, rfl, rfl⟩, trivial⟩ ?_; rintro r bs' ext ⟨c1x, hc1x, rfl, rfl⟩)
          | (refine call_ro [.n 2] (find_z v c1x d.node (by omega) hX.rising _ hF) GG_no rfl rfl rfl ⟨⟨_, rfl, rfl, rfl⟩, trivial⟩ ?_; rintro r bs' ext ⟨rfl, rfl⟩)
          | (refine call_ro [] (same_t d _ _ hdf) GG_no rfl rfl rfl trivial ?_; rintro r bs' ext ⟨rfl, rfl⟩)
          | (refine call_ro [.n 2, .n 0] (descs_z v _ _ _ _ 0 0 (by omega) atE_map atE_map hvf) GG_no rfl rfl rfl ⟨⟨_, rfl, rfl, rfl⟩, ⟨_, rfl, rfl, rfl⟩, trivial⟩ ?_; rintro r bs' ext ⟨rfl, rfl⟩)
          | (refine call_ro [.n 2] (drop_ok v c1x _ (by omega) hX.rising hXf) GG_no rfl rfl rfl ⟨⟨_, rfl, rfl, rfl⟩, trivial⟩ ?_; rintro r bs' ext ⟨c2x, m2x, hc2x, rfl, rfl⟩)
          | (refine call_cut 3 rfl ?_; refine call_ro [.n 3] (find_z (dropL _ v) c2x _ (Nat.le_trans drop_len (by omega)) (drop_rising hX.rising) (-1) (find_none (drop_none hX.rising))) GG_no rfl rfl rfl ⟨⟨_, rfl, rfl, rfl⟩, trivial⟩ ?_; rintro r bs' ext ⟨rfl, rfl⟩)
          | (refine call_ro [.n 2] (older_ok v c1x (by omega) hXf (fun y hy => (hXo y hy).2.2)) GG_no rfl rfl rfl ⟨⟨_, rfl, rfl, rfl⟩, trivial⟩ ?_; rintro r bs' ext ⟨c3x, hc3x, rfl, rfl⟩)
          | (refine call_ro [.n 2] (right_y v c1x _ self N true rfl (by omega) hX.right) GG_no rfl rfl rfl ⟨⟨_, rfl, rfl, rfl⟩, trivial⟩ ?_; rintro r bs' ext ⟨rfl, rfl⟩)
          | (refine call_ro [.n 3] (right_y (dropL _ v) c2x _ self N true rfl (Nat.le_trans drop_len (by omega)) (hX.drop _).right) GG_no rfl rfl rfl ⟨⟨_, rfl, rfl, rfl⟩, trivial⟩ ?_; rintro r bs' ext ⟨rfl, rfl⟩)
          | (refine call_ro [.n 3] (right_y (v.map older) c3x _ self N true (by rw [List.length_map]) (by omega) hX.older.right) GG_no rfl rfl rfl ⟨⟨_, rfl, rfl, rfl⟩, trivial⟩ ?_; rintro r bs' ext ⟨rfl, rfl⟩)
          | (refine BB.mk (fun _h => ?_) (fun _h => ?_) <;> (first | (exact absurd _h (by decide)) | (exfalso; simp only [boolSet] at _h <;> omega) | (simp only [boolSet] at _h) | skip))
          | (refine And.intro ⟨rfl, rfl, rfl, by first | (simp only [chunks_len, List.length_map, List.length_take, List.length_drop, List.length_append, List.length_cons, List.length_nil] <;> omega) | omega | rfl⟩ ?_)
          | (refine And.intro ⟨rfl, by first | (simp only [chunks_len, List.length_map, List.length_take, List.length_drop, List.length_append, List.length_cons, List.length_nil] <;> omega) | omega | rfl⟩ ?_)
          | (refine And.intro (by first | exact ⟨rfl, Nat.le_refl _⟩ | first | (simp only [chunks_len, List.length_map, List.length_take, List.length_drop, List.length_append, List.length_cons, List.length_nil] <;> omega) | omega | rfl) ?_)
          | (refine fun (caps : Nat → Nat) hcaps => ?_; conv at hcaps => whnf)
          | (refine fun (cap' : Nat) hcap' => ?_)
          | (refine And.intro (by omega) ?_)
          | (refine BB.mk (fun _h => ?_) (fun _h => ?_) <;> (first | (exact absurd _h (by decide)) | (exfalso; simp only [boolSet] at _h <;> omega) | skip)))
        all_goals (try conv => whnf)
        all_goals first
          | (exact Fin.mk ⟨rfl, rfl⟩)
          | (refine ⟨(k + 1, v, c1x), ⟨by dsimp only; omega, hX, hXo, hXf, hc1x⟩, by dsimp only; omega, ⟨⟨[2], by decide, GG_no, rfl, SubOld.refl _ rfl, ⟨.inr (.inl rfl), trivial⟩, ⟨.inl rfl, .inl rfl, .inl rfl, .inl rfl, .inl rfl, .inl rfl, .inl (num_eq (by rw [IntKind.wrap_i64]; dsimp only; omega)), trivial⟩⟩, rfl⟩⟩)
          | (refine ⟨(k + 1, dropL _ v, c2x), ⟨by dsimp only; omega, hX.drop _, fun y hy => hXo y (drop_mem hy), fun y hy => hXf y (drop_mem hy), hc2x⟩, by dsimp only; omega, ⟨⟨[3], by decide, GG_no, rfl, SubOld.refl _ rfl, ⟨.inr (.inl rfl), trivial⟩, ⟨.inl rfl, .inl rfl, .inl rfl, .inl rfl, .inl rfl, .inl rfl, .inl (num_eq (by rw [IntKind.wrap_i64]; dsimp only; omega)), trivial⟩⟩, rfl⟩⟩)
          | (refine ⟨(k + 1, v.map older, c3x), ⟨by dsimp only; omega, hX.older, older_okm hXo, older_fl hXf, by dsimp only; rw [List.length_map]; exact hc3x⟩, by dsimp only; omega, ⟨⟨[3], by decide, GG_no, rfl, SubOld.refl _ rfl, ⟨.inr (.inl rfl), trivial⟩, ⟨.inl rfl, .inl rfl, .inl rfl, .inl (by dsimp only; rw [List.length_map]; rfl), .inl rfl, .inl rfl, .inl (num_eq (by rw [IntKind.wrap_i64]; dsimp only; omega)), trivial⟩⟩, rfl⟩⟩)
    · rw [he] at hX hXo hXf
      dsimp only at hX hXo hXf
      have hkk := getElem?_lt hg
      have hrow2 := de_at hg
      unfold newB at hnb
      simp only [Bool.or_eq_false_iff, Bool.and_eq_false_iff, decide_eq_false_iff_not] at hnb
      by_cases hdk : k < drops.length
      · obtain ⟨z, hzd⟩ : ∃ z, drops[k]? = some z := ⟨_, List.getElem?_eq_getElem hdk⟩
        have hrowd := bz_at hzd
        repeat' ((try conv => whnf); first
          | (with_reducible refine BB_true ?_)
          | (with_reducible refine BB_false ?_)
          | (with_reducible refine Both.mk ?_ ?_)
          | (with_reducible refine VS.mk ?_)
          | (refine PSem.go (C := seat) seat_ok ?_)
          | (refine And.intro (PlanOK.mk (by kernel_rfl) rfl (by kernel_rfl) (by kernel_rfl)) ?_)
          | (refine And.intro rfl (Exists.intro _ (And.intro (by first | assumption | rfl) ?_)))
          | (refine And.intro ⟨rfl, rfl, rfl⟩ ?_)
          | (refine call_ro [.n 0] (put_e v cv (by omega) hV.rising hvf d _ (by simpa using hcaps.1) hdf self N v false he) GG_no rfl rfl rfl ⟨⟨_, rfl, rfl, rfl⟩, trivial⟩ ?_; rintro r bs' ext ⟨c1x, hc1x, rfl, rfl⟩)
          | (refine call_ro [.n 2] (find_z v c1x d.node (by omega) hX.rising _ hF) GG_no rfl rfl rfl ⟨⟨_, rfl, rfl, rfl⟩, trivial⟩ ?_; rintro r bs' ext ⟨rfl, rfl⟩)
          | (refine call_ro [] (same_t d _ _ hdf) GG_no rfl rfl rfl trivial ?_; rintro r bs' ext ⟨rfl, rfl⟩)
          | (refine call_ro [.n 2, .n 0] (descs_z v _ _ _ _ 0 0 (by omega) atE_map atE_map hvf) GG_no rfl rfl rfl ⟨⟨_, rfl, rfl, rfl⟩, ⟨_, rfl, rfl, rfl⟩, trivial⟩ ?_; rintro r bs' ext ⟨rfl, rfl⟩)
          | (refine call_ro [.n 2] (drop_ok v c1x _ (by omega) hX.rising hXf) GG_no rfl rfl rfl ⟨⟨_, rfl, rfl, rfl⟩, trivial⟩ ?_; rintro r bs' ext ⟨c2x, m2x, hc2x, rfl, rfl⟩)
          | (refine call_cut 3 rfl ?_; refine call_ro [.n 3] (find_z (dropL _ v) c2x _ (Nat.le_trans drop_len (by omega)) (drop_rising hX.rising) (-1) (find_none (drop_none hX.rising))) GG_no rfl rfl rfl ⟨⟨_, rfl, rfl, rfl⟩, trivial⟩ ?_; rintro r bs' ext ⟨rfl, rfl⟩)
          | (refine call_ro [.n 2] (older_ok v c1x (by omega) hXf (fun y hy => (hXo y hy).2.2)) GG_no rfl rfl rfl ⟨⟨_, rfl, rfl, rfl⟩, trivial⟩ ?_; rintro r bs' ext ⟨c3x, hc3x, rfl, rfl⟩)
          | (refine call_ro [.n 2] (right_y v c1x _ self N true rfl (by omega) hX.right) GG_no rfl rfl rfl ⟨⟨_, rfl, rfl, rfl⟩, trivial⟩ ?_; rintro r bs' ext ⟨rfl, rfl⟩)
          | (refine call_ro [.n 3] (right_y (dropL _ v) c2x _ self N true rfl (Nat.le_trans drop_len (by omega)) (hX.drop _).right) GG_no rfl rfl rfl ⟨⟨_, rfl, rfl, rfl⟩, trivial⟩ ?_; rintro r bs' ext ⟨rfl, rfl⟩)
          | (refine call_ro [.n 3] (right_y (v.map older) c3x _ self N true (by rw [List.length_map]) (by omega) hX.older.right) GG_no rfl rfl rfl ⟨⟨_, rfl, rfl, rfl⟩, trivial⟩ ?_; rintro r bs' ext ⟨rfl, rfl⟩)
          | (refine BB.mk (fun _h => ?_) (fun _h => ?_) <;> (first | (exact absurd _h (by decide)) | (exfalso; simp only [boolSet] at _h <;> omega) | (simp only [boolSet] at _h) | skip))
          | (refine And.intro ⟨rfl, rfl, rfl, by first | (simp only [chunks_len, List.length_map, List.length_take, List.length_drop, List.length_append, List.length_cons, List.length_nil] <;> omega) | omega | rfl⟩ ?_)
          | (refine And.intro ⟨rfl, by first | (simp only [chunks_len, List.length_map, List.length_take, List.length_drop, List.length_append, List.length_cons, List.length_nil] <;> omega) | omega | rfl⟩ ?_)
          | (refine And.intro (by first | exact ⟨rfl, Nat.le_refl _⟩ | first | (simp only [chunks_len, List.length_map, List.length_take, List.length_drop, List.length_append, List.length_cons, List.length_nil] <;> omega) | omega | rfl) ?_)
          | (refine fun (caps : Nat → Nat) hcaps => ?_; conv at hcaps => whnf)
          | (refine fun (cap' : Nat) hcap' => ?_)
          | (refine And.intro (by omega) ?_)
          | (refine BB.mk (fun _h => ?_) (fun _h => ?_) <;> (first | (exact absurd _h (by decide)) | (exfalso; simp only [boolSet] at _h <;> omega) | skip)))
        all_goals (try conv => whnf)
        all_goals first
          | (exact Fin.mk ⟨rfl, rfl⟩)
          | (refine ⟨(k + 1, v, c1x), ⟨by dsimp only; omega, hX, hXo, hXf, hc1x⟩, by dsimp only; omega, ⟨⟨[2], by decide, GG_no, rfl, SubOld.refl _ rfl, ⟨.inr (.inl rfl), trivial⟩, ⟨.inl rfl, .inl rfl, .inl rfl, .inl rfl, .inl rfl, .inl rfl, .inl (num_eq (by rw [IntKind.wrap_i64]; dsimp only; omega)), trivial⟩⟩, rfl⟩⟩)
          | (refine ⟨(k + 1, dropL _ v, c2x), ⟨by dsimp only; omega, hX.drop _, fun y hy => hXo y (drop_mem hy), fun y hy => hXf y (drop_mem hy), hc2x⟩, by dsimp only; omega, ⟨⟨[3], by decide, GG_no, rfl, SubOld.refl _ rfl, ⟨.inr (.inl rfl), trivial⟩, ⟨.inl rfl, .inl rfl, .inl rfl, .inl rfl, .inl rfl, .inl rfl, .inl (num_eq (by rw [IntKind.wrap_i64]; dsimp only; omega)), trivial⟩⟩, rfl⟩⟩)
          | (refine ⟨(k + 1, v.map older, c3x), ⟨by dsimp only; omega, hX.older, older_okm hXo, older_fl hXf, by dsimp only; rw [List.length_map]; exact hc3x⟩, by dsimp only; omega, ⟨⟨[3], by decide, GG_no, rfl, SubOld.refl _ rfl, ⟨.inr (.inl rfl), trivial⟩, ⟨.inl rfl, .inl rfl, .inl rfl, .inl (by dsimp only; rw [List.length_map]; rfl), .inl rfl, .inl rfl, .inl (num_eq (by rw [IntKind.wrap_i64]; dsimp only; omega)), trivial⟩⟩, rfl⟩⟩)
      · skip
        repeat' ((try conv => whnf); first
          | (with_reducible refine BB_true ?_)
          | (with_reducible refine BB_false ?_)
          | (with_reducible refine Both.mk ?_ ?_)
          | (with_reducible refine VS.mk ?_)
          | (refine PSem.go (C := seat) seat_ok ?_)
          | (refine And.intro (PlanOK.mk (by kernel_rfl) rfl (by kernel_rfl) (by kernel_rfl)) ?_)
          | (refine And.intro rfl (Exists.intro _ (And.intro (by first | assumption | rfl) ?_)))
          | (refine And.intro ⟨rfl, rfl, rfl⟩ ?_)
          | (refine call_ro [.n 0] (put_e v cv (by omega) hV.rising hvf d _ (by simpa using hcaps.1) hdf self N v false he) GG_no rfl rfl rfl ⟨⟨_, rfl, rfl, rfl⟩, trivial⟩ ?_; rintro r bs' ext ⟨c1x, hc1x, rfl, rfl⟩)
          | (refine call_ro [.n 2] (find_z v c1x d.node (by omega) hX.rising _ hF) GG_no rfl rfl rfl ⟨⟨_, rfl, rfl, rfl⟩, trivial⟩ ?_; rintro r bs' ext ⟨rfl, rfl⟩)
          | (refine call_ro [] (same_t d _ _ hdf) GG_no rfl rfl rfl trivial ?_; rintro r bs' ext ⟨rfl, rfl⟩)
          | (refine call_ro [.n 2, .n 0] (descs_z v _ _ _ _ 0 0 (by omega) atE_map atE_map hvf) GG_no rfl rfl rfl ⟨⟨_, rfl, rfl, rfl⟩, ⟨_, rfl, rfl, rfl⟩, trivial⟩ ?_; rintro r bs' ext ⟨rfl, rfl⟩)
          | (refine call_ro [.n 2] (drop_ok v c1x _ (by omega) hX.rising hXf) GG_no rfl rfl rfl ⟨⟨_, rfl, rfl, rfl⟩, trivial⟩ ?_; rintro r bs' ext ⟨c2x, m2x, hc2x, rfl, rfl⟩)
          | (refine call_cut 3 rfl ?_; refine call_ro [.n 3] (find_z (dropL _ v) c2x _ (Nat.le_trans drop_len (by omega)) (drop_rising hX.rising) (-1) (find_none (drop_none hX.rising))) GG_no rfl rfl rfl ⟨⟨_, rfl, rfl, rfl⟩, trivial⟩ ?_; rintro r bs' ext ⟨rfl, rfl⟩)
          | (refine call_ro [.n 2] (older_ok v c1x (by omega) hXf (fun y hy => (hXo y hy).2.2)) GG_no rfl rfl rfl ⟨⟨_, rfl, rfl, rfl⟩, trivial⟩ ?_; rintro r bs' ext ⟨c3x, hc3x, rfl, rfl⟩)
          | (refine call_ro [.n 2] (right_y v c1x _ self N true rfl (by omega) hX.right) GG_no rfl rfl rfl ⟨⟨_, rfl, rfl, rfl⟩, trivial⟩ ?_; rintro r bs' ext ⟨rfl, rfl⟩)
          | (refine call_ro [.n 3] (right_y (dropL _ v) c2x _ self N true rfl (Nat.le_trans drop_len (by omega)) (hX.drop _).right) GG_no rfl rfl rfl ⟨⟨_, rfl, rfl, rfl⟩, trivial⟩ ?_; rintro r bs' ext ⟨rfl, rfl⟩)
          | (refine call_ro [.n 3] (right_y (v.map older) c3x _ self N true (by rw [List.length_map]) (by omega) hX.older.right) GG_no rfl rfl rfl ⟨⟨_, rfl, rfl, rfl⟩, trivial⟩ ?_; rintro r bs' ext ⟨rfl, rfl⟩)
          | (refine BB.mk (fun _h => ?_) (fun _h => ?_) <;> (first | (exact absurd _h (by decide)) | (exfalso; simp only [boolSet] at _h <;> omega) | (simp only [boolSet] at _h) | skip))
          | (refine And.intro ⟨rfl, rfl, rfl, by first | (simp only [chunks_len, List.length_map, List.length_take, List.length_drop, List.length_append, List.length_cons, List.length_nil] <;> omega) | omega | rfl⟩ ?_)
          | (refine And.intro ⟨rfl, by first | (simp only [chunks_len, List.length_map, List.length_take, List.length_drop, List.length_append, List.length_cons, List.length_nil] <;> omega) | omega | rfl⟩ ?_)
          | (refine And.intro (by first | exact ⟨rfl, Nat.le_refl _⟩ | first | (simp only [chunks_len, List.length_map, List.length_take, List.length_drop, List.length_append, List.length_cons, List.length_nil] <;> omega) | omega | rfl) ?_)
          | (refine fun (caps : Nat → Nat) hcaps => ?_; conv at hcaps => whnf)
          | (refine fun (cap' : Nat) hcap' => ?_)
          | (refine And.intro (by omega) ?_)
          | (refine BB.mk (fun _h => ?_) (fun _h => ?_) <;> (first | (exact absurd _h (by decide)) | (exfalso; simp only [boolSet] at _h <;> omega) | skip)))
        all_goals (try conv => whnf)
        all_goals first
          | (exact Fin.mk ⟨rfl, rfl⟩)
          | (refine ⟨(k + 1, v, c1x), ⟨by dsimp only; omega, hX, hXo, hXf, hc1x⟩, by dsimp only; omega, ⟨⟨[2], by decide, GG_no, rfl, SubOld.refl _ rfl, ⟨.inr (.inl rfl), trivial⟩, ⟨.inl rfl, .inl rfl, .inl rfl, .inl rfl, .inl rfl, .inl rfl, .inl (num_eq (by rw [IntKind.wrap_i64]; dsimp only; omega)), trivial⟩⟩, rfl⟩⟩)
          | (refine ⟨(k + 1, dropL _ v, c2x), ⟨by dsimp only; omega, hX.drop _, fun y hy => hXo y (drop_mem hy), fun y hy => hXf y (drop_mem hy), hc2x⟩, by dsimp only; omega, ⟨⟨[3], by decide, GG_no, rfl, SubOld.refl _ rfl, ⟨.inr (.inl rfl), trivial⟩, ⟨.inl rfl, .inl rfl, .inl rfl, .inl rfl, .inl rfl, .inl rfl, .inl (num_eq (by rw [IntKind.wrap_i64]; dsimp only; omega)), trivial⟩⟩, rfl⟩⟩)
          | (refine ⟨(k + 1, v.map older, c3x), ⟨by dsimp only; omega, hX.older, older_okm hXo, older_fl hXf, by dsimp only; rw [List.length_map]; exact hc3x⟩, by dsimp only; omega, ⟨⟨[3], by decide, GG_no, rfl, SubOld.refl _ rfl, ⟨.inr (.inl rfl), trivial⟩, ⟨.inl rfl, .inl rfl, .inl rfl, .inl (by dsimp only; rw [List.length_map]; rfl), .inl rfl, .inl rfl, .inl (num_eq (by rw [IntKind.wrap_i64]; dsimp only; omega)), trivial⟩⟩, rfl⟩⟩)
  · obtain rfl : k = more.length := by omega
    repeat' ((try conv => whnf); first
      | (with_reducible refine BB_true ?_)
      | (with_reducible refine BB_false ?_)
      | (with_reducible refine Both.mk ?_ ?_)
      | (with_reducible refine VS.mk ?_)
      | (refine PSem.go (C := seat) seat_ok ?_)
      | (refine And.intro (PlanOK.mk (by kernel_rfl) rfl (by kernel_rfl) (by kernel_rfl)) ?_)
      | (refine And.intro rfl (Exists.intro _ (And.intro (by first | assumption | rfl) ?_)))
      | (refine And.intro ⟨rfl, rfl, rfl⟩ ?_)
      | (refine call_ro [] (awake_ok) GG_no rfl rfl rfl trivial ?_; rintro r bs' ext ⟨rfl, rfl⟩)
      | (refine And.intro (by omega) ?_)
      | (refine BB.mk (fun _h => ?_) (fun _h => ?_) <;> (first | (exact absurd _h (by decide)) | (exfalso; simp only [boolSet] at _h <;> omega) | skip)))
    all_goals (try conv => whnf)
    exact Fin.mk ⟨rfl, rfl⟩
theorem descBounds_ok (l more : List De) (drops : List Int) (c1 c2 c3 : Nat) (self room : Int) (hl : l.length ≤ 9223372036854775807) (hml : more.length ≤ 9223372036854775807) (hdl : drops.length ≤ 9223372036854775807) (hok : ∀ y ∈ l, DeOk y) (hmok : ∀ y ∈ more, DeOk y) (hdr : ∀ y ∈ drops, 0 ≤ y ∧ y ≤ 255) (hrm : 0 ≤ room ∧ room ≤ 255) : FnOK Try.prog GG 4 [.ro 4 (l.map deC), .ro 4 (more.map deC), .ro 1 (drops.map bZ)] [.s (.o 0) 4 0 l.length c1, .s (.o 1) 4 0 more.length c2, .s (.o 2) 1 0 drops.length c3, .v (.int .u8 self), .v (.int .u8 room)] (fun r _ ext => r = .v (.bool true) ∧ ext = []) := by
  cases hfew : (l.all (fun d => decide (d.fl.length ≤ 8)) && decide (l.length ≤ 20)) with
  | false => exact boundsFew l more drops c1 c2 c3 self room hl hml hdl hok hmok hdr hrm (.inl hfew)
  | true =>
    cases hfew2 : (more.all (fun d => decide (d.fl.length ≤ 8)) && decide (more.length ≤ 20)) with
    | false => exact boundsFew l more drops c1 c2 c3 self room hl hml hdl hok hmok hdr hrm (.inr hfew2)
    | true => exact boundsGood l more drops c1 c2 c3 self room hl hml hdl hok hmok hdr hrm hfew hfew2
end Go.Proofs.Ytfjankcpnhfogaa
