/- Law PullAny, by computing. -/
import Derived.Test.YtcjcnlahieddoaaK18n
namespace Go.Proofs.Ytcjcnlahieddoaa
open Go.RowKit

theorem filled_rot (l : List Ask_) (n m cap : Nat) (hl : l.length ≤ 40) (h : Apart l) (h0 : ∀ x ∈ l, x.lf ≠ 0) (hm : m = (rotA l n).length) : FnOK Try.prog GG 23 [.ro 5 ((rotA l n).map askC)] [.s (.o 0) 5 0 m cap] (fun r _ ext => ∃ c, r = .tup [.s (.n 0) 5 0 (addsL 41 l).length c, .v (.bool true)] ∧ (addsL 41 l).length ≤ c ∧ ext = [.row 28 5 c ((addsL 41 l).map askC)]) := by
  subst hm
  have := filled_ok (rotA l n) cap (by rw [rot_len]; exact hl) (apart_rot h n) (fun x hx => h0 x (mem_rot.1 hx))
  rw [adds_rot h h0 (by omega)] at this
  exact this
theorem has_p2 (l : List Ask_) (x : Id_) (n c : Nat) (b : Bool) (hn : (idsL l).length = n) (hl : n ≤ 4611686018427387904) (hb : ((idsL l).any fun y => eqB y x) = b) : FnOK Try.prog GG 22 [.ro 3 ((l.map (·.id)).map idC)] [.s (.o 0) 3 0 n c, idS x] (fun r _ ext => r = .v (.bool b) ∧ ext = []) := by
  subst hn
  subst hb
  exact has_pL (idsL l) x c hl
def incA (a : Ask_) : Ask_ := ⟨a.id, a.fr, IntKind.u8.wrap (a.lf + 1)⟩
def midI (K : List Ask_) (k : Nat) : List Ask_ := (K.take k).map incA ++ K.drop k
theorem midI_len (K : List Ask_) (k : Nat) (h : k ≤ K.length) : (midI K k).length = K.length := by
  simp [midI]; omega
theorem midI_at {K : List Ask_} {k : Nat} {y : Ask_} (h : K[k]? = some y) : (midI K k)[k]? = some y := by
  have hk := getElem?_lt h
  rw [midI, List.getElem?_append_right (by simp; omega), List.length_map, List.length_take, List.getElem?_drop, show min k K.length = k by omega, show k + (k - k) = k by omega, h]
theorem midI_set {K : List Ask_} {k : Nat} {y : Ask_} (h : K[k]? = some y) : (midI K k).set k (incA y) = midI K (k + 1) := by
  have hk := getElem?_lt h
  have e : (List.map incA (K.take k)).length = k := by rw [List.length_map, List.length_take]; omega
  rw [midI, List.set_append_right _ _ (by omega), e, Nat.sub_self, List.drop_eq_getElem_cons hk, List.set_cons_zero, midI, List.take_add_one, h, List.map_append]
  simp
theorem midI_row {K : List Ask_} {k : Nat} {y : Ask_} (h : K[k]? = some y) {z : Int} (hz : z = IntKind.u8.wrap (y.lf + 1)) : ((midI K k).map askC).set (0 + (k : Int).toNat) [.int .u8 y.id.n, .int .u16 y.id.i, .int .u32 y.id.s, .int .u8 y.fr, .int .u8 z] = (midI K (k + 1)).map askC := by
  rw [← midI_set h, List.map_set, Nat.zero_add, Int.toNat_natCast, hz]
  rfl
theorem apart_next {l : List Ask_} {k : Nat} {y : Ask_} (h : Apart (l.take k)) (hy : l[k]? = some y) (hn : ((idsL (l.take k)).any fun z => eqB z y.id) = false) : Apart (l.take (k + 1)) := by
  rw [List.take_add_one, hy]
  refine List.pairwise_append.2 ⟨h, List.pairwise_singleton _ _, fun a ha b hb => ?_⟩
  simp at hb
  subst hb
  exact eqB_false.1 (any_ne hn a ha)
theorem mem_next {l : List Ask_} {k : Nat} {y : Ask_} {p : Ask_ → Prop} (h : ∀ z ∈ l.take k, p z) (hy : l[k]? = some y) (hn : p y) : ∀ z ∈ l.take (k + 1), p z := fun z hz => by
  rw [List.take_add_one, hy] at hz
  rcases List.mem_append.1 hz with hz | hz
  · exact h z hz
  · simp at hz
    subst hz
    exact hn
set_option maxRecDepth 100000 in
set_option maxHeartbeats 4000000 in
theorem pullAny_ok (l : List Ask_) (cap : Nat) (tn : Int) (x : Ask_) (hc : l.length ≤ cap) (hl : l.length ≤ 11728124029610) (ht0 : 0 ≤ tn) (ht1 : tn ≤ 255) (hx : x.ok) (hok : ∀ y ∈ l, y.ok) : FnOK Try.prog GG 5 [.ro 5 (l.map askC)] [.s (.o 0) 5 0 l.length cap, .v (.int .u8 tn), askS x] (fun r _ ext => r = .v (.bool true) ∧ ext = []) := by
  refine fn_val (C := seat) seat_ok [(14, (.of [(0, .take), (2, .take), (3, .take), (4, .take), (6, .take), (7, .take), (8, .take), (1, .do_), (5, .do_), (9, .do_), (10, .do_), (11, .take), (12, .take), (13, .take), (14, .take), (15, .take)]))] GG_no (Try.func5) rfl rfl rfl rfl rfl (fun _ => rfl) rfl ?_
  repeat' ((try conv => whnf); first
    | (with_reducible refine OKv.go (C := seat) seat_ok ?_)
    | (with_reducible refine BB_true ?_)
    | (with_reducible refine BB_false ?_)
    | (with_reducible refine Both.mk ?_ ?_)
    | (with_reducible refine VS.mk ?_)
    | (refine PSem.go (C := seat) seat_ok ?_)
    | (refine And.intro (PlanOK.mk (by kernel_rfl) rfl (by kernel_rfl) (by kernel_rfl)) ?_)
    | (refine And.intro rfl (Exists.intro _ (And.intro (by first | assumption | rfl) ?_)))
    | (refine And.intro ⟨rfl, rfl, rfl⟩ ?_)
    | (refine And.intro (by omega) ?_)
    | (refine BB.mk (fun _h => ?_) (fun _h => ?_) <;> (first | (exact absurd _h (by decide)) | (exfalso; simp only [boolSet] at _h <;> omega) | skip)))
  all_goals (try conv => whnf)
  refine loop_rule (α := Nat × Nat) (fun p => p.1 ≤ l.length ∧ p.1 ≤ p.2 ∧ Apart (l.take p.1) ∧ ∀ y ∈ l.take p.1, y.lf ≠ 0) (fun p => { slots := [(0, .s (.o 0) 5 0 l.length cap), (1, .v (.int .u8 tn)), (5, .p (.n 0) 0 0 0), (7, .s (.n 1) 3 0 p.1 p.2), (20, .s (.o 0) 5 0 l.length cap), (21, .v (.int .i64 l.length)), (22, .v (.int .i64 p.1))], nt := 139, mem := ⟨GG, [.ro 5 (l.map askC)], [.box 28 [.v (.int .u8 x.id.n), .v (.int .u16 x.id.i), .v (.int .u32 x.id.s), .v (.int .u8 x.fr), .v (.int .u8 x.lf)], .row 26 3 p.2 (((l.take p.1).map (·.id)).map idC)]⟩ }) (fun p => l.length - p.1) (0, 0) ⟨Nat.zero_le _, Nat.zero_le _, List.Pairwise.nil, fun y hy => absurd hy List.not_mem_nil⟩ ⟨⟨[0, 1], (by decide), GG_no, rfl, (SubOld.refl _ rfl), ⟨rfl, .inl (.inl ⟨rfl, rfl⟩), trivial⟩, ⟨.inl rfl, .inl rfl, .inl rfl, .inr ⟨_, _, _, rfl, rfl⟩, .inl rfl, .inl rfl, .inl rfl, trivial⟩⟩, rfl⟩ ?_ (fun _ => rfl)
  rintro ⟨k, c⟩ ⟨hk, hkc, hap, hlf⟩
  dsimp only at hk hkc hap hlf ⊢
  refine vc_sound (C := seat) seat_ok (pl := [(14, (.of [(0, .take), (2, .take), (3, .take), (4, .take), (6, .take), (7, .take), (8, .take), (1, .do_), (5, .do_), (9, .do_), (10, .do_), (11, .take), (12, .take), (13, .take), (14, .take), (15, .take)]))]) ?_
  by_cases hlt : k < l.length
  · obtain ⟨y, hy⟩ : ∃ y, l[k]? = some y := ⟨_, List.getElem?_eq_getElem hlt⟩
    have hrow := ask_at hy
    have hmin : min k l.length = k := by omega
    have hil : (idsL (l.take k)).length = k := by rw [idsL_len, List.length_take]; omega
    cases hh : (idsL (l.take k)).any (fun z => eqB z y.id)
    all_goals
      skip
      repeat' ((try conv => whnf); first
        | (with_reducible refine OKv.go (C := seat) seat_ok ?_)
        | (with_reducible refine BB_true ?_)
        | (with_reducible refine BB_false ?_)
        | (with_reducible refine Both.mk ?_ ?_)
        | (with_reducible refine VS.mk ?_)
        | (refine PSem.go (C := seat) seat_ok ?_)
        | (refine And.intro (PlanOK.mk (by kernel_rfl) rfl (by kernel_rfl) (by kernel_rfl)) ?_)
        | (refine And.intro rfl (Exists.intro _ (And.intro (by first | assumption | rfl) ?_)))
        | (refine And.intro ⟨rfl, rfl, rfl⟩ ?_)
        | (refine call_ro [.n 1] (has_p2 (l.take k) y.id k c _ hil (by omega) hh) GG_no rfl rfl rfl ⟨⟨_, rfl, rfl, rfl⟩, trivial⟩ ?_; rintro r bs' ext ⟨rfl, rfl⟩)
        | (refine call_ro [] (awake_ok) GG_no rfl rfl rfl trivial ?_; rintro r bs' ext ⟨rfl, rfl⟩)
        | (refine And.intro ⟨rfl, rfl, rfl, by simp only [List.length_map, List.length_take]; omega⟩ ?_)
        | (refine And.intro ⟨rfl, rfl, rfl, by rw [List.length_map]⟩ ?_)
        | (refine And.intro ⟨rfl, by rw [List.length_map]; omega⟩ ?_)
        | (refine And.intro (by first | omega | (dsimp only; omega) | exact ⟨rfl, Nat.le_refl _⟩) ?_)
        | (intro cap' hcap')
        | (refine And.intro (by omega) ?_)
        | (refine BB.mk (fun _h => ?_) (fun _h => ?_) <;> (first | (exact absurd _h (by decide)) | (exfalso; simp only [boolSet] at _h <;> omega) | skip)))
      all_goals (try conv => whnf)

    all_goals first
      | exact ⟨rfl, rfl⟩
      | (refine ⟨(k + 1, cap'), ⟨by dsimp only; omega, by dsimp only; omega, apart_next hap hy hh, mem_next hlf hy (by simp only [boolSet] at *; omega)⟩, by dsimp only; omega, ⟨⟨[0, 4], by decide, GG_no, rfl, SubOld.refl _ rfl, ⟨rfl, .inr ?_, trivial⟩, ⟨.inl rfl, .inl rfl, .inl rfl, .inl rfl, .inl rfl, .inl rfl, .inl (num_eq (by rw [IntKind.wrap_i64]; dsimp only; omega)), trivial⟩⟩, rfl⟩⟩
         dsimp only
         rw [map_take_in hy, List.map_append]
         rfl)
      | trace_state
  · have hs : l.take k = l := List.take_of_length_le (by omega)
    rw [hs] at hap hlf ⊢
    obtain rfl : k = l.length := by omega
    by_cases h40 : l.length ≤ 40
    · obtain ⟨hal, har, ham⟩ := adds_len hap hlf h40
      have hF := filled_ok l cap h40 hap hlf
      have hR : ∀ n m c, m = (rotA l n).length → _ := fun n m c hm => filled_rot l n m c h40 hap hlf hm
      obtain ⟨A, hA⟩ : ∃ A, addsL 41 l = A := ⟨_, rfl⟩
      simp only [hA] at hF hR hal har ham
      have hk0 := Int.tmod_nonneg (IntKind.i64.wrap ((l.length : Int) + 1)) (show 0 ≤ IntKind.i64.wrap tn by rw [IntKind.wrap_i64]; omega)
      have hk1 : ((IntKind.i64.wrap tn).tmod (IntKind.i64.wrap ((l.length : Int) + 1))) ≤ l.length := by
        have h2 : 0 < IntKind.i64.wrap ((l.length : Int) + 1) := by rw [IntKind.wrap_i64]; omega
        have := Int.tmod_lt_of_pos (IntKind.i64.wrap tn) h2
        have h3 : IntKind.i64.wrap ((l.length : Int) + 1) = l.length + 1 := by rw [IntKind.wrap_i64]; omega
        omega
      have hta : ([] ++ List.take A.length (List.drop 0 (A.map askC))) = A.map askC := by rw [List.nil_append, List.drop_zero]; exact List.take_of_length_le (by rw [List.length_map]; omega)
      have hil : (idsL l).length = l.length := idsL_len l
      have hxl := hx.l0
      have hch : (chunks 5 0 []).length = 0 := rfl
      have hmi : ∀ (K : List Ask_) k, k ≤ K.length → (midI K k).length = K.length := midI_len
      have hcase : (x.lf = 0 ∧ addR A x 41 = (A, 2) ∧ ∃ b, ((idsL l).any fun y => eqB y x.id) = b) ∨ (0 < x.lf ∧ addR A x 41 = (A, 150) ∧ ((idsL l).any fun y => eqB y x.id) = true) ∨ (0 < x.lf ∧ addR A x 41 = (insA A x, 0) ∧ ((idsL l).any fun y => eqB y x.id) = false ∧ dropA (insA A x) x.id = A ∧ (insA A x).length = A.length + 1) := by
        by_cases h0 : x.lf = 0
        · exact .inl ⟨h0, if_pos h0, _, rfl⟩
        · cases hh : (idsL l).any fun y => eqB y x.id
          · have hn : ∀ y ∈ A, y.id ≠ x.id := fun y hy => eqB_false.1 (any_ne hh y ((ham y).1 hy))
            exact .inr (.inr ⟨by omega, add_in h0 hn (by omega), rfl, drop_ins har hn, ins_len A x⟩)
          · obtain ⟨y, hy, e⟩ := id_any.1 hh
            refine .inr (.inl ⟨by omega, ?_, rfl⟩)
            unfold addR
            rw [if_neg h0, if_pos (id_any.2 ⟨y, (ham y).2 hy, e⟩)]
      rcases hcase with ⟨hx0, he, bb, hh⟩ | ⟨hx0, he, hh⟩ | ⟨hx0, he, hh, hdi, hil2⟩
      · skip
        repeat' ((try conv => whnf); first
          | (with_reducible refine OKv.go (C := seat) seat_ok ?_)
          | (with_reducible refine BB_true ?_)
          | (with_reducible refine BB_false ?_)
          | (with_reducible refine Both.mk ?_ ?_)
          | (with_reducible refine VS.mk ?_)
          | (refine PSem.go (C := seat) seat_ok ?_)
          | (refine And.intro (PlanOK.mk (by kernel_rfl) rfl (by kernel_rfl) (by kernel_rfl)) ?_)
          | (refine And.intro rfl (Exists.intro _ (And.intro (by first | assumption | rfl) ?_)))
          | (refine And.intro ⟨rfl, rfl, rfl⟩ ?_)
          | (refine call_ro [.o 0] (hF) GG_no rfl rfl rfl ⟨⟨_, rfl, rfl, rfl⟩, trivial⟩ ?_; rintro r bs' ext ⟨c1, rfl, hc1, rfl⟩)
          | (refine call_ro [_] (hR ((IntKind.i64.wrap tn).tmod (IntKind.i64.wrap ((l.length : Int) + 1))).toNat _ _ (by simp only [rotA, List.length_append, List.length_take, List.length_drop]; omega)) GG_no rfl rfl rfl ⟨⟨_, rfl, rfl, by simp only [rotA, List.map_append, List.map_drop, List.map_take, List.nil_append, Nat.zero_add, List.drop_zero, Nat.sub_zero]; first | rfl | (show [] ++ _ ++ List.take (_ - 0) (List.drop 0 _) = _; rw [List.nil_append, Nat.sub_zero, List.drop_zero, List.take_of_length_le (by simp)])⟩, trivial⟩ ?_; rintro r bs' ext ⟨c2, rfl, hc2, rfl⟩)
          | (refine call_ro [_, _] (sameA_is A A _ _ true (by omega) (decide_eq_true rfl)) GG_no rfl rfl rfl ⟨⟨_, rfl, rfl, rfl⟩, ⟨_, rfl, rfl, rfl⟩, trivial⟩ ?_; rintro r bs' ext ⟨rfl, rfl⟩)
          | (refine call_ro [_] (addA_is A c1 x 41 _ he hc1 (by omega)) GG_no rfl rfl rfl ⟨⟨_, rfl, rfl, rfl⟩, trivial⟩ ?_; rintro r bs' ext ⟨c3, hc3, rfl, rfl⟩)
          | (refine call_ro [_] (has_p2 l x.id _ _ _ hil (by omega) hh) GG_no rfl rfl rfl ⟨⟨_, rfl, rfl, rfl⟩, trivial⟩ ?_; rintro r bs' ext ⟨rfl, rfl⟩)
          | (refine call_ro [_] (dropA_ok (insA A x) _ x.id (by omega)) GG_no rfl rfl rfl ⟨⟨_, rfl, rfl, rfl⟩, trivial⟩ ?_; rintro r bs' ext ⟨c4, hc4, rfl, rfl⟩)
          | (refine call_ro [_, _] (sameA_is (dropA (insA A x) x.id) A _ _ true (by rw [hdi]; omega) (decide_eq_true hdi)) GG_no rfl rfl rfl ⟨⟨_, rfl, rfl, rfl⟩, ⟨_, rfl, rfl, rfl⟩, trivial⟩ ?_; rintro r bs' ext ⟨rfl, rfl⟩)
          | (refine call_ro [] (awake_ok) GG_no rfl rfl rfl trivial ?_; rintro r bs' ext ⟨rfl, rfl⟩)
          | (refine And.intro (show _ ≠ (0 : Int) by simp only [IntKind.wrap_i64] <;> omega) ?_)
          | (refine And.intro ⟨by first | omega | decide, by first | omega | exact Int.le_refl _, by first | omega | (show ((_ : Nat) : Int) ≤ _; omega)⟩ ?_)
          | (refine And.intro ⟨rfl, rfl, rfl, by first | rfl | (simp only [List.length_append, List.length_take, List.length_drop, List.length_map, List.length_nil] <;> omega)⟩ ?_)
          | (refine And.intro ⟨rfl, by rw [List.length_map]; omega⟩ ?_)
          | (refine And.intro (by first | omega | (dsimp only; omega)) ?_)
          | (intro cap' hcap')
          | (refine And.intro (by omega) ?_)
          | (refine BB.mk (fun _h => ?_) (fun _h => ?_) <;> (first | (exact absurd _h (by decide)) | (exfalso; simp only [boolSet] at _h <;> omega) | skip)))
        all_goals (try conv => whnf)
        refine loop_rule (α := Nat) (fun k => k ≤ A.length) (fun k => { slots := [(12, .s (.n 0) 5 0 A.length c1), (16, .s (.n 1) 5 0 A.length cap'), (17, .s (.n 2) 5 0 A.length c3), (119, .s (.n 2) 5 0 A.length c3), (120, .v (.int .i64 A.length)), (121, .v (.int .i64 k))], nt := 139, mem := ⟨GG, [.ro 5 (l.map askC)], [.row 28 5 c1 (A.map askC), .row 28 5 cap' (A.map askC), .row 28 5 c3 ((midI A k).map askC)]⟩ }) (fun k => A.length - k) 0 (Nat.zero_le _) ⟨⟨[2, 8, 9], (by decide), GG_no, rfl, (SubOld.refl _ rfl), ⟨.inr rfl, .inr (congrArg (fun z => some (SB.row 28 5 cap' z)) hta), .inr rfl, trivial⟩, ⟨.inl rfl, .inl (sl_eq (by omega) rfl), .inl rfl, .inl rfl, .inl rfl, .inl rfl, trivial⟩⟩, rfl⟩ ?_ (fun _ => rfl)
        rintro k hk
        refine vc_sound (C := seat) seat_ok (pl := [(14, (.of [(0, .take), (2, .take), (3, .take), (4, .take), (6, .take), (7, .take), (8, .take), (1, .do_), (5, .do_), (9, .do_), (10, .do_), (11, .take), (12, .take), (13, .take), (14, .take), (15, .take)]))]) ?_
        by_cases hlt : k < A.length
        · obtain ⟨y, hy⟩ : ∃ y, A[k]? = some y := ⟨_, List.getElem?_eq_getElem hlt⟩
          have hrow := ask_at (midI_at hy)
          repeat' ((try conv => whnf); first
            | (with_reducible refine OKv.go (C := seat) seat_ok ?_)
            | (with_reducible refine BB_true ?_)
            | (with_reducible refine BB_false ?_)
            | (with_reducible refine Both.mk ?_ ?_)
            | (with_reducible refine VS.mk ?_)
            | (refine PSem.go (C := seat) seat_ok ?_)
            | (refine And.intro (PlanOK.mk (by kernel_rfl) rfl (by kernel_rfl) (by kernel_rfl)) ?_)
            | (refine And.intro rfl (Exists.intro _ (And.intro (by first | assumption | rfl) ?_)))
            | (refine And.intro ⟨rfl, rfl, rfl⟩ ?_)
            | (refine And.intro (by omega) ?_)
            | (refine BB.mk (fun _h => ?_) (fun _h => ?_) <;> (first | (exact absurd _h (by decide)) | (exfalso; simp only [boolSet] at _h <;> omega) | skip)))
          all_goals (try conv => whnf)
          all_goals first
            | exact ⟨k + 1, by omega, by omega, ⟨⟨[0, 1, 2], by decide, GG_no, rfl, SubOld.refl _ rfl, ⟨.inr rfl, .inr rfl, .inr (congrArg (fun z => some (SB.row 28 5 c3 z)) (midI_row hy rfl)), trivial⟩, ⟨.inl rfl, .inl rfl, .inl rfl, .inl rfl, .inl rfl, .inl (num_eq (by rw [IntKind.wrap_i64]; omega)), trivial⟩⟩, rfl⟩⟩
            | trace_state
        · skip
          repeat' ((try conv => whnf); first
            | (with_reducible refine OKv.go (C := seat) seat_ok ?_)
            | (with_reducible refine BB_true ?_)
            | (with_reducible refine BB_false ?_)
            | (with_reducible refine Both.mk ?_ ?_)
            | (with_reducible refine VS.mk ?_)
            | (refine PSem.go (C := seat) seat_ok ?_)
            | (refine And.intro (PlanOK.mk (by kernel_rfl) rfl (by kernel_rfl) (by kernel_rfl)) ?_)
            | (refine And.intro rfl (Exists.intro _ (And.intro (by first | assumption | rfl) ?_)))
            | (refine And.intro ⟨rfl, rfl, rfl⟩ ?_)
            | (refine call_ro [_, _] (sameA_is A A _ _ true (by omega) (decide_eq_true rfl)) GG_no rfl rfl rfl ⟨⟨_, rfl, rfl, rfl⟩, ⟨_, rfl, rfl, rfl⟩, trivial⟩ ?_; rintro r bs' ext ⟨rfl, rfl⟩)
            | (refine call_ro [] (awake_ok) GG_no rfl rfl rfl trivial ?_; rintro r bs' ext ⟨rfl, rfl⟩)
            | (refine And.intro (by omega) ?_)
            | (refine BB.mk (fun _h => ?_) (fun _h => ?_) <;> (first | (exact absurd _h (by decide)) | (exfalso; simp only [boolSet] at _h <;> omega) | skip)))
          all_goals (try conv => whnf)
          all_goals exact ⟨rfl, rfl⟩

      · skip
        repeat' ((try conv => whnf); first
          | (with_reducible refine OKv.go (C := seat) seat_ok ?_)
          | (with_reducible refine BB_true ?_)
          | (with_reducible refine BB_false ?_)
          | (with_reducible refine Both.mk ?_ ?_)
          | (with_reducible refine VS.mk ?_)
          | (refine PSem.go (C := seat) seat_ok ?_)
          | (refine And.intro (PlanOK.mk (by kernel_rfl) rfl (by kernel_rfl) (by kernel_rfl)) ?_)
          | (refine And.intro rfl (Exists.intro _ (And.intro (by first | assumption | rfl) ?_)))
          | (refine And.intro ⟨rfl, rfl, rfl⟩ ?_)
          | (refine call_ro [.o 0] (hF) GG_no rfl rfl rfl ⟨⟨_, rfl, rfl, rfl⟩, trivial⟩ ?_; rintro r bs' ext ⟨c1, rfl, hc1, rfl⟩)
          | (refine call_ro [_] (hR ((IntKind.i64.wrap tn).tmod (IntKind.i64.wrap ((l.length : Int) + 1))).toNat _ _ (by simp only [rotA, List.length_append, List.length_take, List.length_drop]; omega)) GG_no rfl rfl rfl ⟨⟨_, rfl, rfl, by simp only [rotA, List.map_append, List.map_drop, List.map_take, List.nil_append, Nat.zero_add, List.drop_zero, Nat.sub_zero]; first | rfl | (show [] ++ _ ++ List.take (_ - 0) (List.drop 0 _) = _; rw [List.nil_append, Nat.sub_zero, List.drop_zero, List.take_of_length_le (by simp)])⟩, trivial⟩ ?_; rintro r bs' ext ⟨c2, rfl, hc2, rfl⟩)
          | (refine call_ro [_, _] (sameA_is A A _ _ true (by omega) (decide_eq_true rfl)) GG_no rfl rfl rfl ⟨⟨_, rfl, rfl, rfl⟩, ⟨_, rfl, rfl, rfl⟩, trivial⟩ ?_; rintro r bs' ext ⟨rfl, rfl⟩)
          | (refine call_ro [_] (addA_is A c1 x 41 _ he hc1 (by omega)) GG_no rfl rfl rfl ⟨⟨_, rfl, rfl, rfl⟩, trivial⟩ ?_; rintro r bs' ext ⟨c3, hc3, rfl, rfl⟩)
          | (refine call_ro [_] (has_p2 l x.id _ _ _ hil (by omega) hh) GG_no rfl rfl rfl ⟨⟨_, rfl, rfl, rfl⟩, trivial⟩ ?_; rintro r bs' ext ⟨rfl, rfl⟩)
          | (refine call_ro [_] (dropA_ok (insA A x) _ x.id (by omega)) GG_no rfl rfl rfl ⟨⟨_, rfl, rfl, rfl⟩, trivial⟩ ?_; rintro r bs' ext ⟨c4, hc4, rfl, rfl⟩)
          | (refine call_ro [_, _] (sameA_is (dropA (insA A x) x.id) A _ _ true (by rw [hdi]; omega) (decide_eq_true hdi)) GG_no rfl rfl rfl ⟨⟨_, rfl, rfl, rfl⟩, ⟨_, rfl, rfl, rfl⟩, trivial⟩ ?_; rintro r bs' ext ⟨rfl, rfl⟩)
          | (refine call_ro [] (awake_ok) GG_no rfl rfl rfl trivial ?_; rintro r bs' ext ⟨rfl, rfl⟩)
          | (refine And.intro (show _ ≠ (0 : Int) by simp only [IntKind.wrap_i64] <;> omega) ?_)
          | (refine And.intro ⟨by first | omega | decide, by first | omega | exact Int.le_refl _, by first | omega | (show ((_ : Nat) : Int) ≤ _; omega)⟩ ?_)
          | (refine And.intro ⟨rfl, rfl, rfl, by first | rfl | (simp only [List.length_append, List.length_take, List.length_drop, List.length_map, List.length_nil] <;> omega)⟩ ?_)
          | (refine And.intro ⟨rfl, by rw [List.length_map]; omega⟩ ?_)
          | (refine And.intro (by first | omega | (dsimp only; omega)) ?_)
          | (intro cap' hcap')
          | (refine And.intro (by omega) ?_)
          | (refine BB.mk (fun _h => ?_) (fun _h => ?_) <;> (first | (exact absurd _h (by decide)) | (exfalso; simp only [boolSet] at _h <;> omega) | skip)))
        all_goals (try conv => whnf)
        refine loop_rule (α := Nat) (fun k => k ≤ A.length) (fun k => { slots := [(12, .s (.n 0) 5 0 A.length c1), (16, .s (.n 1) 5 0 A.length cap'), (17, .s (.n 2) 5 0 A.length c3), (119, .s (.n 2) 5 0 A.length c3), (120, .v (.int .i64 A.length)), (121, .v (.int .i64 k))], nt := 139, mem := ⟨GG, [.ro 5 (l.map askC)], [.row 28 5 c1 (A.map askC), .row 28 5 cap' (A.map askC), .row 28 5 c3 ((midI A k).map askC)]⟩ }) (fun k => A.length - k) 0 (Nat.zero_le _) ⟨⟨[2, 8, 9], (by decide), GG_no, rfl, (SubOld.refl _ rfl), ⟨.inr rfl, .inr (congrArg (fun z => some (SB.row 28 5 cap' z)) hta), .inr rfl, trivial⟩, ⟨.inl rfl, .inl (sl_eq (by omega) rfl), .inl rfl, .inl rfl, .inl rfl, .inl rfl, trivial⟩⟩, rfl⟩ ?_ (fun _ => rfl)
        rintro k hk
        refine vc_sound (C := seat) seat_ok (pl := [(14, (.of [(0, .take), (2, .take), (3, .take), (4, .take), (6, .take), (7, .take), (8, .take), (1, .do_), (5, .do_), (9, .do_), (10, .do_), (11, .take), (12, .take), (13, .take), (14, .take), (15, .take)]))]) ?_
        by_cases hlt : k < A.length
        · obtain ⟨y, hy⟩ : ∃ y, A[k]? = some y := ⟨_, List.getElem?_eq_getElem hlt⟩
          have hrow := ask_at (midI_at hy)
          repeat' ((try conv => whnf); first
            | (with_reducible refine OKv.go (C := seat) seat_ok ?_)
            | (with_reducible refine BB_true ?_)
            | (with_reducible refine BB_false ?_)
            | (with_reducible refine Both.mk ?_ ?_)
            | (with_reducible refine VS.mk ?_)
            | (refine PSem.go (C := seat) seat_ok ?_)
            | (refine And.intro (PlanOK.mk (by kernel_rfl) rfl (by kernel_rfl) (by kernel_rfl)) ?_)
            | (refine And.intro rfl (Exists.intro _ (And.intro (by first | assumption | rfl) ?_)))
            | (refine And.intro ⟨rfl, rfl, rfl⟩ ?_)
            | (refine And.intro (by omega) ?_)
            | (refine BB.mk (fun _h => ?_) (fun _h => ?_) <;> (first | (exact absurd _h (by decide)) | (exfalso; simp only [boolSet] at _h <;> omega) | skip)))
          all_goals (try conv => whnf)
          all_goals first
            | exact ⟨k + 1, by omega, by omega, ⟨⟨[0, 1, 2], by decide, GG_no, rfl, SubOld.refl _ rfl, ⟨.inr rfl, .inr rfl, .inr (congrArg (fun z => some (SB.row 28 5 c3 z)) (midI_row hy rfl)), trivial⟩, ⟨.inl rfl, .inl rfl, .inl rfl, .inl rfl, .inl rfl, .inl (num_eq (by rw [IntKind.wrap_i64]; omega)), trivial⟩⟩, rfl⟩⟩
            | trace_state
        · skip
          repeat' ((try conv => whnf); first
            | (with_reducible refine OKv.go (C := seat) seat_ok ?_)
            | (with_reducible refine BB_true ?_)
            | (with_reducible refine BB_false ?_)
            | (with_reducible refine Both.mk ?_ ?_)
            | (with_reducible refine VS.mk ?_)
            | (refine PSem.go (C := seat) seat_ok ?_)
            | (refine And.intro (PlanOK.mk (by kernel_rfl) rfl (by kernel_rfl) (by kernel_rfl)) ?_)
            | (refine And.intro rfl (Exists.intro _ (And.intro (by first | assumption | rfl) ?_)))
            | (refine And.intro ⟨rfl, rfl, rfl⟩ ?_)
            | (refine call_ro [_, _] (sameA_is A A _ _ true (by omega) (decide_eq_true rfl)) GG_no rfl rfl rfl ⟨⟨_, rfl, rfl, rfl⟩, ⟨_, rfl, rfl, rfl⟩, trivial⟩ ?_; rintro r bs' ext ⟨rfl, rfl⟩)
            | (refine call_ro [] (awake_ok) GG_no rfl rfl rfl trivial ?_; rintro r bs' ext ⟨rfl, rfl⟩)
            | (refine And.intro (by omega) ?_)
            | (refine BB.mk (fun _h => ?_) (fun _h => ?_) <;> (first | (exact absurd _h (by decide)) | (exfalso; simp only [boolSet] at _h <;> omega) | skip)))
          all_goals (try conv => whnf)
          all_goals exact ⟨rfl, rfl⟩

      · skip
        repeat' ((try conv => whnf); first
          | (with_reducible refine OKv.go (C := seat) seat_ok ?_)
          | (with_reducible refine BB_true ?_)
          | (with_reducible refine BB_false ?_)
          | (with_reducible refine Both.mk ?_ ?_)
          | (with_reducible refine VS.mk ?_)
          | (refine PSem.go (C := seat) seat_ok ?_)
          | (refine And.intro (PlanOK.mk (by kernel_rfl) rfl (by kernel_rfl) (by kernel_rfl)) ?_)
          | (refine And.intro rfl (Exists.intro _ (And.intro (by first | assumption | rfl) ?_)))
          | (refine And.intro ⟨rfl, rfl, rfl⟩ ?_)
          | (refine call_ro [.o 0] (hF) GG_no rfl rfl rfl ⟨⟨_, rfl, rfl, rfl⟩, trivial⟩ ?_; rintro r bs' ext ⟨c1, rfl, hc1, rfl⟩)
          | (refine call_ro [_] (hR ((IntKind.i64.wrap tn).tmod (IntKind.i64.wrap ((l.length : Int) + 1))).toNat _ _ (by simp only [rotA, List.length_append, List.length_take, List.length_drop]; omega)) GG_no rfl rfl rfl ⟨⟨_, rfl, rfl, by simp only [rotA, List.map_append, List.map_drop, List.map_take, List.nil_append, Nat.zero_add, List.drop_zero, Nat.sub_zero]; first | rfl | (show [] ++ _ ++ List.take (_ - 0) (List.drop 0 _) = _; rw [List.nil_append, Nat.sub_zero, List.drop_zero, List.take_of_length_le (by simp)])⟩, trivial⟩ ?_; rintro r bs' ext ⟨c2, rfl, hc2, rfl⟩)
          | (refine call_ro [_, _] (sameA_is A A _ _ true (by omega) (decide_eq_true rfl)) GG_no rfl rfl rfl ⟨⟨_, rfl, rfl, rfl⟩, ⟨_, rfl, rfl, rfl⟩, trivial⟩ ?_; rintro r bs' ext ⟨rfl, rfl⟩)
          | (refine call_ro [_] (addA_is A c1 x 41 _ he hc1 (by omega)) GG_no rfl rfl rfl ⟨⟨_, rfl, rfl, rfl⟩, trivial⟩ ?_; rintro r bs' ext ⟨c3, hc3, rfl, rfl⟩)
          | (refine call_ro [_] (has_p2 l x.id _ _ _ hil (by omega) hh) GG_no rfl rfl rfl ⟨⟨_, rfl, rfl, rfl⟩, trivial⟩ ?_; rintro r bs' ext ⟨rfl, rfl⟩)
          | (refine call_ro [_] (dropA_ok (insA A x) _ x.id (by omega)) GG_no rfl rfl rfl ⟨⟨_, rfl, rfl, rfl⟩, trivial⟩ ?_; rintro r bs' ext ⟨c4, hc4, rfl, rfl⟩)
          | (refine call_ro [_, _] (sameA_is (dropA (insA A x) x.id) A _ _ true (by rw [hdi]; omega) (decide_eq_true hdi)) GG_no rfl rfl rfl ⟨⟨_, rfl, rfl, rfl⟩, ⟨_, rfl, rfl, rfl⟩, trivial⟩ ?_; rintro r bs' ext ⟨rfl, rfl⟩)
          | (refine call_ro [] (awake_ok) GG_no rfl rfl rfl trivial ?_; rintro r bs' ext ⟨rfl, rfl⟩)
          | (refine And.intro (show _ ≠ (0 : Int) by simp only [IntKind.wrap_i64] <;> omega) ?_)
          | (refine And.intro ⟨by first | omega | decide, by first | omega | exact Int.le_refl _, by first | omega | (show ((_ : Nat) : Int) ≤ _; omega)⟩ ?_)
          | (refine And.intro ⟨rfl, rfl, rfl, by first | rfl | (simp only [List.length_append, List.length_take, List.length_drop, List.length_map, List.length_nil] <;> omega)⟩ ?_)
          | (refine And.intro ⟨rfl, by rw [List.length_map]; omega⟩ ?_)
          | (refine And.intro (by first | omega | (dsimp only; omega)) ?_)
          | (intro cap' hcap')
          | (refine And.intro (by omega) ?_)
          | (refine BB.mk (fun _h => ?_) (fun _h => ?_) <;> (first | (exact absurd _h (by decide)) | (exfalso; simp only [boolSet] at _h <;> omega) | skip)))
        all_goals (try conv => whnf)
        refine loop_rule (α := Nat) (fun k => k ≤ (insA A x).length) (fun k => { slots := [(12, .s (.n 0) 5 0 A.length c1), (16, .s (.n 1) 5 0 A.length cap'), (17, .s (.n 2) 5 0 (insA A x).length c3), (119, .s (.n 2) 5 0 (insA A x).length c3), (120, .v (.int .i64 (insA A x).length)), (121, .v (.int .i64 k))], nt := 139, mem := ⟨GG, [.ro 5 (l.map askC)], [.row 28 5 c1 (A.map askC), .row 28 5 cap' (A.map askC), .row 28 5 c3 ((midI (insA A x) k).map askC)]⟩ }) (fun k => (insA A x).length - k) 0 (Nat.zero_le _) ⟨⟨[2, 8, 9], (by decide), GG_no, rfl, (SubOld.refl _ rfl), ⟨.inr rfl, .inr (congrArg (fun z => some (SB.row 28 5 cap' z)) hta), .inr rfl, trivial⟩, ⟨.inl rfl, .inl (sl_eq (by omega) rfl), .inl rfl, .inl rfl, .inl rfl, .inl rfl, trivial⟩⟩, rfl⟩ ?_ (fun _ => rfl)
        rintro k hk
        refine vc_sound (C := seat) seat_ok (pl := [(14, (.of [(0, .take), (2, .take), (3, .take), (4, .take), (6, .take), (7, .take), (8, .take), (1, .do_), (5, .do_), (9, .do_), (10, .do_), (11, .take), (12, .take), (13, .take), (14, .take), (15, .take)]))]) ?_
        by_cases hlt : k < (insA A x).length
        · obtain ⟨y, hy⟩ : ∃ y, (insA A x)[k]? = some y := ⟨_, List.getElem?_eq_getElem hlt⟩
          have hrow := ask_at (midI_at hy)
          repeat' ((try conv => whnf); first
            | (with_reducible refine OKv.go (C := seat) seat_ok ?_)
            | (with_reducible refine BB_true ?_)
            | (with_reducible refine BB_false ?_)
            | (with_reducible refine Both.mk ?_ ?_)
            | (with_reducible refine VS.mk ?_)
            | (refine PSem.go (C := seat) seat_ok ?_)
            | (refine And.intro (PlanOK.mk (by kernel_rfl) rfl (by kernel_rfl) (by kernel_rfl)) ?_)
            | (refine And.intro rfl (Exists.intro _ (And.intro (by first | assumption | rfl) ?_)))
            | (refine And.intro ⟨rfl, rfl, rfl⟩ ?_)
            | (refine And.intro (by omega) ?_)
            | (refine BB.mk (fun _h => ?_) (fun _h => ?_) <;> (first | (exact absurd _h (by decide)) | (exfalso; simp only [boolSet] at _h <;> omega) | skip)))
          all_goals (try conv => whnf)
          all_goals first
            | exact ⟨k + 1, by omega, by omega, ⟨⟨[0, 1, 2], by decide, GG_no, rfl, SubOld.refl _ rfl, ⟨.inr rfl, .inr rfl, .inr (congrArg (fun z => some (SB.row 28 5 c3 z)) (midI_row hy rfl)), trivial⟩, ⟨.inl rfl, .inl rfl, .inl rfl, .inl rfl, .inl rfl, .inl (num_eq (by rw [IntKind.wrap_i64]; omega)), trivial⟩⟩, rfl⟩⟩
            | trace_state
        · skip
          repeat' ((try conv => whnf); first
            | (with_reducible refine OKv.go (C := seat) seat_ok ?_)
            | (with_reducible refine BB_true ?_)
            | (with_reducible refine BB_false ?_)
            | (with_reducible refine Both.mk ?_ ?_)
            | (with_reducible refine VS.mk ?_)
            | (refine PSem.go (C := seat) seat_ok ?_)
            | (refine And.intro (PlanOK.mk (by kernel_rfl) rfl (by kernel_rfl) (by kernel_rfl)) ?_)
            | (refine And.intro rfl (Exists.intro _ (And.intro (by first | assumption | rfl) ?_)))
            | (refine And.intro ⟨rfl, rfl, rfl⟩ ?_)
            | (refine call_ro [_, _] (sameA_is A A _ _ true (by omega) (decide_eq_true rfl)) GG_no rfl rfl rfl ⟨⟨_, rfl, rfl, rfl⟩, ⟨_, rfl, rfl, rfl⟩, trivial⟩ ?_; rintro r bs' ext ⟨rfl, rfl⟩)
            | (refine call_ro [] (awake_ok) GG_no rfl rfl rfl trivial ?_; rintro r bs' ext ⟨rfl, rfl⟩)
            | (refine And.intro (by omega) ?_)
            | (refine BB.mk (fun _h => ?_) (fun _h => ?_) <;> (first | (exact absurd _h (by decide)) | (exfalso; simp only [boolSet] at _h <;> omega) | skip)))
          all_goals (try conv => whnf)
          all_goals exact ⟨rfl, rfl⟩

    · skip
      repeat' ((try conv => whnf); first
        | (with_reducible refine OKv.go (C := seat) seat_ok ?_)
        | (with_reducible refine BB_true ?_)
        | (with_reducible refine BB_false ?_)
        | (with_reducible refine Both.mk ?_ ?_)
        | (with_reducible refine VS.mk ?_)
        | (refine PSem.go (C := seat) seat_ok ?_)
        | (refine And.intro (PlanOK.mk (by kernel_rfl) rfl (by kernel_rfl) (by kernel_rfl)) ?_)
        | (refine And.intro rfl (Exists.intro _ (And.intro (by first | assumption | rfl) ?_)))
        | (refine And.intro ⟨rfl, rfl, rfl⟩ ?_)
        | (refine call_ro [] (awake_ok) GG_no rfl rfl rfl trivial ?_; rintro r bs' ext ⟨rfl, rfl⟩)
        | (refine And.intro (by omega) ?_)
        | (refine BB.mk (fun _h => ?_) (fun _h => ?_) <;> (first | (exact absurd _h (by decide)) | (exfalso; simp only [boolSet] at _h <;> omega) | skip)))
      all_goals (try conv => whnf)

      all_goals exact ⟨rfl, rfl⟩
end Go.Proofs.Ytcjcnlahieddoaa
