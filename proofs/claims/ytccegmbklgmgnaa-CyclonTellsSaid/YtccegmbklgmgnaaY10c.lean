/- Stage 10: Merge, walked. -/
import Derived.Test.YtccegmbklgmgnaaY10b
import Derived.Test.YtccegmbklgmgnaaD09v
namespace Go.Proofs.Ytccegmbklgmgnaa
open Go.RowKit

theorem drop1_some (l sent got : List De) (cl cs cg : Nat) (at_ : Nat) (hl : l.length ≤ 1099511627776) (hsl : sent.length ≤ 1099511627776) (hgl : got.length ≤ 1099511627776) (hr : Rising l) (hf : FlOk l) (hat : at_ ≤ sent.length) (c : Nat) (s : De) (hg : giveL got l (sent.drop at_) = (c, some s)) : FnOK Try.prog GG 40 [.box 3 [.v (.int .i64 (at_ : Int))], .box 22 [.z 4 (sent.map deC) cs], .box 22 [.z 4 (got.map deC) cg]] [.z 4 (l.map deC) cl, .p (.o 0) 0 0 0, .p (.o 1) 0 0 0, .p (.o 2) 0 0 0] (fun r bs' ext => (∃ c', (dropL s.node l).length ≤ c' ∧ r = .tup [.z 4 ((dropL s.node l).map deC) c', .v (.bool true)] ∧ bs' = [.box 3 [.v (.int .i64 ((at_ + c : Nat) : Int))], .box 22 [.z 4 (sent.map deC) cs], .box 22 [.z 4 (got.map deC) cg]]) ∧ ext = []) := by
  have h := drop1_ok l sent got cl cs cg at_ hl hsl hgl hr hf hat
  rw [hg] at h
  exact h
theorem drop1_none (l sent got : List De) (cl cs cg : Nat) (at_ : Nat) (hl : l.length ≤ 1099511627776) (hsl : sent.length ≤ 1099511627776) (hgl : got.length ≤ 1099511627776) (hr : Rising l) (hf : FlOk l) (hat : at_ ≤ sent.length) (c : Nat) (hg : giveL got l (sent.drop at_) = (c, none)) : FnOK Try.prog GG 40 [.box 3 [.v (.int .i64 (at_ : Int))], .box 22 [.z 4 (sent.map deC) cs], .box 22 [.z 4 (got.map deC) cg]] [.z 4 (l.map deC) cl, .p (.o 0) 0 0 0, .p (.o 1) 0 0 0, .p (.o 2) 0 0 0] (fun r bs' ext => (∃ c', 0 ≤ c' ∧ r = .tup [.z 4 [] c', .v (.bool false)] ∧ bs' = [.box 3 [.v (.int .i64 ((at_ + c : Nat) : Int))], .box 22 [.z 4 (sent.map deC) cs], .box 22 [.z 4 (got.map deC) cg]]) ∧ ext = []) := by
  have h := drop1_ok l sent got cl cs cg at_ hl hsl hgl hr hf hat
  rw [hg] at h
  exact h
/-- What becomes of a view, and of how many were looked at, behind one that came. -/
def mergeS (sent got : List De) (me room : Int) (d : De) (p : List De × Nat) : List De × Nat :=
  if (putP p.1 d me room).2 = true then ((putP p.1 d me room).1, p.2)
  else if d.node = me ∨ d.inc < 1 ∨ 0 ≤ findZ d.node p.1 then p
  else match giveL got p.1 (sent.drop p.2) with
    | (c, some s) => ((putP (dropL s.node p.1) d me room).1, p.2 + c)
    | (c, none) => (p.1, p.2 + c)
def mergeN (sent got : List De) (me room : Int) (l : List De) : Nat → List De × Nat
  | 0 => (l, 0)
  | k + 1 => match got[k]? with
    | some d => mergeS sent got me room d (mergeN sent got me room l k)
    | none => mergeN sent got me room l k
theorem put_flO {l : List De} {d : De} {self room : Int} (h : FlOk l) (hd : d.fl.length ≤ 1099511627776) : FlOk (putP l d self room).1 := fun y hy => by
  rcases put_mem hy with rfl | hy
  · exact hd
  · exact h y hy
theorem put_false {l : List De} {d : De} {self room : Int} (h : (putP l d self room).2 = false) : putP l d self room = (l, false) := by
  unfold putP at h ⊢
  split at h
  · rename_i h1; rw [if_pos h1]
  · rename_i h1
    rw [if_neg h1]
    split at h
    · rename_i h2
      rw [if_pos h2]
      split at h
      · rename_i h3; rw [if_pos h3]
      · cases h
    · rename_i h2
      rw [if_neg h2]
      split at h
      · cases h
      · rename_i h3; rw [if_neg h3]
theorem mergeS_ok {sent got : List De} {me room : Int} {d : De} {p : List De × Nat} (hV : VOk me room p.1) (hf : FlOk p.1) (hd : d.fl.length ≤ 1099511627776) (ha : p.2 ≤ sent.length) :
    VOk me room (mergeS sent got me room d p).1 ∧ FlOk (mergeS sent got me room d p).1 ∧ (mergeS sent got me room d p).2 ≤ sent.length := by
  unfold mergeS
  split
  · exact ⟨hV.put d, put_flO hf hd, ha⟩
  · split
    · exact ⟨hV, hf, ha⟩
    · have := giveL_le got p.1 (sent.drop p.2)
      rw [List.length_drop] at this
      split
      · rename_i c s e
        rw [e] at this
        exact ⟨(hV.drop _).put d, put_flO (fun z hz => hf z (drop_mem hz)) hd, by dsimp only at *; omega⟩
      · rename_i c e
        rw [e] at this
        exact ⟨hV, hf, by dsimp only at *; omega⟩
theorem mergeN_ok {sent got : List De} {me room : Int} {l : List De} (hV : VOk me room l) (hf : FlOk l) (hg : FlOk got) : ∀ k,
    VOk me room (mergeN sent got me room l k).1 ∧ FlOk (mergeN sent got me room l k).1 ∧ (mergeN sent got me room l k).2 ≤ sent.length
  | 0 => ⟨hV, hf, Nat.zero_le _⟩
  | k + 1 => by
    obtain ⟨h1, h2, h3⟩ := mergeN_ok (sent := sent) hV hf hg k
    rw [mergeN]
    split
    · rename_i d hd
      exact mergeS_ok h1 h2 (hg d (List.mem_of_getElem? hd)) h3
    · exact ⟨h1, h2, h3⟩
set_option maxRecDepth 100000 in
set_option maxHeartbeats 4000000 in
theorem merge_ok (l got sent : List De) (cl cg cs : Nat) (self room : Int) (hV : VOk self room l) (hrm : room ≤ 1000) (hf : FlOk l) (hgf : FlOk got) (hg : got.length ≤ 1099511627776) (hs : sent.length ≤ 1099511627776) : FnOK Try.prog GG 17 [] [.z 4 (l.map deC) cl, .z 4 (got.map deC) cg, .z 4 (sent.map deC) cs, .v (.int .u8 self), .v (.int .i64 room)] (fun r _ ext => (∃ c', (mergeN sent got self room l got.length).1.length ≤ c' ∧ r = .z 4 ((mergeN sent got self room l got.length).1.map deC) c') ∧ ext = []) := by
  have hlen := hV.len
  have hgm : (got.map deC).length = got.length := List.length_map _
  refine FnOK.pure GG_no rfl (fn_intro (C := seat) seat_ok [] GG_no (Try.func17) rfl rfl rfl rfl rfl ?_)
  repeat' ((try conv => whnf); first
    | (with_reducible refine OKv.go (C := seat) seat_ok ?_)
    | (with_reducible refine BB_true ?_)
    | (with_reducible refine BB_false ?_)
    | (with_reducible refine Both.mk ?_ ?_)
    | (with_reducible refine VS.mk ?_)
    | (refine PSem.go (C := seat) seat_ok ?_)
    | (refine And.intro (PlanOK.mk (by kernel_rfl) rfl (by kernel_rfl) (by kernel_rfl)) ?_)
    | (refine And.intro rfl (Exists.intro _ (And.intro (by first | assumption | rfl) ?_)))
    | (refine And.intro ⟨rfl, rfl, rfl⟩ ?_)
    | (refine call_ro [] (copy_zz l cl (by omega) hf) GG_no rfl rfl rfl trivial ?_; rintro r bs' ext ⟨⟨c', hc', rfl⟩, rfl⟩)
    | (refine call_ro [] (dropper_ok sent got cs cg) GG_no rfl rfl rfl trivial ?_; rintro r bs' ext ⟨rfl, rfl⟩)
    | (refine And.intro (by omega) ?_)
    | (refine BB.mk (fun _h => ?_) (fun _h => ?_) <;> (first | (exact absurd _h (by decide)) | (exfalso; simp only [boolSet] at _h <;> omega) | skip)))
  all_goals (try conv => whnf)
  refine loop_rule (α := Nat × Nat) (fun p => p.1 ≤ got.length ∧ (mergeN sent got self room l p.1).1.length ≤ p.2) (fun p => { slots := [(3, .v (.int .u8 self)), (4, .v (.int .i64 room)), (11, .z 4 ((mergeN sent got self room l p.1).1.map deC) p.2), (12, .fn 40 [.p (.n 2) 0 0 0, .p (.n 0) 0 0 0, .p (.n 1) 0 0 0]), (24, .z 4 (got.map deC) cg), (25, .v (.int .i64 (got.map deC).length)), (26, .v (.int .i64 (p.1 : Int)))], nt := 73, mem := ⟨GG, [], [.box 22 [.z 4 (sent.map deC) cs], .box 22 [.z 4 (got.map deC) cg], .box 3 [.v (.int .i64 ((mergeN sent got self room l p.1).2 : Int))]]⟩ }) (fun p => got.length - p.1) (0, c') ⟨Nat.zero_le _, hc'⟩ ⟨⟨[0, 1, 2], (by decide), GG_no, rfl, (SubOld.refl _ rfl), ⟨rfl, rfl, rfl, trivial⟩, ⟨.inl rfl, .inl rfl, .inl rfl, .inl rfl, .inl rfl, .inl rfl, .inl rfl, trivial⟩⟩, rfl⟩ ?_ (fun _ => rfl)
  rintro ⟨k, c⟩ ⟨hk, hc⟩
  dsimp only at hk hc ⊢
  refine vc_sound (C := seat) seat_ok (pl := []) ?_
  obtain ⟨hVk, hfk, hat⟩ := mergeN_ok (sent := sent) (got := got) hV hf hgf k
  have hsucc : ∀ d, got[k]? = some d → mergeN sent got self room l (k + 1) = mergeS sent got self room d (mergeN sent got self room l k) := fun d hd => by rw [mergeN, hd]
  generalize hp : mergeN sent got self room l k = p at *
  obtain ⟨out, at_⟩ := p
  dsimp only at hVk hfk hat hc ⊢
  have hlk := hVk.len
  by_cases hlt : k < got.length
  · obtain ⟨d, hd⟩ : ∃ d, got[k]? = some d := ⟨_, List.getElem?_eq_getElem hlt⟩
    have hrow := zde_at hd
    have hdf := hgf d (List.mem_of_getElem? hd)
    have hnx := hsucc d hd
    unfold mergeS at hnx
    dsimp only at hnx
    cases hpt : (putP out d self room).2 with
    | true =>
      rw [if_pos hpt] at hnx
      repeat' ((try conv => whnf); first
        | (with_reducible refine OKv.go (C := seat) seat_ok ?_)
        | (with_reducible refine BB_true ?_)
        | (with_reducible refine BB_false ?_)
        | (with_reducible refine Both.mk ?_ ?_)
        | (with_reducible refine VS.mk ?_)
        | (refine PSem.go (C := seat) seat_ok ?_)
        | (refine And.intro (PlanOK.mk (by kernel_rfl) rfl (by kernel_rfl) (by kernel_rfl)) ?_)
        | (refine And.intro rfl (Exists.intro _ (And.intro (by first | assumption | rfl) ?_)))
        | (refine And.intro ⟨rfl, rfl, rfl⟩ ?_)
        | (refine call_ro [] (put_zz out c (by omega) hVk.rising hfk d _ (by simpa using hcaps.1) hdf self room (putP out d self room).1 true (by rw [← hpt])) GG_no rfl rfl rfl trivial ?_; rintro r bs' ext ⟨⟨c1, hc1, rfl⟩, rfl⟩)
        | (refine And.intro ⟨by omega, by simp only [List.length_map]; omega⟩ (Exists.intro _ (And.intro (by first | assumption | rfl) ?_)))
        | (refine fun (caps : Nat → Nat) hcaps => ?_; conv at hcaps => whnf)
        | (refine And.intro (by omega) ?_)
        | (refine BB.mk (fun _h => ?_) (fun _h => ?_) <;> (first | (exact absurd _h (by decide)) | (exfalso; simp only [boolSet] at _h <;> omega) | skip)))
      all_goals (try conv => whnf)
      exact ⟨(k + 1, c1), ⟨by dsimp only; omega, by dsimp only; rw [hnx]; exact hc1⟩, by dsimp only; omega, ⟨⟨[0, 1, 2], by decide, GG_no, rfl, SubOld.refl _ rfl, ⟨rfl, rfl, (by show _ = some (SB.box 3 [.v (.int .i64 ((mergeN sent got self room l (k + 1)).2 : Int))]); rw [hnx]; rfl), trivial⟩, ⟨.inl rfl, .inl rfl, .inl (by dsimp only; rw [hnx]; rfl), .inl rfl, .inl rfl, .inl rfl, .inl (num_eq (by rw [IntKind.wrap_i64]; omega)), trivial⟩⟩, rfl⟩⟩
    | false =>
      have he := put_false hpt
      rw [if_neg (by simp [hpt])] at hnx
      by_cases hst : d.node = self ∨ d.inc < 1 ∨ 0 ≤ findZ d.node out
      · rw [if_pos hst] at hnx
        repeat' ((try conv => whnf); first
          | (with_reducible refine OKv.go (C := seat) seat_ok ?_)
          | (with_reducible refine BB_true ?_)
          | (with_reducible refine BB_false ?_)
          | (with_reducible refine Both.mk ?_ ?_)
          | (with_reducible refine VS.mk ?_)
          | (refine PSem.go (C := seat) seat_ok ?_)
          | (refine And.intro (PlanOK.mk (by kernel_rfl) rfl (by kernel_rfl) (by kernel_rfl)) ?_)
          | (refine And.intro rfl (Exists.intro _ (And.intro (by first | assumption | rfl) ?_)))
          | (refine And.intro ⟨rfl, rfl, rfl⟩ ?_)
          | (refine call_ro [] (put_zz out c (by omega) hVk.rising hfk d _ (by simpa using hcaps.1) hdf self room out false he) GG_no rfl rfl rfl trivial ?_; rintro r bs' ext ⟨⟨c1, hc1, rfl⟩, rfl⟩)
          | (refine call_ro [] (find_zz out c d.node (by omega) hVk.rising _ rfl) GG_no rfl rfl rfl trivial ?_; rintro r bs' ext ⟨rfl, rfl⟩)
          | (refine And.intro ⟨by omega, by simp only [List.length_map]; omega⟩ (Exists.intro _ (And.intro (by first | assumption | rfl) ?_)))
          | (refine fun (caps : Nat → Nat) hcaps => ?_; conv at hcaps => whnf)
          | (refine BB.mk (fun _h => ?_) (fun _h => ?_) <;> (first | (exact absurd _h (by decide)) | (exfalso; simp only [boolSet] at _h <;> omega) | (simp only [boolSet] at _h) | skip))
          | (refine And.intro (by omega) ?_)
          | (refine BB.mk (fun _h => ?_) (fun _h => ?_) <;> (first | (exact absurd _h (by decide)) | (exfalso; simp only [boolSet] at _h <;> omega) | skip)))
        all_goals (try conv => whnf)
        all_goals first
          | exact ⟨(k + 1, c), ⟨by dsimp only; omega, by dsimp only; rw [hnx]; exact hc⟩, by dsimp only; omega, ⟨⟨[0, 1, 2], by decide, GG_no, rfl, SubOld.refl _ rfl, ⟨rfl, rfl, (by show _ = some (SB.box 3 [.v (.int .i64 ((mergeN sent got self room l (k + 1)).2 : Int))]); rw [hnx]; rfl), trivial⟩, ⟨.inl rfl, .inl rfl, .inl (by dsimp only; rw [hnx]; rfl), .inl rfl, .inl rfl, .inl rfl, .inl (num_eq (by rw [IntKind.wrap_i64]; omega)), trivial⟩⟩, rfl⟩⟩
          | (exfalso; omega)
      · rw [if_neg hst] at hnx
        rcases hgv : giveL got out (sent.drop at_) with ⟨cc, _ | s⟩
        · rw [hgv] at hnx
          dsimp only at hnx
          repeat' ((try conv => whnf); first
            | (with_reducible refine OKv.go (C := seat) seat_ok ?_)
            | (with_reducible refine BB_true ?_)
            | (with_reducible refine BB_false ?_)
            | (with_reducible refine Both.mk ?_ ?_)
            | (with_reducible refine VS.mk ?_)
            | (refine PSem.go (C := seat) seat_ok ?_)
            | (refine And.intro (PlanOK.mk (by kernel_rfl) rfl (by kernel_rfl) (by kernel_rfl)) ?_)
            | (refine And.intro rfl (Exists.intro _ (And.intro (by first | assumption | rfl) ?_)))
            | (refine And.intro ⟨rfl, rfl, rfl⟩ ?_)
            | (refine call_ro [] (put_zz out c (by omega) hVk.rising hfk d _ (by simpa using hcaps.1) hdf self room out false he) GG_no rfl rfl rfl trivial ?_; rintro r bs' ext ⟨⟨c1, hc1, rfl⟩, rfl⟩)
            | (refine call_ro [] (find_zz out c d.node (by omega) hVk.rising _ rfl) GG_no rfl rfl rfl trivial ?_; rintro r bs' ext ⟨rfl, rfl⟩)
            | (refine call_own [.n 2, .n 0, .n 1] (drop1_none out sent got c cs cg at_ (by omega) hs hg hVk.rising hfk hat cc hgv) GG_no rfl rfl rfl ⟨⟨_, rfl, .inr ⟨(fun _ h => by cases h), rfl⟩⟩, ⟨_, rfl, .inr ⟨(fun _ h => by cases h), rfl⟩⟩, ⟨_, rfl, .inr ⟨(fun _ h => by cases h), rfl⟩⟩, trivial⟩ (by decide) ?_; rintro r bs' ext ⟨⟨c2, hc2, rfl, rfl⟩, rfl⟩; refine ⟨trivial, ?_⟩)
            | (refine And.intro ⟨by omega, by simp only [List.length_map]; omega⟩ (Exists.intro _ (And.intro (by first | assumption | rfl) ?_)))
            | (refine fun (caps : Nat → Nat) hcaps => ?_; conv at hcaps => whnf)
            | (refine BB.mk (fun _h => ?_) (fun _h => ?_) <;> (first | (exact absurd _h (by decide)) | (exfalso; simp only [boolSet] at _h <;> omega) | (simp only [boolSet] at _h) | skip))
            | (refine And.intro (by omega) ?_)
            | (refine BB.mk (fun _h => ?_) (fun _h => ?_) <;> (first | (exact absurd _h (by decide)) | (exfalso; simp only [boolSet] at _h <;> omega) | skip)))
          all_goals (try conv => whnf)
          exact ⟨(k + 1, c), ⟨by dsimp only; omega, by dsimp only; rw [hnx]; exact hc⟩, by dsimp only; omega, ⟨⟨[0, 1, 2], by decide, GG_no, rfl, SubOld.refl _ rfl, ⟨rfl, rfl, (by show _ = some (SB.box 3 [.v (.int .i64 ((mergeN sent got self room l (k + 1)).2 : Int))]); rw [hnx]; rfl), trivial⟩, ⟨.inl rfl, .inl rfl, .inl (by dsimp only; rw [hnx]; rfl), .inl rfl, .inl rfl, .inl rfl, .inl (num_eq (by rw [IntKind.wrap_i64]; omega)), trivial⟩⟩, rfl⟩⟩
        · rw [hgv] at hnx
          dsimp only at hnx
          have he2 : putP (dropL s.node out) d self room = ((putP (dropL s.node out) d self room).1, (putP (dropL s.node out) d self room).2) := rfl
          generalize hnp : (putP (dropL s.node out) d self room).1 = no at *
          repeat' ((try conv => whnf); first
            | (with_reducible refine OKv.go (C := seat) seat_ok ?_)
            | (with_reducible refine BB_true ?_)
            | (with_reducible refine BB_false ?_)
            | (with_reducible refine Both.mk ?_ ?_)
            | (with_reducible refine VS.mk ?_)
            | (refine PSem.go (C := seat) seat_ok ?_)
            | (refine And.intro (PlanOK.mk (by kernel_rfl) rfl (by kernel_rfl) (by kernel_rfl)) ?_)
            | (refine And.intro rfl (Exists.intro _ (And.intro (by first | assumption | rfl) ?_)))
            | (refine And.intro ⟨rfl, rfl, rfl⟩ ?_)
            | (refine call_ro [] (put_zz out c (by omega) hVk.rising hfk d _ (by simpa using hcaps.1) hdf self room out false he) GG_no rfl rfl rfl trivial ?_; rintro r bs' ext ⟨⟨c1, hc1, rfl⟩, rfl⟩)
            | (refine call_ro [] (find_zz out c d.node (by omega) hVk.rising _ rfl) GG_no rfl rfl rfl trivial ?_; rintro r bs' ext ⟨rfl, rfl⟩)
            | (refine call_own [.n 2, .n 0, .n 1] (drop1_some out sent got c cs cg at_ (by omega) hs hg hVk.rising hfk hat cc s hgv) GG_no rfl rfl rfl ⟨⟨_, rfl, .inr ⟨(fun _ h => by cases h), rfl⟩⟩, ⟨_, rfl, .inr ⟨(fun _ h => by cases h), rfl⟩⟩, ⟨_, rfl, .inr ⟨(fun _ h => by cases h), rfl⟩⟩, trivial⟩ (by decide) ?_; rintro r bs' ext ⟨⟨c2, hc2, rfl, rfl⟩, rfl⟩; refine ⟨trivial, ?_⟩)
            | (refine call_ro [] (put_zz (dropL s.node out) c2 (Nat.le_trans drop_len (by omega)) (drop_rising hVk.rising) (fun z hz => hfk z (drop_mem hz)) d _ (by simpa using hcaps.1) hdf self room no _ he2) GG_no rfl rfl rfl trivial ?_; rintro r bs' ext ⟨⟨c3, hc3, rfl⟩, rfl⟩)
            | (refine And.intro ⟨by omega, by simp only [List.length_map]; omega⟩ (Exists.intro _ (And.intro (by first | assumption | rfl) ?_)))
            | (refine fun (caps : Nat → Nat) hcaps => ?_; conv at hcaps => whnf)
            | (refine BB.mk (fun _h => ?_) (fun _h => ?_) <;> (first | (exact absurd _h (by decide)) | (exfalso; simp only [boolSet] at _h <;> omega) | (simp only [boolSet] at _h) | skip))
            | (refine And.intro (by omega) ?_)
            | (refine BB.mk (fun _h => ?_) (fun _h => ?_) <;> (first | (exact absurd _h (by decide)) | (exfalso; simp only [boolSet] at _h <;> omega) | skip)))
          all_goals (try conv => whnf)
          exact ⟨(k + 1, c3), ⟨by dsimp only; omega, by dsimp only; rw [hnx]; exact hc3⟩, by dsimp only; omega, ⟨⟨[0, 1, 2], by decide, GG_no, rfl, SubOld.refl _ rfl, ⟨rfl, rfl, (by show _ = some (SB.box 3 [.v (.int .i64 ((mergeN sent got self room l (k + 1)).2 : Int))]); rw [hnx]; rfl), trivial⟩, ⟨.inl rfl, .inl rfl, .inl (by dsimp only; rw [hnx]; rfl), .inl rfl, .inl rfl, .inl rfl, .inl (num_eq (by rw [IntKind.wrap_i64]; omega)), trivial⟩⟩, rfl⟩⟩
  · obtain rfl : k = got.length := by omega
    repeat' ((try conv => whnf); first
      | (with_reducible refine OKv.go (C := seat) seat_ok ?_)
      | (with_reducible refine BB_true ?_)
      | (with_reducible refine BB_false ?_)
      | (with_reducible refine Both.mk ?_ ?_)
      | (with_reducible refine VS.mk ?_)
      | (refine PSem.go (C := seat) seat_ok ?_)
      | (refine And.intro (PlanOK.mk (by kernel_rfl) rfl (by kernel_rfl) (by kernel_rfl)) ?_)
      | (refine And.intro rfl (Exists.intro _ (And.intro (by first | assumption | rfl) ?_)))
      | (refine And.intro ⟨rfl, rfl, rfl⟩ ?_)
      | (refine And.intro (by omega) ?_)
      | (refine BB.mk (fun _h => ?_) (fun _h => ?_) <;> (first | (exact absurd _h (by decide)) | (exfalso; simp only [boolSet] at _h <;> omega) | skip)))
    all_goals (try conv => whnf)
    exact ⟨_, _, FrzV.refl _ _, rfl, rfl, fun _ => rfl, c, (by rw [hp]; exact hc), (by rw [hp])⟩
end Go.Proofs.Ytccegmbklgmgnaa
