/- The common ground of this seat's proofs: how a law's statement follows from a contract on its call. -/
import Derived.Test.YtkcdomafdjpbjaaRows
import Derived.WalkKit
import Derived.WalkSpells
import Derived.WalkLawsBesides
import Derived.Lib.Hide
import Derived.ProofKit
import Derived.Deep.Draws
import Derived.Deep.DeepHandedRow
import Derived.Lib.LaidTab
namespace Go.Proofs.Ytkcdomafdjpbjaa
open Go.RowKit Go.ChangeShapes Go.WideShapes Go.ChangeAt

/-- What a law's call owes: it returns true, and nothing that lay in memory has turned. -/
def Yes (w : World) (e : Ending) (w' : World) : Prop := e = .returned (.bool true) ∧ Below w.heap.size w w'

/-- A call behind what has gone before. -/
theorem Bel {w a b : World} (h : Below w.heap.size w a) (k : Below a.heap.size a b) : Below w.heap.size w b := h.trans (k.mono h.size)

theorem belN {B : Nat} {a w : World} (h : Below B a w) (n : Nat) : Below B a (w.drewN n) := ⟨h.os, h.tape, h.output, h.size, h.block⟩

section
variable {H : Type} {enc : TypeId × Value → H} {P : Program}

theorem trodAll_app {w : World} {base : Nat} {sp : Nat → Bool} {hd : Bool} : ∀ {ts : List TypeId} {vs : List Value} {ds : List (DataW H)} {p : List MemPlace} {us : List TypeId} {xs : List Value} {es : List (DataW H)} {q : List MemPlace},
    DataW.TrodAll enc P w base sp hd ts vs ds p → DataW.TrodAll enc P w base sp hd us xs es q → DataW.TrodAll enc P w base sp hd (ts ++ us) (vs ++ xs) (ds ++ es) (p ++ q)
  | [], [], [], _, _, _, _, _, h, k => by
    have : _ = [] := h
    subst this
    exact k
  | t :: ts, v :: vs, d :: ds, _, _, _, _, _, h, k => by
    obtain ⟨p1, p2, h1, h2, rfl⟩ := h
    rw [List.append_assoc]
    exact ⟨p1, p2 ++ _, h1, trodAll_app h2 k, rfl⟩
  | [], [], _ :: _, _, _, _, _, _, h, _ => False.elim h
  | [], _ :: _, _, _, _, _, _, _, h, _ => False.elim h
  | _ :: _, [], _, _, _, _, _, _, h, _ => False.elim h
  | _ :: _, _ :: _, [], _, _, _, _, _, h, _ => False.elim h

theorem trodAll_below (hl : laidOutB P = true) {W W' : World} (hb : Below W.heap.size W W') : ∀ {ts : List TypeId} {vs : List Value} {ds : List (DataW H)} {ps : List MemPlace},
    ts.all (fun t => P.readableRec t && decide (t < P.types.size)) = true → DataW.TrodAll enc P W 0 (fun _ => true) true ts vs ds ps → (∀ x ∈ ps, x.block < W.heap.size) → ∀ sp : Nat → Bool, (∀ b, b < W.heap.size → sp b = true) →
    DataW.TrodAll enc P W' 0 sp true ts vs ds ps
  | [], [], [], _, _, h, _, _, _ => h
  | t :: ts, v :: vs, d :: ds, _, hr, h, hlt, sp, hsp => by
    obtain ⟨p, q, h1, h2, rfl⟩ := h
    simp only [List.all_cons, Bool.and_eq_true, decide_eq_true_eq] at hr
    refine ⟨p, q, ?_, trodAll_below hl hb hr.2 h2 (fun x hx => hlt x (by simp [hx])) sp hsp, rfl⟩
    exact WideElems.Trod_stays hl hr.1.1 hr.1.2 h1 (fun x hx => hb.same (hlt x (by simp [hx]))) (fun x hx => hsp _ (hlt x (by simp [hx])))
  | [], [], _ :: _, _, _, h, _, _, _ => False.elim h
  | [], _ :: _, _, _, _, h, _, _, _ => False.elim h
  | _ :: _, [], _, _, _, h, _, _, _ => False.elim h
  | _ :: _, _ :: _, [], _, _, h, _, _, _ => False.elim h

theorem trodAll_len {w : World} {base : Nat} {sp : Nat → Bool} {hd : Bool} : ∀ {ts : List TypeId} {vs : List Value} {ds : List (DataW H)} {ps : List MemPlace}, DataW.TrodAll enc P w base sp hd ts vs ds ps → ds.length = ts.length
  | [], [], [], _, _ => rfl
  | _ :: _, _ :: _, _ :: _, _, ⟨_, _, _, h, _⟩ => by simp [trodAll_len h]
  | [], [], _ :: _, _, h => False.elim h
  | [], _ :: _, _, _, h => False.elim h
  | _ :: _, [], _, _, h => False.elim h
  | _ :: _, _ :: _, [], _, h => False.elim h

/-- The post of a law's row, out of what its call owes. -/
theorem post_of_yes {f : Func} {s : ChangeSpec} {apart fresh handsOn again : Bool} {W W' : World} {args : Array Value} {ds gs : List (DataW H)} {before : List MemPlace} {tb : TypeId}
    (hl : laidOutB P = true) (hr : f.params.toList.all (fun t => P.readableRec t && decide (t < P.types.size)) = true) (hrt : f.resultTypes = #[tb]) (htb : P.underlying tb = some .bool)
    (hv : s.vars = []) (hs : ∀ ds : List (DataW H), ds.length = f.params.size → s.fn H ds = { results := [.lit (.bool true)], args := ds })
    (hW : DataW.Whole enc P f.params.toList s.vars apart W args.toList ds gs before) (hb : Below W.heap.size W W') :
    s.post enc P f apart fresh handsOn again W args (.bool true) W' := by
  have hlt : ∀ p ∈ before, p.block < W.heap.size := fun p hp => hW.lt p hp
  have hWk := hW
  obtain ⟨p, q, hA, hV, rfl, hz, hn⟩ := hW
  have hgs : gs = [] ∧ q = [] := by
    rw [hv] at hV
    cases gs with
    | nil => exact ⟨rfl, hV⟩
    | cons _ _ => exact False.elim hV
  obtain ⟨rfl, rfl⟩ := hgs
  simp only [List.append_nil] at *
  have hfn : s.fn H (ds ++ []) = { results := [.lit (.bool true)], args := ds } := by
    rw [List.append_nil]
    exact hs ds (by rw [trodAll_len hA]; simp)
  have hargs := fun sp hsp => trodAll_below (enc := enc) hl hb hr hA hlt sp hsp
  have hres : ∀ (w : World) (b : Nat) (sp : Nat → Bool) (hd : Bool), DataW.TrodAll enc P w b sp hd f.resultTypes.toList ((Value.bool true).resultList f.resultTypes.size) [.lit (.bool true)] [] := by
    intro w b sp hd
    rw [hrt]
    exact ⟨[], [], shut_bool htb true, rfl, rfl⟩
  refine ⟨ds, [], p, [], p, [], hWk, ?_, ?_, ?_, ?_, fun _ => ⟨?_, ds.cons (.lit (.bool true)), [], p, ⟨p, [], ?_, ?_, by simp, ?_, ?_⟩, ?_⟩⟩
  · rw [hfn]; exact hres _ _ _ _
  · rw [hfn]; exact hargs _ (fun b hb => by simpa using hb)
  · rw [hv]
    show DataW.TrodVars enc P W' _ [] (s.fn H (ds ++ [])).vars []
    rw [hfn]; exact rfl
  · exact World.keptBut_mono (fun x hx => ⟨hx, Or.inr (Or.inl hx)⟩) (hb.frame (· ∈ p))
  · intro j t r ht hr
    rw [hrt] at ht hr
    cases j with
    | zero =>
      have e1 : tb = t := by simpa using ht
      have e2 : r = .bool true := by simpa [Value.resultList] using hr.symm
      subst e1; subst e2
      unfold Value.okWide Cell.okWide
      rw [htb]
      simp [Cell.ok, htb]
    | succ j => simp at ht
  · have := trodAll_app (hres W' 0 (fun _ => true) true) (hargs (fun _ => true) (fun _ _ => rfl))
    simpa using this
  · rw [hv]; exact rfl
  · intro b off hp
    rw [hb.frozen (hlt _ hp)]
    exact hz b off hp
  · intro ha; exact hn ha
  · intro x hx _; exact hx

end

/-- What a law's row asks of the judge's form, out of a contract on its call from whatever arguments read as data, in whatever world holds what the row lists. -/
theorem lifted {C : Checked} {os : Os} {f : FuncId} {fn : Func} {s : ChangeSpec} {o : OpenSpec} {F : Stop.Interp} {laid : List (String × DataW Unit)} {tb : TypeId} {apart fresh handsOn again : Bool} {H : Type} {enc : TypeId × Value → H}
    (ho : o.at F = s) (hov : o.vars = s.vars)
    (own : ownKnob C.prog.godebug = none) (started : os.Started) (noInit : C.prog.inits.idxOf? f = none) (hfn : C.prog.funcs[f]? = some fn)
    (witness : ∃ (w : World) (tape : Tape) (i : Input), w.os = os ∧ (w.forCall tape i).Shaped C.prog ∧ i.vars = [] ∧ Input.okWide C.prog (w.forCall tape i) .any w.heap.size f i ∧
      o.preRow enc C.prog fn [] apart laid (w.forCall tape i).memory i.args ∧ ({} : Assume).holds C.prog (lone (Frame.enter C.prog f i.args .normal) [] (w.forCall tape i)))
    (hl : laidOutB C.prog = true) (hr : fn.params.toList.all (fun t => C.prog.readableRec t && decide (t < C.prog.types.size)) = true) (hrt : fn.resultTypes = #[tb]) (htb : C.prog.underlying tb = some .bool)
    (hv : s.vars = []) (hs : ∀ ds : List (DataW H), ds.length = fn.params.size → s.fn H ds = { results := [.lit (.bool true)], args := ds })
    (calls : ∀ (W : World) (base : Nat) (args : Array Value) (ds : List (DataW H)) (ps : List MemPlace),
      (∀ (j : Nat) t v, fn.params[j]? = some t → args[j]? = some v → Value.okWide C.prog W .any base t v) →
      DataW.TrodAll enc C.prog W 0 (fun _ => true) true fn.params.toList args.toList ds ps → (∀ x ∈ ps, x.block < W.heap.size) → laidMetH C.prog laid W →
      (∀ k, o.cond = some k → k H ds = true) → (DataW.weightsEach C.prog fn.params.toList ds).all (· ≤ reachBytes) = true →
      Calls C.prog f args W (Yes W)) :
    ReturnsInHanded {} C os f .any (o.preRow enc C.prog fn [] apart laid) ((o.at F).post enc C.prog fn apart fresh handsOn again) := by
  refine returnsInHanded_of_row (C := C) own started noInit hfn witness ?_
  intro W base args ds gs before hval hW _ hcond hwt hlaid _ _
  rw [hov] at hW
  have hW' := hW
  obtain ⟨p, q, hA, hV, rfl, _, _⟩ := hW
  have hgs : gs = [] := by
    rw [hv] at hV
    cases gs with
    | nil => rfl
    | cons _ _ => exact False.elim hV
  subst hgs
  have hvt : o.bare.plain.varTypes C.prog = [] := by
    have e : o.bare.plain.vars = [] := by show o.vars = []; rw [hov, hv]
    simp [DataSpec.varTypes, e]
  rw [List.append_nil] at hwt hcond
  rw [hvt, List.append_nil] at hwt
  refine (calls W base args ds p hval hA (fun x hx => hW'.lt x (by simp [hx])) hlaid hcond hwt).mono fun e W' h => ?_
  rw [ho]
  exact ⟨_, h.1, post_of_yes hl hr hrt htb hv hs hW' h.2⟩

end Go.Proofs.Ytkcdomafdjpbjaa
