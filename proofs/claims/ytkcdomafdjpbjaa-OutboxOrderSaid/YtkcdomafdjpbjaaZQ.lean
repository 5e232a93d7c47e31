/- What an operation does that writes and makes no memory: all of them under one name. -/
import Derived.Test.YtkcdomafdjpbjaaZO
import Derived.Laws.BytesArg
namespace Go.Proofs.Ytkcdomafdjpbjaa
open Go.RowKit

structure Seat extends Ctx where
  E : List (Nat × List IntKind)
structure Seat.ok (C : Seat) : Prop where
  ty : C.toCtx.ok
  eq : ∀ t ks, assoc C.E t = some ks → EqOK C.P t ks

def cellsSV : SV → List SV
  | .agg l => l
  | x => [x]
def fillSV (T : List (Nat × TI)) (fs : List (Nat × Nat)) : List (Nat × SV) → List SV → (List SV → Prop) → Prop
  | [], cells, K => K cells
  | (j, x) :: rest, cells, K => match fs[j]? with
    | some (off, ft) => match assoc T ft with
      | some i => match x with
        | .any => False
        | .tup _ => False
        | .v (.agg _) => False
        | x => match Nat.beq (cellsSV x).length i.size, Nat.ble (off + i.size) cells.length with
          | true, true => fillSV T fs rest (cells.take off ++ cellsSV x ++ cells.drop (off + i.size)) K
          | _, _ => False
      | none => False
    | none => False
def minSV (big : Bool) (k : IntKind) (x : Int) : List SV → (SV → Prop) → Prop → Prop
  | [], K, _ => K (.v (.int k x))
  | .v (.int _ y) :: l, K, o => minSV big k (bif big then (if y > x then y else x) else (if y < x then y else x)) l K o
  | _, _, o => o
def boundSV (x : Option SV) (d : Int) (K : Int → Prop) (other : Prop) : Prop := match x with
  | none => K d
  | some (.v (.int _ i)) => K i
  | _ => other

def lenSV (T : List (Nat × TI)) (ts : Array Nat) (x : SV) (K : Nat → Nat → Prop) (other : Prop) : Prop := match ts.toList with
  | [t] => match assoc T t, x with
    | some i, .s _ _ _ n c => match i.d with
      | .slice _ => K n c
      | _ => other
    | some i, .v (.slice _ n c) => match i.d with
      | .slice _ => K n c
      | _ => other
    | some i, .z _ els c => match i.d with
      | .slice _ => K els.length c
      | _ => other
    | _, _ => other
  | _ => other
def lenStr (T : List (Nat × TI)) (ts : Array Nat) (x : SV) (K : Nat → Prop) (other : Prop) : Prop := match ts.toList with
  | [t] => match assoc T t, x with
    | some i, .v (.string s) => match i.d with
      | .str => K s.size
      | _ => other
    | _, _ => other
  | _ => other
def readEls (m : Mem) (x : SV) (sz : Nat) (K : List (List CV) → Nat → Prop) (other : Prop) : Prop := match x with
  | .v (.slice none 0 0) => K [] 0
  | .z sz' els _ => match Nat.beq sz sz' with
    | true => K els els.length
    | false => other
  | .s a sz' e n _ => match Nat.beq sz sz', m.look a with
    | true, some (.ro sz'' els) => (sz = sz'' ∧ e + n ≤ els.length) ∧ K ((els.drop e).take n) n
    | true, some (.row _ sz'' _ els) => (sz = sz'' ∧ e + n ≤ els.length) ∧ K ((els.drop e).take n) n
    | _, _ => other
  | _ => other
/-- The row's bytes. -/
def bytesK (els : List (List CV)) (K : SV → Prop) : Prop := ∃ ns : List Int, els = ns.map (fun n => [.v (Value.int .u8 n)]) ∧ K (.v (.string (strOfNums ns)))
def pureOp (C : Seat) (m : Mem) (ev : Operand → SV) (op : Op) (K : SV → Prop) (other : Prop) : Prop :=
  match op with
  | .move x | .assign x => K (ev x)
  | .pick c a b => match ev c with
    | .v (.bool t) => BB t (K (ev a)) (K (ev b))
    | _ => other
  | .load t x => loadSV C.toCtx m t (ev x) K
  | .binOp op t x y _ => match ev x, ev y with
    | .v (.int k a), .v (.int k' b) => match op with
      | .shl => 0 ≤ b ∧ K (.v (.int k (k.wrap (a * 2 ^ min b.toNat k.bits))))
      | .shr => 0 ≤ b ∧ K (.v (.int k (a.fdiv (2 ^ min b.toNat k.bits))))
      | op => match decide (k = k') with
        | true => intBin op k a b K other
        | false => other
    | .agg xs, .agg ys => eqSV C.E op t xs ys K other
    | .v (.bool p), .v (.bool q) => match assoc C.T t with
      | some i => match i.d, op with
        | .bool, .eql => K (.v (.bool (p == q)))
        | .bool, .neq => K (.v (.bool (p != q)))
        | _, _ => other
      | none => other
    | .v (.string a), .v (.string b) => match op with
      | .eql => K (.v (.bool (a.toList == b.toList)))
      | .neq => K (.v (.bool (!(a.toList == b.toList))))
      | .lss => K (.v (.bool (Op.bytesLess a.toList b.toList)))
      | _ => other
    | .s _ _ _ _ cap, .v (.slice none 0 0) => match assoc C.T t with
      | some i => match i.d, op with
        | .slice _, .eql => ∀ b : Bool, (cap ≠ 0 → b = false) → K (.v (.bool b))
        | .slice _, .neq => ∀ b : Bool, (cap ≠ 0 → b = true) → K (.v (.bool b))
        | _, _ => other
      | none => other
    | .z _ els _, .v (.slice none 0 0) => match assoc C.T t with
      | some i => match i.d, op with
        | .slice _, .eql => ∀ b : Bool, (els.length ≠ 0 → b = false) → K (.v (.bool b))
        | .slice _, .neq => ∀ b : Bool, (els.length ≠ 0 → b = true) → K (.v (.bool b))
        | _, _ => other
      | none => other
    | .v (.slice none 0 0), .v (.slice none 0 0) => match assoc C.T t with
      | some i => match i.d, op with
        | .slice _, .eql => K (.v (.bool true))
        | .slice _, .neq => K (.v (.bool false))
        | _, _ => other
      | none => other
    | _, _ => other
  | .unOp op _ x => match op, ev x with
    | .not, .v (.bool b) => K (.v (.bool (!b)))
    | .neg, .v (.int k n) => K (.v (.int k (k.wrap (0 - n))))
    | .xor, .v (.int k n) => intBin .xor k (if k.signed then -1 else k.max) n K other
    | _, _ => other
  | .convert src dst x => match assoc C.T src, assoc C.T dst, ev x with
    | some _, some i, .v (.int _ n) => match i.d with
      | .int k => K (.v (.int k (k.wrap n)))
      | _ => other
    | some i0, some i, .s a sz e n c => match i0.d, i.d with
      | .slice el, .str => match assoc C.T el with
        | some j => match j.d with
          | .int .u8 => readEls m (.s a sz e n c) 1 (fun els _ => bytesK els K) other
          | _ => other
        | none => other
      | _, _ => other
    | some i0, some i, .z sz els c => match i0.d, i.d with
      | .slice el, .str => match assoc C.T el with
        | some j => match j.d with
          | .int .u8 => readEls m (.z sz els c) 1 (fun els _ => bytesK els K) other
          | _ => other
        | none => other
      | _, _ => other
    | _, _, _ => other
  | .fieldAddr t x f => match assoc C.T t, ev x with
    | some i, .p a e sz f0 => match i.d with
      | .struct fs => match fs[f]? with
        | some (off, ft) => match assoc C.T ft with
          | some j => match Nat.beq j.size 0 with
            | false => K (.p a e sz (f0 + off))
            | true => other
          | none => other
        | none => other
      | _ => other
    | some i, .zp c => match i.d with
      | .struct fs => match fs[f]? with
        | some (off, ft) => match assoc C.T ft with
          | some j => match Nat.beq j.size 0 with
            | false => K (.zp (c.drop off))
            | true => other
          | none => other
        | none => other
      | _ => other
    | _, _ => other
  | .field t x f => match assoc C.T t, ev x with
    | some i, .agg l => match i.d with
      | .struct fs => match fs[f]? with
        | some (off, ft) => match assoc C.T ft with
          | some j => match j.d.agg with
            | true => K (.agg ((l.drop off).take j.size))
            | false => match l[off]? with
              | some c => K c
              | none => other
          | none => other
        | none => other
      | _ => other
    | _, _ => other
  | .indexAddr t x ix => match assoc C.T t, ev ix with
    | some i, .v (.int _ n) => match i.d, ev x with
      | .slice el, .s a sz e len _ => match assoc C.T el with
        | some j => match Nat.beq j.size sz with
          | true => (0 ≤ n ∧ n < (len : Int)) ∧ K (.p a (e + n.toNat) sz 0)
          | false => other
        | none => other
      | .slice el, .z sz els _ => match assoc C.T el with
        | some j => match Nat.beq j.size sz with
          | true => (0 ≤ n ∧ n < (els.length : Int)) ∧ ∃ c, els[n.toNat]? = some c ∧ K (.zp c)
          | false => other
        | none => other
      | .array len el, .p a e sz f => match assoc C.T el, Nat.beq (e * sz + f) 0 with
        | some j, true => (0 ≤ n ∧ n < (len : Int)) ∧ K (.p a n.toNat j.size 0)
        | _, _ => other
      | _, _ => other
    | _, _ => other
  | .extract x j => match ev x with
    | .tup l => match l[j]? with
      | some c => K c
      | none => other
    | _ => other
  | .makeFunc (.func f) first captured => match first.toList with
    | [] => K (.fn f (captured.toList.map ev))
    | _ => match captured.toList with
      | [] => K (.bm f (first.toList.map ev))
      | _ => other
  | .nilCheck x => match ev x with
    | .p a e sz f => K (.p a e sz f)
    | .fn f l => K (.fn f l)
    | .zp c => K (.zp c)
    | _ => other
  | .build t parts => match assoc C.T t with
    | some i => match i.d with
      | .struct fs => match fs.all (fun q => (assoc C.T q.2).isSome) with
        | true => fillSV C.T fs (parts.toList.map fun q => (q.1, ev q.2)) (i.zero.map .v) (fun cells => K (.agg cells))
        | false => other
      | _ => other
    | none => other
  | .slice t x lo hi mx => match assoc C.T t, ev x, mx with
    | some i, .v (.slice none 0 0), none => match i.d with
      | .slice el => match assoc C.T el with
        | some _ => boundSV (lo.map ev) 0 (fun l => boundSV (hi.map ev) 0 (fun h => (0 ≤ l ∧ l ≤ h ∧ h ≤ (0 : Int)) ∧ K (.v (.slice none 0 0))) other) other
        | none => other
      | _ => other
    | some i, .s a sz e len cap, none => match i.d with
      | .slice el => match assoc C.T el with
        | some j => match Nat.beq j.size sz with
          | true => boundSV (lo.map ev) 0 (fun l => boundSV (hi.map ev) len (fun h => (0 ≤ l ∧ l ≤ h ∧ h ≤ (cap : Int)) ∧ K (.s a sz (e + l.toNat) (h.toNat - l.toNat) (cap - l.toNat))) other) other
          | false => other
        | none => other
      | _ => other
    | some i, .s a sz e len cap, some mx => match i.d with
      | .slice el => match assoc C.T el with
        | some j => match Nat.beq j.size sz, hi with
          | true, some hi => boundSV (lo.map ev) 0 (fun l => boundSV (some (ev hi)) 0 (fun h => boundSV (some (ev mx)) 0 (fun q => (0 ≤ l ∧ l ≤ h ∧ h ≤ q ∧ q ≤ (cap : Int)) ∧ K (.s a sz (e + l.toNat) (h.toNat - l.toNat) (q.toNat - l.toNat))) other) other) other
          | _, _ => other
        | none => other
      | _ => other
    | some i, .z sz els cap, none => match i.d with
      | .slice el => match assoc C.T el with
        | some j => match Nat.beq j.size sz with
          | true => boundSV (lo.map ev) 0 (fun l => boundSV (hi.map ev) els.length (fun h => (0 ≤ l ∧ l ≤ h ∧ h ≤ (els.length : Int)) ∧ K (.z sz ((els.drop l.toNat).take (h.toNat - l.toNat)) (cap - l.toNat))) other) other
          | false => other
        | none => other
      | _ => other
    | some i, .z sz els cap, some mx => match i.d with
      | .slice el => match assoc C.T el with
        | some j => match Nat.beq j.size sz, hi with
          | true, some hi => boundSV (lo.map ev) 0 (fun l => boundSV (some (ev hi)) 0 (fun h => boundSV (some (ev mx)) 0 (fun q => (0 ≤ l ∧ l ≤ h ∧ h ≤ (els.length : Int) ∧ h ≤ q ∧ q ≤ (cap : Int)) ∧ K (.z sz ((els.drop l.toNat).take (h.toNat - l.toNat)) (q.toNat - l.toNat))) other) other) other
          | _, _ => other
        | none => other
      | _ => other
    | _, _, _ => other
  | .call { callee := .builtin b, args, argTypes } => match b, args.toList.map ev with
    | .len, [x] => lenStr C.T argTypes x (fun n => K (.v (.int .i64 n))) (lenSV C.T argTypes x (fun n _ => K (.v (.int .i64 n))) other)
    | .cap, [x] => lenSV C.T argTypes x (fun _ n => K (.v (.int .i64 n))) other
    | .min, .v (.int k x) :: l => minSV false k x l K other
    | .max, .v (.int k x) :: l => minSV true k x l K other
    | _, _ => other
  | _ => other

theorem Rel.cells {ρ : Plc} : ∀ {x : SV} {u : Value}, Rel ρ x u → x ≠ .any → (∀ l, x ≠ .tup l) → (∀ y, x = .v y → ∀ cs, y ≠ .agg cs) → ∃ us, u.cells.toList = us ∧ RelL ρ (cellsSV x) us
  | .any, _, _, h, _, _ => (h rfl).elim
  | .tup l, _, _, _, h, _ => (h l rfl).elim
  | .agg l, u, h, _, _, _ => by
    unfold Rel at h
    obtain ⟨us, rfl, h⟩ := h
    exact ⟨us, by simp [Value.cells], h⟩
  | .v y, u, h, _, _, hy => by
    unfold Rel at h
    subst h
    refine ⟨[u], ?_, ?_⟩
    · cases u <;> first | rfl | exact (hy _ rfl _ rfl).elim
    · show RelL ρ [.v u] [u]
      unfold RelL RelL Rel
      exact ⟨_, _, rfl, rfl, rfl⟩
  | .z sz els cap, u, h, _, _, _ => by
    have h' := h
    unfold Rel at h
    obtain ⟨ad, rfl, _⟩ := h
    refine ⟨_, rfl, ?_⟩
    show RelL ρ [.z sz els cap] _
    unfold RelL RelL
    exact ⟨_, _, rfl, h', rfl⟩
  | .zp c, u, h, _, _, _ => by
    have h' := h
    unfold Rel at h
    obtain ⟨b, o, us, rfl, _⟩ := h
    refine ⟨_, rfl, ?_⟩
    show RelL ρ [.zp c] _
    unfold RelL RelL
    exact ⟨_, _, rfl, h', rfl⟩
  | .p a e sz f, u, h, _, _, _ => by
    have h' := h
    unfold Rel at h
    obtain ⟨rfl, _⟩ := h
    refine ⟨_, rfl, ?_⟩
    show RelL ρ [.p a e sz f] _
    unfold RelL RelL
    exact ⟨_, _, rfl, h', rfl⟩
  | .s a sz e len cap, u, h, _, _, _ => by
    have h' := h
    unfold Rel at h
    obtain ⟨ad, rfl, _⟩ := h
    refine ⟨_, rfl, ?_⟩
    show RelL ρ [.s a sz e len cap] _
    unfold RelL RelL
    exact ⟨_, _, rfl, h', rfl⟩
  | .fn f l, u, h, _, _, _ => by
    have h' := h
    unfold Rel at h
    obtain ⟨us, rfl, _⟩ := h
    refine ⟨_, rfl, ?_⟩
    show RelL ρ [.fn f l] _
    unfold RelL RelL
    exact ⟨_, _, rfl, h', rfl⟩
  | .bm f l, u, h, _, _, _ => by
    have h' := h
    unfold Rel at h
    obtain ⟨us, rfl, _⟩ := h
    refine ⟨_, rfl, ?_⟩
    show RelL ρ [.bm f l] _
    unfold RelL RelL
    exact ⟨_, _, rfl, h', rfl⟩

theorem set_range (off : Nat) : ∀ (l : List Value) (cs : Array Value) (k : Nat), off + k + l.length ≤ cs.size →
    ((l.zipIdx k).foldl (fun cs p => cs.setIfInBounds (off + p.2) p.1) cs).toList = cs.toList.take (off + k) ++ l ++ cs.toList.drop (off + k + l.length)
  | [], cs, k, _ => by simp
  | x :: l, cs, k, h => by
    simp only [List.length_cons] at h
    have ih := set_range off l (cs.setIfInBounds (off + k) x) (k + 1) (by simp; omega)
    simp only [List.zipIdx_cons, List.foldl_cons]
    rw [ih]
    apply List.ext_getElem?
    intro j
    simp only [Array.toList_setIfInBounds, List.getElem?_append, List.length_append, List.length_take, List.length_set, Array.length_toList, List.getElem?_take, List.getElem?_drop, List.length_cons]
    rw [show min (off + (k + 1)) cs.size = off + k + 1 by omega, show min (off + k) cs.size = off + k by omega]
    by_cases h1 : j < off + k
    · simp [h1, show j < off + k + 1 + l.length by omega, show j < off + k + 1 by omega, show j < off + (k + 1) by omega, show j < off + k + (l.length + 1) by omega, show off + k ≠ j by omega]
    · by_cases h2 : j = off + k
      · subst h2
        simp [show off + k < off + k + 1 + l.length by omega, show off + k < off + (k + 1) by omega, show off + k < cs.size by omega]
      · by_cases h3 : j < off + k + 1 + l.length
        · simp [h1, h3, show ¬ j < off + k + 1 by omega, show j < off + k + (l.length + 1) by omega, show j - (off + k) = (j - (off + k + 1)) + 1 by omega]
        · simp only [if_neg h3, show ¬ j < off + k + (l.length + 1) by omega, if_false]
          rw [List.getElem?_set_ne (by omega)]
          congr 1
          omega

theorem fillSV_sound {C : Ctx} (hC : C.ok) {ρ : Plc} {place : Nat → Option (Nat × Nat)} {fs : List (Nat × Nat)} (hp : ∀ j off ft, fs[j]? = some (off, ft) → ∃ i, (∀ k, assoc C.T ft = some k → k.size = i) ∧ place j = some (off, i)) :
    ∀ {parts : List (Nat × SV)} {vs : List (Nat × Value)} {cells : List SV} {cs : Array Value} {K : List SV → Prop}, fillSV C.T fs parts cells K → RelL ρ cells cs.toList → parts.length = vs.length →
      (∀ (n : Nat) q u, parts[n]? = some q → vs[n]? = some u → q.1 = u.1 ∧ Rel ρ q.2 u.2) →
      ∃ cells' cs', K cells' ∧ RelL ρ cells' cs'.toList ∧ Instr.fill place cs vs = some cs'
  | [], [], cells, cs, K, h, hr, _, _ => ⟨cells, cs, h, hr, rfl⟩
  | [], _ :: _, _, _, _, _, _, hl, _ => by simp at hl
  | _ :: _, [], _, _, _, _, _, hl, _ => by simp at hl
  | (j, x) :: rest, (j', u) :: us, cells, cs, K, h, hr, hl, hq => by
    obtain ⟨rfl, hxu⟩ := hq 0 _ _ rfl rfl
    simp only at hxu
    unfold fillSV at h
    split at h
    rotate_left
    · exact h.elim
    rename_i off ft hfs
    split at h
    rotate_left
    · exact h.elim
    rename_i i hi
    obtain ⟨n, hn, hpl⟩ := hp _ _ _ hfs
    have hn := hn i hi
    have main : (∃ ws, u.cells.toList = ws ∧ RelL ρ (cellsSV x) ws) → (match Nat.beq (cellsSV x).length i.size, Nat.ble (off + i.size) cells.length with
          | true, true => fillSV C.T fs rest (cells.take off ++ cellsSV x ++ cells.drop (off + i.size)) K
          | _, _ => False) → ∃ cells' cs', K cells' ∧ RelL ρ cells' cs'.toList ∧ Instr.fill place cs ((j, u) :: us) = some cs' := by
      intro hw h
      obtain ⟨ws, hws, hrw⟩ := hw
      split at h
      rotate_left
      · exact h.elim
      rename_i hb hle
      have hb := Nat.eq_of_beq_eq_true hb
      have hle := Nat.le_of_ble_eq_true hle
      have hul : u.cells.size = i.size := by rw [← Array.length_toList, hws, hrw.len, hb]
      have hcl : cs.size = cells.length := by rw [← Array.length_toList, hr.len]
      have hset := set_range off u.cells.toList cs 0 (by rw [Array.length_toList]; omega)
      simp only [Nat.add_zero, Array.length_toList, hul] at hset
      have hr' : RelL ρ (cells.take off ++ cellsSV x ++ cells.drop (off + i.size)) (((u.cells.toList.zipIdx 0).foldl (fun cs p => cs.setIfInBounds (off + p.2) p.1) cs)).toList := by
        rw [hset]
        exact ((hr.take off).append (hws ▸ hrw)).append (hr.drop _)
      obtain ⟨cells', cs', h1, h2, h3⟩ := fillSV_sound hC hp h hr' (by simpa using hl) (fun n q u h1 h2 => hq (n + 1) q u (by simpa using h1) (by simpa using h2))
      refine ⟨cells', cs', h1, h2, ?_⟩
      unfold Instr.fill
      rw [hpl]
      have hc : ¬ (u.cells.size ≠ n ∨ off + u.cells.size > cs.size) := by omega
      simp only [ne_eq, Bool.or_eq_true, decide_eq_true_eq] at hc ⊢
      rw [if_neg (by simpa using hc)]
      rw [← h3]
      congr 1
      rw [← Array.foldl_toList]
      simp [Array.toList_zipIdx]
    split at h
    · exact h.elim
    · exact h.elim
    · exact h.elim
    · rename_i h1 h2 h3
      exact main (hxu.cells h1 h2 (fun y e cs e' => h3 cs (by rw [e, e']))) h
end Go.Proofs.Ytkcdomafdjpbjaa
