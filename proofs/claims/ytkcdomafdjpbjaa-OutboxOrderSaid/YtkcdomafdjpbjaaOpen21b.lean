/- How the arguments of the laws are opened, and the world of their witnesses. -/
import Derived.Test.YtkcdomafdjpbjaaOpen21
import Derived.Lib.SmallJoins
namespace Go.Proofs.Ytkcdomafdjpbjaa
open Go.RowKit Go.ChangeShapes Go.WideShapes Go.ChangeAt Go.Joins Go.Deep

section
variable {H : Type} {enc : TypeId × Value → H} {w : World} {b0 base : Nat} {hd : Bool} {v : Value} {d : DataW H} {p : List MemPlace}
structure Ob where
  room : Int
  l : List Ms
  lost : Int
instance : Inhabited Ms := ⟨ms0⟩
def ObIn (y : Ob) : Prop := ∀ x ∈ y.l, MsIn x
theorem el_ms (n : Nat) (cs' : List Value) (x : DataW H × List MemPlace) (h : DataW.trod enc Try.prog w base (fun _ => true) hd n 39 cs' = some x) (hl : cs'.length = 17) : ∃ y : Ms, RelK (Z0 w) (msC y) cs' ∧ MsIn y := by
  match cs', hl with
  | [z0, z1, z2, z3, z4, z5, z6, z7, z8, z9, z10, z11, z12, z13, z14, z15, z16], _ =>
    have hu43 := Try.underlying39
    obtain ⟨f43_0, f43_1, f43_2, f43_3, f43_4, f43_5, f43_6, f43_7, f43_8, f43_9, f43_10, hs43⟩ : ∃ f43_0 f43_1 f43_2 f43_3 f43_4 f43_5 f43_6 f43_7 f43_8 f43_9 f43_10, Try.prog.underlying 39 = some (.struct #[f43_0, f43_1, f43_2, f43_3, f43_4, f43_5, f43_6, f43_7, f43_8, f43_9, f43_10]) := ⟨_, _, _, _, _, _, _, _, _, _, _, hu43⟩
    rw [hs43] at hu43
    simp at hu43
    have t43_0 : f43_0.type = 5 := by rw [hu43.1]
    have p43_0 : f43_0.offset = 0 := by rw [hu43.1]
    have c43_0 : Try.prog.cellsOf 5 = 1 := by kernel_rfl
    have t43_1 : f43_1.type = 5 := by rw [hu43.2.1]
    have p43_1 : f43_1.offset = 1 := by rw [hu43.2.1]
    have c43_1 : Try.prog.cellsOf 5 = 1 := by kernel_rfl
    have t43_2 : f43_2.type = 25 := by rw [hu43.2.2.1]
    have p43_2 : f43_2.offset = 2 := by rw [hu43.2.2.1]
    have c43_2 : Try.prog.cellsOf 25 = 1 := by kernel_rfl
    have t43_3 : f43_3.type = 5 := by rw [hu43.2.2.2.1]
    have p43_3 : f43_3.offset = 3 := by rw [hu43.2.2.2.1]
    have c43_3 : Try.prog.cellsOf 5 = 1 := by kernel_rfl
    have t43_4 : f43_4.type = 26 := by rw [hu43.2.2.2.2.1]
    have p43_4 : f43_4.offset = 4 := by rw [hu43.2.2.2.2.1]
    have c43_4 : Try.prog.cellsOf 26 = 1 := by kernel_rfl
    have t43_5 : f43_5.type = 27 := by rw [hu43.2.2.2.2.2.1]
    have p43_5 : f43_5.offset = 5 := by rw [hu43.2.2.2.2.2.1]
    have c43_5 : Try.prog.cellsOf 27 = 1 := by kernel_rfl
    have t43_6 : f43_6.type = 34 := by rw [hu43.2.2.2.2.2.2.1]
    have p43_6 : f43_6.offset = 6 := by rw [hu43.2.2.2.2.2.2.1]
    have c43_6 : Try.prog.cellsOf 34 = 5 := by kernel_rfl
    have t43_7 : f43_7.type = 5 := by rw [hu43.2.2.2.2.2.2.2.1]
    have p43_7 : f43_7.offset = 11 := by rw [hu43.2.2.2.2.2.2.2.1]
    have c43_7 : Try.prog.cellsOf 5 = 1 := by kernel_rfl
    have t43_8 : f43_8.type = 35 := by rw [hu43.2.2.2.2.2.2.2.2.1]
    have p43_8 : f43_8.offset = 12 := by rw [hu43.2.2.2.2.2.2.2.2.1]
    have c43_8 : Try.prog.cellsOf 35 = 3 := by kernel_rfl
    have t43_9 : f43_9.type = 36 := by rw [hu43.2.2.2.2.2.2.2.2.2.1]
    have p43_9 : f43_9.offset = 15 := by rw [hu43.2.2.2.2.2.2.2.2.2.1]
    have c43_9 : Try.prog.cellsOf 36 = 1 := by kernel_rfl
    have t43_10 : f43_10.type = 37 := by rw [hu43.2.2.2.2.2.2.2.2.2.2]
    have p43_10 : f43_10.offset = 16 := by rw [hu43.2.2.2.2.2.2.2.2.2.2]
    have c43_10 : Try.prog.cellsOf 37 = 1 := by kernel_rfl
    obtain ⟨y43_0, y43_1, y43_2, y43_3, y43_4, y43_5, y43_6, y43_7, y43_8, y43_9, y43_10, m43, _, _, h43_0, h43_1, h43_2, h43_3, h43_4, h43_5, h43_6, h43_7, h43_8, h43_9, h43_10⟩ := trod_struct11 hs43 h
    rw [t43_0, p43_0, c43_0] at h43_0
    simp only [List.drop_zero, List.drop_succ_cons, List.take_succ_cons, List.take_zero] at h43_0
    obtain ⟨a44, e44, _, w44⟩ := DataW.trod_int Try.underlying5 h43_0
    simp only [List.cons.injEq, and_true] at e44
    subst e44
    rw [t43_1, p43_1, c43_1] at h43_1
    simp only [List.drop_zero, List.drop_succ_cons, List.take_succ_cons, List.take_zero] at h43_1
    obtain ⟨a45, e45, _, w45⟩ := DataW.trod_int Try.underlying5 h43_1
    simp only [List.cons.injEq, and_true] at e45
    subst e45
    rw [t43_2, p43_2, c43_2] at h43_2
    simp only [List.drop_zero, List.drop_succ_cons, List.take_succ_cons, List.take_zero] at h43_2
    obtain ⟨a46, e46, _, w46⟩ := DataW.trod_int Try.underlying25 h43_2
    simp only [List.cons.injEq, and_true] at e46
    subst e46
    rw [t43_3, p43_3, c43_3] at h43_3
    simp only [List.drop_zero, List.drop_succ_cons, List.take_succ_cons, List.take_zero] at h43_3
    obtain ⟨a47, e47, _, w47⟩ := DataW.trod_int Try.underlying5 h43_3
    simp only [List.cons.injEq, and_true] at e47
    subst e47
    rw [t43_4, p43_4, c43_4] at h43_4
    simp only [List.drop_zero, List.drop_succ_cons, List.take_succ_cons, List.take_zero] at h43_4
    obtain ⟨ad48, l48, cap48, e48, f48, R48⟩ := rowIn_of_trod Try.underlying26 (by kernel_rfl) (by decide) (fun n cs' x h hl => el_de n cs' x h hl) h43_4
    simp only [List.cons.injEq, and_true] at e48
    subst e48
    rw [t43_5, p43_5, c43_5] at h43_5
    simp only [List.drop_zero, List.drop_succ_cons, List.take_succ_cons, List.take_zero] at h43_5
    obtain ⟨ad49, l49, cap49, e49, f49, R49⟩ := rowIn_of_trod Try.underlying27 (by kernel_rfl) (by decide) (fun n cs' x h hl => el_mb n cs' x h hl) h43_5
    simp only [List.cons.injEq, and_true] at e49
    subst e49
    rw [t43_6, p43_6, c43_6] at h43_6
    simp only [List.drop_zero, List.drop_succ_cons, List.take_succ_cons, List.take_zero] at h43_6
    have hu50 := Try.underlying34
    obtain ⟨f50_0, f50_1, f50_2, hs50⟩ : ∃ f50_0 f50_1 f50_2, Try.prog.underlying 34 = some (.struct #[f50_0, f50_1, f50_2]) := ⟨_, _, _, hu50⟩
    rw [hs50] at hu50
    simp at hu50
    have t50_0 : f50_0.type = 30 := by rw [hu50.1]
    have p50_0 : f50_0.offset = 0 := by rw [hu50.1]
    have c50_0 : Try.prog.cellsOf 30 = 3 := by kernel_rfl
    have t50_1 : f50_1.type = 31 := by rw [hu50.2.1]
    have p50_1 : f50_1.offset = 3 := by rw [hu50.2.1]
    have c50_1 : Try.prog.cellsOf 31 = 1 := by kernel_rfl
    have t50_2 : f50_2.type = 32 := by rw [hu50.2.2]
    have p50_2 : f50_2.offset = 4 := by rw [hu50.2.2]
    have c50_2 : Try.prog.cellsOf 32 = 1 := by kernel_rfl
    obtain ⟨y50_0, y50_1, y50_2, m50, _, _, h50_0, h50_1, h50_2⟩ := trod_struct3 hs50 h43_6
    rw [t50_0, p50_0, c50_0] at h50_0
    simp only [List.drop_zero, List.drop_succ_cons, List.take_succ_cons, List.take_zero] at h50_0
    have hu51 := Try.underlying30
    obtain ⟨f51_0, f51_1, f51_2, hs51⟩ : ∃ f51_0 f51_1 f51_2, Try.prog.underlying 30 = some (.struct #[f51_0, f51_1, f51_2]) := ⟨_, _, _, hu51⟩
    rw [hs51] at hu51
    simp at hu51
    have t51_0 : f51_0.type = 5 := by rw [hu51.1]
    have p51_0 : f51_0.offset = 0 := by rw [hu51.1]
    have c51_0 : Try.prog.cellsOf 5 = 1 := by kernel_rfl
    have t51_1 : f51_1.type = 25 := by rw [hu51.2.1]
    have p51_1 : f51_1.offset = 1 := by rw [hu51.2.1]
    have c51_1 : Try.prog.cellsOf 25 = 1 := by kernel_rfl
    have t51_2 : f51_2.type = 28 := by rw [hu51.2.2]
    have p51_2 : f51_2.offset = 2 := by rw [hu51.2.2]
    have c51_2 : Try.prog.cellsOf 28 = 1 := by kernel_rfl
    obtain ⟨y51_0, y51_1, y51_2, m51, _, _, h51_0, h51_1, h51_2⟩ := trod_struct3 hs51 h50_0
    rw [t51_0, p51_0, c51_0] at h51_0
    simp only [List.drop_zero, List.drop_succ_cons, List.take_succ_cons, List.take_zero] at h51_0
    obtain ⟨a52, e52, _, w52⟩ := DataW.trod_int Try.underlying5 h51_0
    simp only [List.cons.injEq, and_true] at e52
    subst e52
    rw [t51_1, p51_1, c51_1] at h51_1
    simp only [List.drop_zero, List.drop_succ_cons, List.take_succ_cons, List.take_zero] at h51_1
    obtain ⟨a53, e53, _, w53⟩ := DataW.trod_int Try.underlying25 h51_1
    simp only [List.cons.injEq, and_true] at e53
    subst e53
    rw [t51_2, p51_2, c51_2] at h51_2
    simp only [List.drop_zero, List.drop_succ_cons, List.take_succ_cons, List.take_zero] at h51_2
    obtain ⟨a54, e54, _, w54⟩ := DataW.trod_int Try.underlying28 h51_2
    simp only [List.cons.injEq, and_true] at e54
    subst e54
    rw [t50_1, p50_1, c50_1] at h50_1
    simp only [List.drop_zero, List.drop_succ_cons, List.take_succ_cons, List.take_zero] at h50_1
    obtain ⟨ad55, l55, cap55, e55, f55, R55⟩ := rowIn_of_trod Try.underlying31 (by kernel_rfl) (by decide) (fun n cs' x h hl => el_i4 n cs' x h hl) h50_1
    simp only [List.cons.injEq, and_true] at e55
    subst e55
    rw [t50_2, p50_2, c50_2] at h50_2
    simp only [List.drop_zero, List.drop_succ_cons, List.take_succ_cons, List.take_zero] at h50_2
    obtain ⟨ad56, l56, cap56, e56, f56, R56⟩ := rowIn_of_trod Try.underlying32 (by kernel_rfl) (by decide) (fun n cs' x h hl => el_u1 n cs' x h hl) h50_2
    simp only [List.cons.injEq, and_true] at e56
    subst e56
    rw [t43_7, p43_7, c43_7] at h43_7
    simp only [List.drop_zero, List.drop_succ_cons, List.take_succ_cons, List.take_zero] at h43_7
    obtain ⟨a57, e57, _, w57⟩ := DataW.trod_int Try.underlying5 h43_7
    simp only [List.cons.injEq, and_true] at e57
    subst e57
    rw [t43_8, p43_8, c43_8] at h43_8
    simp only [List.drop_zero, List.drop_succ_cons, List.take_succ_cons, List.take_zero] at h43_8
    have hu58 := Try.underlying35
    obtain ⟨f58_0, f58_1, f58_2, hs58⟩ : ∃ f58_0 f58_1 f58_2, Try.prog.underlying 35 = some (.struct #[f58_0, f58_1, f58_2]) := ⟨_, _, _, hu58⟩
    rw [hs58] at hu58
    simp at hu58
    have t58_0 : f58_0.type = 5 := by rw [hu58.1]
    have p58_0 : f58_0.offset = 0 := by rw [hu58.1]
    have c58_0 : Try.prog.cellsOf 5 = 1 := by kernel_rfl
    have t58_1 : f58_1.type = 25 := by rw [hu58.2.1]
    have p58_1 : f58_1.offset = 1 := by rw [hu58.2.1]
    have c58_1 : Try.prog.cellsOf 25 = 1 := by kernel_rfl
    have t58_2 : f58_2.type = 28 := by rw [hu58.2.2]
    have p58_2 : f58_2.offset = 2 := by rw [hu58.2.2]
    have c58_2 : Try.prog.cellsOf 28 = 1 := by kernel_rfl
    obtain ⟨y58_0, y58_1, y58_2, m58, _, _, h58_0, h58_1, h58_2⟩ := trod_struct3 hs58 h43_8
    rw [t58_0, p58_0, c58_0] at h58_0
    simp only [List.drop_zero, List.drop_succ_cons, List.take_succ_cons, List.take_zero] at h58_0
    obtain ⟨a59, e59, _, w59⟩ := DataW.trod_int Try.underlying5 h58_0
    simp only [List.cons.injEq, and_true] at e59
    subst e59
    rw [t58_1, p58_1, c58_1] at h58_1
    simp only [List.drop_zero, List.drop_succ_cons, List.take_succ_cons, List.take_zero] at h58_1
    obtain ⟨a60, e60, _, w60⟩ := DataW.trod_int Try.underlying25 h58_1
    simp only [List.cons.injEq, and_true] at e60
    subst e60
    rw [t58_2, p58_2, c58_2] at h58_2
    simp only [List.drop_zero, List.drop_succ_cons, List.take_succ_cons, List.take_zero] at h58_2
    obtain ⟨a61, e61, _, w61⟩ := DataW.trod_int Try.underlying28 h58_2
    simp only [List.cons.injEq, and_true] at e61
    subst e61
    rw [t43_9, p43_9, c43_9] at h43_9
    simp only [List.drop_zero, List.drop_succ_cons, List.take_succ_cons, List.take_zero] at h43_9
    obtain ⟨ad62, l62, cap62, e62, f62, R62⟩ := rowIn_of_trod Try.underlying36 (by kernel_rfl) (by decide) (fun n cs' x h hl => el_mk n cs' x h hl) h43_9
    simp only [List.cons.injEq, and_true] at e62
    subst e62
    rw [t43_10, p43_10, c43_10] at h43_10
    simp only [List.drop_zero, List.drop_succ_cons, List.take_succ_cons, List.take_zero] at h43_10
    obtain ⟨ad63, l63, cap63, e63, f63, R63⟩ := rowIn_of_trod Try.underlying37 (by kernel_rfl) (by decide) (fun n cs' x h hl => el_id n cs' x h hl) h43_10
    simp only [List.cons.injEq, and_true] at e63
    subst e63
    exact ⟨⟨a44, a45, a46, a47, l48, l49, ⟨a52, a53, a54⟩, l55, l56, a57, ⟨a59, a60, a61⟩, l62, l63⟩, (relK_v rfl (relK_v rfl (relK_v rfl (relK_v rfl (relK_z R48.cell (relK_z R49.cell (relK_v rfl (relK_v rfl (relK_v rfl (relK_z R55.cell (relK_z R56.cell (relK_v rfl (relK_v rfl (relK_v rfl (relK_v rfl (relK_z R62.cell (relK_z R63.cell relK_nil))))))))))))))))), ⟨(Nat.le_trans R48.le R48.max), f48, (Nat.le_trans R49.le R49.max), (Nat.le_trans R55.le R55.max), (Nat.le_trans R56.le R56.max), (Nat.le_trans R62.le R62.max), (Nat.le_trans R63.le R63.max)⟩⟩
theorem open_ob (hv : Value.okWide Try.prog w .any b0 24 v) (h : DataW.Trod enc Try.prog w base (fun _ => true) hd 24 v d p) : ∃ (y : Ob) (c0 : Nat), (y.l.length ≤ c0 ∧ c0 ≤ maxLen) ∧ ObIn y ∧ ∀ ads, Rel (rhoOf w ads) (.agg [.v (.int .i64 y.room), .z 17 (y.l.map msC) c0, .v (.int .i64 y.lost)]) v := by
  have hu := Try.underlying24
  obtain ⟨cs, rfl, hsz⟩ := okWide_struct hu hv
  have hsz : cs.size = 3 := hsz.trans (by kernel_rfl)
  obtain ⟨fuel, hf⟩ := h
  obtain ⟨l, rfl⟩ : ∃ l : List Value, cs = l.toArray := ⟨cs.toList, by simp⟩
  match l, hsz with
  | [z0, z1, z2], _ =>
    simp only [Value.cells] at hf
    have hu64 := Try.underlying24
    obtain ⟨f64_0, f64_1, f64_2, hs64⟩ : ∃ f64_0 f64_1 f64_2, Try.prog.underlying 24 = some (.struct #[f64_0, f64_1, f64_2]) := ⟨_, _, _, hu64⟩
    rw [hs64] at hu64
    simp at hu64
    have t64_0 : f64_0.type = 3 := by rw [hu64.1]
    have p64_0 : f64_0.offset = 0 := by rw [hu64.1]
    have c64_0 : Try.prog.cellsOf 3 = 1 := by kernel_rfl
    have t64_1 : f64_1.type = 22 := by rw [hu64.2.1]
    have p64_1 : f64_1.offset = 1 := by rw [hu64.2.1]
    have c64_1 : Try.prog.cellsOf 22 = 1 := by kernel_rfl
    have t64_2 : f64_2.type = 3 := by rw [hu64.2.2]
    have p64_2 : f64_2.offset = 2 := by rw [hu64.2.2]
    have c64_2 : Try.prog.cellsOf 3 = 1 := by kernel_rfl
    obtain ⟨y64_0, y64_1, y64_2, m64, _, _, h64_0, h64_1, h64_2⟩ := trod_struct3 hs64 hf
    rw [t64_0, p64_0, c64_0] at h64_0
    simp only [List.drop_zero, List.drop_succ_cons, List.take_succ_cons, List.take_zero] at h64_0
    obtain ⟨a65, e65, _, w65⟩ := DataW.trod_int Try.underlying3 h64_0
    simp only [List.cons.injEq, and_true] at e65
    subst e65
    rw [t64_1, p64_1, c64_1] at h64_1
    simp only [List.drop_zero, List.drop_succ_cons, List.take_succ_cons, List.take_zero] at h64_1
    obtain ⟨ad66, l66, cap66, e66, f66, R66⟩ := rowIn_of_trod Try.underlying22 (by kernel_rfl) (by decide) (fun n cs' x h hl => el_ms n cs' x h hl) h64_1
    simp only [List.cons.injEq, and_true] at e66
    subst e66
    rw [t64_2, p64_2, c64_2] at h64_2
    simp only [List.drop_zero, List.drop_succ_cons, List.take_succ_cons, List.take_zero] at h64_2
    obtain ⟨a67, e67, _, w67⟩ := DataW.trod_int Try.underlying3 h64_2
    simp only [List.cons.injEq, and_true] at e67
    subst e67
    exact ⟨⟨a65, l66, a67⟩, cap66, ⟨R66.le, R66.max⟩, f66, fun ads => rel_ev (relL_cons (rel_c rfl) (relL_cons (rel_z R66) (relL_cons (rel_c rfl) relL_nil)))⟩
end
end Go.Proofs.Ytkcdomafdjpbjaa
