/- The calls of package span, told by propositions that arithmetic decides. -/
import Derived.Test.YtelbeomfdfggbaaDoorNum04
namespace Go.Proofs.YtelbeomfdfggbaaDoor
open Go.RowKit

theorem Covers_p (a b c d : Int) (w : World) (g : Gl w) : Calls Tryd.prog 14 #[spV a b, spV c d] w (Ret (.bool (decide (d < c ∨ (a ≤ c ∧ d ≤ b)))) w) := Ret.conv (span_Covers a b c d w g) (by simp [coversS])
theorem Has_p (a b v : Int) (w : World) : Calls Tryd.prog 10 #[spV a b, .int .i32 v] w (Ret (.bool (decide (a ≤ v ∧ v ≤ b))) w) := span_Has a b v w
theorem run_spNe (w : World) (a b c d : Int) : (binOp .neq 23 (.agg #[.int .i32 a, .int .i32 b]) (.agg #[.int .i32 c, .int .i32 d])).run Tryd.prog w = .ok (.bool (!spEq a b c d)) w := by
  by_cases h1 : a = c <;> by_cases h2 : b = d <;> simp [spEq, go_sem, h1, h2]
theorem spEq_cases (a b c d : Int) : (spEq a b c d = true ∧ a = c ∧ b = d) ∨ (spEq a b c d = false ∧ (a < c ∨ c < a ∨ b < d ∨ d < b)) := by
  cases h : spEq a b c d
  · refine .inr ⟨rfl, ?_⟩
    have := mt spEq_iff.2 (by rw [h]; simp)
    omega
  · exact .inl ⟨rfl, spEq_iff.1 h⟩
theorem len_p (a b : Int) : (b < a → lenS a b = 0) ∧ (a ≤ b → lenS a b = min (b - a + 1) 4294967295) ∧ 0 ≤ lenS a b ∧ lenS a b ≤ 4294967295 := by
  unfold lenS; split <;> omega
theorem meet_p (a b c d : Int) : (max a c ≤ min b d → meetF a b c d = max a c ∧ meetT a b c d = min b d) ∧ (min b d < max a c → meetF a b c d = 0 ∧ meetT a b c d = 0) := by
  unfold meetF meetT; constructor <;> intro h
  · simp [h]
  · have : ¬ max a c ≤ min b d := by omega
    simp [this]
end Go.Proofs.YtelbeomfdfggbaaDoor
