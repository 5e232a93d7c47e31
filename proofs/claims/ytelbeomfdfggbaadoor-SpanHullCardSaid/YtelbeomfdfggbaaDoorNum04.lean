/- The calls of package span, told by numbers. -/
import Derived.Test.YtelbeomfdfggbaaDoorOpen04
namespace Go.Proofs.YtelbeomfdfggbaaDoor
open Go.RowKit

def meetF (a b c d : Int) : Int := if max a c ≤ min b d then max a c else 0
def meetT (a b c d : Int) : Int := if max a c ≤ min b d then min b d else 0
theorem meetV_eq (a b c d : Int) : meetV a b c d = spV (meetF a b c d) (meetT a b c d) := by
  unfold meetV meetF meetT; split <;> rfl
def hullF (a b c d : Int) : Int := if b < a then (if d < c then 0 else c) else (if d < c then a else min a c)
def hullT (a b c d : Int) : Int := if b < a then (if d < c then 0 else d) else (if d < c then b else max b d)
theorem hullV_eq (a b c d : Int) : hullV a b c d = spV (hullF a b c d) (hullT a b c d) := by
  unfold hullV hullF hullT; split <;> split <;> rfl
theorem spEq_self (a b : Int) : spEq a b a b = true := spEq_iff.2 ⟨rfl, rfl⟩
theorem Meet_n (a b c d : Int) (w : World) (g : Gl w) : Calls Tryd.prog 8 #[spV a b, spV c d] w (Ret (.tuple #[spV (meetF a b c d) (meetT a b c d), .bool (meetOk a b c d)]) w) := Ret.conv (span_Meet a b c d w g) (by rw [meetV_eq])
theorem refMeet_n (a b c d : Int) (w : World) : Calls Tryd.prog 9 #[spV a b, spV c d] w (Ret (.tuple #[spV (meetF a b c d) (meetT a b c d), .bool (meetOk a b c d)]) w) := Ret.conv (ref_Meet a b c d w) (by rw [meetV_eq])
theorem Hull_n (a b c d : Int) (w : World) (g : Gl w) : Calls Tryd.prog 16 #[spV a b, spV c d] w (Ret (spV (hullF a b c d) (hullT a b c d)) w) := Ret.conv (span_Hull a b c d w g) (hullV_eq a b c d)
theorem refHull_n (a b c d : Int) (w : World) : Calls Tryd.prog 17 #[spV a b, spV c d] w (Ret (spV (hullF a b c d) (hullT a b c d)) w) := Ret.conv (ref_Hull a b c d w) (hullV_eq a b c d)
end Go.Proofs.YtelbeomfdfggbaaDoor
