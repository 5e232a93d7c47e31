/- Law RingDrop, whole. -/
import Derived.Test.YtocappiebmmpgaaT13u
namespace Go.Proofs.Ytocappiebmmpgaa
open Go.RowKit

theorem ringDrop_ok (s : List Sp) (x : De) (l : List De) (n : Int) (cs cx cl : Nat) (hs : s.length ≤ 9223372036854775807) (hxf : x.fl.length ≤ 9223372036854775807) (hl : l.length ≤ 9223372036854775807) (hox : DeOk x) (hok : ∀ y ∈ l, DeOk y) : FnOK Try.prog GG 7 [] [.z 2 (s.map spC) cs, deS x cx, .z 4 (l.map deC) cl, .v (.int .u8 n)] (fun r _ ext => (r = .v (.bool true)) ∧ ext = []) := by
  have hff : (l.all (fun d => decide (d.fl.length ≤ 8)) && decide (l.length ≤ 20)) = true → ∀ d ∈ l, d.fl.length ≤ 9223372036854775807 := fun h d hd => by have := (few_facts h).1 d hd; omega
  cases h1 : (l.all (fun d => decide (d.fl.length ≤ 8)) && decide (l.length ≤ 20))
  · exact drop_bad s x l n cs cx cl hs hxf hl false _ _ h1 rfl rfl rfl (fun h => by cases h)
  cases h2 : mayB s l
  · exact drop_bad s x l n cs cx cl hs hxf hl true false _ h1 h2 rfl rfl (fun _ => hff h1)
  cases h3 : mayB s [x]
  · exact drop_bad s x l n cs cx cl hs hxf hl true true false h1 h2 h3 rfl (fun _ => hff h1)
  obtain ⟨K, hK⟩ : ∃ K, uniLL x.node [] [l] = K := ⟨_, rfl⟩
  by_cases h0 : K.length = 0
  · exact drop_none_ok s x l n cs cx cl hs hxf hl h1 h2 h3 hok hox K hK h0
  · obtain ⟨y0, hy0⟩ : ∃ y0, K[0]? = some y0 := ⟨_, List.getElem?_eq_getElem (by omega)⟩
    exact drop_some_ok s x l n cs cx cl hs hxf hl h1 h2 h3 hok hox K hK y0 hy0
end Go.Proofs.Ytocappiebmmpgaa
