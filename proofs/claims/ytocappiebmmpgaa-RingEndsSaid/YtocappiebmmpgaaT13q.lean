/- Law RingEnds, whole. -/
import Derived.Test.YtocappiebmmpgaaT13p
namespace Go.Proofs.Ytocappiebmmpgaa
open Go.RowKit

theorem ringEnds_ok (s : List Sp) (x m : De) (l : List De) (cs cx cm cl : Nat) (hs : s.length ≤ 9223372036854775807) (hxf : x.fl.length ≤ 9223372036854775807) (hmf : m.fl.length ≤ 9223372036854775807) (hl : l.length ≤ 9223372036854775807) (hox : DeOk x) (hom : DeOk m) (hok : ∀ y ∈ l, DeOk y) : FnOK Try.prog GG 5 [] [.z 2 (s.map spC) cs, deS x cx, deS m cm, .z 4 (l.map deC) cl] (fun r _ ext => (r = .v (.bool true)) ∧ ext = []) := by
  have hff : (l.all (fun d => decide (d.fl.length ≤ 8)) && decide (l.length ≤ 20)) = true → ∀ d ∈ l, d.fl.length ≤ 9223372036854775807 := fun h d hd => by have := (few_facts h).1 d hd; omega
  cases h1 : (l.all (fun d => decide (d.fl.length ≤ 8)) && decide (l.length ≤ 20))
  · exact ends_bad s x m l cs cx cm cl hs hxf hmf hl false _ _ h1 rfl rfl rfl (fun h => by cases h)
  cases h2 : mayB s l
  · exact ends_bad s x m l cs cx cm cl hs hxf hmf hl true false _ h1 h2 rfl rfl (fun _ => hff h1)
  cases h3 : mayB s [x, m]
  · exact ends_bad s x m l cs cx cm cl hs hxf hmf hl true true false h1 h2 h3 rfl (fun _ => hff h1)
  obtain ⟨K, hK⟩ : ∃ K, uniLL x.node [] [l] = K := ⟨_, rfl⟩
  by_cases h0 : K.length = 0
  · exact ends_none s x m l cs cx cm cl hs hxf hmf hl h1 h2 h3 hok hox hom K hK h0
  · obtain ⟨y0, hy0⟩ : ∃ y0, K[0]? = some y0 := ⟨_, List.getElem?_eq_getElem (by omega)⟩
    exact ends_some s x m l cs cx cm cl hs hxf hmf hl h1 h2 h3 hok hox hom K hK y0 hy0
end Go.Proofs.Ytocappiebmmpgaa
