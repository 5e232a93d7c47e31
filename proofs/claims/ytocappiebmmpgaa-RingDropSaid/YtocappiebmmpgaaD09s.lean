/- Law DescNewer, by computing: put, one behind the other. -/
import Derived.Test.YtocappiebmmpgaaD09r
namespace Go.Proofs.Ytocappiebmmpgaa
open Go.RowKit

end Go.Proofs.Ytocappiebmmpgaa
