/- Law DescNewer, by computing: put, one behind the other. -/
import Derived.Test.YtjghbfbifkhloaaD09r
namespace Go.Proofs.Ytjghbfbifkhloaa
open Go.RowKit

end Go.Proofs.Ytjghbfbifkhloaa
