/- Law DescNewer, by computing: put, one behind the other. -/
import Derived.Test.YtccegmbklgmgnaaD09r
namespace Go.Proofs.Ytccegmbklgmgnaa
open Go.RowKit

end Go.Proofs.Ytccegmbklgmgnaa
