/- pairs, with each function that it is given. -/
import Derived.Test.YtgimkcbegalepaaVd
namespace Go.Proofs.Ytgimkcbegalepaa
open Go.RowKit Fl

end Go.Proofs.Ytgimkcbegalepaa
