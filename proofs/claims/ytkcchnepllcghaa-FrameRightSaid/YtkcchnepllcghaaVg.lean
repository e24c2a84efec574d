/- pairs, with each function that it is given. -/
import Derived.Test.YtkcchnepllcghaaVd
namespace Go.Proofs.Ytkcchnepllcghaa
open Go.RowKit Fl

end Go.Proofs.Ytkcchnepllcghaa
