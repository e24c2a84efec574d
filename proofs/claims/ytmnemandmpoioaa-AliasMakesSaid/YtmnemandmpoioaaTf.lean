/- Package tape: what a draw counts as; the reference's. -/
import Derived.Test.YtmnemandmpoioaaTd
namespace Go.Proofs.Ytmnemandmpoioaa
open Go.RowKit Fl

def oneW : Nat := 4607182418800017408
/-- Whether a draw counts. -/
def okB (x : Nat) : Bool := (ford x 0 == some .gt || ford x 0 == some .eq) && ford x 4607182418800017408 == some .lt
/-- What a draw counts as. -/
def cleanF (x : Nat) : Nat := if okB x then x else 0

end Go.Proofs.Ytmnemandmpoioaa