/-
  The document's Count.
-/
import Derived.Test.YtmbpfdnadjemcaaCnt
namespace Go.Proofs.Ytmbpfdnadjemcaa
open Go.RowKit Go.Deep

end Go.Proofs.Ytmbpfdnadjemcaa
