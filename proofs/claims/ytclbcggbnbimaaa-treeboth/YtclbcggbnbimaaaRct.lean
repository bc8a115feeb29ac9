/-
  The document's Count.
-/
import Derived.Test.YtclbcggbnbimaaaCnt
namespace Go.Proofs.Ytclbcggbnbimaaa
open Go.RowKit Go.Deep

end Go.Proofs.Ytclbcggbnbimaaa
