/-
  What a nil Field answers: nought, no, nothing.
-/
import Derived.Test.YtdlalcbcgdambaaBeg
namespace Go.Proofs.Ytdlalcbcgdambaa
open Go.RowKit Go.Deep

end Go.Proofs.Ytdlalcbcgdambaa
