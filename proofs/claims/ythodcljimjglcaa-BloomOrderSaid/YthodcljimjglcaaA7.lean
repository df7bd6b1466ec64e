/- Layer 1: the document's own reading of a number of a set width. -/
import Derived.Test.YthodcljimjglcaaA5
namespace Go.Proofs.Ythodcljimjglcaa
open Ax
set_option linter.unusedSimpArgs false
set_option linter.unusedVariables false
section
set_option maxRecDepth 100000
end
end Go.Proofs.Ythodcljimjglcaa
