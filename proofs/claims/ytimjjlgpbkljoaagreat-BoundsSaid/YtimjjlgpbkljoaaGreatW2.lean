import Derived.Test.YtimjjlgpbkljoaaGreatW1
namespace Go.Proofs.YtimjjlgpbkljoaaGreat
open Go.RowKit
set_option linter.unusedVariables false
set_option linter.unusedSimpArgs false
set_option linter.unnecessarySimpa false

end Go.Proofs.YtimjjlgpbkljoaaGreat
