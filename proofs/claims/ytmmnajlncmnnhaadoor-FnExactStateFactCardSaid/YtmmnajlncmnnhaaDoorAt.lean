/- The laws' own 'at': a byte of the input, or one that is reckoned in its stead. -/
import Derived.Test.YtmmnajlncmnnhaaDoorRow
import Derived.WalkKit
import Derived.ProofKit
import Derived.WalkLawsBesides
import Derived.WalkSpells
namespace Go.Proofs.YtmmnajlncmnnhaaDoor
open Go.ChangeShapes Go.WideShapes Go.ChangeAt Go.RowKit
set_option linter.unusedVariables false

end Go.Proofs.YtmmnajlncmnnhaaDoor
