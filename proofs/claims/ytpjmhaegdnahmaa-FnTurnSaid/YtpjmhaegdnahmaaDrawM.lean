/- The contracts of the lists that promise 3 draws. -/
import Derived.Test.YtpjmhaegdnahmaaDrawL
namespace Go.Proofs.Ytpjmhaegdnahmaa
open Go Go.RowKit
set_option linter.unusedVariables false

end Go.Proofs.Ytpjmhaegdnahmaa
