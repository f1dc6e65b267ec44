/- What the program's package comb answers: all six contracts, for the code of 3adf77f5. -/
import Derived.Test.YtfjnpmkklanopaaCombD
import Derived.Test.YtfjnpmkklanopaaCombE
import Derived.Test.YtfjnpmkklanopaaCombJ
namespace Go.Proofs.Ytfjnpmkklanopaa
set_option maxRecDepth 20000
end Go.Proofs.Ytfjnpmkklanopaa
