/- Layer 6: all that the project's package calendar answers, in one import. -/
import Derived.Test.YtjhkbgdjgiiocaaDoorCalK
import Derived.Test.YtjhkbgdjgiiocaaDoorCalM
import Derived.Test.YtjhkbgdjgiiocaaDoorCalN
namespace Go.Proofs.YtjhkbgdjgiiocaaDoor
set_option maxRecDepth 20000
end Go.Proofs.YtjhkbgdjgiiocaaDoor
