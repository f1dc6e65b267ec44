/- What the rows' frames need of the program: no knob of its own, and how its memory is laid. -/
import Derived.Test.YtimcgbichnakhaaDoorRows
import Derived.WalkKit
import Derived.ProofKit
import Derived.OpenShut
import Derived.ShutString
import Derived.ChangeOld
import Derived.ChangeSame
import Derived.ChangeSlices
import Derived.ChangeAt
import Derived.WideShapes
import Derived.Below
import Derived.Carry
namespace Go.Proofs.YtimcgbichnakhaaDoor
set_option maxRecDepth 20000
open Go.RowKit
theorem own : ownKnob Tryd.prog.godebug = none := by kernel_rfl
theorem laidOut : laidOutB Tryd.prog = true := by kernel_rfl
end Go.Proofs.YtimcgbichnakhaaDoor
