/- A region that draws its order: the condition on the world may be made stronger on the way. -/
import Derived.Test.YtdleleanaihcoaaFoot
import Derived.Deep.RegionHeld3
namespace Go.Proofs.Ytdleleanaihcoaa
set_option maxRecDepth 20000
open Go Go.RowKit
theorem wpAnyH_more {P : Program} {ops : Array Oper} {Q : Exit → Act → World → Prop} {md : Region.Mode} {S S' : World → Prop} (hs : ∀ w, S' w → S w) :
    ∀ {fuel : Nat} {listed : Array Bool} {a : Act} {w : World}, wpAnyH P md ops Q S' fuel listed a w → wpAnyH P md ops Q S fuel listed a w
  | 0, _, _, _, h => h
  | _ + 1, _, _, _, h => ⟨h.1, fun i hi => wpOp_mono (fun _ _ hx => ⟨hs _ hx.1, wpAnyH_more hs hx.2⟩) (h.2 i hi)⟩
end Go.Proofs.Ytdleleanaihcoaa
