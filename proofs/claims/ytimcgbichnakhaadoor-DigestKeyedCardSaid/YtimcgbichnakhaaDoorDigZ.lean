/- What the project's package digest answers: see DigG, DigH, DigI. -/
import Derived.Test.YtimcgbichnakhaaDoorDigI
