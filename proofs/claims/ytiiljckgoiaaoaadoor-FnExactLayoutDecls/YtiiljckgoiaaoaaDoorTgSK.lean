/-
  Lists of Target: what is walked of them.
-/
import Derived.Test.YtiiljckgoiaaoaaDoorJTg1
import Derived.Test.YtiiljckgoiaaoaaDoorJTg2
import Derived.Test.YtiiljckgoiaaoaaDoorJTg3
