/-
  Lists of Target: what is walked of them.
-/
import Derived.Test.YtaapababeecmeaaDoorJValidLayoutTgS1
import Derived.Test.YtaapababeecmeaaDoorJValidLayoutTgS2
import Derived.Test.YtaapababeecmeaaDoorJValidLayoutTgS3
