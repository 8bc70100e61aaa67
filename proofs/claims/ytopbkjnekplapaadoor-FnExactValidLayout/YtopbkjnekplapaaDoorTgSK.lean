/-
  Lists of Target: what is walked of them.
-/
import Derived.Test.YtopbkjnekplapaaDoorTgS1
import Derived.Test.YtopbkjnekplapaaDoorTgS2
import Derived.Test.YtopbkjnekplapaaDoorTgS3
