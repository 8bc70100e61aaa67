/-
  Appends onto rows of numbers (AI0), beside those onto bytes (AP).
-/
import Derived.Test.YtonhehndoifipaaJFHopsAP
import Derived.Test.YtonhehndoifipaaJFHopsAI0
