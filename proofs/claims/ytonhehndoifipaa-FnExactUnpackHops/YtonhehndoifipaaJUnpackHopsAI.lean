/-
  Appends onto rows of numbers (AI0), beside those onto bytes (AP).
-/
import Derived.Test.YtonhehndoifipaaJUnpackHopsAP
import Derived.Test.YtonhehndoifipaaJUnpackHopsAI0
