/-
  The program's sky (layer 10): its five contracts together.
-/
import Derived.Test.YtaebejhncjadhaaSkPE
