/-
  The program's calendar (layer 9): its six contracts.
-/
import Derived.Test.YtkjflpkokeckgaaDoorCaRefC
import Derived.Test.YtkjflpkokeckgaaDoorCaPA
import Derived.Test.YtkjflpkokeckgaaDoorCaPC
import Derived.Test.YtkjflpkokeckgaaDoorCaPE
import Derived.Test.YtkjflpkokeckgaaDoorCaPF
