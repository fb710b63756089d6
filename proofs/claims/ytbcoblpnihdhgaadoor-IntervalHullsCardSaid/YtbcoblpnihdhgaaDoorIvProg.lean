/-
  The program's interval package: its six contracts are pivalid_any, picon_any, piadd_any, pimul_any, pimeet_any, pihull_any.
-/
import Derived.Test.YtbcoblpnihdhgaaDoorIvOpen
import Derived.Test.YtbcoblpnihdhgaaDoorIvAt
import Derived.Test.YtbcoblpnihdhgaaDoorIvPF
namespace Go.Proofs.YtbcoblpnihdhgaaDoor
end Go.Proofs.YtbcoblpnihdhgaaDoor
