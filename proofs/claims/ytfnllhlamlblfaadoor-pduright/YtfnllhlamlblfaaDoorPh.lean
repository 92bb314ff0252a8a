/- Package pdu keeps its three contracts. -/
import Derived.Test.YtfnllhlamlblfaaDoorPd
import Derived.Test.YtfnllhlamlblfaaDoorPf
namespace Go.Proofs.YtfnllhlamlblfaaDoor
theorem pdu_p : PduP where
  sum := fun t l d w hS _ _ hd => sum10_any t l d w hS hd
  total := fun l n w hS _ _ => total_any l n w hS
  right := fun tot t l d s w hS _ _ hd => right_any tot t l d s w hS hd
end Go.Proofs.YtfnllhlamlblfaaDoor
