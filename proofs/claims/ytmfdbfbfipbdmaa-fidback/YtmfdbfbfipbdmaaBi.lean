/- The law FidBack's walk over a number as it is handed in. -/
import Derived.Test.YtmfdbfbfipbdmaaPo
namespace Go.Proofs.Ytmfdbfbfipbdmaa
open Go.RowKit

theorem back_int (z : Int) (a : Option Addr) (len cap : Nat) (zs : List Int) (w : World) (hz : (Lit.int .u8 z).wf = true) (hrow : IsRow .u8 w a len cap zs) :
    Calls Try.prog 5 #[.int .u8 z, .slice a len cap] w fun e w' => e = .returned (.bool true) ∧ Fr (fun _ => False) w w' := by
  obtain ⟨n, rfl, hn⟩ := wf_u8 hz
  exact back_walk fid_p n a len cap zs w hn hrow
end Go.Proofs.Ytmfdbfbfipbdmaa
