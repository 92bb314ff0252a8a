/- What package pdu tells: the three contracts that the laws' walks stand on, as one premise. -/
import Derived.Test.YtfnllhlamlblfaaDoorPp
import Derived.Test.YtfnllhlamlblfaaDoorRf
import Derived.Test.YtfnllhlamlblfaaDoorWa
namespace Go.Proofs.YtfnllhlamlblfaaDoor
open Go.RowKit Go.PlainAid Go.Shelf

structure PduP : Prop where
  sum : ∀ (t : Int) (l : Lb) (d : ByteArray) (w : World), Sz w → -9223372036854775808 ≤ t → t ≤ 9223372036854775807 → d.size ≤ 1000000 →
    Calls Tryd.prog 10 #[.int .i64 t, l.v, .string d] w fun e w' => e = .returned (.tuple #[.string (pdS t l d), .int .i64 (pdE t l d.size)]) ∧ Fr (fun _ => False) w w'
  total : ∀ (l : Lb) (n : Int) (w : World), Sz w → -9223372036854775808 ≤ n → n ≤ 9223372036854775807 →
    Calls Tryd.prog 12 #[l.v, .int .i64 n] w fun e w' => e = .returned (.int .i64 (pdT l n)) ∧ Fr (fun _ => False) w w'
  right : ∀ (tot t : Int) (l : Lb) (d s : ByteArray) (w : World), Sz w → -9223372036854775808 ≤ t → t ≤ 9223372036854775807 → d.size ≤ 1000000 →
    Calls Tryd.prog 15 #[.int .i64 tot, .int .i64 t, l.v, .string d, .string s] w fun e w' => e = .returned (.int .i64 (pdR tot t l d s)) ∧ Fr (fun _ => False) w w'
end Go.Proofs.YtfnllhlamlblfaaDoor
