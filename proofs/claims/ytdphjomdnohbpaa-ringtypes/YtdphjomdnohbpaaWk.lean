/- The laws' works of layer 15: two texts. -/
import Derived.Test.YtdphjomdnohbpaaRn
import Derived.Test.YtdphjomdnohbpaaRi
import Derived.Test.YtdphjomdnohbpaaQt
namespace Go.Proofs.Ytdphjomdnohbpaa
open Go.RowKit Go.PlainAid

abbrev bA : ByteArray := ⟨#[97]⟩
abbrev bB : ByteArray := ⟨#[98]⟩
abbrev bC : ByteArray := ⟨#[99]⟩
variable {R : World → Nat → (Nat → Prop) → Nat → List ByteArray → Prop}
set_option maxHeartbeats 4000000 in
theorem works_any (P : StrP R) (w : World) : Calls Try.prog 10 #[] w fun e w' => e = .returned (.bool true) ∧ Fr (fun _ => False) w w' := by
  go_enter Try.func10, Try.ntmps10
  go_wp2_with fail
  refine (str_new (w := w) (X := fun _ => False) P 2 (by omega) (by omega) (Fr.refl _ _) (fun _ e => e.elim)).mono ?_
  rintro e w0 ⟨⟨g, rfl, hR0⟩, -⟩
  go_wp2_with fail
  refine (str_put P hR0 bA (by decide)).mono ?_
  rintro e w1 ⟨rfl, hR1, -⟩
  clear hR0
  go_wp2_with fail
  refine (str_put P hR1 bB (by decide)).mono ?_
  rintro e w2 ⟨rfl, hR2, -⟩
  clear hR1
  go_wp2_with fail
  refine (str_full P hR2 bC (by decide)).mono ?_
  rintro e w3 ⟨rfl, hR3, -⟩
  clear hR2
  go_wp2_with fail
  refine (str_take P bA (l := [bB]) hR3).mono ?_
  rintro e w4 ⟨rfl, hR4, -⟩
  clear hR3
  go_wp2_with fail
  refine (str_put P hR4 bC (by decide)).mono ?_
  rintro e w5 ⟨rfl, hR5, -⟩
  clear hR4
  go_wp2_with fail
  refine (str_len P hR5).mono ?_
  rintro e w6 ⟨rfl, hR6, -⟩
  clear hR5
  go_wp2_with fail
  go_ret
  exact ⟨rfl, hR6.fr⟩
end Go.Proofs.Ytdphjomdnohbpaa
