/- The laws' name of a number: three bytes. -/
import Derived.Test.YtdphjomdnohbpaaRp
import Derived.Lib.ConvBytes
import Derived.Laws.BytesArg
namespace Go.Proofs.Ytdphjomdnohbpaa
open Go.RowKit Go.PlainAid Go.Lib

def nmB (k : Nat) : ByteArray := strOfNums [110, ((k / 16 : Nat) : Int), ((k % 16 : Nat) : Int)]
theorem name_conv (q r : Nat) (w : World) : (convert 64 9 (.slice (some ⟨w.heap.size, 0, none⟩) 3 3)).run Try.prog (w.alloc (.cells #[.int .u8 110, .int .u8 (q : Int), .int .u8 (r : Int)] 5)) = .ok (.string (strOfNums [110, (q : Int), (r : Int)])) (w.alloc (.cells #[.int .u8 110, .int .u8 (q : Int), .int .u8 (r : Int)] 5)) :=
  run_convert_bytes_arg (P := Try.prog) _ 64 5 Try.underlying64 Try.underlying5 w.heap.size 0 3 3 [110, (q : Int), (r : Int)] rfl
    (fun i hi => by
      have : i = 0 ∨ i = 1 ∨ i = 2 := by omega
      rcases this with rfl | rfl | rfl <;> simp [go_sem]) 9 Try.underlying9
set_option maxHeartbeats 2000000 in
theorem name_any (k : Nat) (hk : k ≤ 4000) (w : World) : Calls Try.prog 21 #[.int .i64 (k : Int)] w fun e w' => e = .returned (.string (nmB k)) ∧ Fr (fun _ => False) w w' := by
  have h1 : (k : Int).tdiv 16 = ((k / 16 : Nat) : Int) := by rw [Int.tdiv_eq_ediv_of_nonneg (by omega)]; omega
  have h2 : (k : Int).tmod 16 = ((k % 16 : Nat) : Int) := by rw [Int.tmod_eq_emod_of_nonneg (by omega)]; omega
  have h3 : k / 16 < 256 := by omega
  have h4 : k % 16 < 256 := by omega
  have hN : nmB k = strOfNums [110, ((k / 16 : Nat) : Int), ((k % 16 : Nat) : Int)] := rfl
  generalize nmB k = N at *
  generalize k / 16 = q at *
  generalize k % 16 = r at *
  have hc := name_conv q r w
  subst hN
  go_enter Try.func21, Try.ntmps21
  go_wp2_with fail
  go_ret
  exact ⟨rfl, (Fr.refl _ _).alloc _⟩
end Go.Proofs.Ytdphjomdnohbpaa
