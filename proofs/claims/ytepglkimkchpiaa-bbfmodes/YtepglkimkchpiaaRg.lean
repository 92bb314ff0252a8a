/- The document's number, Decode. -/
import Derived.Test.YtepglkimkchpiaaRf
import Derived.Test.YtepglkimkchpiaaQz
namespace Go.Proofs.Ytepglkimkchpiaa
open Go.RowKit Go.PlainAid Go.Lib

theorem nb_bt (s : ByteArray) (k : Nat) : bt s k = (nb s k : Int) := bt_getD s k
set_option maxHeartbeats 2000000 in
theorem number_any (s : ByteArray) (i : Nat) (hi : i + 1 < s.size) (hs : s.size ≤ 9223372036854775807) (w : World) : Calls Try.prog 41 #[.string s, .int .i64 (i : Int)] w fun e w' => e = .returned (.int .i64 ((nb s i * 256 + nb s (i + 1) : Nat) : Int)) ∧ Fr (fun _ => False) w w' := by
  have g1 := get_bt s
  obtain ⟨x, hx⟩ : ∃ x, nb s i = x := ⟨_, rfl⟩
  obtain ⟨y, hy⟩ : ∃ y, nb s (i + 1) = y := ⟨_, rfl⟩
  have hxl : x < 256 := hx ▸ nb_lt s i
  have hyl : y < 256 := hy ▸ nb_lt s (i + 1)
  have b1 := nb_bt s i
  have b2 := nb_bt s (i + 1)
  rw [hx] at b1 ⊢
  rw [hy] at b2 ⊢
  have h1 : (i : Int) < s.size := by omega
  have h2 : (i : Int) + 1 < s.size := by omega
  have h4 : ((i : Int) + 1).toNat = i + 1 := by omega
  have h3 : i < s.size := by omega
  have v1 : IntKind.i64.wrap (x : Int) = x := IntWalk.i64_in _ ⟨by omega, by omega⟩
  have v2 : IntKind.i64.wrap ((x : Int) * 256) = (x : Int) * 256 := IntWalk.i64_in _ ⟨by omega, by omega⟩
  have v3 : IntKind.i64.wrap ((i : Int) + 1) = (i : Int) + 1 := IntWalk.i64_in _ ⟨by omega, by omega⟩
  have v4 : IntKind.i64.wrap (y : Int) = y := IntWalk.i64_in _ ⟨by omega, by omega⟩
  have v5 : IntKind.i64.wrap ((x : Int) * 256 + y) = (x : Int) * 256 + y := IntWalk.i64_in _ ⟨by omega, by omega⟩
  go_enter Try.func41, Try.ntmps41
  go_wp2_with fail
  go_quiet (fail)
  go_wp2_with fail
  trace_state
  go_ret
  exact ⟨rfl, (Fr.refl _ _).drewN _⟩
end Go.Proofs.Ytepglkimkchpiaa
