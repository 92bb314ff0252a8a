/- What the helper closed does: bytes with their sum behind them. -/
import Derived.Test.YtcfbbljckecjnaaBy
namespace Go.Proofs.Ytcfbbljckecjnaa
open Go.RowKit Go.PlainAid Go.Lib

theorem size_of {t : ByteArray} {l : List Nat} (h : byN t = l) : t.size = l.length := by rw [← h, length_byN]

set_option maxHeartbeats 1000000 in
theorem closed_any (s : ByteArray) (w : World) (hs : s.size ≤ 20000) : Calls Try.prog 11 #[.string s] w fun e w' => (∃ t, e = .returned (.string t) ∧ byN t = byN s ++ [crS (byN s)]) ∧ Fr (fun _ => False) w w' := by
  go_enter Try.func11, Try.ntmps11
  go_wp2_with fail
  refine (sum_any s w (by omega)).mono ?_
  rintro e w1 ⟨rfl, h1⟩
  have hx := crS_lt (byN s)
  generalize hxx : crS (byN s) = x at *
  obtain ⟨t, ht, hconv⟩ := (one_row x hx w1 5).conv 1 1 rfl
  have ht1 : t.size = 1 := size_of ht
  have hsz : ¬ (9223372036854775807 < s.size + 1) := by omega
  go_wp2
  go_ret
  exact ⟨⟨s ++ t, rfl, by rw [byN_append, ht, hxx]⟩, h1.alloc _⟩
end Go.Proofs.Ytcfbbljckecjnaa
