/- Walks over the document's answer of layer 6: ranges, quotients, labels. -/
import Derived.Test.YtgkkbadnenkcdaaLf
import Derived.Test.YtgkkbadnenkcdaaQt
namespace Go.Proofs.Ytgkkbadnenkcdaa
open Go.RowKit Go.PlainAid Go.Shelf Go.Sort Go.Lib

def inB (n lo hi : Int) : Bool := decide (lo ≤ n) && decide (n ≤ hi)
set_option maxHeartbeats 4000000 in
theorem in_any (n lo hi : Int) (w : World) : Calls Try.prog 34 #[.int .i64 n, .int .i64 lo, .int .i64 hi] w fun e w' => e = .returned (.bool (inB n lo hi)) ∧ w = w' := by
  unfold inB
  by_cases h1 : lo ≤ n
  · by_cases h2 : n ≤ hi
    · simp only [h1, h2, decide_true, Bool.and_self]
      go_enter Try.func34, Try.ntmps34
      go_wp2_with fail
      go_ret
      exact ⟨rfl, rfl⟩
    · simp only [h1, h2, decide_true, decide_false, Bool.and_false]
      go_enter Try.func34, Try.ntmps34
      go_wp2_with fail
      go_ret
      exact ⟨rfl, rfl⟩
  · simp only [h1, decide_false, Bool.false_and]
    go_enter Try.func34, Try.ntmps34
    go_wp2_with fail
    go_ret
    exact ⟨rfl, rfl⟩

set_option maxHeartbeats 4000000 in
theorem upRef_any (a b : Int) (w : World) (ha : 0 ≤ a) (hb : 1 ≤ b) (ha' : a < 1000000000000) (hb' : b < 1000000000000) : Calls Try.prog 20 #[.int .i64 a, .int .i64 b] w fun e w' => e = .returned (.int .i64 (upI a b)) ∧ w = w' := by
  have h1 : (a + b - 1).tdiv b = upI a b := by rw [upI, Int.tdiv_eq_ediv_of_nonneg (by omega)]
  have h2 := (upB ha hb)
  obtain ⟨u, hu⟩ : ∃ u, upI a b = u := ⟨_, rfl⟩
  rw [hu] at h1 h2 ⊢
  have h3 : (a + b - 1) / b = u := hu
  have B1 : IntKind.i64.wrap (a + b) = a + b := w64 _ (by omega) (by omega)
  have B2 : IntKind.i64.wrap (a + b - 1) = a + b - 1 := w64 _ (by omega) (by omega)
  have B3 : IntKind.i64.wrap u = u := w64 _ (by omega) (by omega)
  have hnz : ¬ b = 0 := by omega
  clear hu
  go_enter Try.func20, Try.ntmps20
  go_wp2_with fail
  go_ret
  exact ⟨rfl, rfl⟩

/-- The numbers but for the labels. -/
def rngB (c : Cf) : Bool := inB c.w0 1 8 && (inB c.w1 1 8 && (inB c.w2 1 8 && (inB c.w3 1 8 && (inB c.grant 1 1000000 && (inB c.quantum 1000 1000000 && (inB c.age 1 60 && (inB c.depth 1 10000000 && (inB c.rate 1 1000000 && (inB c.packets 1 10000 && (inB c.bytes 1 1000000 && (inB c.margin 0 1000 && (inB c.hyst 0 1000 && (inB c.hold 1 100 && (inB c.timeout 1 1000000 && inB c.memory 1 1073741824))))))))))))))
theorem rng_inR (c : Cf) : inR c = (rngB c && (decide (1 ≤ c.labels.length) && decide (c.labels.length ≤ 8))) := by
  apply Bool.eq_iff_iff.2
  rw [inR_iff]
  simp only [rngB, inB, Bool.and_eq_true, decide_eq_true_eq]
  constructor
  · rintro ⟨h1, h2, h3, h4, h5, h6, h7, h8, h9, h10, h11, h12, h13, h14, h15, h16, h17⟩
    exact ⟨⟨h2, h3, h4, h5, h1, h6, h7, h8, h9, h10, h11, h12, h13, h14, h15, h16⟩, h17⟩
  · rintro ⟨⟨h2, h3, h4, h5, h1, h6, h7, h8, h9, h10, h11, h12, h13, h14, h15, h16⟩, h17⟩
    exact ⟨h1, h2, h3, h4, h5, h6, h7, h8, h9, h10, h11, h12, h13, h14, h15, h16, h17⟩
end Go.Proofs.Ytgkkbadnenkcdaa
