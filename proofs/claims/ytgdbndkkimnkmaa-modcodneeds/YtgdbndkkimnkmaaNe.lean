/- The walk of ModcodNeeds. -/
import Derived.Test.YtgdbndkkimnkmaaRh
import Derived.Test.YtgdbndkkimnkmaaRn
import Derived.Test.YtgdbndkkimnkmaaWk
namespace Go.Proofs.Ytgdbndkkimnkmaa
open Go.RowKit Go.PlainAid Go.Shelf Go.Sort Go.Lib

theorem nerr_in (a : Int) (h : 1 ≤ a ∧ a ≤ 28) : nerr a = 0 := by rw [nerr, if_pos h]
theorem nerr_out (a : Int) (h : ¬ (1 ≤ a ∧ a ≤ 28)) : nerr a = 15 ∧ (rowOf a).need = 0 ∧ (rowOf a).md = 0 := by
  rw [nerr, if_neg h, rowOf, if_neg h]; exact ⟨rfl, rfl, rfl⟩
set_option maxHeartbeats 4000000 in
theorem needs_walk (a b : Int) (w : World) : Calls Try.prog 4 #[.int .i64 a, .int .i64 b] w fun e w' => e = .returned (.bool true) ∧ Fr (fun _ => False) w w' := by
  have hn := fun W => need_any a W
  have hm := fun W => modu_any a W
  have hab := fun W => sturdier_any a b W
  have hba := fun W => sturdier_any b a W
  by_cases ha : 1 ≤ a ∧ a ≤ 28
  · have e1 := nerr_in a ha
    have hn' := fun W => ndRef_any a W ha
    have hm' := fun W => mdRef_any a W ha
    by_cases hb : 1 ≤ b ∧ b ≤ 28
    · have hnb := fun W => ndRef_any b W hb
      simp only [stM, e1, nerr_in b hb, decide_true, Bool.true_and] at hn hm hab
      generalize (rowOf a).need = na at *
      generalize (rowOf a).md = ma at *
      generalize (rowOf b).need = nb at *
      obtain ⟨a1, a2⟩ := ha
      obtain ⟨b1, b2⟩ := hb
      clear hba e1
      go_enter Try.func4, Try.ntmps4
      go_wp2_with fail
      refine (hn _).mono ?_
      rintro e w1 ⟨rfl, k1⟩
      go_wp2_with fail
      refine (hm _).mono ?_
      rintro e w2 ⟨rfl, k2⟩
      replace k2 := k1.trans k2 (fun _ _ e => e)
      clear k1
      go_wp2_with fail
      refine (hn' _).mono ?_
      rintro e w3 ⟨rfl, k3⟩
      replace k3 := k2.trans k3 (fun _ _ e => e)
      clear k2
      go_wp2_with fail
      refine (hm' _).mono ?_
      rintro e w4 ⟨rfl, k4⟩
      replace k4 := k3.trans k4 (fun _ _ e => e)
      clear k3
      go_wp2_with fail
      refine (hab _).mono ?_
      rintro e w5 ⟨rfl, k5⟩
      replace k5 := k4.trans k5 (fun _ _ e => e)
      clear k4
      go_wp2_with fail
      refine (hn' _).mono ?_
      rintro e w6 ⟨rfl, k6⟩
      replace k6 := k5.trans k6 (fun _ _ e => e)
      clear k5
      go_wp2_with fail
      refine (hnb _).mono ?_
      rintro e w7 ⟨rfl, k7⟩
      replace k7 := k6.trans k7 (fun _ _ e => e)
      clear k6
      go_wp2_with fail
      refine (works_any _).mono ?_
      rintro e w8 ⟨rfl, k8⟩
      replace k8 := k7.trans k8 (fun _ _ e => e)
      clear k7
      go_wp2_with fail
      go_ret
      exact ⟨rfl, k8⟩
    · obtain ⟨f1, f2, f3⟩ := nerr_out b hb
      simp only [stM, e1, f1, show decide ((15 : Int) = 0) = false from rfl, Bool.and_false, Bool.false_and] at hn hm hab
      generalize (rowOf a).need = na at *
      generalize (rowOf a).md = ma at *
      obtain ⟨a1, a2⟩ := ha
      have hb' : (1 ≤ b ∧ ¬ b ≤ 28) ∨ ¬ 1 ≤ b := by omega
      clear hba e1 f1 f2 f3 hb
      rcases hb' with ⟨b1, b2⟩ | b1
      all_goals
        go_enter Try.func4, Try.ntmps4
        go_wp2_with fail
        refine (hn _).mono ?_
        rintro e w1 ⟨rfl, k1⟩
        go_wp2_with fail
        refine (hm _).mono ?_
        rintro e w2 ⟨rfl, k2⟩
        replace k2 := k1.trans k2 (fun _ _ e => e)
        clear k1
        go_wp2_with fail
        refine (hn' _).mono ?_
        rintro e w3 ⟨rfl, k3⟩
        replace k3 := k2.trans k3 (fun _ _ e => e)
        clear k2
        go_wp2_with fail
        refine (hm' _).mono ?_
        rintro e w4 ⟨rfl, k4⟩
        replace k4 := k3.trans k4 (fun _ _ e => e)
        clear k3
        go_wp2_with fail
        refine (hab _).mono ?_
        rintro e w5 ⟨rfl, k5⟩
        replace k5 := k4.trans k5 (fun _ _ e => e)
        clear k4
        go_wp2_with fail
        refine (works_any _).mono ?_
        rintro e w8 ⟨rfl, k8⟩
        replace k8 := k5.trans k8 (fun _ _ e => e)
        clear k5
        go_wp2_with fail
        go_ret
        exact ⟨rfl, k8⟩
  · obtain ⟨f1, f2, f3⟩ := nerr_out a ha
    simp only [stM, f1, f2, f3, show decide ((15 : Int) = 0) = false from rfl, Bool.and_false, Bool.false_and] at hn hm hab hba
    have ha' : (1 ≤ a ∧ ¬ a ≤ 28) ∨ ¬ 1 ≤ a := by omega
    have hb' : (1 ≤ b ∧ b ≤ 28) ∨ (1 ≤ b ∧ ¬ b ≤ 28) ∨ (¬ 1 ≤ b ∧ b ≤ 28) := by omega
    clear f1 f2 f3 ha
    rcases ha' with ⟨a1, a2⟩ | a1 <;> rcases hb' with ⟨b1, b2⟩ | ⟨b1, b2⟩ | ⟨b1, b2⟩
    all_goals
      go_enter Try.func4, Try.ntmps4
      go_wp2_with fail
      refine (hn _).mono ?_
      rintro e w1 ⟨rfl, k1⟩
      go_wp2_with fail
      refine (hm _).mono ?_
      rintro e w2 ⟨rfl, k2⟩
      replace k2 := k1.trans k2 (fun _ _ e => e)
      clear k1
      go_wp2_with fail
      refine (hab _).mono ?_
      rintro e w3 ⟨rfl, k3⟩
      replace k3 := k2.trans k3 (fun _ _ e => e)
      clear k2
      go_wp2_with fail
      refine (hba _).mono ?_
      rintro e w4 ⟨rfl, k4⟩
      replace k4 := k3.trans k4 (fun _ _ e => e)
      clear k3
      go_wp2_with fail
      refine (works_any _).mono ?_
      rintro e w5 ⟨rfl, k5⟩
      replace k5 := k4.trans k5 (fun _ _ e => e)
      clear k4
      go_wp2_with fail
      go_ret
      exact ⟨rfl, k5⟩
end Go.Proofs.Ytgdbndkkimnkmaa
