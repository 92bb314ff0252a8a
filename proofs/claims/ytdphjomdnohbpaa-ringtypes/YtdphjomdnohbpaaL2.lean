/- The law RingRow of layer 15. -/
import Derived.Test.YtdphjomdnohbpaaWk
import Derived.Test.YtdphjomdnohbpaaNa
import Derived.Test.YtdphjomdnohbpaaAr
namespace Go.Proofs.Ytdphjomdnohbpaa
open Go.RowKit Go.PlainAid

/-- A slice of truths that was handed in. -/
structure IsBools (w : World) (a : Option Addr) (n : Nat) : Prop where
  c : ∀ i, i < n → ∃ b off, ∃ t : Bool, a = some ⟨b, off, none⟩ ∧ w.cell? ⟨b, off + i, none⟩ = some (.bool t)
  le : n ≤ 9223372036854775807
/-- The names of the numbers from t to p. -/
def seg (t p : Nat) : List ByteArray := (List.range' t (p - t)).map nmB
theorem seg_len (t p : Nat) : (seg t p).length = p - t := by simp [seg]
theorem seg_put {t p : Nat} (h : t ≤ p) : seg t p ++ [nmB p] = seg t (p + 1) := by
  rw [seg, seg, show p + 1 - t = (p - t) + 1 by omega, List.range'_1_concat, List.map_append, show t + (p - t) = p by omega]
  rfl
theorem seg_take {t p : Nat} (h : t < p) : seg t p = nmB t :: seg (t + 1) p := by
  rw [seg, seg, show p - t = (p - (t + 1)) + 1 by omega, List.range'_succ]
  rfl
theorem seg_none (t : Nat) : seg t t = [] := by simp [seg]
variable {R : World → Nat → (Nat → Prop) → Nat → List ByteArray → Prop}
theorem str_len_is (P : StrP R) {w W : World} {X : Nat → Prop} {g m : Nat} {l : List ByteArray} (n : Int) (h : RIn R w X g m l W) (hn : (l.length : Int) = n) :
    Calls Try.prog 23 #[pp g] W fun e W' => e = .returned (.int .i64 n) ∧ RIn R w X g m l W' ∧ Fr (fun _ => False) W W' := by
  subst hn; exact str_len P h
def RwR (R : World → Nat → (Nat → Prop) → Nat → List ByteArray → Prop) (w : World) (g m : Nat) (p t i _a _b _c : Value) (wr : World) : Prop :=
  ∃ np nt ni : Nat, ni ≤ 200 ∧ nt ≤ np ∧ np ≤ ni ∧ np - nt ≤ m ∧ p = .int .i64 (np : Int) ∧ t = .int .i64 (nt : Int) ∧ i = .int .i64 (ni : Int) ∧ RIn R w (fun _ => False) g m (seg nt np) wr
set_option maxRecDepth 100000 in
set_option maxHeartbeats 8000000 in
theorem row_walk (P : StrP R) (z : Nat) (a : Option Addr) (len cap : Nat) (w : World) (hz : z < 256) (ha : IsBools w a len) :
    Calls Try.prog 4 #[.int .u8 (z : Int), .slice a len cap] w fun e w' => e = .returned (.bool true) ∧ Fr (fun _ => False) w w' := by
  have hle := ha.le
  have hz2 : (z : Int).tmod 20 = ((z % 20 : Nat) : Int) := by rw [Int.tmod_eq_emod_of_nonneg (by omega)]; omega
  have hz3 : z % 20 < 20 := by omega
  generalize z % 20 = y at *
  clear hz
  go_enter Try.func4, Try.ntmps4
  go_wp2_with fail
  refine (str_new (w := w) (X := fun _ => False) P (1 + (y : Int)) (by omega) (by omega) (Fr.refl _ _) (fun _ e => e.elim)).mono ?_
  rintro e w0 ⟨⟨g, rfl, hR0⟩, -⟩
  go_wp2_with fail
  rw [show (1 + (y : Int)).toNat = y + 1 by omega] at hR0
  have hst : RwR R w g (y + 1) (.int .i64 0) (.int .i64 0) (.int .i64 0) undef undef undef w0 := ⟨0, 0, 0, by omega, by omega, by omega, by omega, rfl, rfl, rfl, by rw [seg_none]; exact hR0⟩
  clear hR0
  go_loopw [7, 8, 9, 10, 11, 12] (fun p t i a b c wr => RwR R w g (y + 1) p t i a b c wr) (fun _ _ i _ _ _ _ => 200 - (intOf i).toNat)
  case atStart => exact hst
  case round =>
    obtain ⟨np, nt, ni, hi, htp, hpi, hm2, rfl, rfl, rfl, hR⟩ := hrel
    by_cases hlt : ni < len
    · have hlt1 : (ni : Int) < (len : Int) := by omega
      by_cases hlt2 : ni < 200
      · have hlt3 : (ni : Int) < 200 := by omega
        obtain ⟨b, off, t, rfl, hc⟩ := ha.c ni hlt
        have hc1 := hR.fr.cell hc (fun e => e)
        cases t
        · by_cases hd : nt < np
          · have hd1 : (nt : Int) < (np : Int) := by omega
            have hd2 : ¬ (1 + (y : Int) < (np : Int) - ((nt : Int) + 1)) := by omega
            rw [seg_take hd] at hR
            go_wp2_with fail
            refine (str_take P (nmB nt) hR).mono ?_
            rintro e w1 ⟨rfl, hR1, -⟩
            clear hR hst hc hc1
            go_wp2_with fail
            refine (name_any nt (by omega) _).mono ?_
            rintro e w2 ⟨rfl, f1⟩
            have hR2 := hR1.same P f1
            clear f1 hR1
            go_wp2_with fail
            refine (str_len_is P ((np : Int) - ((nt : Int) + 1)) hR2 (by rw [seg_len]; omega)).mono ?_
            rintro e w8 ⟨rfl, hR8, -⟩
            clear hR2
            go_wp2_with fail
            refine (str_len_is P ((np : Int) - ((nt : Int) + 1)) hR8 (by rw [seg_len]; omega)).mono ?_
            rintro e w9 ⟨rfl, hR9, -⟩
            clear hR8
            go_wp2_with fail
            go_roundw
            case rel => exact ⟨np, nt + 1, ni + 1, by omega, by omega, by omega, by omega, by go_num, by go_num, by go_num, hR9⟩
            case measure => simp [intOf]; omega
          · obtain rfl : nt = np := by omega
            have hd1 : ¬ (nt : Int) < (nt : Int) := by omega
            have hd2 : ¬ (1 + (y : Int) < 0) := by omega
            rw [seg_none] at hR
            go_wp2_with fail
            refine (str_take0 P hR).mono ?_
            rintro e w1 ⟨rfl, hR1, -⟩
            clear hR hst hc hc1
            rw [← seg_none nt] at hR1
            go_wp2_with fail
            refine (str_len_is P (0) hR1 (by rw [seg_len]; omega)).mono ?_
            rintro e w8 ⟨rfl, hR8, -⟩
            clear hR1
            go_wp2_with fail
            refine (str_len_is P (0) hR8 (by rw [seg_len]; omega)).mono ?_
            rintro e w9 ⟨rfl, hR9, -⟩
            clear hR8
            go_wp2_with fail
            go_roundw
            case rel => exact ⟨nt, nt, ni + 1, by omega, by omega, by omega, by omega, by go_num, by go_num, by go_num, hR9⟩
            case measure => simp [intOf]; omega
        · by_cases hd : np - nt < y + 1
          · have hd1 : (np : Int) - (nt : Int) < 1 + (y : Int) := by omega
            have hd2 : ¬ (1 + (y : Int) < ((np : Int) + 1) - (nt : Int)) := by omega
            go_wp2_with fail
            refine (name_any np (by omega) _).mono ?_
            rintro e w1 ⟨rfl, f1⟩
            have hR1 := hR.same P f1
            clear f1 hR hst hc hc1
            go_wp2_with fail
            refine (str_put P hR1 (nmB np) (by rw [seg_len]; omega)).mono ?_
            rintro e w2 ⟨rfl, hR2, -⟩
            clear hR1
            rw [seg_put htp] at hR2
            go_wp2_with fail
            refine (str_len_is P (((np : Int) + 1) - (nt : Int)) hR2 (by rw [seg_len]; omega)).mono ?_
            rintro e w8 ⟨rfl, hR8, -⟩
            clear hR2
            go_wp2_with fail
            refine (str_len_is P (((np : Int) + 1) - (nt : Int)) hR8 (by rw [seg_len]; omega)).mono ?_
            rintro e w9 ⟨rfl, hR9, -⟩
            clear hR8
            go_wp2_with fail
            go_roundw
            case rel => exact ⟨np + 1, nt, ni + 1, by omega, by omega, by omega, by omega, by go_num, by go_num, by go_num, hR9⟩
            case measure => simp [intOf]; omega
          · have hd1 : ¬ (np : Int) - (nt : Int) < 1 + (y : Int) := by omega
            have hd2 : ¬ (1 + (y : Int) < (np : Int) - (nt : Int)) := by omega
            go_wp2_with fail
            refine (name_any np (by omega) _).mono ?_
            rintro e w1 ⟨rfl, f1⟩
            have hR1 := hR.same P f1
            clear f1 hR hst hc hc1
            go_wp2_with fail
            refine (str_full P hR1 (nmB np) (by rw [seg_len]; omega)).mono ?_
            rintro e w2 ⟨rfl, hR2, -⟩
            clear hR1
            go_wp2_with fail
            refine (str_len_is P ((np : Int) - (nt : Int)) hR2 (by rw [seg_len]; omega)).mono ?_
            rintro e w8 ⟨rfl, hR8, -⟩
            clear hR2
            go_wp2_with fail
            refine (str_len_is P ((np : Int) - (nt : Int)) hR8 (by rw [seg_len]; omega)).mono ?_
            rintro e w9 ⟨rfl, hR9, -⟩
            clear hR8
            go_wp2_with fail
            go_roundw
            case rel => exact ⟨np, nt, ni + 1, by omega, by omega, by omega, by omega, by go_num, by go_num, by go_num, hR9⟩
            case measure => simp [intOf]; omega
      · have hlt3 : ¬ (ni : Int) < 200 := by omega
        go_wp2_with fail
        refine (works_any P _).mono ?_
        rintro e wl ⟨rfl, f1⟩
        have hF := hR.fr.trans f1 (fun _ _ e => e)
        clear f1
        go_wp2_with fail
        go_ret
        exact ⟨rfl, hF⟩
    · have hlt1 : ¬ (ni : Int) < (len : Int) := by omega
      go_wp2_with fail
      refine (works_any P _).mono ?_
      rintro e wl ⟨rfl, f1⟩
      have hF := hR.fr.trans f1 (fun _ _ e => e)
      clear f1
      go_wp2_with fail
      go_ret
      exact ⟨rfl, hF⟩
end Go.Proofs.Ytdphjomdnohbpaa
