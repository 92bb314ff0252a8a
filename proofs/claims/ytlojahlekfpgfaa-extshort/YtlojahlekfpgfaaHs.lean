/- Heads: a slice of texts; which may be, how long they are, the first one's type. -/
import Derived.Test.YtlojahlekfpgfaaSk
namespace Go.Proofs.Ytlojahlekfpgfaa
open Go.RowKit Go.PlainAid Go.Shelf

/-- The texts hs lie behind the address a. -/
def IsHs (w : World) (a : Option Addr) (hs : List ByteArray) : Prop :=
  hs.length ≤ 20 ∧ (∀ x ∈ hs, x.size ≤ 20) ∧ ∀ j x, hs[j]? = some x → ∃ b off, a = some ⟨b, off, none⟩ ∧ w.cell? ⟨b, off + j, none⟩ = some (.string x)
theorem IsHs.keep {w w' : World} {S : Nat → Prop} {a : Option Addr} {hs : List ByteArray} (h : IsHs w a hs) (f : Fr S w w') (hS : ∀ k, k < w.heap.size → ¬ S k) : IsHs w' a hs := by
  refine ⟨h.1, h.2.1, fun j x hj => ?_⟩
  obtain ⟨b, off, e, hc⟩ := h.2.2 j x hj
  exact ⟨b, off, e, f.cell hc (hS _ (World.block_lt_of_cell? w _ hc))⟩
theorem isHs_nil (w : World) (a : Option Addr) : IsHs w a [] := ⟨by simp, by simp, fun j x hj => by simp at hj⟩
theorem IsHs.at {w : World} {a : Option Addr} {hs : List ByteArray} (h : IsHs w a hs) (k : Nat) (hk : k < hs.length) :
    ∃ b off x, a = some ⟨b, off, none⟩ ∧ hs[k]? = some x ∧ w.cell? ⟨b, off + k, none⟩ = some (.string x) ∧ x.size ≤ 20 := by
  obtain ⟨b, off, e, hc⟩ := h.2.2 k hs[k] (List.getElem?_eq_getElem hk)
  exact ⟨b, off, hs[k], e, List.getElem?_eq_getElem hk, hc, h.2.1 _ (List.getElem_mem hk)⟩

set_option maxHeartbeats 2000000 in
theorem howLong_any (s : ByteArray) (w : World) (hs : s.size ≤ 20) : Calls Try.prog 17 #[.string s] w fun e w' => e = .returned (.int .i64 (hl s)) ∧ w = w' := by
  have e1 : ((s.size : Int) - 1 + 2).tdiv 2 = hl s := by rw [Int.tdiv_eq_ediv_of_nonneg (by omega)]; unfold hl; omega
  have e2 : hl s = ((s.size : Int) + 1) / 2 := rfl
  generalize hl s = z at *
  go_enter Try.func17, Try.ntmps17
  go_wp2_with fail
  go_ret
  exact ⟨by simp [e2], rfl⟩
set_option maxHeartbeats 2000000 in
theorem wrong_any (s : ByteArray) (w : World) (hs : s.size ≤ 20) : Calls Try.prog 16 #[.string s] w fun e w' => e = .returned (.bool (!okH s)) ∧ w = w' := by
  have hh := howLong_any s w hs
  obtain ⟨z, hz⟩ : ∃ z, hl s = z := ⟨_, rfl⟩
  have e2 : z = ((s.size : Int) + 1) / 2 := by rw [← hz]; rfl
  rw [hz] at hh
  clear hz
  obtain ⟨b, hb⟩ : ∃ b, okH s = b := ⟨_, rfl⟩
  rw [hb]
  by_cases h1 : (s.size : Int) % 2 = 1
  · have h2 : decide (5 < z) = !b := by
      rw [← hb, okH]
      by_cases h9 : s.size ≤ 9
      · simp [h9, show s.size % 2 = 1 by omega]; omega
      · simp [h9]; omega
    clear hb e2
    go_enter Try.func16, Try.ntmps16
    go_wp2_with fail
    refine hh.mono ?_
    rintro e w1 ⟨rfl, rfl⟩
    go_wp2_with fail
    go_ret
    exact ⟨rfl, rfl⟩
  · have h2 : b = false := by
      rw [← hb, okH]
      simp [show ¬ s.size % 2 = 1 by omega]
    subst h2
    clear hb e2 hh
    have h3 : (s.size : Int) % 2 = 0 := by omega
    go_enter Try.func16, Try.ntmps16
    go_wp2_with fail
    go_ret
    exact ⟨rfl, rfl⟩

def anyBad (hs : List ByteArray) : Bool := hs.any fun x => !okH x
def IxR (hs : List ByteArray) (i : Value) : Prop := ∃ k : Nat, i = .int .i64 k ∧ k ≤ hs.length ∧ anyBad hs = anyBad (hs.drop k)
set_option maxHeartbeats 2000000 in
theorem index_any (hs : List ByteArray) (a : Option Addr) (cap : Nat) (w : World) (h : IsHs w a hs) :
    Calls Try.prog 24 #[.slice a hs.length cap, .func (.func 16) #[] #[]] w fun e w' => (∃ z : Int, e = .returned (.int .i64 z) ∧ decide (0 ≤ z) = anyBad hs) ∧ w = w' := by
  obtain ⟨B, hB⟩ : ∃ B, anyBad hs = B := ⟨_, rfl⟩
  have hst : IxR hs (.int .i64 0) := ⟨0, rfl, Nat.zero_le _, rfl⟩
  have hl := h.1
  rw [hB]
  have HB : Hid _ := hB
  clear hB
  obtain ⟨n, hn⟩ : ∃ n, hs.length = n := ⟨_, rfl⟩
  rw [hn] at hl ⊢
  have HN : Hid _ := hn
  clear hn
  go_enter Try.func24, Try.ntmps24
  go_wp2_with fail
  go_loopw [8] (fun i wr => IxR hs i ∧ w = wr) (fun i _ => n - (intOf i).toNat)
  case atStart => exact ⟨hst, rfl⟩
  case round =>
    obtain ⟨⟨k, rfl, hk, hd⟩, rfl⟩ := hrel
    clear hst
    have hn := HN.out
    rw [hn] at hk
    by_cases g : k < n
    · obtain ⟨b, off, x, rfl, hx, hc, hz⟩ := h.at k (by omega)
      have g1 : (k : Int) < (n : Int) := by omega
      have hd2 : anyBad hs = (!okH x || anyBad (hs.drop (k + 1))) := by
        have e : hs[k]'(by omega) = x := by rw [List.getElem?_eq_getElem (by omega)] at hx; simpa using hx
        rw [hd, List.drop_eq_getElem_cons (by omega), e]
        rfl
      clear hd hn hx
      have hw := wrong_any x w hz
      obtain ⟨o, ho⟩ : ∃ o, okH x = o := ⟨_, rfl⟩
      rw [ho] at hw hd2
      clear ho
      go_wp2_with fail
      refine hw.mono ?_
      rintro e w1 ⟨rfl, rfl⟩
      cases o
      · have hb2 : B = true := by rw [← HB.out, hd2]; rfl
        subst hb2
        go_wp2_with fail
        go_ret
        exact ⟨⟨_, rfl, by simp⟩, rfl⟩
      · have HD : Hid _ := hd2
        clear hd2
        go_wp2_with fail
        exact ⟨⟨⟨k + 1, by go_num, by rw [HN.out]; omega, by rw [HD.out]; rfl⟩, trivial⟩, by simp [intOf]; omega⟩
    · have hb2 : B = false := by
        rw [← HB.out, hd, List.drop_eq_nil_of_le (by omega)]
        rfl
      subst hb2
      obtain rfl : k = n := by omega
      clear hd hn
      go_wp2_with fail
      go_ret
      exact ⟨⟨_, rfl, by simp⟩, rfl⟩
set_option maxHeartbeats 2000000 in
theorem contains_any (hs : List ByteArray) (a : Option Addr) (cap : Nat) (w : World) (h : IsHs w a hs) :
    Calls Try.prog 18 #[.slice a hs.length cap, .func (.func 16) #[] #[]] w fun e w' => e = .returned (.bool (anyBad hs)) ∧ w = w' := by
  have hi := index_any hs a cap w h
  obtain ⟨B, hB⟩ : ∃ B, anyBad hs = B := ⟨_, rfl⟩
  rw [hB] at hi ⊢
  clear hB
  go_enter Try.func18, Try.ntmps18
  go_wp2_with fail
  refine hi.mono ?_
  rintro e w1 ⟨⟨z, rfl, hz⟩, rfl⟩
  clear hi
  subst hz
  go_wp2_with fail
  go_ret
  exact ⟨by simp, rfl⟩
set_option maxHeartbeats 2000000 in
theorem first_any (hs : List ByteArray) (a : Option Addr) (cap : Nat) (t : Int) (w : World) (h : IsHs w a hs) (hok : ∀ x ∈ hs, okH x = true) :
    Calls Try.prog 21 #[.slice a hs.length cap, .int .i64 t] w fun e w' => e = .returned (.int .i64 (fT hs t)) ∧ Fr (fun _ => False) w w' := by
  cases hs with
  | nil =>
    simp only [fT, List.length_nil]
    go_enter Try.func21, Try.ntmps21
    go_wp2_with fail
    go_ret
    exact ⟨rfl, Fr.refl _ _⟩
  | cons x l =>
    obtain ⟨b, off, y, rfl, hy, hc, hz⟩ := h.at 0 (by simp)
    obtain rfl : x = y := by simpa using hy
    rw [Nat.add_zero] at hc
    have hx := hl_bounds (hok x (by simp))
    have hs := okH_size (hok x (by simp))
    have hh := fun W => howLong_any x W hz
    simp only [fT]
    obtain ⟨m, hm⟩ : ∃ m : Nat, hl x = m := ⟨(hl x).toNat, by omega⟩
    obtain ⟨u, hu, hul⟩ := bt_nat x 0
    rw [hm, hu]
    simp only [hm] at hh hx
    have hb := get_bt x
    have hne : ¬ x = ByteArray.empty := fun e => by subst e; simp at hs
    have hzz : ¬ x.size = 0 := by omega
    have hn : ¬ ((x :: l).length : Int) = 0 := by rw [List.length_cons]; omega
    have hn2 : (0 : Int) < ((x :: l).length : Int) := by rw [List.length_cons]; omega
    have hn3 : ¬ (x :: l).length = 0 := by rw [List.length_cons]; omega
    generalize (x :: l).length = n at *
    have w2 := wr_in ((m : Int) * 256) (by omega) (by omega)
    have w3 := wr_in (u : Int) (by omega) (by omega)
    have w4 := i64_or_low m u (by omega) hul
    clear hm
    go_enter Try.func21, Try.ntmps21
    go_wp2_with fail
    rename_i K hK
    have HK : Hid _ := hK
    clear hK
    have hcc : ∀ W, Gr w W → W.cell? ⟨b, off, none⟩ = some (.string x) := fun W hW => hW.cell hc (fun e => e)
    refine wp_region_quiet (C := Gr w) (by kernel_rfl) (by kernel_rfl) (Fr.refl _ _).drew ?_
    refine wpQuiet_val (.slice (some ⟨b, off, none⟩) n cap) rfl (fun W hW => by simp [execOp, go_sem, Act.eval]) ?_
    refine wpQuiet_val (.pointer (some ⟨b, off, none⟩)) rfl (fun W hW => by simp [execOp, go_sem, Act.eval, Act.put, hn3]) ?_
    refine wpQuiet_val (.string x) rfl (fun W hW => by simp [execOp, go_sem, Act.eval, Act.put, hcc W hW]) ?_
    refine wpQuiet_call (.int .i64 (m : Int)) rfl 17 _ _ rfl (enters_of Try.func17 (by kernel_rfl) rfl) #[.string x] (by simp [Act.eval, Act.put]) (fun W hW => (hh W).mono fun _ _ h => ⟨h.1, by rw [← h.2]; exact hW⟩) ?_
    refine wpQuiet_val (.int .i64 ((m : Int) * 256)) rfl (fun W hW => by simp [execOp, go_sem, Act.eval, Act.put, w2]) ?_
    refine wpQuiet_val (.slice (some ⟨b, off, none⟩) n cap) rfl (fun W hW => by simp [execOp, go_sem, Act.eval, Act.put]) ?_
    refine wpQuiet_val (.pointer (some ⟨b, off, none⟩)) rfl (fun W hW => by simp [execOp, go_sem, Act.eval, Act.put, hn3]) ?_
    refine wpQuiet_val (.string x) rfl (fun W hW => by simp [execOp, go_sem, Act.eval, Act.put, hcc W hW]) ?_
    refine wpQuiet_val (.int .u8 (u : Int)) rfl (fun W hW => by simp [execOp, go_sem, Act.eval, Act.put, hzz, hb, hu]) ?_
    refine wpQuiet_val (.int .i64 (u : Int)) rfl (fun W hW => by simp [execOp, go_sem, Act.eval, Act.put, w3]) ?_
    refine wpQuiet_val (.int .i64 ((m : Int) * 256 + (u : Int))) rfl (fun W hW => by simp [execOp, go_sem, Act.eval, Act.put, w4]) ?_
    refine wpQuiet_val (.int .i64 ((m : Int) * 256 + (u : Int))) rfl (fun W hW => by simp [execOp, go_sem, Act.eval, Act.put]) ?_
    refine wpQuiet_nil ?_
    intro W1 k1
    refine HK.out _ _ ?_
    simp only [Act.put, List.setIfInBounds_toArray, List.set_cons_succ, List.set_cons_zero]
    go_wp2_with fail
    go_ret
    exact ⟨rfl, k1⟩
end Go.Proofs.Ytlojahlekfpgfaa
