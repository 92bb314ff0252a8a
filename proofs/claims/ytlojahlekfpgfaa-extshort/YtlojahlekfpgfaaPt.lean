/- Put, the program's. -/
import Derived.Test.YtlojahlekfpgfaaHs
import Derived.Test.YtlojahlekfpgfaaBd
namespace Go.Proofs.Ytlojahlekfpgfaa
open Go.RowKit Go.PlainAid Go.Shelf

theorem bodyOf_drop {hs : List ByteArray} {k : Nat} {x : ByteArray} (hx : hs[k]? = some x) (t : Int) : bodyOf (hs.drop k) t = dropB x 1 ++ (tw (fT (hs.drop (k + 1)) t).toNat ++ bodyOf (hs.drop (k + 1)) t) := by
  obtain ⟨hk, e⟩ := List.getElem?_eq_some_iff.1 hx
  rw [List.drop_eq_getElem_cons hk, e]
  rfl
theorem anyBad_false {hs : List ByteArray} (h : anyBad hs = false) : ∀ x ∈ hs, okH x = true := by
  intro x hx
  simpa using List.any_eq_false.1 h x hx
theorem IsHs.drop {w : World} {b off : Nat} {hs : List ByteArray} (h : IsHs w (some ⟨b, off, none⟩) hs) (k : Nat) : IsHs w (some ⟨b, off + k, none⟩) (hs.drop k) := by
  refine ⟨by rw [List.length_drop]; have := h.1; omega, fun x hx => h.2.1 x (List.mem_of_mem_drop hx), fun j x hj => ?_⟩
  rw [List.getElem?_drop] at hj
  obtain ⟨b', off', e, hc⟩ := h.2.2 _ x hj
  cases e
  exact ⟨b, off + k, rfl, by rw [show off + k + j = off + (k + j) by omega]; exact hc⟩
/-- Between two rounds. -/
def PtR (w : World) (hs : List ByteArray) (t : Int) (Bo : ByteArray) (i : Value) (wr : World) : Prop :=
  ∃ (k : Nat) (acc : ByteArray), i = .int .i64 k ∧ k ≤ hs.length ∧ Bld wr w.heap.size acc ∧ acc ++ bodyOf (hs.drop k) t = Bo ∧ acc.size ≤ 30 * k ∧ Fr (fun _ => False) w wr
set_option maxHeartbeats 4000000 in
theorem put_any (t : Int) (s : ByteArray) (hs : List ByteArray) (a : Option Addr) (cap : Nat) (w : World) (h : IsHs w a hs) (hz : s.size ≤ 1000000) (ht0 : -9223372036854775808 ≤ t) (ht1 : t ≤ 9223372036854775807) (hcap : hs.length ≤ cap) (hcap2 : cap ≤ maxLen) :
    Calls Try.prog 12 #[.int .i64 t, .string s, .slice a hs.length cap] w fun e w' => e = .returned (.tuple #[.int .i64 (puR t s hs).1, .string (puR t s hs).2.1, .int .i64 (puR t s hs).2.2]) ∧ Fr (fun _ => False) w w' := by
  obtain ⟨A, B, C, hR⟩ : ∃ A B C, puR t s hs = (A, B, C) := ⟨_, _, _, rfl⟩
  rw [hR]
  simp only
  have hct := fun W hW => contains_any hs a cap W hW
  by_cases h1 : t < 1536
  · rw [puR, if_pos (by simp [badP, h1])] at hR
    cases hR
    go_enter Try.func12, Try.ntmps12
    go_wp2_with fail
    go_ret3
    exact ⟨rfl, Fr.refl _ _⟩
  by_cases h2 : 65535 < t
  · rw [puR, if_pos (by simp [badP, h2])] at hR
    cases hR
    go_enter Try.func12, Try.ntmps12
    go_wp2_with fail
    go_ret3
    exact ⟨rfl, Fr.refl _ _⟩
  obtain ⟨b, hb⟩ : ∃ b, anyBad hs = b := ⟨_, rfl⟩
  rw [hb] at hct
  cases b
  · have hok := anyBad_false hb
    rw [puR, if_neg (by simp only [badP, h1, h2, show (hs.any fun h => !okH h) = false from hb]; decide)] at hR
    cases hR
    clear hb
    have hst : ∀ W, Bld W w.heap.size noB → Fr (fun _ => False) w W → PtR w hs t (bodyOf hs t) (.int .i64 0) W := fun W hW hF => ⟨0, noB, rfl, Nat.zero_le _, hW, by rw [List.drop_zero, noB_append], Nat.zero_le _, hF⟩
    obtain ⟨Bo, hBo⟩ : ∃ Bo, bodyOf hs t = Bo := ⟨_, rfl⟩
    obtain ⟨TT, hTT⟩ : ∃ TT, fT hs t = TT := ⟨_, rfl⟩
    rw [hBo] at hst
    rw [hBo, hTT]
    have HT : Hid _ := hTT
    clear hBo hTT
    have hfst := fun (l : List ByteArray) a cap W hW hl => first_any l a cap t W hW hl
    have hl := h.1
    obtain ⟨n, hn⟩ : ∃ n, hs.length = n := ⟨_, rfl⟩
    rw [hn] at hl hct hcap ⊢
    have HN : Hid _ := hn
    clear hn
    go_enter Try.func12, Try.ntmps12
    go_wp2_with fail
    refine (hct w h).mono ?_
    rintro e w1 ⟨rfl, rfl⟩
    go_wp2_with fail
    have hst := hst _ (bld_new w) ((Fr.refl _ w).alloc _)
    generalize w.alloc (.cells #[.pointer none, .slice none 0 0] 45) = W0 at *
    go_loopw [26] (fun i wr => PtR w hs t Bo i wr) (fun i _ => n - (intOf i).toNat)
    case atStart => exact hst
    case round =>
      obtain ⟨k, acc, rfl, hk, hB, hacc, has, hF⟩ := hrel
      clear hst
      have hn := HN.out
      rw [hn] at hk
      by_cases g : k < n
      · obtain ⟨b, off, x, rfl, hx, hc, hxz⟩ := h.at k (by omega)
        have hx1 := okH_size (hok x (List.mem_of_getElem? hx))
        rw [bodyOf_drop hx] at hacc
        have hc := hF.cell hc (fun e => e)
        have g1 : (k : Int) < (n : Int) := by omega
        have g2 : (1 : Int) ≤ (x.size : Int) := by omega
        have hkn : (hs.drop (k + 1)).length = n - (k + 1) := by rw [List.length_drop, hn]
        obtain ⟨ao, hao, hD⟩ : ∃ ao, ((cap = k + 1 ∧ ao = off) ∨ (¬ cap = k + 1 ∧ ao = off + (k + 1))) ∧ ∀ W, Fr (fun _ => False) w W → IsHs W (some ⟨b, ao, none⟩) (hs.drop (k + 1)) := by
          by_cases q : cap = k + 1
          · refine ⟨off, .inl ⟨q, rfl⟩, fun W _ => ?_⟩
            rw [List.drop_eq_nil_of_le (by omega)]
            exact isHs_nil _ _
          · exact ⟨_, .inr ⟨q, rfl⟩, fun W hW => (h.keep hW (fun _ _ e => e)).drop (k + 1)⟩
        have hfs := fun W cap' hW => hfst (hs.drop (k + 1)) (some ⟨b, ao, none⟩) cap' W (hD W hW) (fun y hy => hok y (List.mem_of_mem_drop hy))
        have hfb := fT_bounds (l := hs.drop (k + 1)) (t := t) (fun y hy => hok y (List.mem_of_mem_drop hy)) (by omega) (by omega)
        rw [hkn] at hfs
        obtain ⟨T, hT⟩ : ∃ T, fT (hs.drop (k + 1)) t = T := ⟨_, rfl⟩
        rw [hT] at hacc hfb
        simp only [hT] at hfs
        have hsx : (x.extract 1 x.size).size = x.size - 1 := by rw [ByteArray.size_extract]; omega
        have HA : Hid _ := hacc
        clear hacc hx hT hkn hn hD hfst h hct
        rcases hao with ⟨rfl, rfl⟩ | ⟨q, rfl⟩
        · rw [show n - (k + 1) = 0 by omega] at hfs
          go_wp2_with fail
          refine (bstr_any w.heap.size acc (x.extract 1 x.size) wr hB (by omega)).mono ?_
          rintro e w1 ⟨rfl, hB1, k1⟩
          have hF1 := hF.trans k1 (fun i h1 h2 => by omega)
          clear hB k1 hc hF
          go_wp2_with fail
          refine (hfs w1 _ hF1).mono ?_
          rintro e w2 ⟨rfl, k2⟩
          have hF2 := hF1.trans k2 (fun _ _ e => e)
          have hB2 := hB1.keep k2 (fun _ _ e => e)
          clear hB1 k2 hF1 hfs
          go_wp2_with fail
          refine (layType_any w.heap.size _ T hfb.1 hfb.2 w2 hB2 (by rw [ByteArray.size_append]; omega)).mono ?_
          rintro e w3 ⟨rfl, hB3, k3⟩
          have hF3 := hF2.trans k3 (fun i h1 h2 => by omega)
          clear hB2 k3 hF2
          go_wp2_with fail
          refine ⟨⟨k + 1, _, by go_num, by rw [HN.out]; omega, hB3, by rw [← HA.out]; simp only [append_asc], by rw [ByteArray.size_append, ByteArray.size_append, size_tw]; omega, hF3⟩, by simp [intOf]; omega⟩
        · go_wp2_with fail
          refine (bstr_any w.heap.size acc (x.extract 1 x.size) wr hB (by omega)).mono ?_
          rintro e w1 ⟨rfl, hB1, k1⟩
          have hF1 := hF.trans k1 (fun i h1 h2 => by omega)
          clear hB k1 hc hF
          go_wp2_with fail
          refine (hfs w1 _ hF1).mono ?_
          rintro e w2 ⟨rfl, k2⟩
          have hF2 := hF1.trans k2 (fun _ _ e => e)
          have hB2 := hB1.keep k2 (fun _ _ e => e)
          clear hB1 k2 hF1 hfs
          go_wp2_with fail
          refine (layType_any w.heap.size _ T hfb.1 hfb.2 w2 hB2 (by rw [ByteArray.size_append]; omega)).mono ?_
          rintro e w3 ⟨rfl, hB3, k3⟩
          have hF3 := hF2.trans k3 (fun i h1 h2 => by omega)
          clear hB2 k3 hF2
          go_wp2_with fail
          refine ⟨⟨k + 1, _, by go_num, by rw [HN.out]; omega, hB3, by rw [← HA.out]; simp only [append_asc], by rw [ByteArray.size_append, ByteArray.size_append, size_tw]; omega, hF3⟩, by simp [intOf]; omega⟩
      · obtain rfl : k = n := by omega
        rw [List.drop_eq_nil_of_le (by omega)] at hacc
        obtain rfl : acc = Bo := by rw [← hacc]; exact (append_noB acc).symm
        have hTT := HT.out
        have hfs := fun W hW => hfst hs a cap W hW hok
        rw [hn] at hfs
        simp only [hTT] at hfs
        clear hacc hn hfst hTT HT
        go_wp2_with fail
        refine (bstr_any w.heap.size acc s wr hB (by omega)).mono ?_
        rintro e w1 ⟨rfl, hB1, k1⟩
        have hF1 := hF.trans k1 (fun i h1 h2 => by omega)
        clear hB k1 hF
        go_wp2_with fail
        refine (hfs w1 (h.keep hF1 (fun _ _ e => e))).mono ?_
        rintro e w2 ⟨rfl, k2⟩
        have hF2 := hF1.trans k2 (fun _ _ e => e)
        have hB2 := hB1.keep k2 (fun _ _ e => e)
        clear hB1 k2 hF1 hfs
        go_wp2_with fail
        refine (bdone_any w.heap.size _ w2 hB2).mono ?_
        rintro e w3 ⟨rfl, k3⟩
        have hF3 := hF2.trans k3 (fun i h1 h2 => by omega)
        clear hB2 k3 hF2
        go_wp2_with fail
        go_ret3
        exact ⟨rfl, hF3⟩
  · rw [puR, if_pos (by simp only [badP, show (hs.any fun h => !okH h) = true from hb]; simp)] at hR
    cases hR
    clear hb
    have hl := h.1
    obtain ⟨n, hn⟩ : ∃ n, hs.length = n := ⟨_, rfl⟩
    rw [hn] at hl hct ⊢
    clear hn
    go_enter Try.func12, Try.ntmps12
    go_wp2_with fail
    refine (hct w h).mono ?_
    rintro e w1 ⟨rfl, rfl⟩
    go_wp2_with fail
    go_ret3
    exact ⟨rfl, Fr.refl _ _⟩
end Go.Proofs.Ytlojahlekfpgfaa
