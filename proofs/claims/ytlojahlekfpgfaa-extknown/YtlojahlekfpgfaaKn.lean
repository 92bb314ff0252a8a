/- The law ExtKnown: its walk. -/
import Derived.Test.YtlojahlekfpgfaaL1
namespace Go.Proofs.Ytlojahlekfpgfaa
open Go.RowKit Go.PlainAid Go.Shelf

/-- The chapter's examples. -/
def knTab : List (Int × ByteArray × Int × ByteArray × Int) := [(2048, ⟨#[97, 98]⟩, 2048, ⟨#[97, 98]⟩, 0), (257, ⟨#[8, 0, 97, 98]⟩, 2048, ⟨#[97, 98]⟩, 0), (519, ⟨#[85, 102, 8, 0, 97, 98]⟩, 2048, ⟨#[97, 98]⟩, 0), (1, ⟨#[97, 98]⟩, 0, ⟨#[]⟩, 5), (257, ⟨#[8]⟩, 0, ⟨#[]⟩, 4), (257, ⟨#[0, 7, 97, 98]⟩, 0, ⟨#[]⟩, 5), (65536, ⟨#[]⟩, 0, ⟨#[]⟩, 2), (-1, ⟨#[]⟩, 0, ⟨#[]⟩, 2), (1535, ⟨#[49, 50, 51, 52, 53, 54, 55, 56, 6, 0]⟩, 1536, ⟨#[]⟩, 0), (65535, ⟨#[]⟩, 65535, ⟨#[]⟩, 0), (1535, ⟨#[49, 50, 51, 52, 53, 54, 55, 56, 6]⟩, 0, ⟨#[]⟩, 4)]
def knT (k : Nat) : Int := (knTab.getD k (0, noB, 0, noB, 0)).1
def knD (k : Nat) : ByteArray := (knTab.getD k (0, noB, 0, noB, 0)).2.1
def knA (k : Nat) : Int := (knTab.getD k (0, noB, 0, noB, 0)).2.2.1
def knB (k : Nat) : ByteArray := (knTab.getD k (0, noB, 0, noB, 0)).2.2.2.1
def knC (k : Nat) : Int := (knTab.getD k (0, noB, 0, noB, 0)).2.2.2.2
abbrev knCells : Array Value := #[.int .i64 (2048), .string ⟨#[97, 98]⟩, .int .i64 (2048), .string ⟨#[97, 98]⟩, .int .i64 (0), .int .i64 (257), .string ⟨#[8, 0, 97, 98]⟩, .int .i64 (2048), .string ⟨#[97, 98]⟩, .int .i64 (0), .int .i64 (519), .string ⟨#[85, 102, 8, 0, 97, 98]⟩, .int .i64 (2048), .string ⟨#[97, 98]⟩, .int .i64 (0), .int .i64 (1), .string ⟨#[97, 98]⟩, .int .i64 (0), .string ⟨#[]⟩, .int .i64 (5), .int .i64 (257), .string ⟨#[8]⟩, .int .i64 (0), .string ⟨#[]⟩, .int .i64 (4), .int .i64 (257), .string ⟨#[0, 7, 97, 98]⟩, .int .i64 (0), .string ⟨#[]⟩, .int .i64 (5), .int .i64 (65536), .string ⟨#[]⟩, .int .i64 (0), .string ⟨#[]⟩, .int .i64 (2), .int .i64 (-1), .string ⟨#[]⟩, .int .i64 (0), .string ⟨#[]⟩, .int .i64 (2), .int .i64 (1535), .string ⟨#[49, 50, 51, 52, 53, 54, 55, 56, 6, 0]⟩, .int .i64 (1536), .string ⟨#[]⟩, .int .i64 (0), .int .i64 (65535), .string ⟨#[]⟩, .int .i64 (65535), .string ⟨#[]⟩, .int .i64 (0), .int .i64 (1535), .string ⟨#[49, 50, 51, 52, 53, 54, 55, 56, 6]⟩, .int .i64 (0), .string ⟨#[]⟩, .int .i64 (4)]
theorem kn_all (k : Nat) (h : k < 11) : skR (knT k) (knD k) = (knA k, knB k, knC k) ∧ (knD k).size ≤ 10 ∧ -1 ≤ knT k ∧ knT k ≤ 65536 := by
  have hc : k = 0 ∨ k = 1 ∨ k = 2 ∨ k = 3 ∨ k = 4 ∨ k = 5 ∨ k = 6 ∨ k = 7 ∨ k = 8 ∨ k = 9 ∨ k = 10 := by omega
  rcases hc with rfl | rfl | rfl | rfl | rfl | rfl | rfl | rfl | rfl | rfl | rfl <;> exact ⟨by kernel_rfl, by decide, by decide, by decide⟩
/-- Row k of the table. -/
structure KAt (W : World) (G k : Nat) : Prop where
  c0 : W.cell? ⟨G, k * 5, none⟩ = some (.int .i64 (knT k))
  c1 : W.cell? ⟨G, k * 5 + 1, none⟩ = some (.string (knD k))
  c2 : W.cell? ⟨G, k * 5 + 2, none⟩ = some (.int .i64 (knA k))
  c3 : W.cell? ⟨G, k * 5 + 3, none⟩ = some (.string (knB k))
  c4 : W.cell? ⟨G, k * 5 + 4, none⟩ = some (.int .i64 (knC k))
theorem KAt.keep {W W' : World} {S : Nat → Prop} {G k : Nat} (h : KAt W G k) (f : Fr S W W') (hG : ¬ S G) : KAt W' G k :=
  ⟨f.cell h.c0 hG, f.cell h.c1 hG, f.cell h.c2 hG, f.cell h.c3 hG, f.cell h.c4 hG⟩
theorem kn_at (w : World) (t : TypeId) (k : Nat) (h : k < 11) : KAt (w.alloc (.cells knCells t)) w.heap.size k := by
  have hc : k = 0 ∨ k = 1 ∨ k = 2 ∨ k = 3 ∨ k = 4 ∨ k = 5 ∨ k = 6 ∨ k = 7 ∨ k = 8 ∨ k = 9 ∨ k = 10 := by omega
  rcases hc with rfl | rfl | rfl | rfl | rfl | rfl | rfl | rfl | rfl | rfl | rfl <;>
    exact ⟨by simp [go_sem, knT, knTab], by simp [go_sem, knD, knTab], by simp [go_sem, knA, knTab], by simp [go_sem, knB, knTab], by simp [go_sem, knC, knTab]⟩
theorem kn_p1 : puR 256 ⟨#[97, 98]⟩ [] = (0, noB, 2) := by kernel_rfl
theorem kn_p2 : puR 2048 ⟨#[97, 98]⟩ [noB] = (0, noB, 2) := by kernel_rfl
theorem kn_p3 : puR 2048 ⟨#[97, 98]⟩ [⟨#[1, 2]⟩] = (0, noB, 2) := by kernel_rfl
theorem kn_p4 : puR 2048 ⟨#[97, 98]⟩ [⟨#[49, 50, 51, 52, 53, 54, 55, 56, 57, 48, 49]⟩] = (0, noB, 2) := by kernel_rfl
theorem kn_p5 : puR 65536 ⟨#[97, 98]⟩ [] = (0, noB, 2) := by kernel_rfl
theorem kn_p6 : puR 1536 ⟨#[97, 98]⟩ [] = (1536, ⟨#[97, 98]⟩, 0) := by kernel_rfl
theorem put_nil (t : Int) (A C : Int) (B : ByteArray) (h0 : -9223372036854775808 ≤ t) (h1 : t ≤ 9223372036854775807) (h : puR t ⟨#[97, 98]⟩ [] = (A, B, C)) (w : World) :
    Calls Try.prog 12 #[.int .i64 t, .string ⟨#[97, 98]⟩, .slice none 0 0] w fun e w' => e = .returned (.tuple #[.int .i64 A, .string B, .int .i64 C]) ∧ Fr (fun _ => False) w w' := by
  have := put_any t ⟨#[97, 98]⟩ [] none 0 w (isHs_nil w none) (by decide) h0 h1 (by decide) (by decide)
  rw [h] at this
  exact this
theorem put_one (x : ByteArray) (A C : Int) (B : ByteArray) (hx : x.size ≤ 20) (h : puR 2048 ⟨#[97, 98]⟩ [x] = (A, B, C)) (w : World) :
    Calls Try.prog 12 #[.int .i64 2048, .string ⟨#[97, 98]⟩, .slice (some ⟨w.heap.size, 0, none⟩) 1 1] (w.alloc (.cells #[.string x] 9)) fun e w' => e = .returned (.tuple #[.int .i64 A, .string B, .int .i64 C]) ∧ Fr (fun _ => False) (w.alloc (.cells #[.string x] 9)) w' := by
  have := put_any 2048 ⟨#[97, 98]⟩ [x] _ 1 _ (isHs_one w x hx 9) (by decide) (by decide) (by decide) (Nat.le_refl _) (by decide)
  rw [h] at this
  exact this
/-- Between two rounds. -/
def KnR (w : World) (i : Value) (wr : World) : Prop := ∃ k : Nat, k ≤ 11 ∧ i = .int .i64 k ∧ (∀ j, j < 11 → KAt wr w.heap.size j) ∧ Fr (fun _ => False) w wr
set_option maxRecDepth 100000 in
set_option maxHeartbeats 4000000 in
theorem known_walk (w : World) : Calls Try.prog 7 #[] w fun e w' => e = .returned (.bool true) ∧ Fr (fun _ => False) w w' := by
  have hwk := fun W => works_any W
  have hst : KnR w (.int .i64 0) (w.alloc (.cells knCells 35)) := ⟨0, by omega, rfl, fun j hj => kn_at w 35 j hj, (Fr.refl _ w).alloc _⟩
  go_enter Try.func7, Try.ntmps7
  go_wp2_with fail
  generalize w.alloc (.cells knCells 35) = W0 at *
  go_loopw [37] (fun i wr => KnR w i wr) (fun i _ => 12 - (intOf i).toNat)
  case atStart => exact hst
  case round =>
    obtain ⟨k, hk, rfl, hT, hF⟩ := hrel
    clear hst
    by_cases g : k < 11
    · have i1 : (k : Int) < 11 := by omega
      have hK := hT k g
      obtain ⟨e1, e2, e3, e4⟩ := kn_all k g
      have h1 := fun W => skip_any (knT k) (knD k) W (by omega) (by omega) (by omega)
      simp only [e1] at h1
      obtain ⟨c0, c1, c2, c3, c4⟩ := hK
      generalize knT k = T at *
      generalize knD k = D at *
      generalize knA k = A at *
      generalize knB k = B at *
      generalize knC k = C at *
      clear e1 e2 e3 e4
      have hT' := fun j hj => (hT j hj).keep ((Fr.refl (fun _ => False) wr).alloc (.cells #[.int .i64 T, .string D, .int .i64 A, .string B, .int .i64 C] 35)) (fun e => e)
      have hFb := hF.alloc (.cells #[.int .i64 T, .string D, .int .i64 A, .string B, .int .i64 C] 35)
      have d2 : (wr.alloc (.cells #[.int .i64 T, .string D, .int .i64 A, .string B, .int .i64 C] 35)).cell? ⟨wr.heap.size, 2, none⟩ = some (.int .i64 A) := by simp [go_sem]
      have d3 : (wr.alloc (.cells #[.int .i64 T, .string D, .int .i64 A, .string B, .int .i64 C] 35)).cell? ⟨wr.heap.size, 3, none⟩ = some (.string B) := by simp [go_sem]
      have d4 : (wr.alloc (.cells #[.int .i64 T, .string D, .int .i64 A, .string B, .int .i64 C] 35)).cell? ⟨wr.heap.size, 4, none⟩ = some (.int .i64 C) := by simp [go_sem]
      go_wp2_with fail
      refine (h1 _).mono ?_
      rintro e w1 ⟨rfl, k1⟩
      have hF1 := hFb.trans k1 (fun _ _ e => e)
      have hT1 := fun j hj => (hT' j hj).keep k1 (fun e => e)
      have d2 := k1.cell d2 (fun e => e)
      have d3 := k1.cell d3 (fun e => e)
      have d4 := k1.cell d4 (fun e => e)
      clear h1 hT hT' hFb k1 hF c0 c1 c2 c3 c4
      go_wp2_with fail
      exact ⟨⟨k + 1, by omega, by go_num, hT1, hF1⟩, by simp [intOf]; omega⟩
    · obtain rfl : k = 11 := by omega
      clear hT g hk
      have hp1 := fun W => put_nil 256 _ _ _ (by decide) (by decide) kn_p1 W
      have hp2 := fun W => put_one noB _ _ _ (by decide) kn_p2 W
      have hp3 := fun W => put_one ⟨#[1, 2]⟩ _ _ _ (by decide) kn_p3 W
      have hp4 := fun W => put_one ⟨#[49, 50, 51, 52, 53, 54, 55, 56, 57, 48, 49]⟩ _ _ _ (by decide) kn_p4 W
      have hp5 := fun W => put_nil 65536 _ _ _ (by decide) (by decide) kn_p5 W
      have hp6 := fun W => put_nil 1536 _ _ _ (by decide) (by decide) kn_p6 W
      go_wp2_with fail
      refine (hp1 _).mono ?_
      rintro e w2 ⟨rfl, k2⟩
      have hF2 := hF |>.trans k2 (fun _ _ e => e)
      clear k2 hF
      go_wp2_with fail
      refine (hp2 _).mono ?_
      rintro e w3 ⟨rfl, k3⟩
      have hF3 := hF2.alloc (.cells #[.string noB] 9) |>.trans k3 (fun _ _ e => e)
      clear k3 hF2
      go_wp2_with fail
      refine (hp3 _).mono ?_
      rintro e w4 ⟨rfl, k4⟩
      have hF4 := hF3.alloc (.cells #[.string ⟨#[1, 2]⟩] 9) |>.trans k4 (fun _ _ e => e)
      clear k4 hF3
      go_wp2_with fail
      refine (hp4 _).mono ?_
      rintro e w5 ⟨rfl, k5⟩
      have hF5 := hF4.alloc (.cells #[.string ⟨#[49, 50, 51, 52, 53, 54, 55, 56, 57, 48, 49]⟩] 9) |>.trans k5 (fun _ _ e => e)
      clear k5 hF4
      go_wp2_with fail
      refine (hp5 _).mono ?_
      rintro e w6 ⟨rfl, k6⟩
      have hF6 := hF5 |>.trans k6 (fun _ _ e => e)
      clear k6 hF5
      go_wp2_with fail
      refine (hp6 _).mono ?_
      rintro e w7 ⟨rfl, k7⟩
      have hF7 := hF6 |>.trans k7 (fun _ _ e => e)
      clear k7 hF6
      go_wp2_with fail
      refine (hwk _).mono ?_
      rintro e w8 ⟨rfl, k8⟩
      go_wp2_with fail
      go_ret
      exact ⟨rfl, hF7.trans k8 (fun _ _ e => e)⟩
end Go.Proofs.Ytlojahlekfpgfaa
