/- The law RingTypes of layer 15. -/
import Derived.Test.YtdphjomdnohbpaaAl
import Derived.Deep.CutRange
import Derived.LaidEql
import Derived.Deep.DeepCutAuto
namespace Go.Proofs.Ytdphjomdnohbpaa
open Go.RowKit Go.PlainAid

/-- The things of the numbers from t to p, each with its list. -/
def ths (f : Nat → Ls) (t p : Nat) : List (Int × Ls) := (List.range' t (p - t)).map fun (i : Nat) => ((i : Int), f i)
theorem ths_len (f : Nat → Ls) (t p : Nat) : (ths f t p).length = p - t := by simp [ths]
theorem ths_put {f : Nat → Ls} {t p : Nat} (h : t ≤ p) : ths f t p ++ [((p : Int), f p)] = ths f t (p + 1) := by
  rw [ths, ths, show p + 1 - t = (p - t) + 1 by omega, List.range'_1_concat, List.map_append, show t + (p - t) = p by omega]
  rfl
theorem ths_take {f : Nat → Ls} {t p : Nat} (h : t < p) : ths f t p = ((t : Int), f t) :: ths f (t + 1) p := by
  rw [ths, ths, show p - t = (p - (t + 1)) + 1 by omega, List.range'_succ]
  rfl
theorem ths_none (f : Nat → Ls) (t : Nat) : ths f t t = [] := by simp [ths]
theorem ths_at (f : Nat → Ls) {p j : Nat} (h : j < p) : (ths f 0 p)[j]? = some ((j : Int), f j) := by
  simp [ths, h]
/-- Of the things that were handed back: their numbers. -/
def ThAt (X : Nat → Prop) (w : World) (a : Option Addr) (n : Nat) : Prop :=
  ∀ j, j < n → ∃ b off, a = some ⟨b, off, none⟩ ∧ X b ∧ w.cell? ⟨b, off + j * 2, none⟩ = some (.int .i64 (j : Int))
theorem ThAt.keep {X S : Nat → Prop} {w w' : World} {a : Option Addr} {n : Nat} (h : ThAt X w a n) (k : Fr S w w') (hs : ∀ b, X b → ¬ S b) : ThAt X w' a n := fun j hj => by
  obtain ⟨b, off, e, hx, hc⟩ := h j hj
  exact ⟨b, off, e, hx, k.cell hc (hs b hx)⟩
section
variable {R : World → Nat → (Nat → Prop) → Nat → List (Int × Ls) → Prop} {w W : World} {X : Nat → Prop} {g m : Nat} {l : List (Int × Ls)}
theorem thg_puts (P : ThgP R) (h : RIn R w X g m l W) (k : Int) (a : Option Addr) (n c : Nat) (hl : l.length < m) :
    Calls Try.prog 25 #[pp g, .agg #[.int .i64 k, .slice a n c]] W fun e W' => e = .returned (.int .i64 0) ∧ RIn R w X g m (l ++ [(k, ⟨a, n, c⟩)]) W' ∧ Fr (Bt w X) W W' := thg_put P h (k, ⟨a, n, c⟩) hl
theorem thg_takes (P : ThgP R) (k : Int) (a : Option Addr) (n c : Nat) (h : RIn R w X g m ((k, ⟨a, n, c⟩) :: l) W) :
    Calls Try.prog 27 #[pp g] W fun e W' => e = .returned (.tuple #[.agg #[.int .i64 k, .slice a n c], .bool true]) ∧ RIn R w X g m l W' ∧ Fr (Bt w X) W W' := thg_take P (k, ⟨a, n, c⟩) h
theorem thg_firsts (P : ThgP R) (h : RIn R w X g m [] W) :
    Calls Try.prog 28 #[pp g] W fun e W' => e = .returned (.tuple #[.agg #[.int .i64 0, .slice none 0 0], .bool false]) ∧ RIn R w X g m [] W' ∧ Fr (fun _ => False) W W' := thg_first0 P h
theorem thg_allX (P : ThgP R) {f : Nat → Ls} {p : Nat} (h : RIn R w X g m (ths f 0 p) W) :
    Calls Try.prog 26 #[pp g] W fun e W' => (∃ a cap, e = .returned (.slice a p cap) ∧ p ≤ cap ∧ cap ≤ maxLen ∧ ThAt (fun k => ths f 0 p ≠ [] ∧ ∃ o, a = some ⟨k, o, none⟩) W' a p ∧ RIn R w (fun k => X k ∨ (ths f 0 p ≠ [] ∧ ∃ o, a = some ⟨k, o, none⟩)) g m (ths f 0 p) W') ∧ Fr (fun _ => False) W W' := by
  refine (rin_allX P h).mono ?_
  rintro e W' ⟨⟨a, cap, rfl, h1, h2, h3, h4⟩, f1⟩
  have hlen : (ths f 0 p).length = p := by rw [ths_len]; omega
  rw [hlen] at h1 ⊢
  refine ⟨⟨a, cap, rfl, h1, h2, fun j hj => ?_, h4⟩, f1⟩
  have hl : ths f 0 p ≠ [] := fun e => by rw [e] at hlen; simp at hlen; omega
  obtain ⟨b, off, rfl, hh⟩ := h3 hl
  have hc := hh.c j _ (ths_at f hj) 0 (.int .i64 (j : Int)) rfl
  exact ⟨b, off, rfl, ⟨hl, off, rfl⟩, by simpa [kThing] using hc⟩
end
variable {R : World → Nat → (Nat → Prop) → Nat → List ByteArray → Prop} {RT : World → Nat → (Nat → Prop) → Nat → List (Int × Ls) → Prop}
def TyR (RT : World → Nat → (Nat → Prop) → Nat → List (Int × Ls) → Prop) (w : World) (g len : Nat) (f : Nat → Ls) (i : Value) (wr : World) : Prop :=
  ∃ ni : Nat, ni ≤ 40 ∧ ni ≤ len ∧ i = .int .i64 (ni : Int) ∧ RIn RT w (fun _ => False) g 40 (ths f 0 ni) wr
def TzR (RT : World → Nat → (Nat → Prop) → Nat → List (Int × Ls) → Prop) (w : World) (g M : Nat) (f : Nat → Ls) (a2 : Option Addr) (i _7 _8 : Value) (wr : World) : Prop :=
  ∃ ni : Nat, ni ≤ M ∧ i = .int .i64 (ni : Int) ∧ RIn RT w (fun k => False ∨ (ths f 0 M ≠ [] ∧ ∃ o, a2 = some ⟨k, o, none⟩)) g 40 (ths f ni M) wr ∧ ThAt (fun k => ths f 0 M ≠ [] ∧ ∃ o, a2 = some ⟨k, o, none⟩) wr a2 M
theorem lists_fun {w : World} {a : Option Addr} {len : Nat} (ha : IsLists w a len) :
    ∃ f : Nat → Ls, ∀ i, i < len → ∃ b off, a = some ⟨b, off, none⟩ ∧ w.cell? ⟨b, off + i, none⟩ = some (f i).v ∧ (f i).n ≤ (f i).c ∧ (f i).c ≤ 9223372036854775807 ∧ (0 < (f i).n → ∃ bx ox, (f i).a = some ⟨bx, ox, none⟩) := by
  have h : ∀ i, ∃ L : Ls, i < len → ∃ b off, a = some ⟨b, off, none⟩ ∧ w.cell? ⟨b, off + i, none⟩ = some L.v ∧ L.n ≤ L.c ∧ L.c ≤ 9223372036854775807 ∧ (0 < L.n → ∃ bx ox, L.a = some ⟨bx, ox, none⟩) := fun i => by
    by_cases hi : i < len
    · obtain ⟨b, off, x, n, c, zs, rfl, hc, hx⟩ := ha.c i hi
      refine ⟨⟨x, n, c⟩, fun _ => ⟨b, off, rfl, hc, ?_, ?_, fun h0 => ?_⟩⟩
      · rcases hx with ⟨_, h1, h2, _⟩ | ⟨x', _, h1, h2, _⟩
        · show n ≤ c
          omega
        · exact h1
      · rcases hx with ⟨_, h1, h2, _⟩ | ⟨x', _, h1, h2, _⟩
        · show c ≤ _
          omega
        · show c ≤ _
          unfold maxLen at h2; omega
      · obtain ⟨bx, ox, _, e, _⟩ := isRow_cell hx 0 h0
        exact ⟨bx, ox, e⟩
    · exact ⟨⟨none, 0, 0⟩, fun h => absurd h hi⟩
  exact Classical.axiomOfChoice h
theorem eq_ptr_in (d : Nat) (a : Addr) (w : World) : (Op.equalIn (d + 1) 55 (.pointer (some a)) (.pointer (some a))).run Try.prog w = .ok true w := by
  simp only [Op.equalIn, Sem.run_bind, run_underlying Try.underlying55, Result.andThen_ok, sizeOf, Try.typeInfo3, Sem.run_pure]
  simp [run_sameAddr_same, Try.t3]
theorem eq_ptr (a : Addr) (w : World) : (Op.equal 55 (.pointer (some a)) (.pointer (some a))).run Try.prog w = .ok true w := eq_ptr_in 9999 a w
theorem neq_ptr (a : Addr) (w : World) : (binOp .neq 55 (.pointer (some a)) (.pointer (some a))).run Try.prog w = .ok (.bool false) w := by
  unfold binOp
  simp [eq_ptr]
attribute [local go_sem] neq_ptr
set_option maxRecDepth 100000 in
set_option maxHeartbeats 8000000 in
theorem types_walk (P : StrP R) (Q : ThgP RT) (a : Option Addr) (len cap : Nat) (w : World) (ha : IsLists w a len) :
    Calls Try.prog 5 #[.slice a len cap] w fun e w' => e = .returned (.bool true) ∧ Fr (fun _ => False) w w' := by
  have hle := ha.le
  obtain ⟨f, hf⟩ := lists_fun ha
  go_enter Try.func5, Try.ntmps5
  go_wp2_with fail
  refine (thg_new (w := w) (X := fun _ => False) Q 40 (by omega) (by omega) (Fr.refl _ _) (fun _ e => e.elim)).mono ?_
  rintro e w0 ⟨⟨g, rfl, hR0⟩, -⟩
  go_wp2_with fail
  have hst : TyR RT w g len f (.int .i64 0) w0 := ⟨0, by omega, by omega, rfl, by rw [ths_none]; exact hR0⟩
  clear hR0
  go_loopw [4] (fun i wr => TyR RT w g len f i wr) (fun i _ => 40 - (intOf i).toNat)
  case atStart => exact hst
  case round =>
    obtain ⟨ni, hi, hi2, rfl, hR⟩ := hrel
    clear hst
    by_cases hlt : ni < len ∧ ni < 40
    · have hlt1 : (ni : Int) < (len : Int) := by omega
      have hlt3 : (ni : Int) < 40 := by omega
      obtain ⟨b, off, rfl, hc, h1, h2, h3⟩ := hf ni hlt.1
      obtain ⟨⟨ax, nx, cx⟩, hL⟩ : ∃ L, f ni = L := ⟨_, rfl⟩
      rw [hL] at hc h1 h2 h3
      have hp := ths_put (f := f) (Nat.zero_le ni)
      rw [hL] at hp
      simp only [Ls.v] at hc h1 h2 h3
      have hc1 := hR.fr.cell hc (fun e => e)
      have HL : Hid _ := hL
      clear hL
      go_wp2_with fail
      refine (thg_puts Q hR (ni : Int) ax nx cx (by rw [ths_len]; omega)).mono ?_
      rintro e w1 ⟨rfl, hR1, -⟩
      rw [hp] at hR1
      clear hR hc1 hp
      go_wp2_with fail
      go_roundw
      case rel => exact ⟨ni + 1, by omega, by omega, by go_num, hR1⟩
      case measure => simp [intOf]; omega
    · have hmin : ni = (if 40 < len then 40 else len) ∧ (if (40 : Int) < (len : Int) then (40 : Int) else (len : Int)) = (ni : Int) := by split <;> split <;> omega
      have hni : ni ≤ len := hi2
      have hend : (¬ (ni : Int) < (len : Int)) ∨ ((ni : Int) < (len : Int) ∧ ¬ (ni : Int) < 40) := by omega
      have hmin2 := hmin.2
      clear hmin hlt hi2
      rcases hend with hend | ⟨hend, hend2⟩
      · have e : len = ni := by omega
        subst e
        have h40 : ¬ (40 : Int) < (len : Int) := by omega
        clear hmin2
        go_wp2_with fail
        refine (thg_allX Q hR).mono ?_
        rintro e w1 ⟨⟨a2, cap2, rfl, hc1, hc2, hA, hR1⟩, -⟩
        unfold maxLen at hc2
        clear hR
        go_wp2_with fail
        have hst : TzR RT w g len f a2 (.int .i64 0) undef undef w1 := ⟨0, by omega, rfl, hR1, hA⟩
        clear hR1 hA
        go_loopw [6, 7, 8] (fun i a b wr => TzR RT w g len f a2 i a b wr) (fun i _ _ _ => len - (intOf i).toNat)
        case atStart => exact hst
        case round =>
          obtain ⟨k, hk, rfl, hR, hA⟩ := hrel
          clear hst
          by_cases hlt : k < len
          · have hlt1 : (k : Int) < (len : Int) := by omega
            obtain ⟨b, off, rfl, hc, h1, h2, h3⟩ := hf k (by omega)
            obtain ⟨⟨ax, nx, cx⟩, hL⟩ : ∃ L, f k = L := ⟨_, rfl⟩
            rw [hL] at hc h1 h2 h3
            have hp := ths_take (f := f) hlt
            rw [hL] at hp
            rw [hp] at hR
            simp only [Ls.v] at hc h1 h2 h3
            have HL : Hid _ := hL
            clear hL hp
            go_wp2_with fail
            refine (thg_takes Q (k : Int) ax nx cx hR).mono ?_
            rintro e w2 ⟨rfl, hR2, f2⟩
            replace hA := hA.keep f2 (fun b hb e => e.2 (.inr hb))
            clear hR f2
            have k3 : Fr (fun _ => False) w2 (w2.alloc (.cells #[.int .i64 (k : Int), .slice ax nx cx] 49)) := (Fr.refl _ _).alloc _
            have x0 : (w2.alloc (.cells #[.int .i64 (k : Int), .slice ax nx cx] 49)).cell? ⟨w2.heap.size, 0, none⟩ = some (.int .i64 (k : Int)) := by simp [go_sem]
            have x1 : (w2.alloc (.cells #[.int .i64 (k : Int), .slice ax nx cx] 49)).cell? ⟨w2.heap.size, 1, none⟩ = some (.slice ax nx cx) := by simp [go_sem]
            have hR3 := hR2.same Q k3
            replace hA := hA.keep k3 (fun _ _ e => e)
            have hcw := hR3.fr.cell hc (fun e => e)
            clear hR2 k3
            obtain ⟨b2, o2, rfl, -, hca⟩ := hA k hlt
            go_upto_region 16 with fail
            generalize w2.alloc (.cells #[.int .i64 (k : Int), .slice ax nx cx] 49) = W3 at *
            generalize w2.heap.size = gx at *
            have hst : ∀ q, TzR RT w g len f (some ⟨b2, o2, none⟩) (.int .i64 ((k : Int) + 1)) (.pointer (some ⟨gx, 0, none⟩)) (.bool true) (W3.drewN q) := fun q => ⟨k + 1, by omega, by go_num, hR3.same Q ((Fr.refl _ W3).drewN q), hA.keep ((Fr.refl (fun _ => False) W3).drewN q) (fun _ _ e => e)⟩
            by_cases hn0 : nx = 0
            · subst hn0
              clear hR3 hA
              go_quiet (fail)
              go_wp2_with fail
              go_roundw
              case rel => exact hst _
              case measure => simp [intOf]; omega
            · obtain ⟨bx, ox, rfl⟩ := h3 (by omega)
              have hn1 : (0 : Int) < (nx : Int) := by omega
              have hn2 : 0 < nx := by omega
              clear hR3 hA
              go_quiet (fail)
              go_wp2_with fail
              go_roundw
              case rel => exact hst _
              case measure => simp [intOf]; omega
          · obtain rfl : k = len := by omega
            rw [ths_none] at hR
            go_wp2_with fail
            refine (thg_firsts Q hR).mono ?_
            rintro e w2 ⟨rfl, hR2, -⟩
            clear hR hA
            replace hR2 := hR2.same Q (W' := w2.alloc (.cells #[.int .i64 0, .slice none 0 0] 49)) ((Fr.refl _ _).alloc _)
            go_wp2_with fail
            refine (thg_len Q hR2).mono ?_
            rintro e w3 ⟨rfl, hR3, -⟩
            clear hR2
            go_wp2_with fail
            refine (works_any P _).mono ?_
            rintro e wl ⟨rfl, f1⟩
            have hF := hR3.fr.trans f1 (fun _ _ e => e)
            clear f1
            go_wp2_with fail
            go_ret
            exact ⟨rfl, hF⟩
      · obtain rfl : ni = 40 := by omega
        have h40 : (40 : Int) < (len : Int) := by omega
        clear hmin2
        go_wp2_with fail
        refine (thg_allX Q hR).mono ?_
        rintro e w1 ⟨⟨a2, cap2, rfl, hc1, hc2, hA, hR1⟩, -⟩
        unfold maxLen at hc2
        clear hR
        go_wp2_with fail
        have hst : TzR RT w g 40 f a2 (.int .i64 0) undef undef w1 := ⟨0, by omega, rfl, hR1, hA⟩
        clear hR1 hA
        go_loopw [6, 7, 8] (fun i a b wr => TzR RT w g 40 f a2 i a b wr) (fun i _ _ _ => 40 - (intOf i).toNat)
        case atStart => exact hst
        case round =>
          obtain ⟨k, hk, rfl, hR, hA⟩ := hrel
          clear hst
          by_cases hlt : k < 40
          · have hlt1 : (k : Int) < 40 := by omega
            obtain ⟨b, off, rfl, hc, h1, h2, h3⟩ := hf k (by omega)
            obtain ⟨⟨ax, nx, cx⟩, hL⟩ : ∃ L, f k = L := ⟨_, rfl⟩
            rw [hL] at hc h1 h2 h3
            have hp := ths_take (f := f) hlt
            rw [hL] at hp
            rw [hp] at hR
            simp only [Ls.v] at hc h1 h2 h3
            have HL : Hid _ := hL
            clear hL hp
            go_wp2_with fail
            refine (thg_takes Q (k : Int) ax nx cx hR).mono ?_
            rintro e w2 ⟨rfl, hR2, f2⟩
            replace hA := hA.keep f2 (fun b hb e => e.2 (.inr hb))
            clear hR f2
            have k3 : Fr (fun _ => False) w2 (w2.alloc (.cells #[.int .i64 (k : Int), .slice ax nx cx] 49)) := (Fr.refl _ _).alloc _
            have x0 : (w2.alloc (.cells #[.int .i64 (k : Int), .slice ax nx cx] 49)).cell? ⟨w2.heap.size, 0, none⟩ = some (.int .i64 (k : Int)) := by simp [go_sem]
            have x1 : (w2.alloc (.cells #[.int .i64 (k : Int), .slice ax nx cx] 49)).cell? ⟨w2.heap.size, 1, none⟩ = some (.slice ax nx cx) := by simp [go_sem]
            have hR3 := hR2.same Q k3
            replace hA := hA.keep k3 (fun _ _ e => e)
            have hcw := hR3.fr.cell hc (fun e => e)
            clear hR2 k3
            obtain ⟨b2, o2, rfl, -, hca⟩ := hA k hlt
            go_upto_region 16 with fail
            generalize w2.alloc (.cells #[.int .i64 (k : Int), .slice ax nx cx] 49) = W3 at *
            generalize w2.heap.size = gx at *
            have hst : ∀ q, TzR RT w g 40 f (some ⟨b2, o2, none⟩) (.int .i64 ((k : Int) + 1)) (.pointer (some ⟨gx, 0, none⟩)) (.bool true) (W3.drewN q) := fun q => ⟨k + 1, by omega, by go_num, hR3.same Q ((Fr.refl _ W3).drewN q), hA.keep ((Fr.refl (fun _ => False) W3).drewN q) (fun _ _ e => e)⟩
            by_cases hn0 : nx = 0
            · subst hn0
              clear hR3 hA
              go_quiet (fail)
              go_wp2_with fail
              go_roundw
              case rel => exact hst _
              case measure => simp [intOf]; omega
            · obtain ⟨bx, ox, rfl⟩ := h3 (by omega)
              have hn1 : (0 : Int) < (nx : Int) := by omega
              have hn2 : 0 < nx := by omega
              clear hR3 hA
              go_quiet (fail)
              go_wp2_with fail
              go_roundw
              case rel => exact hst _
              case measure => simp [intOf]; omega
          · obtain rfl : k = 40 := by omega
            rw [ths_none] at hR
            go_wp2_with fail
            refine (thg_firsts Q hR).mono ?_
            rintro e w2 ⟨rfl, hR2, -⟩
            clear hR hA
            replace hR2 := hR2.same Q (W' := w2.alloc (.cells #[.int .i64 0, .slice none 0 0] 49)) ((Fr.refl _ _).alloc _)
            go_wp2_with fail
            refine (thg_len Q hR2).mono ?_
            rintro e w3 ⟨rfl, hR3, -⟩
            clear hR2
            go_wp2_with fail
            refine (works_any P _).mono ?_
            rintro e wl ⟨rfl, f1⟩
            have hF := hR3.fr.trans f1 (fun _ _ e => e)
            clear f1
            go_wp2_with fail
            go_ret
            exact ⟨rfl, hF⟩
end Go.Proofs.Ytdphjomdnohbpaa
