/- What the laws of layer 10 call: one of kinds, bytes with noughts behind them. -/
import Derived.Test.YtfnllhlamlblfaaDoorLh
namespace Go.Proofs.YtfnllhlamlblfaaDoor
open Go.RowKit Go.PlainAid Go.Shelf

theorem BRow.take {w : World} {b : Nat} {l : List Nat} (h : BRow w b l) (k : Nat) : BRow w b (l.take k) := by
  refine ⟨fun j hj => ?_, fun j hj => h.fz j (by rw [List.length_take] at hj; omega), fun x hx => h.lt x (List.mem_of_mem_take hx), h.blt⟩
  rw [List.length_take] at hj
  rw [List.getElem_take]
  exact h.cell j (by omega)
/-- Six bytes, as a text. -/
def txtN (l : List Nat) : ByteArray := ⟨(l.map fun n => UInt8.ofNat n).toArray⟩
theorem byN_txt (l : List Nat) (h : ∀ x ∈ l, x < 256) : byN (txtN l) = l := by
  simp only [byN, txtN, List.map_map]
  conv => rhs; rw [← List.map_id l]
  apply List.map_congr_left
  intro x hx
  simp [Nat.mod_eq_of_lt (h x hx)]
theorem BRow.txt {w : World} {b : Nat} {l : List Nat} (h : BRow w b l) (n cap : Nat) (hn : l.length = n) : (convert 45 9 (.slice (some ⟨b, 0, none⟩) n cap)).run Tryd.prog w = .ok (.string (txtN l)) w := by
  obtain ⟨t, h1, h2⟩ := h.conv n cap hn
  obtain rfl : t = txtN l := byN_eq (h1.trans (byN_txt l h.lt).symm)
  exact h2
def labOf (k : Nat) (b : List Nat) : Lb := if k % 3 = 0 then ⟨0, txtN b⟩ else if k % 3 = 1 then ⟨1, txtN (b.take 3)⟩ else ⟨2, noB⟩
abbrev arr6 (a b c d e f : Nat) : Array Value := #[.int .u8 (a : Int), .int .u8 (b : Int), .int .u8 (c : Int), .int .u8 (d : Int), .int .u8 (e : Int), .int .u8 (f : Int)]
theorem six_row (a b c d e f : Nat) (h : ∀ x ∈ [a, b, c, d, e, f], x < 256) (w : World) (t : TypeId) : BRow (w.alloc (.cells (arr6 a b c d e f) t)) w.heap.size [a, b, c, d, e, f] := by
  refine ⟨fun j hj => ?_, fun j hj => ?_, h, by simp⟩
  · have : j = 0 ∨ j = 1 ∨ j = 2 ∨ j = 3 ∨ j = 4 ∨ j = 5 := by simp at hj; omega
    rcases this with rfl | rfl | rfl | rfl | rfl | rfl <;> simp [go_sem]
  · simp [go_sem]
set_option maxHeartbeats 4000000 in
theorem label_any (k a b c d e f : Nat) (hk : k < 256) (h : ∀ x ∈ [a, b, c, d, e, f], x < 256) (w : World) : Calls Tryd.prog 17 #[.int .u8 k, .agg (arr6 a b c d e f)] w fun e' w' => e' = .returned (labOf k [a, b, c, d, e, f]).v ∧ Fr (fun _ => False) w w' := by
  have hr := six_row a b c d e f h w 39
  have hF : Fr (fun _ => False) w (w.alloc (.cells (arr6 a b c d e f) 39)) := (Fr.refl _ w).alloc _
  have h3 := k.mod_lt (show 0 < 3 by decide)
  have hE : labOf k [a, b, c, d, e, f] = if k % 3 = 0 then ⟨0, txtN [a, b, c, d, e, f]⟩ else if k % 3 = 1 then ⟨1, txtN ([a, b, c, d, e, f].take 3)⟩ else ⟨2, noB⟩ := rfl
  generalize labOf k [a, b, c, d, e, f] = L at *
  obtain ⟨m, hm⟩ : ∃ m, k % 3 = m := ⟨_, rfl⟩
  have hm2 : (k : Int) % 3 = (m : Int) := by omega
  rw [hm] at hE h3
  have hc : m = 0 ∨ m = 1 ∨ m = 2 := by omega
  clear hm
  rcases hc with rfl | rfl | rfl
  · rw [if_pos rfl] at hE
    subst hE
    have ht : BRow ((w.alloc (.cells (arr6 a b c d e f) 39)).alloc (.cells #[.int .i64 0, .string noB] 23)) w.heap.size [a, b, c, d, e, f] := hr.keep ((Fr.refl (fun _ => False) _).alloc _) (fun e => e)
    have ht := ht.txt 6 6 rfl
    go_enter Tryd.func17, Tryd.ntmps17
    go_wp2_with fail
    refine bodyPost_ret (ret_lab (g := w.heap.size + 1) (l := ⟨0, txtN [a, b, c, d, e, f]⟩) rfl rfl (by simp [go_sem]) (by simp [go_sem])) rfl ⟨rfl, hF.alloc _⟩
  · rw [if_neg (by decide), if_pos rfl] at hE
    subst hE
    have ht : BRow ((w.alloc (.cells (arr6 a b c d e f) 39)).alloc (.cells #[.int .i64 0, .string noB] 23)) w.heap.size [a, b, c, d, e, f] := hr.keep ((Fr.refl (fun _ => False) _).alloc _) (fun e => e)
    have ht := (ht.take 3).txt 3 6 rfl
    go_enter Tryd.func17, Tryd.ntmps17
    go_wp2_with fail
    refine bodyPost_ret (ret_lab (g := w.heap.size + 1) (l := ⟨1, txtN ([a, b, c, d, e, f].take 3)⟩) rfl rfl (by simp [go_sem]) (by simp [go_sem])) rfl ⟨rfl, hF.alloc _⟩
  · rw [if_neg (by decide), if_neg (by decide)] at hE
    subst hE
    go_enter Tryd.func17, Tryd.ntmps17
    go_wp2_with fail
    refine bodyPost_ret (ret_lab (g := w.heap.size + 1) (l := ⟨2, noB⟩) rfl rfl (by simp [go_sem]) (by simp [go_sem])) rfl ⟨rfl, hF.alloc _⟩
theorem info5 : (Tryd.prog.info? 5).map (fun i => (i.zero, i.size, i.bytes)) = some (some (.int .u8 0), 1, 1) := by kernel_rfl
/-- Bytes, and noughts behind them. -/
def textOf (s : ByteArray) (n : Nat) : ByteArray := s.extract 0 (min s.size 70000) ++ txtN (List.replicate (n % 70000) 0)
theorem textOf_size (s : ByteArray) (n : Nat) : (textOf s n).size ≤ 140000 := by
  have h : (txtN (List.replicate (n % 70000) 0)).size = n % 70000 := by
    rw [← byN_len, byN_txt _ (fun x hx => by rw [List.eq_of_mem_replicate hx]; decide), List.length_replicate]
  have := Nat.mod_lt n (show 0 < 70000 by decide)
  rw [textOf, ByteArray.size_append, h, ByteArray.size_extract]
  omega
set_option maxHeartbeats 2000000 in
theorem text_any (s : ByteArray) (n : Nat) (hn : n < 4294967296) (w : World) : Calls Tryd.prog 9 #[.agg #[.string s, .int .u32 n]] w fun e w' => e = .returned (.string (textOf s n)) ∧ Fr (fun _ => False) w w' := by
  have hz := textOf_size s n
  obtain ⟨z, hzz⟩ : ∃ z, n % 70000 = z := ⟨_, rfl⟩
  have hz2 : (n : Int) % 70000 = (z : Int) := by omega
  have hz3 := Nat.mod_lt n (show 0 < 70000 by decide)
  obtain ⟨m, hm⟩ : ∃ m, min s.size 70000 = m := ⟨_, rfl⟩
  have m1 : min (s.size : Int) 70000 = (m : Int) := by omega
  have m2 : (m : Int) ≤ (s.size : Int) := by omega
  have m3 : (if (70000 : Int) < (s.size : Int) then (70000 : Int) else (s.size : Int)) = (m : Int) := by split <;> omega
  rw [hzz] at hz3
  rw [textOf, hzz, hm] at hz ⊢
  obtain ⟨Y, hY⟩ : ∃ Y, s.extract 0 m = Y := ⟨_, rfl⟩
  rw [hY] at hz ⊢
  have hF0 : Fr (fun _ => False) w (w.alloc (.cells #[.string s, .int .u32 n] 26)) := (Fr.refl _ w).alloc _
  have hR0 := made_row z (w.alloc (.cells #[.string s, .int .u32 n] 26)) 5
  have hconv := hR0.txt z z (by simp)
  have hsum : Y.size + (txtN (List.replicate z 0)).size ≤ 9223372036854775807 := by rw [ByteArray.size_append] at hz; omega
  have hmk := run_make_row' (P := Tryd.prog) 45 5 (.int .u8 0) 1 Tryd.underlying45 info5 rfl .i64 .i64 z (by omega) (by omega)
  have hs1 : (w.alloc (.cells #[.string s, .int .u32 n] 26)).heap.size = w.heap.size + 1 := by simp
  rw [hs1] at hconv
  generalize txtN (List.replicate z 0) = Z at *
  clear hz hR0 hm hzz
  go_enter Tryd.func9, Tryd.ntmps9
  go_wp2_with fail
  go_ret
  exact ⟨rfl, hF0.alloc _⟩
end Go.Proofs.YtfnllhlamlblfaaDoor
