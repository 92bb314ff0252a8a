/- Package bbf: a text is copied into a row of bytes; what lies behind it. -/
import Derived.Test.YtepglkimkchpiaaRp
import Derived.Lib.LazyBuf
import Derived.Laws.IdiomCopy
namespace Go.Proofs.Ytepglkimkchpiaa
open Go.RowKit Go.PlainAid Go.Lib

abbrev valsB (t : ByteArray) : List Value := t.data.toList.map fun x => Value.int .u8 (x.toNat : Int)
theorem len_valsB (t : ByteArray) : (valsB t).length = t.size := by simp [valsB]
theorem at_valsB (t : ByteArray) (j : Nat) (h : j < (valsB t).length) (h' : j < (byN t).length) : (valsB t)[j] = .int .u8 ((byN t)[j] : Int) := by
  simp [valsB, byN]
/-- A row of bytes, a text laid into it from o on. -/
theorem BRow.copy {w : World} {b : Nat} {l : List Nat} (h : BRow w b l) (o : Nat) (t : ByteArray) (ht : o + t.size ≤ l.length) :
    BRow (w.setCells b o (valsB t)) b (l.take o ++ byN t ++ l.drop (o + t.size)) := by
  have hm : min o l.length = o := by omega
  have hb : (byN t).length = t.size := byN_len t
  have hl : (l.take o ++ byN t ++ l.drop (o + t.size)).length = l.length := by simp [hb]; omega
  refine ⟨fun j hj => ?_, fun j hj => ?_, fun x hx => ?_, ?_⟩
  · rw [hl] at hj
    by_cases h1 : j < o
    · rw [World.cell?_setCells_out b _ o w ⟨b, j, none⟩ (fun _ _ => .inl h1), h.cell j hj]
      simp [hm, h1]
    · by_cases h2 : j < o + t.size
      · obtain ⟨k, rfl⟩ : ∃ k, j = o + k := ⟨j - o, by omega⟩
        have hk : k < (valsB t).length := by rw [len_valsB]; omega
        rw [World.cell?_setCells_in b _ o w (fun i hi => by
          rw [len_valsB] at hi
          rw [h.cell (o + i) (by omega)]
          rfl) k hk, at_valsB t k hk (by rw [hb]; omega)]
        have hkt : k < t.size := by omega
        simp [hm, hb, hkt]
      · rw [World.cell?_setCells_out b _ o w ⟨b, j, none⟩ (fun _ _ => .inr (by rw [len_valsB]; show o + t.size ≤ j; omega)), h.cell j hj]
        have hA : (l.take o ++ byN t).length = o + t.size := by rw [List.length_append, List.length_take, hm, hb]
        have e : ∀ (L : List Nat) (hL : L.length = o + t.size) (hq : j < (L ++ l.drop (o + t.size)).length), (L ++ l.drop (o + t.size))[j] = l[j] := fun L hL hq => by
          rw [List.getElem_append_right (by omega), List.getElem_drop]
          congr 1
          omega
        rw [e _ hA]
  · rw [hl] at hj
    rw [World.frozen?_setCells]
    exact h.fz j hj
  · simp only [List.mem_append] at hx
    rcases hx with (hx | hx) | hx
    · exact h.lt x (List.mem_of_mem_take hx)
    · exact byN_lt t x hx
    · exact h.lt x (List.mem_of_mem_drop hx)
  · exact Nat.lt_of_lt_of_le h.blt ((Fr.setCells b (valsB t) o (S := fun _ => True) (Fr.refl _ w) (.inl trivial)).size)
theorem sz5 (w : World) : (Go.sizeOf 5).run Try.prog w = .ok 1 w := Try.sizeOf5 w
theorem BRow.run_copy {w : World} {b : Nat} {l : List Nat} (h : BRow w b l) (o n c : Nat) (ty : TypeId) (t : ByteArray) (hn : t.size ≤ n) (ht : o + t.size ≤ l.length) :
    (Builtin.copy_ #[30, 9] ty #[.slice (some ⟨b, o, none⟩) n c, .string t]).run Try.prog w = .ok (.int .i64 (t.size : Int)) (w.setCells b o (valsB t)) :=
  run_copy_string w 30 9 ty 5 b o n c t Try.underlying30 sz5 hn (fun j hj => by rw [h.cell (o + j) (by omega)]; rfl) (fun j hj => h.fz (o + j) (by omega))

set_option maxHeartbeats 1000000 in
theorem lay_any (z : Nat) (H f : ByteArray) (w : World) (hz : H.size + f.size + z ≤ 100000) (hp : 0 < f.size + z) :
    Calls Try.prog 19 #[.int .i64 ((H.size : Int) + f.size + z), .string H, .string f] w fun e w' => e = .returned (.string (H ++ f ++ zer z)) ∧ Fr (fun _ => False) w w' := by
  obtain ⟨n, hn⟩ : ∃ n, H.size + f.size + z = n := ⟨_, rfl⟩
  have hni : (H.size : Int) + f.size + z = n := by omega
  rw [hni]
  have hne : ¬ n = H.size := by omega
  have hmk := run_make_row' (P := Try.prog) 30 5 (.int .u8 0) 1 Try.underlying30 tinfo5 rfl .i64 .i64 n (by omega) (by omega)
  have hR := made_row n w 5
  have hF : Fr (fun _ => False) w (w.alloc (.cells (madeCells #[.int .u8 0] n) 5)) := (Fr.refl _ _).alloc _
  have hc1 := fun ty => hR.run_copy 0 n n ty H (by omega) (by rw [List.length_replicate]; omega)
  have hR1 := hR.copy 0 H (by rw [List.length_replicate]; omega)
  have hF1 := Fr.setCells w.heap.size (valsB H) 0 hF (.inr (Nat.le_refl _))
  generalize (w.alloc (.cells (madeCells #[.int .u8 0] n) 5)).setCells w.heap.size 0 (valsB H) = w1 at *
  have hl1 : (List.take 0 (List.replicate n 0) ++ byN H ++ List.drop (0 + H.size) (List.replicate n 0)).length = n := by simp; omega
  have hc2 := fun ty => hR1.run_copy H.size (n - H.size) (n - H.size) ty f (by omega) (by rw [hl1]; omega)
  have hR2 := hR1.copy H.size f (by rw [hl1]; omega)
  have hF2 := Fr.setCells w.heap.size (valsB f) H.size hF1 (.inr (Nat.le_refl _))
  generalize w1.setCells w.heap.size H.size (valsB f) = w2 at *
  have hL : List.take H.size (List.take 0 (List.replicate n 0) ++ byN H ++ List.drop (0 + H.size) (List.replicate n 0)) ++ byN f ++ List.drop (H.size + f.size) (List.take 0 (List.replicate n 0) ++ byN H ++ List.drop (0 + H.size) (List.replicate n 0)) = byN H ++ byN f ++ List.replicate z 0 := by
    subst hn
    rw [List.take_zero, List.nil_append, Nat.zero_add, List.drop_replicate, List.take_append_of_le_length (by rw [byN_len]; exact Nat.le_refl _), List.take_of_length_le (by rw [byN_len]; exact Nat.le_refl _), List.drop_append, byN_len, List.drop_eq_nil_of_le (by rw [byN_len]; omega), List.nil_append, List.drop_replicate]
    congr 2
    omega
  rw [hL] at hR2
  obtain ⟨tt, ht1, ht2⟩ := hR2.conv n n (by simp; omega)
  have ht : tt = H ++ f ++ zer z := byN_eq (by rw [ht1, byN_app, byN_app, byN_zer])
  rw [← ht]
  clear ht ht1 hR hR1 hR2 hL hl1 hF hF1
  go_enter Try.func19, Try.ntmps19
  go_wp2_with fail
  go_ret
  exact ⟨rfl, hF2⟩
end Go.Proofs.Ytepglkimkchpiaa
