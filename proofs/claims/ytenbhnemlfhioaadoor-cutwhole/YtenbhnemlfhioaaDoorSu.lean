/- Walks over the sum of package crc32. -/
import Derived.Test.YtenbhnemlfhioaaDoorMk
namespace Go.Proofs.YtenbhnemlfhioaaDoor
open Go.RowKit Go.PlainAid Go.Shelf

/-! ### A struct whose last field is an array, built -/
theorem fold_at (l : List Value) : ∀ (o k : Nat) (cs : Array Value), o + k + l.length ≤ cs.size →
    ((l.zipIdx k).foldl (fun (cs : Array Value) (x : Value × Nat) => cs.setIfInBounds (o + x.2) x.1) cs).size = cs.size ∧
    ∀ i, ((l.zipIdx k).foldl (fun (cs : Array Value) (x : Value × Nat) => cs.setIfInBounds (o + x.2) x.1) cs)[i]? = if o + k ≤ i ∧ i < o + k + l.length then l[i - (o + k)]? else cs[i]? := by
  induction l with
  | nil => intro o k cs _; exact ⟨rfl, fun i => by rw [if_neg (by simp)]; rfl⟩
  | cons v l ih =>
    intro o k cs h
    simp only [List.length_cons] at h
    rw [List.zipIdx_cons, List.foldl_cons]
    obtain ⟨h1, h2⟩ := ih o (k + 1) (cs.setIfInBounds (o + k) v) (by simp; omega)
    refine ⟨by rw [h1]; simp, fun i => ?_⟩
    rw [h2 i, Array.getElem?_setIfInBounds]
    simp only [List.length_cons]
    by_cases e : o + k = i
    · subst e
      rw [if_neg (by omega), if_pos rfl, if_pos (by omega), if_pos (by omega)]
      simp
    · rw [if_neg e]
      by_cases h3 : o + (k + 1) ≤ i ∧ i < o + (k + 1) + l.length
      · rw [if_pos h3, if_pos (by omega), show i - (o + k) = i - (o + (k + 1)) + 1 by omega, List.getElem?_cons_succ]
      · rw [if_neg h3, if_neg (by omega)]
theorem fold_row (v : Value) (A cs : Array Value) (h : cs.size = A.size + 1) : (A.zipIdx.foldl (fun (cs : Array Value) (x : Value × Nat) => cs.setIfInBounds (1 + x.2) x.1) (cs.setIfInBounds 0 v)) = (v :: A.toList).toArray := by
  obtain ⟨h1, h2⟩ := fold_at A.toList 1 0 (cs.setIfInBounds 0 v) (by simp; omega)
  rw [← Array.foldl_toList, Array.toList_zipIdx]
  apply Array.ext_getElem?
  intro i
  rw [h2 i]
  cases i with
  | zero => rw [if_neg (by omega), Array.getElem?_setIfInBounds, if_pos rfl, if_pos (by omega)]; simp
  | succ i =>
    by_cases hi : i < A.size
    · rw [if_pos (by simp; omega)]; simp
    · rw [if_neg (by simp; omega), Array.getElem?_eq_none (by simp; omega), Array.getElem?_eq_none (by simp; omega)]
theorem info36 : (Tryd.prog.info? 94).map (fun i => (i.zero, i.size)) = some (some (.agg (Array.replicate 257 (.int .u32 0))), 257) := by kernel_rfl
theorem places36 : (match Tryd.prog.underlying 94 with | some (.struct fs) => fs.toList.mapM (fun f => (Tryd.prog.info? f.type).map fun i => (f.offset, i.size)) | _ => none) = some [(0, 1), (1, 256)] := by kernel_rfl
theorem built36 (x : Value) (A : Array Value) (hA : A.size = 256) : Tryd.prog.built 94 [(0, .agg #[x]), (1, .agg A)] = some (x :: A.toList).toArray := by
  have hi := info36
  cases hq : Tryd.prog.info? 94 with
  | none => rw [hq] at hi; cases hi
  | some it =>
    rw [hq] at hi
    simp only [Option.map_some, Option.some.injEq, Prod.mk.injEq] at hi
    obtain ⟨fs, hfs⟩ : ∃ fs, Tryd.prog.underlying 94 = some (.struct fs) := ⟨_, Tryd.underlying94⟩
    have hp := places36
    rw [hfs] at hp
    simp only at hp
    unfold Program.built
    simp only [hq, hfs, hi.1, hp]
    simp [Instr.fill, Value.cells, hA]
    have := fold_row x A (Array.replicate 257 (.int .u32 0)) (by simp; omega)
    rw [← this]
    simp [hA]

theorem alloc36 (w : World) (t : TypeId) : URow (w.alloc (.cells (Array.replicate 257 (.int .u32 0)) t)) w.heap.size (List.replicate 257 0) := by
  rw [← valsU_zeros]
  exact alloc_urow w _ t
theorem valsU_cons (x : Nat) (l : List Nat) : valsU (x :: l) = .int .u32 (x : Int) :: valsU l := rfl
theorem summer_of {w : World} {g x : Nat} (h : URow w g (x :: tab 256)) (hx : x < 4294967296) : Summer w g x := by
  refine ⟨⟨h.cell 0 (by simp), h.fz 0 (by simp)⟩, fun j hj => ?_, hx⟩
  have := h.cell (1 + j) (by rw [List.length_cons, length_tab]; omega)
  rw [this]
  have e : (x :: tab 256)[1 + j]'(by rw [List.length_cons, length_tab]; omega) = crR j := by
    have : (x :: tab 256)[j + 1]'(by rw [List.length_cons, length_tab]; omega) = crR j := by
      rw [List.getElem_cons_succ, tab_at, if_pos hj]
    simpa only [Nat.add_comm] using this
  rw [e]
theorem bt_nat (s : ByteArray) (j : Nat) (h : j < s.size) : ∃ h' : j < (byN s).length, ∃ b : Nat, b = (byN s)[j] ∧ b < 256 ∧ bt s j = (b : Int) := by
  obtain ⟨h', e⟩ := bt_byN s j h
  exact ⟨h', _, rfl, byN_lt s _ (List.getElem_mem h'), e⟩

theorem wpList_built {P : Program} {ops : Array Oper} {rest : List Oper} {o : Oper} {a : Act} {w : World} {Q : Exit → Act → World → Prop} (hg : o.guard = none) (t : TypeId) (parts : Array (Nat × Operand)) (ho : o.op = .build t parts)
    (vs : List (Nat × Value)) (hv : (parts.map fun (i, x) => (i, a.eval x)).toList = vs) (cells : Array Value) (hb : P.built t vs = some cells) (h : wpList P ops Q rest (a.put o.dst (.agg cells)) w) : wpList P ops Q (o :: rest) a w := by
  subst hv
  exact wpList_build hg t parts ho (by rw [hb]; rfl) (by rw [hb]; exact h)

set_option maxRecDepth 100000 in
set_option maxHeartbeats 1000000 in
theorem sum_any (s : ByteArray) (w : World) (hs : s.size ≤ 9223372036854775807) : Calls Tryd.prog 48 #[.string s] w fun e w' => e = .returned (.int .u32 (crS (byN s))) ∧ Fr (fun _ => False) w w' := by
  have hb := get_bt s
  go_enter Tryd.func48, Tryd.ntmps48
  go_wp2_with fail
  rename_i Q' K1 hK1 K hK
  refine (makeRests_any w).mono ?_
  rintro e w1 ⟨rfl, h1⟩
  refine hK _ _ ?_
  clear hK
  obtain ⟨A, hA⟩ : ∃ A, A = (valsU (tab 256)).toArray := ⟨_, rfl⟩
  have hAz : A.size = 256 := by rw [hA]; simp
  have hbu := built36 (.int .u32 4294967295) A hAz
  rw [← hA]
  refine wpList_built rfl 94 _ rfl [(0, .agg #[.int .u32 4294967295]), (1, .agg A)] (by simp [Act.eval]) _ hbu ?_
  rw [show (Value.int .u32 4294967295 :: A.toList) = valsU (4294967295 :: tab 256) by rw [valsU_cons, hA]; rfl]
  clear hbu hAz hA
  obtain ⟨B, hB⟩ : ∃ B, B = (valsU (4294967295 :: tab 256)).toArray := ⟨_, rfl⟩
  have hBz : B.size = 257 := by rw [hB]; simp
  have hBl : B.toList = valsU (4294967295 :: tab 256) := by rw [hB]
  rw [← hB]
  have hB1 : B.all (·.oneCell') = true := by rw [hB]; exact one_valsU _
  clear hB
  have hz := zero36.1
  generalize hZ : Array.replicate 257 (Value.int .u32 0) = Z at hz
  have hU : URow (w1.alloc (.cells Z 94)) w1.heap.size (List.replicate 257 0) := by rw [← hZ]; exact alloc36 w1 94
  have hF0 : Fr (fun _ => False) w (w1.alloc (.cells Z 94)) := h1.alloc _
  have hsc := store_row hU (m := 4294967295 :: tab 256) (by rw [List.length_cons, length_tab, List.length_replicate])
  have hU' : URow ((w1.alloc (.cells Z 94)).setCells w1.heap.size 0 (valsU (4294967295 :: tab 256))) w1.heap.size (4294967295 :: tab 256) := hU.stored (by rw [List.length_cons, length_tab, List.length_replicate])
  have hF1 : Fr (fun _ => False) w ((w1.alloc (.cells Z 94)).setCells w1.heap.size 0 (valsU (4294967295 :: tab 256))) := Fr.setCells _ _ 0 hF0 (.inr h1.size)
  have hth0 := hU.there 257 (by rw [List.length_replicate])
  clear hU hF0 hZ hsc
  have hgw := h1.size
  have hth : (w1.alloc (.cells Z 94)).there w1.heap.size 0 B.size := by rw [hBz]; exact hth0
  have hBs : (Tryd.prog.info? 94).map (·.size) = some B.size := by rw [hBz]; exact zero36.2
  rw [← hBl] at hU' hF1
  clear hBl hBz
  go_wp2_with (first
    | (refine wpList_store_mid rfl 94 _ _ rfl w1.heap.size 0 B rfl rfl hth hBs hB1 ?_)
    | fail)
  have hS0 := summer_of hU' (by decide)
  clear hU' hth hBs hz hB1 hth0
  generalize (w1.alloc (.cells Z 94)).setCells w1.heap.size 0 B.toList = w2 at *
  generalize w1.heap.size = g at *
  clear h1
  go_loopw [10] (fun i wr => ∃ j : Nat, i = .int .i64 j ∧ j ≤ s.size ∧ Summer wr g (crS ((byN s).take j)) ∧ Fr (fun _ => False) w wr) (fun i _ => s.size - (intOf i).toNat)
  case atStart => exact ⟨0, rfl, Nat.zero_le _, by simpa [crS, crF] using hS0, hF1⟩
  case round =>
    obtain ⟨j, rfl, hj, hS, hF⟩ := hrel
    by_cases hlt : j < s.size
    · obtain ⟨hj', b, hb', hb8, hbt⟩ := bt_nat s j hlt
      have hnext := crS_take (byN s) j hj'
      rw [← hb'] at hnext
      have i1 : (j : Int) < s.size := by omega
      generalize crS ((byN s).take j) = x at *
      clear hb'
      go_wp2_with fail
      refine (take_any g x b wr hS hb8).mono ?_
      rintro e w3 ⟨rfl, hS3, hF3⟩
      rw [← hnext] at hS3
      go_wp2
      go_roundw
      case rel => exact ⟨j + 1, by go_num, hlt, hS3, hF.trans (hF3.mono (T := fun k => w.heap.size ≤ k) (fun i _ e => by omega)) (fun i hi e => by omega)⟩
      case measure => simp [intOf]; omega
    · obtain rfl : j = s.size := by omega
      rw [List.take_of_length_le (by simp)] at hS
      have hc := hS.reg.c
      go_wp2
      go_ret
      exact ⟨rfl, hF⟩
end Go.Proofs.YtenbhnemlfhioaaDoor
