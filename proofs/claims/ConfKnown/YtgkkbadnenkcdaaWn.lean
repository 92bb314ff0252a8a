/- Walks over package conf: the labels. -/
import Derived.Test.YtgkkbadnenkcdaaCn
namespace Go.Proofs.Ytgkkbadnenkcdaa
open Go.RowKit Go.PlainAid Go.Shelf Go.Sort Go.Lib

def labV (l : Lb) : Value := .agg #[.int .i64 l.kind, .string l.bytes]
theorem bytes_inj {s t : ByteArray} : s.toList = t.toList ↔ s = t := by
  rw [ByteArray.toList_eq, ByteArray.toList_eq]
  obtain ⟨⟨x⟩⟩ := s
  obtain ⟨⟨y⟩⟩ := t
  show x = y ↔ _
  constructor
  · rintro rfl; rfl
  · intro h; cases h; rfl
theorem eq_lab (l m : Lb) (w : World) : (Op.equal 27 (labV l) (labV m)).run Try.prog w = .ok (decide (l = m)) w := by
  obtain ⟨k, s⟩ := l
  obtain ⟨k', s'⟩ := m
  by_cases h1 : k = k' <;> by_cases h2 : s = s' <;> simp [Op.equal, Op.maxDepth, labV, go_sem, h1, h2, bytes_inj]

theorem check_lab' (l : Lb) (em : Bool) (n : Nat) (w : World) : (Instr.checkKey em (n + 1 + 1) 27 (labV l)).run Try.prog w = .ok () w := by
  simp [Instr.checkKey, labV, go_sem]
theorem check_lab (l : Lb) (em : Bool) (w : World) : (Instr.checkKey em 10000 27 (labV l)).run Try.prog w = .ok () w := check_lab' l em 9998 w

/-- A map's entries: the labels that are there, once each. -/
def entsL (o : Nat) (ls : List Lb) : List MapEntry := (ls.zipIdx o).map fun p => ({ key := labV p.1, val := .int .i64 1, born := p.2 } : MapEntry)
theorem find_lab (l : Lb) (w : World) : ∀ (ls : List Lb) (o i : Nat), (Instr.findAsking 27 (labV l) (entsL o ls) i).run Try.prog w =
    .ok (if l ∈ ls then some (i + ls.idxOf l, .int .i64 1) else none) w
  | [], o, i => by simp [Instr.findAsking, entsL]
  | m :: ls, o, i => by
    have ih := find_lab l w ls (o + 1) (i + 1)
    by_cases h : l = m
    · subst h
      simp [Instr.findAsking, eq_lab, entsL]
    · have h' : (m == l) = false := by simpa using fun e => h e.symm
      simp only [entsL] at ih
      simp [Instr.findAsking, eq_lab, h, ih, List.idxOf_cons, h', entsL, Nat.add_assoc, Nat.add_comm 1]
theorem findKey_lab (l : Lb) (w : World) (o : Nat) (ls : List Lb) : (Instr.findKey 27 (labV l) (entsL o ls)).run Try.prog w =
    .ok (if l ∈ ls then some (ls.idxOf l, .int .i64 1) else none) w := by
  have h := find_lab l w ls o 0
  cases ls with
  | nil => simp [Instr.findKey, entsL, Instr.findNow, go_sem]
  | cons m ls =>
    rw [Nat.zero_add] at h
    simp only [entsL, List.zipIdx_cons, List.map_cons] at h ⊢
    simp [Instr.findKey, Instr.findNow, Instr.sameNow, go_sem, h]

/-- Block b is a map of these labels, each told once. -/
def MapL (w : World) (b : Nat) (ls : List Lb) : Prop := w.heap[b]? = some (.map (entsL 0 ls).toArray ls.length)
theorem MapL.keep {S : Nat → Prop} {w w' : World} {b : Nat} {ls : List Lb} (h : MapL w b ls) (f : Fr S w w') (hb : ¬ S b) : MapL w' b ls :=
  (f.block b (Array.getElem?_eq_some_iff.1 h).1 hb).trans h
theorem len_entsL (ls : List Lb) : (entsL 0 ls).length = ls.length := by simp [entsL]
theorem entsL_snoc (ls : List Lb) (l : Lb) : entsL 0 (ls ++ [l]) = entsL 0 ls ++ [{ key := labV l, val := .int .i64 1, born := ls.length }] := by
  simp [entsL, List.zipIdx_append]
theorem look_lab {w : World} {b : Nat} {ls : List Lb} (h : MapL w b ls) (l : Lb) : (Instr.lookup 65 (.map (some b)) (.agg #[.int .i64 l.kind, .string l.bytes]) false).run Try.prog w = .ok (.int .i64 (if l ∈ ls then 1 else 0)) w := by
  have h1 := check_lab l
  have h2 := findKey_lab l w 0 ls
  have hz : (∀ w, (zeroValue 3).run Try.prog w = .ok (.int .i64 0) w) := fun w => by simp [go_sem]
  rw [labV] at h1 h2
  by_cases hm : l ∈ ls <;> simp [Instr.lookup, go_sem, MapKept.run_getObj_map h, h1, h2, hm, hz]
/-- The world in which a label was just laid. -/
def laidW (w : World) (b : Nat) (ls : List Lb) (l : Lb) (v : Int) : World := { w with heap := w.heap.setIfInBounds b (.map ((entsL 0 ls).toArray.push { key := labV l, val := .int .i64 v, born := ls.length }) (ls.length + 1)) }
theorem at_laidW {w : World} {b : Nat} {ls : List Lb} (h : MapL w b ls) (l : Lb) (v : Int) : (laidW w b ls l v).heap[b]? = some (.map ((entsL 0 ls).toArray.push { key := labV l, val := .int .i64 v, born := ls.length }) (ls.length + 1)) := by
  have := (Array.getElem?_eq_some_iff.1 h).1
  simp [laidW, this]
theorem map_laidW {w : World} {b : Nat} {ls : List Lb} (h : MapL w b ls) (l : Lb) : MapL (laidW w b ls l 1) b (ls ++ [l]) := by
  rw [MapL, at_laidW h, entsL_snoc]
  simp
theorem fr_laidW (w : World) (b : Nat) (ls : List Lb) (l : Lb) (v : Int) : Fr (· = b) w (laidW w b ls l v) :=
  ⟨rfl, rfl, rfl, by simp [laidW], fun k _ hn => by simp [laidW, Ne.symm hn]⟩
theorem entry_lab {w : World} {b : Nat} {ls : List Lb} (h : MapL w b ls) (l : Lb) (hn : l ∉ ls) : (Instr.mapEntry 65 (.map (some b)) (.agg #[.int .i64 l.kind, .string l.bytes])).run Try.prog w = .ok (.tuple #[.int .i64 0, .int .i64 ls.length]) (laidW w b ls l 0) := by
  have h1 := check_lab l
  have h2 := findKey_lab l w 0 ls
  have hz : (∀ w, (zeroValue 3).run Try.prog w = .ok (.int .i64 0) w) := fun w => by simp [go_sem]
  rw [labV] at h1 h2
  simp [Instr.mapEntry, go_sem, MapKept.run_getObj_map h, h1, h2, hn, hz, MapKept.run_setObj_map _ h, laidW, labV, goInt]
theorem find_snoc (l : Lb) (w : World) (x : MapEntry) (hx : x.key = labV l) (hv : x.val = .int .i64 0) : ∀ (ls : List Lb) (o i : Nat), l ∉ ls → ∃ k, (Instr.findAsking 27 (labV l) (entsL o ls ++ [x]) i).run Try.prog w = .ok (some (k, .int .i64 0)) w
  | [], o, i, _ => ⟨i, by simp [Instr.findAsking, entsL, hx, eq_lab, hv]⟩
  | m :: ls, o, i, hn => by
    obtain ⟨k, ih⟩ := find_snoc l w x hx hv ls (o + 1) (i + 1) (fun h => hn (List.mem_cons_of_mem _ h))
    have h : ¬ l = m := fun e => hn (e ▸ List.mem_cons_self)
    simp only [entsL] at ih
    exact ⟨k, by simp [Instr.findAsking, eq_lab, h, ih, entsL]⟩
theorem look_laid {w : World} {b : Nat} {ls : List Lb} (h : MapL w b ls) (l : Lb) (hn : l ∉ ls) : (Instr.lookup 65 (.map (some b)) (.agg #[.int .i64 l.kind, .string l.bytes]) false).run Try.prog (laidW w b ls l 0) = .ok (.int .i64 0) (laidW w b ls l 0) := by
  have h1 := check_lab l
  obtain ⟨k, h2⟩ := find_snoc l (laidW w b ls l 0) { key := labV l, val := .int .i64 0, born := ls.length } rfl rfl ls 0 0 hn
  have h3 : (Instr.findKey 27 (labV l) (entsL 0 ls ++ [{ key := labV l, val := .int .i64 0, born := ls.length }])).run Try.prog (laidW w b ls l 0) = .ok (some (k, .int .i64 0)) (laidW w b ls l 0) := by
    cases ls with
    | nil =>
      simp only [entsL, List.zipIdx_nil, List.map_nil, List.nil_append] at h2 ⊢
      simp [Instr.findKey, Instr.findNow, Instr.sameNow, go_sem]
      exact h2
    | cons m ls =>
      simp only [entsL, List.zipIdx_cons, List.map_cons, List.cons_append] at h2 ⊢
      simp [Instr.findKey, Instr.findNow, Instr.sameNow, go_sem]
      exact h2
  rw [labV] at h1 h3
  have ha := at_laidW h l 0
  simp only [labV] at ha
  simp [Instr.lookup, go_sem, MapKept.run_getObj_map ha, h1, h3]
theorem modify_last {α : Type} (x : α) (f : α → α) : ∀ L : List α, (L ++ [x]).modify L.length f = L ++ [f x]
  | [] => rfl
  | a :: L => by simp [modify_last x f L]
theorem store_lab {w : World} {b : Nat} {ls : List Lb} (h : MapL w b ls) (l : Lb) : (Instr.entryStore 65 (.map (some b)) (.int .i64 ls.length) (.int .i64 1)).run Try.prog (laidW w b ls l 0) = .ok () (laidW w b ls l 1) := by
  have ha := at_laidW h l 0
  have hn : (entsL 0 ls).findIdx? (fun e => (e.born : Int) == (ls.length : Int)) = none := by
    simp [List.findIdx?_eq_none_iff, entsL]
    intro x p hm
    have := List.mem_zipIdx hm
    omega
  simp only [Instr.entryStore, go_sem]
  simp [hn, MapKept.run_setObj_map _ ha, MapKept.run_getObj_map ha, modify_last]
  simp [laidW]

theorem okL_take {ls : List Lb} {j : Nat} (h : j < ls.length) : okL (ls.take (j + 1)) ↔ okL (ls.take j) ∧ isNm ls[j] = true ∧ ls[j] ∉ ls.take j := by
  have e : ls.take (j + 1) = ls.take j ++ [ls[j]] := by rw [List.take_add_one, List.getElem?_eq_getElem h]; rfl
  rw [e]
  simp only [okL, List.mem_append, List.mem_singleton, List.nodup_append]
  constructor
  · rintro ⟨h1, h2, _, h4⟩
    exact ⟨⟨fun l hl => h1 l (.inl hl), h2⟩, h1 _ (.inr rfl), fun hm => h4 _ hm _ rfl rfl⟩
  · rintro ⟨⟨h1, h2⟩, h3, h4⟩
    refine ⟨fun l hl => ?_, h2, by simp, fun a ha b hb => ?_⟩
    · rcases hl with hl | rfl
      · exact h1 l hl
      · exact h3
    · rintro rfl
      exact h4 (hb ▸ ha)
theorem okL_upto {ls : List Lb} (h : okL ls) (j : Nat) : okL (ls.take j) :=
  ⟨fun l hl => h.1 l (List.mem_of_mem_take hl), h.2.sublist (List.take_sublist _ _)⟩
theorem okL_not {ls : List Lb} {j : Nat} (h : j < ls.length) (hn : ¬ (isNm ls[j] = true ∧ ls[j] ∉ ls.take j)) : decide (okL ls) = false :=
  decide_eq_false fun hk => hn ((okL_take h).1 (okL_upto hk (j + 1))).2

set_option maxHeartbeats 1000000 in
theorem isName_any (l : Lb) (w : World) : Calls Try.prog 24 #[.agg #[.int .i64 l.kind, .string l.bytes]] w fun e w' => e = .returned (.bool (isNm l)) ∧ Fr (fun _ => False) w w' := by
  have hF : Fr (fun _ => False) w (w.alloc (.cells #[.int .i64 l.kind, .string l.bytes] 27)) := (Fr.refl _ _).alloc _
  have hq : ∀ n : Nat, decide ((l.bytes.size : Int) = (n : Int)) = decide (l.bytes.size = n) := fun n => by
    by_cases e : l.bytes.size = n <;> simp [e]; omega
  unfold isNm
  by_cases h0 : l.kind = 0
  · have h6 := hq 6
    simp only [h0, decide_true, Bool.true_and, show ¬ (0 : Int) = 1 from by decide, decide_false, Bool.false_and, Bool.or_false] at hF ⊢
    rw [← h6]
    go_enter Try.func24, Try.ntmps24
    go_wp2_with fail
    go_ret
    exact ⟨by by_cases e : (l.bytes.size : Int) = 6 <;> simp [e], hF⟩
  · by_cases h1 : l.kind = 1
    · have h3 := hq 3
      simp only [h1, decide_true, Bool.true_and, show ¬ (1 : Int) = 0 from by decide, decide_false, Bool.false_and, Bool.false_or] at hF ⊢
      rw [← h3]
      go_enter Try.func24, Try.ntmps24
      go_wp2_with fail
      go_ret
      exact ⟨by by_cases e : (l.bytes.size : Int) = 3 <;> simp [e], hF⟩
    · simp only [h0, h1, decide_false, Bool.false_and, Bool.false_or]
      go_enter Try.func24, Try.ntmps24
      go_wp2_with fail
      go_ret
      exact ⟨rfl, hF⟩

set_option maxRecDepth 100000 in
set_option maxHeartbeats 4000000 in
theorem areNames_any (ls : List Lb) (a : Option Addr) (cap : Nat) (w : World) (hL : LRow w a ls) (hlen : ls.length ≤ 1000) : Calls Try.prog 14 #[.slice a ls.length cap] w fun e w' => e = .returned (.bool (decide (okL ls))) ∧ Fr (fun _ => False) w w' := by
  have hmk : ∀ n : Int, (Instr.makeMap 65 (some (.int .i64 n))).run Try.prog w = .ok (.map (some w.heap.size)) (w.alloc (.map #[] 0)) := fun n => by
    simp [Instr.makeMap, go_sem]
  obtain ⟨n, hn⟩ : ∃ n, ls.length = n := ⟨_, rfl⟩
  have HN : Hid (ls.length = n) := hn
  rw [hn] at hlen ⊢
  clear hn
  have HL : Hid (LRow w a ls) := hL
  clear hL
  obtain ⟨r, hr⟩ : ∃ r, decide (okL ls) = r := ⟨_, rfl⟩
  rw [hr]
  have HR : Hid (decide (okL ls) = r) := hr
  clear hr
  have HM : Hid (MapL (w.alloc (.map #[] 0)) w.heap.size []) := by
    show MapL _ _ _
    exact Array.getElem?_push_size
  have hF : Fr (fun _ => False) w (w.alloc (.map #[] 0)) := (Fr.refl _ _).alloc _
  go_enter Try.func14, Try.ntmps14
  go_wp2_with fail
  clear hmk
  generalize w.alloc (.map #[] 0) = w0 at *
  obtain ⟨B, hB⟩ : ∃ B, w.heap.size = B := ⟨_, rfl⟩
  rw [hB] at HM ⊢
  have HB : Hid (w.heap.size = B) := hB
  clear hB
  go_loopw [5, 11] (fun _ i wr => ∃ j : Nat, i = .int .i64 j ∧ j ≤ n ∧ Hid (okL (ls.take j)) ∧ Hid (MapL wr B (ls.take j)) ∧ Fr (fun _ => False) w wr) (fun _ i _ => n - (intOf i).toNat)
  case atStart => exact ⟨0, rfl, Nat.zero_le _, ⟨by simp, by simp⟩, HM, hF⟩
  case round =>
    clear HM hF
    obtain ⟨j, rfl, hj, HO, HM, hF⟩ := hrel
    by_cases hlt : j < n
    · have i1 : (j : Int) < n := by omega
      have i0 : (0 : Int) ≤ j := by omega
      have hjl : j < ls.length := by rw [HN.out]; exact hlt
      obtain ⟨b, rfl, d0, d1⟩ := HL.out j hjl
      have HF0 : Hid (¬ (isNm ls[j] = true ∧ ls[j] ∉ ls.take j) → r = false) := fun h => by rw [← HR.out]; exact okL_not hjl h
      have HT : Hid (okL (ls.take (j + 1)) ↔ okL (ls.take j) ∧ isNm ls[j] = true ∧ ls[j] ∉ ls.take j) := okL_take hjl
      have HS : Hid (ls.take (j + 1) = ls.take j ++ [ls[j]]) := by show _ = _; rw [List.take_add_one, List.getElem?_eq_getElem hjl]; rfl
      generalize ls[j] = l at *
      have e0 := hF.cell d0 (fun e => e)
      have e1 := hF.cell d1 (fun e => e)
      have hBw : B < wr.heap.size := (Array.getElem?_eq_some_iff.1 HM.out).1
      have hnm := fun W => isName_any l W
      clear d0 d1
      obtain ⟨t, ht⟩ : ∃ t, isNm l = t := ⟨_, rfl⟩
      rw [ht] at hnm
      have HI : Hid (isNm l = t) := ht
      clear ht
      go_wp2_with fail
      refine (hnm _).mono ?_
      rintro e w1 ⟨rfl, k1⟩
      have v0 : w1.cell? ⟨wr.heap.size, 0, none⟩ = some (.int .i64 l.kind) := k1.cell (by simp [go_sem]) (fun e => e)
      have v1 : w1.cell? ⟨wr.heap.size, 1, none⟩ = some (.string l.bytes) := k1.cell (by simp [go_sem]) (fun e => e)
      have k2 : Fr (fun _ => False) wr w1 := Fr.trans (S := fun _ => False) ((Fr.refl _ wr).alloc _) k1 (fun _ _ e => e)
      have HM1 : MapL w1 B (ls.take j) := HM.out.keep k2 (fun e => e)
      have hF1 := hF.trans k2 (fun _ _ e => e)
      have hlj : (ls.take j).length = j := by rw [List.length_take]; omega
      clear k1 k2 e0 e1 HM hnm hF
      cases t
      · have hr0 : r = false := HF0.out (fun h => by have := h.1; rw [HI.out] at this; cases this)
        subst hr0
        clear HM1
        go_wp2_with fail
        go_ret
        exact ⟨rfl, hF1⟩
      · by_cases hm : l ∈ ls.take j
        · have hr0 : r = false := HF0.out (fun h => h.2 hm)
          subst hr0
          have hlk := look_lab HM1 l
          rw [if_pos hm] at hlk
          clear HM1 hm
          go_wp2_with fail
          go_ret
          exact ⟨rfl, hF1⟩
        · have hlk := look_lab HM1 l
          rw [if_neg hm] at hlk
          have hlk' := look_lab (w := w1.drew) HM1 l
          rw [if_neg hm] at hlk'
          have hen := entry_lab (w := w1.drew) HM1 l hm
          have hla := look_laid (w := w1.drew) HM1 l hm
          have hst := store_lab (w := w1.drew) HM1 l
          have HM3 := map_laidW (w := w1.drew) HM1 l
          rw [← HS.out] at HM3
          have k3 : Fr (fun i => i = B) w1 (laidW w1.drew B (ls.take j) l 1) := Fr.trans (S := fun i => i = B) (Fr.refl _ w1).drew (fr_laidW _ _ _ _ _) (fun _ _ e => e)
          have hF3 : Fr (fun _ => False) w (laidW w1.drew B (ls.take j) l 1) := hF1.trans k3 (fun i hi e => by have := HB.out; omega)
          have HO1 : Hid (okL (ls.take (j + 1))) := HT.out.2 ⟨HO.out, HI.out, hm⟩
          have HM4 : Hid (MapL (laidW w1.drew B (ls.take j) l 1) B (ls.take (j + 1))) := HM3
          rw [hlj] at hen hst
          clear HM1 HM3 hm k3 hF1 HO
          generalize laidW w1.drew B (ls.take j) l 0 = w2 at *
          generalize laidW w1.drew B (ls.take j) l 1 = w3 at *
          go_wp2_with fail
          go_region
          all_goals
            rename_i Q' K hK
            refine hK _ _ ?_
            go_wp2_with fail
            go_roundw
            case rel => exact ⟨j + 1, by go_num, hlt, HO1, HM4, hF3⟩
            case measure => simp [intOf]; omega
    · obtain rfl : j = n := by omega
      have i1 : ¬ (j : Int) < j := by omega
      have hr1 : r = true := by
        rw [← HR.out]
        have := HO.out
        rw [List.take_of_length_le (by rw [HN.out]; exact Nat.le_refl _)] at this
        exact decide_eq_true this
      subst hr1
      go_wp2_with fail
      go_ret
      exact ⟨rfl, hF⟩
end Go.Proofs.Ytgkkbadnenkcdaa
