/- Walks over package gse: by what each field is laid. -/
import Derived.Test.YtenbhnemlfhioaaDoorGb
namespace Go.Proofs.YtenbhnemlfhioaaDoor
open Go.RowKit Go.PlainAid Go.Shelf

/-- What a field's closure answers: its bytes, or that it may not be. -/
def LaidBy (o : Option ByteArray) (e : Ending) : Prop := (∃ s, o = some s ∧ e = .returned (.tuple #[.string s, .bool true])) ∨ (o = none ∧ ∃ s, e = .returned (.tuple #[.string s, .bool false]))

theorem number_one (n : Int) (w : World) : Calls Tryd.prog 41 #[.int .i64 n, .int .i64 1] w fun e w' => LaidBy (if mayN n 256 then some (on n.toNat) else none) e ∧ Fr (fun _ => False) w w' := by
  cases h : mayN n 256 with
  | true =>
    simp [mayN] at h
    obtain ⟨x, rfl⟩ := Int.eq_ofNat_of_zero_le h.1
    exact (lay_one x (by omega) w).mono fun _ _ ⟨he, hf⟩ => ⟨.inl ⟨_, rfl, he⟩, hf⟩
  | false => exact (lay_not n 1 (.inl rfl) h w).mono fun _ _ ⟨he, hf⟩ => ⟨.inr ⟨rfl, _, he⟩, hf⟩
theorem number_two (n : Int) (w : World) : Calls Tryd.prog 41 #[.int .i64 n, .int .i64 2] w fun e w' => LaidBy (if mayN n 65536 then some (tw n.toNat) else none) e ∧ Fr (fun _ => False) w w' := by
  cases h : mayN n 65536 with
  | true =>
    simp [mayN] at h
    obtain ⟨x, rfl⟩ := Int.eq_ofNat_of_zero_le h.1
    exact (lay_two x (by omega) w).mono fun _ _ ⟨he, hf⟩ => ⟨.inl ⟨_, rfl, he⟩, hf⟩
  | false => exact (lay_not n 2 (.inr rfl) h w).mono fun _ _ ⟨he, hf⟩ => ⟨.inr ⟨rfl, _, he⟩, hf⟩

set_option maxHeartbeats 1000000 in
theorem lay0 (p : Pc) (b : Nat) (w : World) (hP : PAt w b p) : Calls Tryd.prog 40 #[.pointer (some ⟨b, 0, none⟩)] w fun e w' => LaidBy (layF p 0) e ∧ Fr (fun _ => False) w w' := by
  have c2 := hP.c2
  go_enter Tryd.func40, Tryd.ntmps40
  go_wp2_with fail
  refine (number_one p.id _).mono ?_
  rintro e w1 ⟨⟨s, hs, rfl⟩ | ⟨hs, s, rfl⟩, hf⟩
  all_goals
    go_wp2_with fail
    go_ret2
  · exact ⟨.inl ⟨s, hs, rfl⟩, hf⟩
  · exact ⟨.inr ⟨hs, s, rfl⟩, hf⟩
set_option maxHeartbeats 1000000 in
theorem lay1 (p : Pc) (b : Nat) (w : World) (hP : PAt w b p) : Calls Tryd.prog 42 #[.pointer (some ⟨b, 0, none⟩)] w fun e w' => LaidBy (layF p 1) e ∧ Fr (fun _ => False) w w' := by
  have c2 := hP.c3
  go_enter Tryd.func42, Tryd.ntmps42
  go_wp2_with fail
  refine (number_two p.tot _).mono ?_
  rintro e w1 ⟨⟨s, hs, rfl⟩ | ⟨hs, s, rfl⟩, hf⟩
  all_goals
    go_wp2_with fail
    go_ret2
  · exact ⟨.inl ⟨s, hs, rfl⟩, hf⟩
  · exact ⟨.inr ⟨hs, s, rfl⟩, hf⟩
set_option maxHeartbeats 1000000 in
theorem lay2 (p : Pc) (b : Nat) (w : World) (hP : PAt w b p) : Calls Tryd.prog 43 #[.pointer (some ⟨b, 0, none⟩)] w fun e w' => LaidBy (layF p 2) e ∧ Fr (fun _ => False) w w' := by
  have c2 := hP.c4
  go_enter Tryd.func43, Tryd.ntmps43
  go_wp2_with fail
  refine (number_two p.ty _).mono ?_
  rintro e w1 ⟨⟨s, hs, rfl⟩ | ⟨hs, s, rfl⟩, hf⟩
  all_goals
    go_wp2_with fail
    go_ret2
  · exact ⟨.inl ⟨s, hs, rfl⟩, hf⟩
  · exact ⟨.inr ⟨hs, s, rfl⟩, hf⟩
set_option maxHeartbeats 1000000 in
theorem lay4 (p : Pc) (b : Nat) (w : World) (hP : PAt w b p) : Calls Tryd.prog 45 #[.pointer (some ⟨b, 0, none⟩)] w fun e w' => LaidBy (layF p 4) e ∧ Fr (fun _ => False) w w' := by
  have c7 := hP.c7
  go_enter Tryd.func45, Tryd.ntmps45
  go_wp2_with fail
  go_ret2
  exact ⟨.inl ⟨_, rfl, rfl⟩, Fr.refl _ _⟩
set_option maxHeartbeats 1000000 in
theorem lay5 (p : Pc) (b : Nat) (w : World) (hP : PAt w b p) : Calls Tryd.prog 46 #[.pointer (some ⟨b, 0, none⟩)] w fun e w' => LaidBy (layF p 5) e ∧ Fr (fun _ => False) w w' := by
  have c8 := hP.c8
  simp only [layF]
  by_cases hz : p.su.size = 4
  · rw [if_pos hz]
    have hz' : ((p.su.size : Int) == 4) = true := by simp; omega
    go_enter Tryd.func46, Tryd.ntmps46
    go_wp2_with fail
    go_quiet (fail)
    go_wp2_with fail
    go_ret2
    exact ⟨.inl ⟨_, rfl, by simp⟩, (Fr.refl _ _).drewN _⟩
  · rw [if_neg hz]
    have hz' : ((p.su.size : Int) == 4) = false := by simp; omega
    go_enter Tryd.func46, Tryd.ntmps46
    go_wp2_with fail
    go_quiet (fail)
    go_wp2_with fail
    go_ret2
    exact ⟨.inr ⟨rfl, _, rfl⟩, (Fr.refl _ _).drewN _⟩
set_option maxHeartbeats 1000000 in
theorem lay3 (p : Pc) (b : Nat) (w : World) (hP : PAt w b p) (hS : Sz w) : Calls Tryd.prog 44 #[.pointer (some ⟨b, 0, none⟩)] w fun e w' => LaidBy (layF p 3) e ∧ Fr (fun _ => False) w w' := by
  obtain ⟨r, hr⟩ : ∃ r, okL ⟨p.kd, p.lb⟩ = r := ⟨_, rfl⟩
  have hE : errL ⟨p.kd, p.lb⟩ = if r then 0 else 2 := by unfold errL; rw [hr]
  simp only [layF, hr]
  have hc : ∀ W, Gr w W → Calls Tryd.prog 11 #[.agg #[.int .i64 p.kd, .string p.lb]] W fun e w' => e = .returned (.int .i64 (if r then 0 else 2)) ∧ Gr w w' := fun W hW =>
    (check_any ⟨p.kd, p.lb⟩ W (hS.keep hW (fun e => e))).mono fun _ _ ⟨he, hf⟩ => ⟨hE ▸ he, hW.trans hf (fun _ _ e => e)⟩
  go_enter Tryd.func44, Tryd.ntmps44
  go_wp2_with fail
  rename_i K hK
  have HK : Hid _ := hK
  clear hK
  refine wp_region_quiet (C := Gr w) (by kernel_rfl) (by kernel_rfl) (Fr.refl _ _).drew ?_
  refine wpQuiet_val (.pointer (some ⟨b, 5, none⟩)) rfl (fun W hW => by simp [execOp, go_sem, Act.eval]) ?_
  refine wpQuiet_val (.pointer (some ⟨b, 6, none⟩)) rfl (fun W hW => by simp [execOp, go_sem, Act.eval, Act.put]) ?_
  refine wpQuiet_val (.string p.lb) rfl (fun W hW => by simp [execOp, go_sem, Act.eval, Act.put, hW.cell hP.c6 (fun e => e)]) ?_
  refine wpQuiet_val (.pointer (some ⟨b, 5, none⟩)) rfl (fun W hW => by simp [execOp, go_sem, Act.eval, Act.put]) ?_
  refine wpQuiet_val (.agg #[.int .i64 p.kd, .string p.lb]) rfl (fun W hW => by simp [execOp, go_sem, Act.eval, Act.put, hW.cell hP.c5 (fun e => e), hW.cell hP.c6 (fun e => e)]) ?_
  refine wpQuiet_call (.int .i64 (if r then 0 else 2)) rfl 11 _ _ rfl (enters_of Tryd.func11 (by kernel_rfl) rfl) #[.agg #[.int .i64 p.kd, .string p.lb]] (by simp [Act.eval, Act.put]) (fun W hW => hc W hW) ?_
  refine wpQuiet_val (.bool r) rfl (fun W hW => by cases r <;> simp [execOp, go_sem, Act.eval, Act.put]) ?_
  refine wpQuiet_val (.string p.lb) rfl (fun W hW => by simp [execOp, go_sem, Act.eval, Act.put]) ?_
  refine wpQuiet_val (.bool r) rfl (fun W hW => by simp [execOp, go_sem, Act.eval, Act.put]) ?_
  refine wpQuiet_nil ?_
  intro w5 k5
  simp only [Act.put]
  refine HK.out _ _ ?_
  clear HK
  go_wp2_with fail
  all_goals go_ret2
  · exact ⟨.inl ⟨_, rfl, rfl⟩, k5⟩
  · exact ⟨.inr ⟨rfl, _, rfl⟩, k5⟩
end Go.Proofs.YtenbhnemlfhioaaDoor
