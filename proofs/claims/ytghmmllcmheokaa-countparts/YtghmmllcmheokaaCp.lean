/- Sums and products of lists, put together and turned: plain facts; no program is named here. -/
import Derived.Test.YtghmmllcmheokaaCo
namespace Go.Proofs.Ytghmmllcmheokaa

theorem foldl_sm (l : List Int) : ∀ a, l.foldl (fun a x => a + x.toNat) a = a + sm l := by
  induction l with
  | nil => intro a; simp [sm]
  | cons x l ih => intro a; rw [List.foldl_cons, ih, show sm (x :: l) = l.foldl (fun a x => a + x.toNat) (0 + x.toNat) from rfl, ih]; omega
theorem foldl_pr (l : List Int) : ∀ a, l.foldl (fun a x => a * x.toNat) a = a * pr l := by
  induction l with
  | nil => intro a; simp [pr]
  | cons x l ih => intro a; rw [List.foldl_cons, ih, show pr (x :: l) = l.foldl (fun a x => a * x.toNat) (1 * x.toNat) from rfl, ih, Nat.one_mul, Nat.mul_assoc]
theorem sm_append (a b : List Int) : sm (a ++ b) = sm a + sm b := by rw [sm, List.foldl_append, foldl_sm]; rfl
theorem pr_append (a b : List Int) : pr (a ++ b) = pr a * pr b := by rw [pr, List.foldl_append, foldl_pr]; rfl
theorem neg_append (a b : List Int) : neg (a ++ b) = (neg a || neg b) := by simp [neg]
theorem sm_one (x : Int) : sm [x] = x.toNat := by simp [sm]
theorem pr_one (x : Int) : pr [x] = x.toNat := by simp [pr]
theorem sm_take (l : List Int) (j : Nat) (h : j < l.length) : sm (l.take (j + 1)) = sm (l.take j) + (l[j]).toNat := by
  rw [← List.take_append_getElem h, sm_append, sm_one]
theorem pr_take (l : List Int) (j : Nat) (h : j < l.length) : pr (l.take (j + 1)) = pr (l.take j) * (l[j]).toNat := by
  rw [← List.take_append_getElem h, pr_append, pr_one]
theorem sm_take_le (l : List Int) (j : Nat) : sm (l.take j) ≤ sm l := by
  have := sm_append (l.take j) (l.drop j)
  rw [List.take_append_drop] at this
  omega
theorem pr_pos (l : List Int) (h : ∀ x ∈ l, 0 < x) : 0 < pr l := by
  induction l with
  | nil => decide
  | cons x l ih =>
    rw [show x :: l = [x] ++ l from rfl, pr_append, pr_one]
    have := h x (by simp)
    exact Nat.mul_pos (by omega) (ih (fun y hy => h y (by simp [hy])))
theorem pr_take_le (l : List Int) (j : Nat) (h : ∀ x ∈ l, 0 < x) : pr (l.take j) ≤ pr l := by
  have := pr_append (l.take j) (l.drop j)
  rw [List.take_append_drop] at this
  rw [this]
  exact Nat.le_mul_of_pos_right _ (pr_pos _ (fun x hx => h x (List.mem_of_mem_drop hx)))
theorem pr_zero (l : List Int) (j : Nat) (h : j < l.length) (h0 : l[j] = 0) : pr l = 0 := by
  have := pr_append (l.take (j + 1)) (l.drop (j + 1))
  rw [List.take_append_drop, pr_take l j h, h0] at this
  simpa using this
theorem neg_true (l : List Int) (j : Nat) (h : j < l.length) (h0 : l[j] < 0) : neg l = true := by
  rw [neg, List.any_eq_true]
  exact ⟨l[j], List.getElem_mem h, by simpa using h0⟩
theorem sm_reverse (l : List Int) : sm l.reverse = sm l := by
  induction l with
  | nil => rfl
  | cons x l ih => rw [List.reverse_cons, sm_append, ih, show x :: l = [x] ++ l from rfl, sm_append]; omega
theorem pr_reverse (l : List Int) : pr l.reverse = pr l := by
  induction l with
  | nil => rfl
  | cons x l ih => rw [List.reverse_cons, pr_append, ih, show x :: l = [x] ++ l from rfl, pr_append, Nat.mul_comm]
theorem neg_reverse (l : List Int) : neg l.reverse = neg l := by simp [neg]
theorem sumR_reverse (l : List Int) : sumR l.reverse = sumR l := by rw [sumR, neg_reverse, sm_reverse]; rfl
theorem timR_reverse (l : List Int) : timR l.reverse = timR l := by rw [timR, neg_reverse, pr_reverse]; rfl
end Go.Proofs.Ytghmmllcmheokaa
