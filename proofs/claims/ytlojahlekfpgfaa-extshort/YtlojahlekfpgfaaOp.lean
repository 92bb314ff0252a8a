/- Texts that were handed in. -/
import Derived.Test.YtlojahlekfpgfaaSt2
import Derived.Deep.Slices
import Derived.Lib.SmallJoins
import Derived.SizedLaws
namespace Go.Proofs.Ytlojahlekfpgfaa
open Go.RowKit Go.PlainAid Go.Shelf

theorem cells9 : Try.prog.cellsOf 9 = 1 := by kernel_rfl
theorem weightsAll_mem {H : Type} {P : Program} {e : TypeId} : ∀ {l : List (DataW H)} {d : DataW H}, d ∈ l → ∀ n ∈ d.weights P e, n ∈ DataW.weightsAll P e l
  | d' :: r, d, hd, n, hn => by
    simp only [DataW.weightsAll, List.mem_append]
    rcases List.mem_cons.1 hd with rfl | h
    · exact Or.inl hn
    · exact Or.inr (weightsAll_mem h n hn)
/-- The form's own reach, of a text inside a slice. -/
theorem sized_text {H : Type} {P : Program} {ts : List TypeId} {ds : List (DataW H)} (h : (DataW.weightsEach P ts ds).all (· ≤ reachBytes) = true) {j : Nat} {t e : TypeId} {elems spare : List (DataW H)} {bytes : List UInt8}
    (ht : ts[j]? = some t) (hd : ds[j]? = some (.slice elems spare)) (hu : P.underlying t = some (.slice e)) (hx : DataW.lit (.string bytes) ∈ elems) : bytes.length ≤ reachBytes := by
  refine of_decide_eq_true (List.all_eq_true.1 h _ (DataW.weights_mem_each ht hd _ ?_))
  simp only [DataW.weights, hu, List.mem_cons, List.mem_append]
  exact Or.inr (Or.inl (weightsAll_mem hx _ (by simp [DataW.weights])))
theorem strs_of {H : Type} {enc : TypeId × Value → H} {w : World} {base : Nat} {spare : Nat → Bool} {held : Bool} {fuel : Nat} {a : Option Addr} {len cap : Nat} {d : DataW H} {pl : List MemPlace}
    (h : DataW.trod enc Try.prog w base spare held fuel 27 [.slice a len cap] = some (d, pl)) (hz : ∀ elems sp, d = .slice elems sp → ∀ bytes, DataW.lit (.string bytes) ∈ elems → bytes.length ≤ reachBytes) : IsStrs w a len := by
  rcases Deep.open_slice Try.underlying27 h with ⟨e, _⟩ | ⟨a', len', cap', m, n, D, Pl, e, hb, hl, hm, hmm, hdp, hx⟩
  · simp at e; obtain ⟨rfl, rfl, rfl⟩ := e; exact ⟨Nat.zero_le _, fun i hi => by omega⟩
  · simp at e
    obtain ⟨rfl, rfl, rfl⟩ := e
    have hd := congrArg Prod.fst hdp
    simp only at hd
    have key : ∀ i, i < len → ∃ y, w.cell? (a'.add i) = some (.string y) ∧ y.size ≤ 140737488355328 := by
      intro i hi
      have him : i < m := by rw [hmm]; split <;> omega
      obtain ⟨cs, h1, h2⟩ := hx i him
      rw [cells9] at h1
      obtain ⟨_, hlen, hcell⟩ := World.cells?_some h1
      have k0 := hcell 0 (by omega)
      rw [Deep.add_add] at k0
      obtain ⟨y, e1, e2⟩ := DataW.trod_string Try.underlying9 h2
      subst e1
      have hDi : D i = .lit (.string y.data.toList) := congrArg Prod.fst e2.1
      have := hz _ _ hd y.data.toList (by rw [← hDi]; exact List.mem_map.2 ⟨i, List.mem_range.2 hi, rfl⟩)
      refine ⟨y, ?_, ?_⟩
      · simpa using k0
      · have hr := reachBytes_lt
        have hs : y.size = y.data.toList.length := by simp
        omega
    refine ⟨by omega, fun i hi => ?_⟩
    obtain ⟨b, off, spot⟩ := a'
    obtain ⟨y0, q0, _⟩ := key 0 (by omega)
    have hsp : spot = none := by
      have := World.cell?_spot q0
      simpa [Addr.add] using this
    subst hsp
    obtain ⟨y, k, hy⟩ := key i hi
    rw [Addr.add_lit] at k
    exact ⟨b, off, y, rfl, k, hy⟩
end Go.Proofs.Ytlojahlekfpgfaa
