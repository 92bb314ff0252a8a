/- Rows of numbers that were handed in, each within the form's reach. -/
import Derived.Test.YtenbhnemlfhioaaDoorLa
import Derived.Test.YtenbhnemlfhioaaDoorAr
import Derived.Lib.SmallJoins
import Derived.SizedLaws
namespace Go.Proofs.YtenbhnemlfhioaaDoor
open Go.RowKit Go.PlainAid Go.Shelf Go.ChangeShapes

theorem cells31 : Tryd.prog.cellsOf 31 = 1 := by kernel_rfl
theorem bytes31 : Tryd.prog.bytesOf 31 = 2 := by kernel_rfl
theorem row_u16 {H : Type} {enc : TypeId × Value → H} {w : World} {base : Nat} {held : Bool} {fuel : Nat} {a : Option Addr} {len cap : Nat} {d : DataW H} {pl : List MemPlace}
    (h : DataW.trod enc Tryd.prog w base (fun _ => true) held fuel 22 [.slice a len cap] = some (d, pl)) (hz : ∀ elems sp, d = .slice elems sp → (elems.length + sp.length) * Tryd.prog.bytesOf 31 ≤ reachBytes) :
    ∃ zs, IsRow .u16 w a len cap zs ∧ len ≤ 1000000000000000 := by
  rcases open_ints Tryd.underlying22 Tryd.underlying31 cells31 h with ⟨hcs, _⟩ | ⟨x, l, c, zs, hcs, _, hl, hm, hzl, hx, hcell, hwz⟩
  · simp at hcs
    obtain ⟨rfl, rfl, rfl⟩ := hcs
    exact ⟨[], .inl ⟨rfl, rfl, rfl, rfl⟩, by omega⟩
  · simp at hcs
    obtain ⟨rfl, rfl, rfl⟩ := hcs
    have hr := hz _ _ (congrArg Prod.fst hx)
    have hlt := reachBytes_lt
    rw [bytes31] at hr
    simp only [if_true] at hzl
    simp [lits] at hr
    refine ⟨zs, .inr ⟨_, rfl, hl, hm, hzl, hcell, hwz⟩, by omega⟩
end Go.Proofs.YtenbhnemlfhioaaDoor
