/- A region that draws its order and only reads, or calls what only makes new memory: what is heavy stands behind variables (laws for the walk, over any program). -/
import Derived.Test.YtdphjomdnohbpaaQv
namespace Go.Proofs.Ytdphjomdnohbpaa
open Go.RowKit Go.Shelf

theorem wp_region_quiet_g {P : Program} {Q : Exit → Act → World → Prop} {id : Nat} {a : Act} {w : World} {l : List Oper} (C : World → Prop) (hm : P.follows .mixedOrders = true) (hB : Region.lexB .any l.toArray = true) (hC : C w.drew)
    (h : ∀ (ops : Array Oper) (Q' : Act → Prop), (∀ j : Nat, (ops[j]?).bind Oper.dst = (l[j]?).bind Oper.dst) → (∀ a', (∀ w', C w' → Q .normal a' w') → Q' a') → wpQuiet P ops C Q' l a) : (Code.region id l.toArray true).wp P Q a w :=
  wp_region_quiet hm hB hC (h l.toArray _ (fun j => by rw [List.getElem?_toArray]) (fun _ h => h))
theorem wanted_of {o : Oper} {ops : Array Oper} {t : Array Value} {j s : Nat} {b : Bool} (hg : o.guard = some (j, b)) (hd : (ops[j]?).bind Oper.dst = some s) (ht : t[s]? = some (.bool b)) : Region.wanted o (yielded ops t) = true := by
  have hd' : (ops[j]?).bind (fun x => x.dst) = some s := hd
  simp [Region.wanted, hg, yielded, hd', ht]
theorem unwanted_of {o : Oper} {ops : Array Oper} {t : Array Value} {j s : Nat} {b b' : Bool} (hg : o.guard = some (j, b)) (hd : (ops[j]?).bind Oper.dst = some s) (ht : t[s]? = some (.bool b')) (hb : (b' == b) = false) : Region.wanted o (yielded ops t) = false := by
  have hd' : (ops[j]?).bind (fun x => x.dst) = some s := hd
  cases b <;> cases b' <;> first | (simp at hb; done) | simp [Region.wanted, hg, yielded, hd', ht]
end Go.Proofs.Ytdphjomdnohbpaa
