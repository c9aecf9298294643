
/- Data with depth: a cell's value, or a slice of n elements of k cells; what it is that such data can be read at a value. -/
import Derived.WalkKit
import Derived.Below
import Derived.RowKit
namespace Go.Proofs.Ytgihklohhjhjbaa
open Go.RowKit

inductive Dat where
  | v (x : Value)
  | sl (n k : Nat) (f : Nat → Nat → Dat)

/-- x reads as the datum in w, through blocks from L on -/
def Rd (w : World) (L : Nat) : Value → Dat → Prop
  | x, .v y => x = y
  | x, .sl n k f => ∃ (a : Option Addr) (cap : Nat), x = .slice a n cap ∧ n ≤ cap ∧ (a = none → cap = 0) ∧ (n = 0 ∨ ∃ (g o : Nat), a = some ⟨g, o, none⟩ ∧ L ≤ g ∧ g < w.heap.size ∧
      ∀ i, i < n → ∀ j, j < k → ∃ y, w.cell? ⟨g, o + i * k + j, none⟩ = some y ∧ Rd w L y (f i j))

theorem Rd.keep {w w' : World} {L : Nat} : ∀ {d : Dat} {x : Value}, Rd w L x d → w.heap.size ≤ w'.heap.size → (∀ g, L ≤ g → g < w.heap.size → w'.heap[g]? = w.heap[g]?) → Rd w' L x d
  | .v _, _, h, _, _ => h
  | .sl n k f, x, h, hs, hk => by
    obtain ⟨a, cap, e, hc, hz, h⟩ := h
    refine ⟨a, cap, e, hc, hz, h.imp id ?_⟩
    rintro ⟨g, o, ea, hg, hlt, hc⟩
    refine ⟨g, o, ea, hg, Nat.lt_of_lt_of_le hlt hs, fun i hi j hj => ?_⟩
    obtain ⟨y, hy, hr⟩ := hc i hi j hj
    exact ⟨y, (World.cell?_of_block (w := w) (a := ⟨g, o + i * k + j, none⟩) (hk g hg hlt)).trans hy, hr.keep hs hk⟩
theorem Rd.later {w w' : World} {L : Nat} {d : Dat} {x : Value} (h : Rd w L x d) (g : Below w.heap.size w w') : Rd w' L x d := h.keep g.size fun i _ hi => g.block i hi
/-- below a bound that the data does not go beneath, the world may turn -/
theorem Rd.set {w : World} {L : Nat} {d : Dat} {x : Value} (h : Rd w L x d) {p : Addr} (hp : p.block < L) (u : Value) : Rd (w.setCell p u) L x d :=
  h.keep (by simp) fun i hi _ => heap_setCell_other w p i u (by omega)
theorem Rd.low {w : World} {L L' : Nat} (hL : L' ≤ L) : ∀ {d : Dat} {x : Value}, Rd w L x d → Rd w L' x d
  | .v _, _, h => h
  | .sl n k f, x, h => by
    obtain ⟨a, cap, e, hc, hz, h⟩ := h
    refine ⟨a, cap, e, hc, hz, h.imp id ?_⟩
    rintro ⟨g, o, ea, hg, hlt, hc⟩
    refine ⟨g, o, ea, Nat.le_trans hL hg, hlt, fun i hi j hj => ?_⟩
    obtain ⟨y, hy, hr⟩ := hc i hi j hj
    exact ⟨y, hy, hr.low hL⟩
/-- an element of a slice -/
theorem Rd.elem {w : World} {L n k : Nat} {f : Nat → Nat → Dat} {a : Option Addr} {cap m : Nat} (h : Rd w L (.slice a m cap) (.sl n k f)) {i : Nat} (hi : i < n) :
    m = n ∧ ∃ (g o : Nat), a = some ⟨g, o, none⟩ ∧ L ≤ g ∧ g < w.heap.size ∧ ∀ j, j < k → ∃ y, w.cell? ⟨g, o + i * k + j, none⟩ = some y ∧ Rd w L y (f i j) := by
  obtain ⟨a', cap', e, _, _, h⟩ := h
  injection e with e1 e2 e3
  subst e1; subst e2
  rcases h with h | ⟨g, o, ea, hg, hlt, hc⟩
  · omega
  · exact ⟨rfl, g, o, ea, hg, hlt, fun j hj => hc i hi j hj⟩
theorem Rd.slice {w : World} {L n k : Nat} {f : Nat → Nat → Dat} {x : Value} (h : Rd w L x (.sl n k f)) : ∃ a cap, x = .slice a n cap := by
  obtain ⟨a, cap, e, _⟩ := h
  exact ⟨a, cap, e⟩

/-- the types of cells that the trees of this program are made of -/
inductive Ty where
  | int | bool | str | exprs | items | sources | keys | queries
/-- the cells of an expression -/
def exprTy : List Ty := [.int, .int, .bool, .int, .int, .str, .str, .str, .exprs, .queries]
/-- the cells of an element -/
def rowTy : Ty → List Ty
  | .exprs => exprTy
  | .items => [.bool, .str] ++ exprTy ++ [.str]
  | .sources => [.str, .str, .exprs]
  | .keys => exprTy ++ [.bool]
  | .queries => [.bool, .items, .sources, .exprs, .keys, .int]
  | _ => []
def deep : Ty → Bool
  | .int | .bool | .str => false
  | _ => true
/-- the datum is one of the type -/
def Fits : Dat → Ty → Prop
  | .v x, ty => match ty with
    | .int => ∃ n : Int, x = .int .i64 n ∧ -9223372036854775808 ≤ n ∧ n ≤ 9223372036854775807
    | .bool => ∃ b, x = .bool b
    | .str => ∃ s : ByteArray, x = .string s ∧ s.size ≤ 9223372036854775807
    | _ => False
  | .sl n k f, ty => deep ty = true ∧ n ≤ 9223372036854775807 ∧ k = (rowTy ty).length ∧ ∀ i, i < n → ∀ j (h : j < (rowTy ty).length), Fits (f i j) ((rowTy ty)[j])
/-- how much there is of it: elements and bytes -/
def msr : Dat → Nat
  | .v x => match x with
    | .string s => s.size
    | _ => 0
  | .sl n k f => n + ((List.range n).map fun i => ((List.range k).map fun j => msr (f i j)).sum).sum
end Go.Proofs.Ytgihklohhjhjbaa
