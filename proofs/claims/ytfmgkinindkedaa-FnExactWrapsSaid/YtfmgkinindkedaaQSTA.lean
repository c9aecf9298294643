/- Joined texts: Dat Base ArgDat TreeRow. -/
import Derived.Test.YtfmgkinindkedaaProg
import Derived.Test.YtfmgkinindkedaaRows
import Derived.WalkKit
import Derived.Below
import Derived.RowKit
import Derived.ProofKit
import Derived.Lib.Hide
import Derived.OpenShut
import Derived.ShutString
import Derived.Deep.Slices
import Derived.Deep.Strs
/- Data with depth: a cell's value, or a slice of n elements of k cells; what it is that such data can be read at a value. -/
namespace Go.Proofs.Ytfmgkinindkedaa
open Go.RowKit

inductive Dat where
  | v (x : Value)
  | sl (n k : Nat) (f : Nat → Nat → Dat)

/-- x reads as the datum in w, through blocks from L on -/
def Rd (w : World) (L : Nat) : Value → Dat → Prop
  | x, .v y => x = y
  | x, .sl n k f => ∃ (a : Option Addr) (cap : Nat), x = .slice a n cap ∧ n ≤ cap ∧ (a = none → cap = 0) ∧ (n = 0 ∨ ∃ (g o : Nat), a = some ⟨g, o, none⟩ ∧ L ≤ g ∧ g < w.heap.size ∧
      ∀ i, i < n → ∀ j, j < k → ∃ y, w.cell? ⟨g, o + i * k + j, none⟩ = some y ∧ Rd w L y (f i j))

theorem Rd.keep {w w' : World} {L : Nat} : ∀ {d : Dat} {x : Value}, Rd w L x d → w.heap.size ≤ w'.heap.size → (∀ g, L ≤ g → g < w.heap.size → w'.heap[g]? = w.heap[g]?) → Rd w' L x d
  | .v _, _, h, _, _ => h
  | .sl n k f, x, h, hs, hk => by
    obtain ⟨a, cap, e, hc, hz, h⟩ := h
    refine ⟨a, cap, e, hc, hz, h.imp id ?_⟩
    rintro ⟨g, o, ea, hg, hlt, hc⟩
    refine ⟨g, o, ea, hg, Nat.lt_of_lt_of_le hlt hs, fun i hi j hj => ?_⟩
    obtain ⟨y, hy, hr⟩ := hc i hi j hj
    exact ⟨y, (World.cell?_of_block (w := w) (a := ⟨g, o + i * k + j, none⟩) (hk g hg hlt)).trans hy, hr.keep hs hk⟩
theorem Rd.later {w w' : World} {L : Nat} {d : Dat} {x : Value} (h : Rd w L x d) (g : Below w.heap.size w w') : Rd w' L x d := h.keep g.size fun i _ hi => g.block i hi
/-- below a bound that the data does not go beneath, the world may turn -/
theorem Rd.set {w : World} {L : Nat} {d : Dat} {x : Value} (h : Rd w L x d) {p : Addr} (hp : p.block < L) (u : Value) : Rd (w.setCell p u) L x d :=
  h.keep (by simp) fun i hi _ => heap_setCell_other w p i u (by omega)
theorem Rd.low {w : World} {L L' : Nat} (hL : L' ≤ L) : ∀ {d : Dat} {x : Value}, Rd w L x d → Rd w L' x d
  | .v _, _, h => h
  | .sl n k f, x, h => by
    obtain ⟨a, cap, e, hc, hz, h⟩ := h
    refine ⟨a, cap, e, hc, hz, h.imp id ?_⟩
    rintro ⟨g, o, ea, hg, hlt, hc⟩
    refine ⟨g, o, ea, Nat.le_trans hL hg, hlt, fun i hi j hj => ?_⟩
    obtain ⟨y, hy, hr⟩ := hc i hi j hj
    exact ⟨y, hy, hr.low hL⟩
/-- an element of a slice -/
theorem Rd.elem {w : World} {L n k : Nat} {f : Nat → Nat → Dat} {a : Option Addr} {cap m : Nat} (h : Rd w L (.slice a m cap) (.sl n k f)) {i : Nat} (hi : i < n) :
    m = n ∧ ∃ (g o : Nat), a = some ⟨g, o, none⟩ ∧ L ≤ g ∧ g < w.heap.size ∧ ∀ j, j < k → ∃ y, w.cell? ⟨g, o + i * k + j, none⟩ = some y ∧ Rd w L y (f i j) := by
  obtain ⟨a', cap', e, _, _, h⟩ := h
  injection e with e1 e2 e3
  subst e1; subst e2
  rcases h with h | ⟨g, o, ea, hg, hlt, hc⟩
  · omega
  · exact ⟨rfl, g, o, ea, hg, hlt, fun j hj => hc i hi j hj⟩
theorem Rd.slice {w : World} {L n k : Nat} {f : Nat → Nat → Dat} {x : Value} (h : Rd w L x (.sl n k f)) : ∃ a cap, x = .slice a n cap := by
  obtain ⟨a, cap, e, _⟩ := h
  exact ⟨a, cap, e⟩

/-- the types of cells that the trees of this program are made of -/
inductive Ty where
  | int | bool | str | exprs | items | sources | keys | queries | rows | names
/-- the cells of an expression -/
def exprTy : List Ty := [.int, .int, .bool, .int, .int, .str, .str, .str, .exprs, .queries]
/-- the cells of an element -/
def rowTy : Ty → List Ty
  | .exprs => exprTy
  | .items => [.bool, .str] ++ exprTy ++ [.str]
  | .sources => [.str, .str, .exprs]
  | .keys => exprTy ++ [.bool]
  | .queries => [.bool, .items, .sources, .exprs, .keys, .int]
  | .rows => [.exprs]
  | .names => [.str]
  | _ => []
/-- slices of structs -/
def tree : Ty → Bool
  | .exprs | .items | .sources | .keys | .queries => true
  | _ => false
/-- all but the slices of slices and of strings -/
def plainTy : Ty → Bool
  | .rows | .names => false
  | _ => true
theorem plain_row {ty : Ty} (h : tree ty = true) : (rowTy ty).all plainTy = true := by cases ty <;> first | (cases h; done) | rfl
def deep : Ty → Bool
  | .int | .bool | .str => false
  | _ => true
/-- the datum is one of the type -/
def Fits : Dat → Ty → Prop
  | .v x, ty => match ty with
    | .int => ∃ n : Int, x = .int .i64 n ∧ -9223372036854775808 ≤ n ∧ n ≤ 9223372036854775807
    | .bool => ∃ b, x = .bool b
    | .str => ∃ s : ByteArray, x = .string s ∧ s.size ≤ 9223372036854775807
    | _ => False
  | .sl n k f, ty => deep ty = true ∧ n ≤ 9223372036854775807 ∧ k = (rowTy ty).length ∧ ∀ i, i < n → ∀ j (h : j < (rowTy ty).length), Fits (f i j) ((rowTy ty)[j])
/-- how much there is of it: elements and bytes -/
def msr : Dat → Nat
  | .v x => match x with
    | .string s => s.size
    | _ => 0
  | .sl n k f => n + ((List.range n).map fun i => ((List.range k).map fun j => msr (f i j)).sum).sum
end Go.Proofs.Ytfmgkinindkedaa

/- Small facts: bounds of integers, endings that are equal, the panic of the readers. -/
namespace Go.Proofs.Ytfmgkinindkedaa
open Go.RowKit
theorem ret_u64 {a b : Int} (h : a = b) : Ending.returned (.int .u64 a) = .returned (.int .u64 b) := by rw [h]
theorem ret_i64 {a b : Int} (h : a = b) : Ending.returned (.int .i64 a) = .returned (.int .i64 b) := by rw [h]

theorem i64_bds {n : Int} (h : (Lit.int .i64 n).wf = true) : -9223372036854775808 ≤ n ∧ n ≤ 9223372036854775807 := by
  simp [Lit.wf, IntKind.min, IntKind.max, IntKind.signed, IntKind.bits] at h; omega
theorem u64_bds {n : Int} (h : (Lit.int .u64 n).wf = true) : 0 ≤ n ∧ n ≤ 18446744073709551615 := by
  simp [Lit.wf, IntKind.min, IntKind.max, IntKind.signed, IntKind.bits] at h; omega
theorem u8_bds {n : Int} (h : (Lit.int .u8 n).wf = true) : 0 ≤ n ∧ n ≤ 255 := by
  simp [Lit.wf, IntKind.min, IntKind.max, IntKind.signed, IntKind.bits] at h; omega

theorem ret_u32 {a b : Int} (h : a = b) : Ending.returned (.int .u32 a) = .returned (.int .u32 b) := by rw [h]
theorem ret_str {a b : List UInt8} (h : a = b) : Ending.returned (.string ⟨a.toArray⟩) = .returned (.string ⟨b.toArray⟩) := by rw [h]
/-- what the readers panic with -/
def badText : ByteArray := ⟨#[110, 111, 116, 32, 97, 32, 110, 117, 109, 98, 101, 114]⟩
def badChain : List PanicEntry := [{ v := .iface 9 (.string badText), recovered := false }]
def badPanic : Ending := .panicked badChain
end Go.Proofs.Ytfmgkinindkedaa

/- Trees that came in, read out of the rows. -/
namespace Go.Proofs.Ytfmgkinindkedaa
open Go.ChangeShapes Go.WideShapes Go.ChangeAt Go.RowKit Go.Deep

/-- the program's types, as the laws spell them -/
def tid : Ty → TypeId
  | .int => 3
  | .bool => 4
  | .str => 9
  | .exprs => 24
  | .items => 22
  | .sources => 23
  | .keys => 25
  | .queries => 48
  | _ => 0
/-- cells, each read as one of its type with less fuel -/
def Cells {H : Type} (enc : TypeId × Value → H) (W : World) (tys : List Ty) (n : Nat) (cs : List Value) : Prop :=
  cs.length = tys.length ∧ ∀ j (h : j < tys.length), ∃ (m : Nat) (y : DataW H × List MemPlace), m < n ∧ DataW.trod enc Try.prog W 0 (fun _ => true) true m (tid tys[j]) [cs.getD j undef] = some y
section
variable {H : Type} {enc : TypeId × Value → H} {W : World}
set_option maxRecDepth 100000 in
theorem flat_Value {n : Nat} {cs : List Value} {y : DataW H × List MemPlace} (h : DataW.trod enc Try.prog W 0 (fun _ => true) true n 47 cs = some y) : Cells enc W [.int, .int, .str] n cs := by
  obtain ⟨xs, n', rfl, -, hl, hlen, hi⟩ := DataW.trod_struct Try.underlying47 h
  have hc : Try.prog.cellsOf 47 = 3 := by kernel_rfl
  have k_int : Try.prog.cellsOf 3 = 1 := by kernel_rfl
  have k_str : Try.prog.cellsOf 9 = 1 := by kernel_rfl
  have hx : ∀ i, i < 3 → ∃ y, xs[i]? = some y := fun i hi => ⟨xs[i]'(by have : xs.length = 3 := hlen; omega), List.getElem?_eq_getElem _⟩
  rw [hc] at hl
  match cs, hl with
  | [c0, c1, c2], _ =>
    obtain ⟨y0, hy0⟩ := hx 0 (by decide)
    have e0 : DataW.trod enc Try.prog W 0 (fun _ => true) true n' 3 [c0] = some y0 := by
      have h := hi 0 _ rfl
      rw [hy0] at h
      simpa [k_int] using h
    obtain ⟨y1, hy1⟩ := hx 1 (by decide)
    have e1 : DataW.trod enc Try.prog W 0 (fun _ => true) true n' 3 [c1] = some y1 := by
      have h := hi 1 _ rfl
      rw [hy1] at h
      simpa [k_int] using h
    obtain ⟨y2, hy2⟩ := hx 2 (by decide)
    have e2 : DataW.trod enc Try.prog W 0 (fun _ => true) true n' 9 [c2] = some y2 := by
      have h := hi 2 _ rfl
      rw [hy2] at h
      simpa [k_str] using h
    exact ⟨rfl, fun j hj => match j, hj with
      | 0, _ => ⟨n', y0, Nat.lt_succ_self _, e0⟩
      | 1, _ => ⟨n', y1, Nat.lt_succ_self _, e1⟩
      | 2, _ => ⟨n', y2, Nat.lt_succ_self _, e2⟩
      | j + 3, hj => absurd hj (by simp [exprTy, rowTy])⟩
set_option maxRecDepth 100000 in
theorem flat_Expr {n : Nat} {cs : List Value} {y : DataW H × List MemPlace} (h : DataW.trod enc Try.prog W 0 (fun _ => true) true n 50 cs = some y) : Cells enc W exprTy n cs := by
  obtain ⟨xs, n', rfl, -, hl, hlen, hi⟩ := DataW.trod_struct Try.underlying50 h
  have hc : Try.prog.cellsOf 50 = 10 := by kernel_rfl
  have k_bool : Try.prog.cellsOf 4 = 1 := by kernel_rfl
  have k_exprs : Try.prog.cellsOf 24 = 1 := by kernel_rfl
  have k_int : Try.prog.cellsOf 3 = 1 := by kernel_rfl
  have k_queries : Try.prog.cellsOf 48 = 1 := by kernel_rfl
  have k_str : Try.prog.cellsOf 9 = 1 := by kernel_rfl
  have k_Value : Try.prog.cellsOf 47 = 3 := by kernel_rfl
  have hx : ∀ i, i < 8 → ∃ y, xs[i]? = some y := fun i hi => ⟨xs[i]'(by have : xs.length = 8 := hlen; omega), List.getElem?_eq_getElem _⟩
  rw [hc] at hl
  match cs, hl with
  | [c0, c1, c2, c3, c4, c5, c6, c7, c8, c9], _ =>
    obtain ⟨y0, hy0⟩ := hx 0 (by decide)
    have e0 : DataW.trod enc Try.prog W 0 (fun _ => true) true n' 3 [c0] = some y0 := by
      have h := hi 0 _ rfl
      rw [hy0] at h
      simpa [k_int] using h
    obtain ⟨y1, hy1⟩ := hx 1 (by decide)
    have e1 : DataW.trod enc Try.prog W 0 (fun _ => true) true n' 3 [c1] = some y1 := by
      have h := hi 1 _ rfl
      rw [hy1] at h
      simpa [k_int] using h
    obtain ⟨y2, hy2⟩ := hx 2 (by decide)
    have e2 : DataW.trod enc Try.prog W 0 (fun _ => true) true n' 4 [c2] = some y2 := by
      have h := hi 2 _ rfl
      rw [hy2] at h
      simpa [k_bool] using h
    obtain ⟨y3, hy3⟩ := hx 3 (by decide)
    have e3 : DataW.trod enc Try.prog W 0 (fun _ => true) true n' 47 [c3, c4, c5] = some y3 := by
      have h := hi 3 _ rfl
      rw [hy3] at h
      simpa [k_Value] using h
    have q3 := flat_Value e3
    obtain ⟨y4, hy4⟩ := hx 4 (by decide)
    have e4 : DataW.trod enc Try.prog W 0 (fun _ => true) true n' 9 [c6] = some y4 := by
      have h := hi 4 _ rfl
      rw [hy4] at h
      simpa [k_str] using h
    obtain ⟨y5, hy5⟩ := hx 5 (by decide)
    have e5 : DataW.trod enc Try.prog W 0 (fun _ => true) true n' 9 [c7] = some y5 := by
      have h := hi 5 _ rfl
      rw [hy5] at h
      simpa [k_str] using h
    obtain ⟨y6, hy6⟩ := hx 6 (by decide)
    have e6 : DataW.trod enc Try.prog W 0 (fun _ => true) true n' 24 [c8] = some y6 := by
      have h := hi 6 _ rfl
      rw [hy6] at h
      simpa [k_exprs] using h
    obtain ⟨y7, hy7⟩ := hx 7 (by decide)
    have e7 : DataW.trod enc Try.prog W 0 (fun _ => true) true n' 48 [c9] = some y7 := by
      have h := hi 7 _ rfl
      rw [hy7] at h
      simpa [k_queries] using h
    exact ⟨rfl, fun j hj => match j, hj with
      | 0, _ => ⟨n', y0, Nat.lt_succ_self _, e0⟩
      | 1, _ => ⟨n', y1, Nat.lt_succ_self _, e1⟩
      | 2, _ => ⟨n', y2, Nat.lt_succ_self _, e2⟩
      | 3, _ => by obtain ⟨m, y, hm, ht⟩ := q3.2 0 (by decide); exact ⟨m, y, by omega, ht⟩
      | 4, _ => by obtain ⟨m, y, hm, ht⟩ := q3.2 1 (by decide); exact ⟨m, y, by omega, ht⟩
      | 5, _ => by obtain ⟨m, y, hm, ht⟩ := q3.2 2 (by decide); exact ⟨m, y, by omega, ht⟩
      | 6, _ => ⟨n', y4, Nat.lt_succ_self _, e4⟩
      | 7, _ => ⟨n', y5, Nat.lt_succ_self _, e5⟩
      | 8, _ => ⟨n', y6, Nat.lt_succ_self _, e6⟩
      | 9, _ => ⟨n', y7, Nat.lt_succ_self _, e7⟩
      | j + 10, hj => absurd hj (by simp [exprTy, rowTy])⟩
set_option maxRecDepth 100000 in
theorem flat_Item {n : Nat} {cs : List Value} {y : DataW H × List MemPlace} (h : DataW.trod enc Try.prog W 0 (fun _ => true) true n 137 cs = some y) : Cells enc W (rowTy .items) n cs := by
  obtain ⟨xs, n', rfl, -, hl, hlen, hi⟩ := DataW.trod_struct Try.underlying137 h
  have hc : Try.prog.cellsOf 137 = 13 := by kernel_rfl
  have k_bool : Try.prog.cellsOf 4 = 1 := by kernel_rfl
  have k_str : Try.prog.cellsOf 9 = 1 := by kernel_rfl
  have k_Expr : Try.prog.cellsOf 50 = 10 := by kernel_rfl
  have hx : ∀ i, i < 4 → ∃ y, xs[i]? = some y := fun i hi => ⟨xs[i]'(by have : xs.length = 4 := hlen; omega), List.getElem?_eq_getElem _⟩
  rw [hc] at hl
  match cs, hl with
  | [c0, c1, c2, c3, c4, c5, c6, c7, c8, c9, c10, c11, c12], _ =>
    obtain ⟨y0, hy0⟩ := hx 0 (by decide)
    have e0 : DataW.trod enc Try.prog W 0 (fun _ => true) true n' 4 [c0] = some y0 := by
      have h := hi 0 _ rfl
      rw [hy0] at h
      simpa [k_bool] using h
    obtain ⟨y1, hy1⟩ := hx 1 (by decide)
    have e1 : DataW.trod enc Try.prog W 0 (fun _ => true) true n' 9 [c1] = some y1 := by
      have h := hi 1 _ rfl
      rw [hy1] at h
      simpa [k_str] using h
    obtain ⟨y2, hy2⟩ := hx 2 (by decide)
    have e2 : DataW.trod enc Try.prog W 0 (fun _ => true) true n' 50 [c2, c3, c4, c5, c6, c7, c8, c9, c10, c11] = some y2 := by
      have h := hi 2 _ rfl
      rw [hy2] at h
      simpa [k_Expr] using h
    have q2 := flat_Expr e2
    obtain ⟨y3, hy3⟩ := hx 3 (by decide)
    have e3 : DataW.trod enc Try.prog W 0 (fun _ => true) true n' 9 [c12] = some y3 := by
      have h := hi 3 _ rfl
      rw [hy3] at h
      simpa [k_str] using h
    exact ⟨rfl, fun j hj => match j, hj with
      | 0, _ => ⟨n', y0, Nat.lt_succ_self _, e0⟩
      | 1, _ => ⟨n', y1, Nat.lt_succ_self _, e1⟩
      | 2, _ => by obtain ⟨m, y, hm, ht⟩ := q2.2 0 (by decide); exact ⟨m, y, by omega, ht⟩
      | 3, _ => by obtain ⟨m, y, hm, ht⟩ := q2.2 1 (by decide); exact ⟨m, y, by omega, ht⟩
      | 4, _ => by obtain ⟨m, y, hm, ht⟩ := q2.2 2 (by decide); exact ⟨m, y, by omega, ht⟩
      | 5, _ => by obtain ⟨m, y, hm, ht⟩ := q2.2 3 (by decide); exact ⟨m, y, by omega, ht⟩
      | 6, _ => by obtain ⟨m, y, hm, ht⟩ := q2.2 4 (by decide); exact ⟨m, y, by omega, ht⟩
      | 7, _ => by obtain ⟨m, y, hm, ht⟩ := q2.2 5 (by decide); exact ⟨m, y, by omega, ht⟩
      | 8, _ => by obtain ⟨m, y, hm, ht⟩ := q2.2 6 (by decide); exact ⟨m, y, by omega, ht⟩
      | 9, _ => by obtain ⟨m, y, hm, ht⟩ := q2.2 7 (by decide); exact ⟨m, y, by omega, ht⟩
      | 10, _ => by obtain ⟨m, y, hm, ht⟩ := q2.2 8 (by decide); exact ⟨m, y, by omega, ht⟩
      | 11, _ => by obtain ⟨m, y, hm, ht⟩ := q2.2 9 (by decide); exact ⟨m, y, by omega, ht⟩
      | 12, _ => ⟨n', y3, Nat.lt_succ_self _, e3⟩
      | j + 13, hj => absurd hj (by simp [exprTy, rowTy])⟩
set_option maxRecDepth 100000 in
theorem flat_Source {n : Nat} {cs : List Value} {y : DataW H × List MemPlace} (h : DataW.trod enc Try.prog W 0 (fun _ => true) true n 140 cs = some y) : Cells enc W (rowTy .sources) n cs := by
  obtain ⟨xs, n', rfl, -, hl, hlen, hi⟩ := DataW.trod_struct Try.underlying140 h
  have hc : Try.prog.cellsOf 140 = 3 := by kernel_rfl
  have k_exprs : Try.prog.cellsOf 24 = 1 := by kernel_rfl
  have k_str : Try.prog.cellsOf 9 = 1 := by kernel_rfl
  have hx : ∀ i, i < 3 → ∃ y, xs[i]? = some y := fun i hi => ⟨xs[i]'(by have : xs.length = 3 := hlen; omega), List.getElem?_eq_getElem _⟩
  rw [hc] at hl
  match cs, hl with
  | [c0, c1, c2], _ =>
    obtain ⟨y0, hy0⟩ := hx 0 (by decide)
    have e0 : DataW.trod enc Try.prog W 0 (fun _ => true) true n' 9 [c0] = some y0 := by
      have h := hi 0 _ rfl
      rw [hy0] at h
      simpa [k_str] using h
    obtain ⟨y1, hy1⟩ := hx 1 (by decide)
    have e1 : DataW.trod enc Try.prog W 0 (fun _ => true) true n' 9 [c1] = some y1 := by
      have h := hi 1 _ rfl
      rw [hy1] at h
      simpa [k_str] using h
    obtain ⟨y2, hy2⟩ := hx 2 (by decide)
    have e2 : DataW.trod enc Try.prog W 0 (fun _ => true) true n' 24 [c2] = some y2 := by
      have h := hi 2 _ rfl
      rw [hy2] at h
      simpa [k_exprs] using h
    exact ⟨rfl, fun j hj => match j, hj with
      | 0, _ => ⟨n', y0, Nat.lt_succ_self _, e0⟩
      | 1, _ => ⟨n', y1, Nat.lt_succ_self _, e1⟩
      | 2, _ => ⟨n', y2, Nat.lt_succ_self _, e2⟩
      | j + 3, hj => absurd hj (by simp [exprTy, rowTy])⟩
set_option maxRecDepth 100000 in
theorem flat_SortKey {n : Nat} {cs : List Value} {y : DataW H × List MemPlace} (h : DataW.trod enc Try.prog W 0 (fun _ => true) true n 143 cs = some y) : Cells enc W (rowTy .keys) n cs := by
  obtain ⟨xs, n', rfl, -, hl, hlen, hi⟩ := DataW.trod_struct Try.underlying143 h
  have hc : Try.prog.cellsOf 143 = 11 := by kernel_rfl
  have k_bool : Try.prog.cellsOf 4 = 1 := by kernel_rfl
  have k_Expr : Try.prog.cellsOf 50 = 10 := by kernel_rfl
  have hx : ∀ i, i < 2 → ∃ y, xs[i]? = some y := fun i hi => ⟨xs[i]'(by have : xs.length = 2 := hlen; omega), List.getElem?_eq_getElem _⟩
  rw [hc] at hl
  match cs, hl with
  | [c0, c1, c2, c3, c4, c5, c6, c7, c8, c9, c10], _ =>
    obtain ⟨y0, hy0⟩ := hx 0 (by decide)
    have e0 : DataW.trod enc Try.prog W 0 (fun _ => true) true n' 50 [c0, c1, c2, c3, c4, c5, c6, c7, c8, c9] = some y0 := by
      have h := hi 0 _ rfl
      rw [hy0] at h
      simpa [k_Expr] using h
    have q0 := flat_Expr e0
    obtain ⟨y1, hy1⟩ := hx 1 (by decide)
    have e1 : DataW.trod enc Try.prog W 0 (fun _ => true) true n' 4 [c10] = some y1 := by
      have h := hi 1 _ rfl
      rw [hy1] at h
      simpa [k_bool] using h
    exact ⟨rfl, fun j hj => match j, hj with
      | 0, _ => by obtain ⟨m, y, hm, ht⟩ := q0.2 0 (by decide); exact ⟨m, y, by omega, ht⟩
      | 1, _ => by obtain ⟨m, y, hm, ht⟩ := q0.2 1 (by decide); exact ⟨m, y, by omega, ht⟩
      | 2, _ => by obtain ⟨m, y, hm, ht⟩ := q0.2 2 (by decide); exact ⟨m, y, by omega, ht⟩
      | 3, _ => by obtain ⟨m, y, hm, ht⟩ := q0.2 3 (by decide); exact ⟨m, y, by omega, ht⟩
      | 4, _ => by obtain ⟨m, y, hm, ht⟩ := q0.2 4 (by decide); exact ⟨m, y, by omega, ht⟩
      | 5, _ => by obtain ⟨m, y, hm, ht⟩ := q0.2 5 (by decide); exact ⟨m, y, by omega, ht⟩
      | 6, _ => by obtain ⟨m, y, hm, ht⟩ := q0.2 6 (by decide); exact ⟨m, y, by omega, ht⟩
      | 7, _ => by obtain ⟨m, y, hm, ht⟩ := q0.2 7 (by decide); exact ⟨m, y, by omega, ht⟩
      | 8, _ => by obtain ⟨m, y, hm, ht⟩ := q0.2 8 (by decide); exact ⟨m, y, by omega, ht⟩
      | 9, _ => by obtain ⟨m, y, hm, ht⟩ := q0.2 9 (by decide); exact ⟨m, y, by omega, ht⟩
      | 10, _ => ⟨n', y1, Nat.lt_succ_self _, e1⟩
      | j + 11, hj => absurd hj (by simp [exprTy, rowTy])⟩
set_option maxRecDepth 100000 in
theorem flat_Query {n : Nat} {cs : List Value} {y : DataW H × List MemPlace} (h : DataW.trod enc Try.prog W 0 (fun _ => true) true n 27 cs = some y) : Cells enc W (rowTy .queries) n cs := by
  obtain ⟨xs, n', rfl, -, hl, hlen, hi⟩ := DataW.trod_struct Try.underlying27 h
  have hc : Try.prog.cellsOf 27 = 6 := by kernel_rfl
  have k_bool : Try.prog.cellsOf 4 = 1 := by kernel_rfl
  have k_exprs : Try.prog.cellsOf 24 = 1 := by kernel_rfl
  have k_int : Try.prog.cellsOf 3 = 1 := by kernel_rfl
  have k_items : Try.prog.cellsOf 22 = 1 := by kernel_rfl
  have k_keys : Try.prog.cellsOf 25 = 1 := by kernel_rfl
  have k_sources : Try.prog.cellsOf 23 = 1 := by kernel_rfl
  have hx : ∀ i, i < 6 → ∃ y, xs[i]? = some y := fun i hi => ⟨xs[i]'(by have : xs.length = 6 := hlen; omega), List.getElem?_eq_getElem _⟩
  rw [hc] at hl
  match cs, hl with
  | [c0, c1, c2, c3, c4, c5], _ =>
    obtain ⟨y0, hy0⟩ := hx 0 (by decide)
    have e0 : DataW.trod enc Try.prog W 0 (fun _ => true) true n' 4 [c0] = some y0 := by
      have h := hi 0 _ rfl
      rw [hy0] at h
      simpa [k_bool] using h
    obtain ⟨y1, hy1⟩ := hx 1 (by decide)
    have e1 : DataW.trod enc Try.prog W 0 (fun _ => true) true n' 22 [c1] = some y1 := by
      have h := hi 1 _ rfl
      rw [hy1] at h
      simpa [k_items] using h
    obtain ⟨y2, hy2⟩ := hx 2 (by decide)
    have e2 : DataW.trod enc Try.prog W 0 (fun _ => true) true n' 23 [c2] = some y2 := by
      have h := hi 2 _ rfl
      rw [hy2] at h
      simpa [k_sources] using h
    obtain ⟨y3, hy3⟩ := hx 3 (by decide)
    have e3 : DataW.trod enc Try.prog W 0 (fun _ => true) true n' 24 [c3] = some y3 := by
      have h := hi 3 _ rfl
      rw [hy3] at h
      simpa [k_exprs] using h
    obtain ⟨y4, hy4⟩ := hx 4 (by decide)
    have e4 : DataW.trod enc Try.prog W 0 (fun _ => true) true n' 25 [c4] = some y4 := by
      have h := hi 4 _ rfl
      rw [hy4] at h
      simpa [k_keys] using h
    obtain ⟨y5, hy5⟩ := hx 5 (by decide)
    have e5 : DataW.trod enc Try.prog W 0 (fun _ => true) true n' 3 [c5] = some y5 := by
      have h := hi 5 _ rfl
      rw [hy5] at h
      simpa [k_int] using h
    exact ⟨rfl, fun j hj => match j, hj with
      | 0, _ => ⟨n', y0, Nat.lt_succ_self _, e0⟩
      | 1, _ => ⟨n', y1, Nat.lt_succ_self _, e1⟩
      | 2, _ => ⟨n', y2, Nat.lt_succ_self _, e2⟩
      | 3, _ => ⟨n', y3, Nat.lt_succ_self _, e3⟩
      | 4, _ => ⟨n', y4, Nat.lt_succ_self _, e4⟩
      | 5, _ => ⟨n', y5, Nat.lt_succ_self _, e5⟩
      | j + 6, hj => absurd hj (by simp [exprTy, rowTy])⟩

/-- one slice's elements, as cells -/
theorem rows_flat {ty : Ty} (hd : tree ty = true) : ∃ e : TypeId, Try.prog.underlying (tid ty) = some (.slice e) ∧ Try.prog.cellsOf e = (rowTy ty).length ∧
    ∀ {n : Nat} {cs : List Value} {y : DataW H × List MemPlace}, DataW.trod enc Try.prog W 0 (fun _ => true) true n e cs = some y → Cells enc W (rowTy ty) n cs := by
  cases ty
  case int => cases hd
  case bool => cases hd
  case str => cases hd
  case rows => cases hd
  case names => cases hd
  case exprs => exact ⟨50, Try.underlying24, by kernel_rfl, fun h => flat_Expr h⟩
  case items => exact ⟨137, Try.underlying22, by kernel_rfl, fun h => flat_Item h⟩
  case sources => exact ⟨140, Try.underlying23, by kernel_rfl, fun h => flat_Source h⟩
  case keys => exact ⟨143, Try.underlying25, by kernel_rfl, fun h => flat_SortKey h⟩
  case queries => exact ⟨27, Try.underlying48, by kernel_rfl, fun h => flat_Query h⟩

theorem add_none {g o i : Nat} : (Addr.mk g o none).add i = ⟨g, o + i, none⟩ := by
  unfold Addr.add
  split <;> simp_all
/-- whatever has come in as one of the type reads as a datum of it -/
theorem cell_dat : ∀ (n : Nat) (ty : Ty) (x : Value) (y : DataW H × List MemPlace), plainTy ty = true → DataW.trod enc Try.prog W 0 (fun _ => true) true n (tid ty) [x] = some y → ∃ d, Rd W 0 x d ∧ Fits d ty := by
  intro n
  induction n using Nat.strongRecOn with
  | _ n ih =>
    intro ty x y hp h
    by_cases hd : tree ty = true
    · have hdp : deep ty = true := by cases ty <;> first | (cases hd; done) | rfl
      have hpr := List.all_eq_true.1 (plain_row hd)
      obtain ⟨e, hu, hk, hflat⟩ := rows_flat (H := H) (enc := enc) (W := W) hd
      have hk0 : 0 < (rowTy ty).length := by cases ty <;> first | (cases hd; done) | decide
      rcases DataW.trod_slice hu h with ⟨hcs, _⟩ | ⟨ad, len, cap, elems, rest, n', rfl, hcs, _, _, hlc, hcm, hel, hi, _, _⟩
      · obtain rfl : x = .slice none 0 0 := by simpa using hcs
        refine ⟨.sl 0 (rowTy ty).length fun _ _ => .v undef, ⟨none, 0, rfl, Nat.le_refl _, fun _ => rfl, .inl rfl⟩, ?_⟩
        exact ⟨hdp, by omega, rfl, fun i hi => by omega⟩
      · obtain rfl : x = .slice (some ad) len cap := by simpa using hcs
        have row : ∀ i, i < len → ∃ cs', W.cells? 0 (ad.add (i * (rowTy ty).length)) (rowTy ty).length = some cs' ∧ Cells enc W (rowTy ty) n' cs' := fun i hil => by
          have h1 := hi i hil
          rw [List.getElem?_eq_getElem (by omega), Option.bind_eq_some_iff, hk] at h1
          obtain ⟨cs', h2, h3⟩ := h1
          exact ⟨cs', h2, hflat h3⟩
        obtain ⟨g, o, spot⟩ := ad
        have hsp : 0 < len → spot = none := fun h0 => by
          obtain ⟨cs', h2, h3⟩ := row 0 h0
          obtain ⟨_, hl, hat⟩ := World.cells?_some h2
          have c0 := hat 0 hk0
          have e0 : ((Addr.mk g o spot).add (0 * (rowTy ty).length)).add 0 = Addr.mk g o spot := by unfold Addr.add; simp
          rw [e0, List.getElem?_eq_getElem (by omega)] at c0
          simpa using World.cell?_spot c0
        have key : ∀ i, i < len → ∃ F : Nat → Dat, ∀ j (hj : j < (rowTy ty).length), ∃ y, W.cell? ⟨g, o + i * (rowTy ty).length + j, none⟩ = some y ∧ Rd W 0 y (F j) ∧ Fits (F j) ((rowTy ty)[j]) := fun i hil => by
          obtain ⟨cs', h2, h3⟩ := row i hil
          have hs := hsp (by omega)
          subst hs
          obtain ⟨_, hl, hat⟩ := World.cells?_some h2
          have one : ∀ j (hj : j < (rowTy ty).length), ∃ d, Rd W 0 (cs'.getD j undef) d ∧ Fits d ((rowTy ty)[j]) := fun j hj => by
            obtain ⟨m, y, hm, ht⟩ := h3.2 j hj
            exact ih m (by omega) _ _ _ (hpr _ (List.getElem_mem hj)) ht
          refine ⟨fun j => if hj : j < (rowTy ty).length then Classical.choose (one j hj) else .v undef, fun j hj => ⟨cs'.getD j undef, ?_, ?_⟩⟩
          · have c := hat j hj
            rw [add_none, add_none] at c
            rw [c, List.getElem?_eq_getElem (by omega), List.getD_eq_getElem?_getD, List.getElem?_eq_getElem (by omega)]
            rfl
          · simp only [dif_pos hj]
            exact Classical.choose_spec (one j hj)
        refine ⟨.sl len (rowTy ty).length fun i => if hil : i < len then Classical.choose (key i hil) else fun _ => .v undef, ?_, ?_⟩
        · refine ⟨some ⟨g, o, spot⟩, cap, rfl, hlc, (fun h => by cases h), ?_⟩
          by_cases h0 : len = 0
          · exact .inl h0
          · refine .inr ?_
            have hs := hsp (by omega)
            subst hs
            have lt : g < W.heap.size := by
              obtain ⟨y, hy, _⟩ := Classical.choose_spec (key 0 (by omega)) 0 hk0
              rcases Nat.lt_or_ge g W.heap.size with hb | hb
              · exact hb
              · exfalso
                have : W.heap[g]? = none := Array.getElem?_eq_none hb
                simp [World.cell?, this] at hy
            refine ⟨g, o, rfl, Nat.zero_le _, lt, fun i hil j hj => ?_⟩
            obtain ⟨y, hy, hr, _⟩ := Classical.choose_spec (key i hil) j hj
            exact ⟨y, hy, by simp only [dif_pos hil]; exact hr⟩
        · refine ⟨hdp, by unfold maxLen at hcm; omega, rfl, fun i hil j hj => ?_⟩
          obtain ⟨y, hy, _, hf⟩ := Classical.choose_spec (key i hil) j hj
          simp only [dif_pos hil]; exact hf
    · cases ty
      case int =>
        obtain ⟨k, hk, -, hw⟩ := DataW.trod_int Try.underlying3 h
        obtain rfl : x = .int .i64 k := by simpa using hk
        exact ⟨.v (.int .i64 k), rfl, k, rfl, i64_bds hw⟩
      case bool =>
        obtain ⟨b, hb, -⟩ := DataW.trod_bool Try.underlying4 h
        obtain rfl : x = .bool b := by simpa using hb
        exact ⟨.v (.bool b), rfl, b, rfl⟩
      case str =>
        obtain ⟨b, hb, -, hw⟩ := DataW.trod_string Try.underlying9 h
        obtain rfl : x = .string b := by simpa using hb
        exact ⟨.v (.string b), rfl, b, rfl, hw⟩
      all_goals first | exact absurd rfl hd | cases hp
end
end Go.Proofs.Ytfmgkinindkedaa

/- The elements of trees' slices, cell by cell. -/
namespace Go.Proofs.Ytfmgkinindkedaa
open Go.RowKit

theorem Fits.int {d : Dat} (h : Fits d .int) : ∃ n : Int, d = .v (.int .i64 n) ∧ -9223372036854775808 ≤ n ∧ n ≤ 9223372036854775807 := by
  cases d with
  | v x => obtain ⟨n, rfl, h1⟩ := h; exact ⟨n, rfl, h1⟩
  | sl n k f => exact absurd h.1 (by decide)
theorem Fits.bool {d : Dat} (h : Fits d .bool) : ∃ b : Bool, d = .v (.bool b) := by
  cases d with
  | v x => obtain ⟨n, rfl⟩ := h; exact ⟨n, rfl⟩
  | sl n k f => exact absurd h.1 (by decide)
theorem Fits.str {d : Dat} (h : Fits d .str) : ∃ s : ByteArray, d = .v (.string s) ∧ s.size ≤ 9223372036854775807 := by
  cases d with
  | v x => obtain ⟨n, rfl, h1⟩ := h; exact ⟨n, rfl, h1⟩
  | sl n k f => exact absurd h.1 (by decide)
theorem Fits.deep {d : Dat} {ty : Ty} (h : Fits d ty) (hd : deep ty = true) : ∃ (n k : Nat) (f : Nat → Nat → Dat), d = .sl n k f := by
  cases d with
  | v x => cases ty <;> first | (cases hd; done) | exact h.elim
  | sl n k f => exact ⟨n, k, f, rfl⟩
/-- a cell that holds a slice -/
theorem Rd.slice_of {w : World} {L : Nat} {d : Dat} {x : Value} {ty : Ty} (h : Rd w L x d) (hf : Fits d ty) (hd : Go.Proofs.Ytfmgkinindkedaa.deep ty = true) : ∃ (a : Option Addr) (n cap : Nat), x = .slice a n cap := by
  obtain ⟨n, k, f, rfl⟩ := hf.deep hd
  obtain ⟨a, cap, e, _⟩ := h
  exact ⟨a, n, cap, e⟩
theorem row_exprs {w : World} {L n k m : Nat} {f : Nat → Nat → Dat} {a : Option Addr} {cap : Nat} (h : Rd w L (.slice a m cap) (.sl n k f)) (hf : Fits (.sl n k f) .exprs) {i : Nat} (hi : i < n) :
    ∃ (g o : Nat), a = some ⟨g, o, none⟩ ∧ L ≤ g ∧ g < w.heap.size ∧ ∃ (c0 : Int) (c1 : Int) (c2 : Bool) (c3 : Int) (c4 : Int) (c5 : ByteArray) (c6 : ByteArray) (c7 : ByteArray) (c8 : Value) (c9 : Value),
      (w.cell? ⟨g, o + i * 10, none⟩ = some (.int .i64 c0) ∧ w.cell? ⟨g, o + i * 10 + 1, none⟩ = some (.int .i64 c1) ∧ w.cell? ⟨g, o + i * 10 + 2, none⟩ = some (.bool c2) ∧ w.cell? ⟨g, o + i * 10 + 3, none⟩ = some (.int .i64 c3) ∧ w.cell? ⟨g, o + i * 10 + 4, none⟩ = some (.int .i64 c4) ∧ w.cell? ⟨g, o + i * 10 + 5, none⟩ = some (.string c5) ∧ w.cell? ⟨g, o + i * 10 + 6, none⟩ = some (.string c6) ∧ w.cell? ⟨g, o + i * 10 + 7, none⟩ = some (.string c7) ∧ w.cell? ⟨g, o + i * 10 + 8, none⟩ = some (c8) ∧ w.cell? ⟨g, o + i * 10 + 9, none⟩ = some (c9)) ∧
      ((f i 0 = .v (.int .i64 c0) ∧ -9223372036854775808 ≤ c0 ∧ c0 ≤ 9223372036854775807) ∧ (f i 1 = .v (.int .i64 c1) ∧ -9223372036854775808 ≤ c1 ∧ c1 ≤ 9223372036854775807) ∧ f i 2 = .v (.bool c2) ∧ (f i 3 = .v (.int .i64 c3) ∧ -9223372036854775808 ≤ c3 ∧ c3 ≤ 9223372036854775807) ∧ (f i 4 = .v (.int .i64 c4) ∧ -9223372036854775808 ≤ c4 ∧ c4 ≤ 9223372036854775807) ∧ (f i 5 = .v (.string c5) ∧ c5.size ≤ 9223372036854775807) ∧ (f i 6 = .v (.string c6) ∧ c6.size ≤ 9223372036854775807) ∧ (f i 7 = .v (.string c7) ∧ c7.size ≤ 9223372036854775807) ∧ (Rd w L c8 (f i 8) ∧ Fits (f i 8) .exprs) ∧ (Rd w L c9 (f i 9) ∧ Fits (f i 9) .queries)) := by
  obtain ⟨_, _, hk, hfit⟩ := hf
  obtain rfl : k = 10 := hk
  obtain ⟨_, g, o, ea, hL, hg, hc⟩ := h.elem hi
  obtain ⟨y0, z0, r0⟩ := hc 0 (by decide)
  have f0 : Fits (f i 0) .int := hfit i hi 0 (by decide)
  obtain ⟨c0, e0, b0⟩ := f0.int
  rw [e0] at r0
  obtain rfl : y0 = .int .i64 c0 := r0
  obtain ⟨y1, z1, r1⟩ := hc 1 (by decide)
  have f1 : Fits (f i 1) .int := hfit i hi 1 (by decide)
  obtain ⟨c1, e1, b1⟩ := f1.int
  rw [e1] at r1
  obtain rfl : y1 = .int .i64 c1 := r1
  obtain ⟨y2, z2, r2⟩ := hc 2 (by decide)
  have f2 : Fits (f i 2) .bool := hfit i hi 2 (by decide)
  obtain ⟨c2, e2⟩ := f2.bool
  rw [e2] at r2
  obtain rfl : y2 = .bool c2 := r2
  obtain ⟨y3, z3, r3⟩ := hc 3 (by decide)
  have f3 : Fits (f i 3) .int := hfit i hi 3 (by decide)
  obtain ⟨c3, e3, b3⟩ := f3.int
  rw [e3] at r3
  obtain rfl : y3 = .int .i64 c3 := r3
  obtain ⟨y4, z4, r4⟩ := hc 4 (by decide)
  have f4 : Fits (f i 4) .int := hfit i hi 4 (by decide)
  obtain ⟨c4, e4, b4⟩ := f4.int
  rw [e4] at r4
  obtain rfl : y4 = .int .i64 c4 := r4
  obtain ⟨y5, z5, r5⟩ := hc 5 (by decide)
  have f5 : Fits (f i 5) .str := hfit i hi 5 (by decide)
  obtain ⟨c5, e5, b5⟩ := f5.str
  rw [e5] at r5
  obtain rfl : y5 = .string c5 := r5
  obtain ⟨y6, z6, r6⟩ := hc 6 (by decide)
  have f6 : Fits (f i 6) .str := hfit i hi 6 (by decide)
  obtain ⟨c6, e6, b6⟩ := f6.str
  rw [e6] at r6
  obtain rfl : y6 = .string c6 := r6
  obtain ⟨y7, z7, r7⟩ := hc 7 (by decide)
  have f7 : Fits (f i 7) .str := hfit i hi 7 (by decide)
  obtain ⟨c7, e7, b7⟩ := f7.str
  rw [e7] at r7
  obtain rfl : y7 = .string c7 := r7
  obtain ⟨y8, z8, r8⟩ := hc 8 (by decide)
  have f8 : Fits (f i 8) .exprs := hfit i hi 8 (by decide)
  obtain ⟨y9, z9, r9⟩ := hc 9 (by decide)
  have f9 : Fits (f i 9) .queries := hfit i hi 9 (by decide)
  exact ⟨g, o, ea, hL, hg, c0, c1, c2, c3, c4, c5, c6, c7, y8, y9, ⟨z0, z1, z2, z3, z4, z5, z6, z7, z8, z9⟩, ⟨⟨e0, b0⟩, ⟨e1, b1⟩, e2, ⟨e3, b3⟩, ⟨e4, b4⟩, ⟨e5, b5⟩, ⟨e6, b6⟩, ⟨e7, b7⟩, ⟨r8, f8⟩, ⟨r9, f9⟩⟩⟩
theorem row_items {w : World} {L n k m : Nat} {f : Nat → Nat → Dat} {a : Option Addr} {cap : Nat} (h : Rd w L (.slice a m cap) (.sl n k f)) (hf : Fits (.sl n k f) .items) {i : Nat} (hi : i < n) :
    ∃ (g o : Nat), a = some ⟨g, o, none⟩ ∧ L ≤ g ∧ g < w.heap.size ∧ ∃ (c0 : Bool) (c1 : ByteArray) (c2 : Int) (c3 : Int) (c4 : Bool) (c5 : Int) (c6 : Int) (c7 : ByteArray) (c8 : ByteArray) (c9 : ByteArray) (c10 : Value) (c11 : Value) (c12 : ByteArray),
      (w.cell? ⟨g, o + i * 13, none⟩ = some (.bool c0) ∧ w.cell? ⟨g, o + i * 13 + 1, none⟩ = some (.string c1) ∧ w.cell? ⟨g, o + i * 13 + 2, none⟩ = some (.int .i64 c2) ∧ w.cell? ⟨g, o + i * 13 + 3, none⟩ = some (.int .i64 c3) ∧ w.cell? ⟨g, o + i * 13 + 4, none⟩ = some (.bool c4) ∧ w.cell? ⟨g, o + i * 13 + 5, none⟩ = some (.int .i64 c5) ∧ w.cell? ⟨g, o + i * 13 + 6, none⟩ = some (.int .i64 c6) ∧ w.cell? ⟨g, o + i * 13 + 7, none⟩ = some (.string c7) ∧ w.cell? ⟨g, o + i * 13 + 8, none⟩ = some (.string c8) ∧ w.cell? ⟨g, o + i * 13 + 9, none⟩ = some (.string c9) ∧ w.cell? ⟨g, o + i * 13 + 10, none⟩ = some (c10) ∧ w.cell? ⟨g, o + i * 13 + 11, none⟩ = some (c11) ∧ w.cell? ⟨g, o + i * 13 + 12, none⟩ = some (.string c12)) ∧
      (f i 0 = .v (.bool c0) ∧ (f i 1 = .v (.string c1) ∧ c1.size ≤ 9223372036854775807) ∧ (f i 2 = .v (.int .i64 c2) ∧ -9223372036854775808 ≤ c2 ∧ c2 ≤ 9223372036854775807) ∧ (f i 3 = .v (.int .i64 c3) ∧ -9223372036854775808 ≤ c3 ∧ c3 ≤ 9223372036854775807) ∧ f i 4 = .v (.bool c4) ∧ (f i 5 = .v (.int .i64 c5) ∧ -9223372036854775808 ≤ c5 ∧ c5 ≤ 9223372036854775807) ∧ (f i 6 = .v (.int .i64 c6) ∧ -9223372036854775808 ≤ c6 ∧ c6 ≤ 9223372036854775807) ∧ (f i 7 = .v (.string c7) ∧ c7.size ≤ 9223372036854775807) ∧ (f i 8 = .v (.string c8) ∧ c8.size ≤ 9223372036854775807) ∧ (f i 9 = .v (.string c9) ∧ c9.size ≤ 9223372036854775807) ∧ (Rd w L c10 (f i 10) ∧ Fits (f i 10) .exprs) ∧ (Rd w L c11 (f i 11) ∧ Fits (f i 11) .queries) ∧ (f i 12 = .v (.string c12) ∧ c12.size ≤ 9223372036854775807)) := by
  obtain ⟨_, _, hk, hfit⟩ := hf
  obtain rfl : k = 13 := hk
  obtain ⟨_, g, o, ea, hL, hg, hc⟩ := h.elem hi
  obtain ⟨y0, z0, r0⟩ := hc 0 (by decide)
  have f0 : Fits (f i 0) .bool := hfit i hi 0 (by decide)
  obtain ⟨c0, e0⟩ := f0.bool
  rw [e0] at r0
  obtain rfl : y0 = .bool c0 := r0
  obtain ⟨y1, z1, r1⟩ := hc 1 (by decide)
  have f1 : Fits (f i 1) .str := hfit i hi 1 (by decide)
  obtain ⟨c1, e1, b1⟩ := f1.str
  rw [e1] at r1
  obtain rfl : y1 = .string c1 := r1
  obtain ⟨y2, z2, r2⟩ := hc 2 (by decide)
  have f2 : Fits (f i 2) .int := hfit i hi 2 (by decide)
  obtain ⟨c2, e2, b2⟩ := f2.int
  rw [e2] at r2
  obtain rfl : y2 = .int .i64 c2 := r2
  obtain ⟨y3, z3, r3⟩ := hc 3 (by decide)
  have f3 : Fits (f i 3) .int := hfit i hi 3 (by decide)
  obtain ⟨c3, e3, b3⟩ := f3.int
  rw [e3] at r3
  obtain rfl : y3 = .int .i64 c3 := r3
  obtain ⟨y4, z4, r4⟩ := hc 4 (by decide)
  have f4 : Fits (f i 4) .bool := hfit i hi 4 (by decide)
  obtain ⟨c4, e4⟩ := f4.bool
  rw [e4] at r4
  obtain rfl : y4 = .bool c4 := r4
  obtain ⟨y5, z5, r5⟩ := hc 5 (by decide)
  have f5 : Fits (f i 5) .int := hfit i hi 5 (by decide)
  obtain ⟨c5, e5, b5⟩ := f5.int
  rw [e5] at r5
  obtain rfl : y5 = .int .i64 c5 := r5
  obtain ⟨y6, z6, r6⟩ := hc 6 (by decide)
  have f6 : Fits (f i 6) .int := hfit i hi 6 (by decide)
  obtain ⟨c6, e6, b6⟩ := f6.int
  rw [e6] at r6
  obtain rfl : y6 = .int .i64 c6 := r6
  obtain ⟨y7, z7, r7⟩ := hc 7 (by decide)
  have f7 : Fits (f i 7) .str := hfit i hi 7 (by decide)
  obtain ⟨c7, e7, b7⟩ := f7.str
  rw [e7] at r7
  obtain rfl : y7 = .string c7 := r7
  obtain ⟨y8, z8, r8⟩ := hc 8 (by decide)
  have f8 : Fits (f i 8) .str := hfit i hi 8 (by decide)
  obtain ⟨c8, e8, b8⟩ := f8.str
  rw [e8] at r8
  obtain rfl : y8 = .string c8 := r8
  obtain ⟨y9, z9, r9⟩ := hc 9 (by decide)
  have f9 : Fits (f i 9) .str := hfit i hi 9 (by decide)
  obtain ⟨c9, e9, b9⟩ := f9.str
  rw [e9] at r9
  obtain rfl : y9 = .string c9 := r9
  obtain ⟨y10, z10, r10⟩ := hc 10 (by decide)
  have f10 : Fits (f i 10) .exprs := hfit i hi 10 (by decide)
  obtain ⟨y11, z11, r11⟩ := hc 11 (by decide)
  have f11 : Fits (f i 11) .queries := hfit i hi 11 (by decide)
  obtain ⟨y12, z12, r12⟩ := hc 12 (by decide)
  have f12 : Fits (f i 12) .str := hfit i hi 12 (by decide)
  obtain ⟨c12, e12, b12⟩ := f12.str
  rw [e12] at r12
  obtain rfl : y12 = .string c12 := r12
  exact ⟨g, o, ea, hL, hg, c0, c1, c2, c3, c4, c5, c6, c7, c8, c9, y10, y11, c12, ⟨z0, z1, z2, z3, z4, z5, z6, z7, z8, z9, z10, z11, z12⟩, ⟨e0, ⟨e1, b1⟩, ⟨e2, b2⟩, ⟨e3, b3⟩, e4, ⟨e5, b5⟩, ⟨e6, b6⟩, ⟨e7, b7⟩, ⟨e8, b8⟩, ⟨e9, b9⟩, ⟨r10, f10⟩, ⟨r11, f11⟩, ⟨e12, b12⟩⟩⟩
theorem row_sources {w : World} {L n k m : Nat} {f : Nat → Nat → Dat} {a : Option Addr} {cap : Nat} (h : Rd w L (.slice a m cap) (.sl n k f)) (hf : Fits (.sl n k f) .sources) {i : Nat} (hi : i < n) :
    ∃ (g o : Nat), a = some ⟨g, o, none⟩ ∧ L ≤ g ∧ g < w.heap.size ∧ ∃ (c0 : ByteArray) (c1 : ByteArray) (c2 : Value),
      (w.cell? ⟨g, o + i * 3, none⟩ = some (.string c0) ∧ w.cell? ⟨g, o + i * 3 + 1, none⟩ = some (.string c1) ∧ w.cell? ⟨g, o + i * 3 + 2, none⟩ = some (c2)) ∧
      ((f i 0 = .v (.string c0) ∧ c0.size ≤ 9223372036854775807) ∧ (f i 1 = .v (.string c1) ∧ c1.size ≤ 9223372036854775807) ∧ (Rd w L c2 (f i 2) ∧ Fits (f i 2) .exprs)) := by
  obtain ⟨_, _, hk, hfit⟩ := hf
  obtain rfl : k = 3 := hk
  obtain ⟨_, g, o, ea, hL, hg, hc⟩ := h.elem hi
  obtain ⟨y0, z0, r0⟩ := hc 0 (by decide)
  have f0 : Fits (f i 0) .str := hfit i hi 0 (by decide)
  obtain ⟨c0, e0, b0⟩ := f0.str
  rw [e0] at r0
  obtain rfl : y0 = .string c0 := r0
  obtain ⟨y1, z1, r1⟩ := hc 1 (by decide)
  have f1 : Fits (f i 1) .str := hfit i hi 1 (by decide)
  obtain ⟨c1, e1, b1⟩ := f1.str
  rw [e1] at r1
  obtain rfl : y1 = .string c1 := r1
  obtain ⟨y2, z2, r2⟩ := hc 2 (by decide)
  have f2 : Fits (f i 2) .exprs := hfit i hi 2 (by decide)
  exact ⟨g, o, ea, hL, hg, c0, c1, y2, ⟨z0, z1, z2⟩, ⟨⟨e0, b0⟩, ⟨e1, b1⟩, ⟨r2, f2⟩⟩⟩
theorem row_keys {w : World} {L n k m : Nat} {f : Nat → Nat → Dat} {a : Option Addr} {cap : Nat} (h : Rd w L (.slice a m cap) (.sl n k f)) (hf : Fits (.sl n k f) .keys) {i : Nat} (hi : i < n) :
    ∃ (g o : Nat), a = some ⟨g, o, none⟩ ∧ L ≤ g ∧ g < w.heap.size ∧ ∃ (c0 : Int) (c1 : Int) (c2 : Bool) (c3 : Int) (c4 : Int) (c5 : ByteArray) (c6 : ByteArray) (c7 : ByteArray) (c8 : Value) (c9 : Value) (c10 : Bool),
      (w.cell? ⟨g, o + i * 11, none⟩ = some (.int .i64 c0) ∧ w.cell? ⟨g, o + i * 11 + 1, none⟩ = some (.int .i64 c1) ∧ w.cell? ⟨g, o + i * 11 + 2, none⟩ = some (.bool c2) ∧ w.cell? ⟨g, o + i * 11 + 3, none⟩ = some (.int .i64 c3) ∧ w.cell? ⟨g, o + i * 11 + 4, none⟩ = some (.int .i64 c4) ∧ w.cell? ⟨g, o + i * 11 + 5, none⟩ = some (.string c5) ∧ w.cell? ⟨g, o + i * 11 + 6, none⟩ = some (.string c6) ∧ w.cell? ⟨g, o + i * 11 + 7, none⟩ = some (.string c7) ∧ w.cell? ⟨g, o + i * 11 + 8, none⟩ = some (c8) ∧ w.cell? ⟨g, o + i * 11 + 9, none⟩ = some (c9) ∧ w.cell? ⟨g, o + i * 11 + 10, none⟩ = some (.bool c10)) ∧
      ((f i 0 = .v (.int .i64 c0) ∧ -9223372036854775808 ≤ c0 ∧ c0 ≤ 9223372036854775807) ∧ (f i 1 = .v (.int .i64 c1) ∧ -9223372036854775808 ≤ c1 ∧ c1 ≤ 9223372036854775807) ∧ f i 2 = .v (.bool c2) ∧ (f i 3 = .v (.int .i64 c3) ∧ -9223372036854775808 ≤ c3 ∧ c3 ≤ 9223372036854775807) ∧ (f i 4 = .v (.int .i64 c4) ∧ -9223372036854775808 ≤ c4 ∧ c4 ≤ 9223372036854775807) ∧ (f i 5 = .v (.string c5) ∧ c5.size ≤ 9223372036854775807) ∧ (f i 6 = .v (.string c6) ∧ c6.size ≤ 9223372036854775807) ∧ (f i 7 = .v (.string c7) ∧ c7.size ≤ 9223372036854775807) ∧ (Rd w L c8 (f i 8) ∧ Fits (f i 8) .exprs) ∧ (Rd w L c9 (f i 9) ∧ Fits (f i 9) .queries) ∧ f i 10 = .v (.bool c10)) := by
  obtain ⟨_, _, hk, hfit⟩ := hf
  obtain rfl : k = 11 := hk
  obtain ⟨_, g, o, ea, hL, hg, hc⟩ := h.elem hi
  obtain ⟨y0, z0, r0⟩ := hc 0 (by decide)
  have f0 : Fits (f i 0) .int := hfit i hi 0 (by decide)
  obtain ⟨c0, e0, b0⟩ := f0.int
  rw [e0] at r0
  obtain rfl : y0 = .int .i64 c0 := r0
  obtain ⟨y1, z1, r1⟩ := hc 1 (by decide)
  have f1 : Fits (f i 1) .int := hfit i hi 1 (by decide)
  obtain ⟨c1, e1, b1⟩ := f1.int
  rw [e1] at r1
  obtain rfl : y1 = .int .i64 c1 := r1
  obtain ⟨y2, z2, r2⟩ := hc 2 (by decide)
  have f2 : Fits (f i 2) .bool := hfit i hi 2 (by decide)
  obtain ⟨c2, e2⟩ := f2.bool
  rw [e2] at r2
  obtain rfl : y2 = .bool c2 := r2
  obtain ⟨y3, z3, r3⟩ := hc 3 (by decide)
  have f3 : Fits (f i 3) .int := hfit i hi 3 (by decide)
  obtain ⟨c3, e3, b3⟩ := f3.int
  rw [e3] at r3
  obtain rfl : y3 = .int .i64 c3 := r3
  obtain ⟨y4, z4, r4⟩ := hc 4 (by decide)
  have f4 : Fits (f i 4) .int := hfit i hi 4 (by decide)
  obtain ⟨c4, e4, b4⟩ := f4.int
  rw [e4] at r4
  obtain rfl : y4 = .int .i64 c4 := r4
  obtain ⟨y5, z5, r5⟩ := hc 5 (by decide)
  have f5 : Fits (f i 5) .str := hfit i hi 5 (by decide)
  obtain ⟨c5, e5, b5⟩ := f5.str
  rw [e5] at r5
  obtain rfl : y5 = .string c5 := r5
  obtain ⟨y6, z6, r6⟩ := hc 6 (by decide)
  have f6 : Fits (f i 6) .str := hfit i hi 6 (by decide)
  obtain ⟨c6, e6, b6⟩ := f6.str
  rw [e6] at r6
  obtain rfl : y6 = .string c6 := r6
  obtain ⟨y7, z7, r7⟩ := hc 7 (by decide)
  have f7 : Fits (f i 7) .str := hfit i hi 7 (by decide)
  obtain ⟨c7, e7, b7⟩ := f7.str
  rw [e7] at r7
  obtain rfl : y7 = .string c7 := r7
  obtain ⟨y8, z8, r8⟩ := hc 8 (by decide)
  have f8 : Fits (f i 8) .exprs := hfit i hi 8 (by decide)
  obtain ⟨y9, z9, r9⟩ := hc 9 (by decide)
  have f9 : Fits (f i 9) .queries := hfit i hi 9 (by decide)
  obtain ⟨y10, z10, r10⟩ := hc 10 (by decide)
  have f10 : Fits (f i 10) .bool := hfit i hi 10 (by decide)
  obtain ⟨c10, e10⟩ := f10.bool
  rw [e10] at r10
  obtain rfl : y10 = .bool c10 := r10
  exact ⟨g, o, ea, hL, hg, c0, c1, c2, c3, c4, c5, c6, c7, y8, y9, c10, ⟨z0, z1, z2, z3, z4, z5, z6, z7, z8, z9, z10⟩, ⟨⟨e0, b0⟩, ⟨e1, b1⟩, e2, ⟨e3, b3⟩, ⟨e4, b4⟩, ⟨e5, b5⟩, ⟨e6, b6⟩, ⟨e7, b7⟩, ⟨r8, f8⟩, ⟨r9, f9⟩, e10⟩⟩
theorem row_queries {w : World} {L n k m : Nat} {f : Nat → Nat → Dat} {a : Option Addr} {cap : Nat} (h : Rd w L (.slice a m cap) (.sl n k f)) (hf : Fits (.sl n k f) .queries) {i : Nat} (hi : i < n) :
    ∃ (g o : Nat), a = some ⟨g, o, none⟩ ∧ L ≤ g ∧ g < w.heap.size ∧ ∃ (c0 : Bool) (c1 : Value) (c2 : Value) (c3 : Value) (c4 : Value) (c5 : Int),
      (w.cell? ⟨g, o + i * 6, none⟩ = some (.bool c0) ∧ w.cell? ⟨g, o + i * 6 + 1, none⟩ = some (c1) ∧ w.cell? ⟨g, o + i * 6 + 2, none⟩ = some (c2) ∧ w.cell? ⟨g, o + i * 6 + 3, none⟩ = some (c3) ∧ w.cell? ⟨g, o + i * 6 + 4, none⟩ = some (c4) ∧ w.cell? ⟨g, o + i * 6 + 5, none⟩ = some (.int .i64 c5)) ∧
      (f i 0 = .v (.bool c0) ∧ (Rd w L c1 (f i 1) ∧ Fits (f i 1) .items) ∧ (Rd w L c2 (f i 2) ∧ Fits (f i 2) .sources) ∧ (Rd w L c3 (f i 3) ∧ Fits (f i 3) .exprs) ∧ (Rd w L c4 (f i 4) ∧ Fits (f i 4) .keys) ∧ (f i 5 = .v (.int .i64 c5) ∧ -9223372036854775808 ≤ c5 ∧ c5 ≤ 9223372036854775807)) := by
  obtain ⟨_, _, hk, hfit⟩ := hf
  obtain rfl : k = 6 := hk
  obtain ⟨_, g, o, ea, hL, hg, hc⟩ := h.elem hi
  obtain ⟨y0, z0, r0⟩ := hc 0 (by decide)
  have f0 : Fits (f i 0) .bool := hfit i hi 0 (by decide)
  obtain ⟨c0, e0⟩ := f0.bool
  rw [e0] at r0
  obtain rfl : y0 = .bool c0 := r0
  obtain ⟨y1, z1, r1⟩ := hc 1 (by decide)
  have f1 : Fits (f i 1) .items := hfit i hi 1 (by decide)
  obtain ⟨y2, z2, r2⟩ := hc 2 (by decide)
  have f2 : Fits (f i 2) .sources := hfit i hi 2 (by decide)
  obtain ⟨y3, z3, r3⟩ := hc 3 (by decide)
  have f3 : Fits (f i 3) .exprs := hfit i hi 3 (by decide)
  obtain ⟨y4, z4, r4⟩ := hc 4 (by decide)
  have f4 : Fits (f i 4) .keys := hfit i hi 4 (by decide)
  obtain ⟨y5, z5, r5⟩ := hc 5 (by decide)
  have f5 : Fits (f i 5) .int := hfit i hi 5 (by decide)
  obtain ⟨c5, e5, b5⟩ := f5.int
  rw [e5] at r5
  obtain rfl : y5 = .int .i64 c5 := r5
  exact ⟨g, o, ea, hL, hg, c0, y1, y2, y3, y4, c5, ⟨z0, z1, z2, z3, z4, z5⟩, ⟨e0, ⟨r1, f1⟩, ⟨r2, f2⟩, ⟨r3, f3⟩, ⟨r4, f4⟩, ⟨e5, b5⟩⟩⟩
end Go.Proofs.Ytfmgkinindkedaa
