
/- Trees that came in, read out of the rows. -/
import Derived.Test.YtgihklohhjhjbaaRows
import Derived.Test.YtgihklohhjhjbaaDat
import Derived.Test.YtgihklohhjhjbaaBase
import Derived.ProofKit
import Derived.OpenShut
import Derived.ShutString
import Derived.Deep.Slices
import Derived.Deep.Strs
namespace Go.Proofs.Ytgihklohhjhjbaa
open Go.ChangeShapes Go.WideShapes Go.ChangeAt Go.RowKit Go.Deep

/-- the program's types, as the laws spell them -/
def tid : Ty → TypeId
  | .int => 3
  | .bool => 4
  | .str => 9
  | .exprs => 48
  | .items => 55
  | .sources => 56
  | .keys => 57
  | .queries => 49
/-- cells, each read as one of its type with less fuel -/
def Cells {H : Type} (enc : TypeId × Value → H) (W : World) (tys : List Ty) (n : Nat) (cs : List Value) : Prop :=
  cs.length = tys.length ∧ ∀ j (h : j < tys.length), ∃ (m : Nat) (y : DataW H × List MemPlace), m < n ∧ DataW.trod enc Try.prog W 0 (fun _ => true) true m (tid tys[j]) [cs.getD j undef] = some y
section
variable {H : Type} {enc : TypeId × Value → H} {W : World}
set_option maxRecDepth 100000 in
theorem flat_Value {n : Nat} {cs : List Value} {y : DataW H × List MemPlace} (h : DataW.trod enc Try.prog W 0 (fun _ => true) true n 47 cs = some y) : Cells enc W [.int, .int, .str] n cs := by
  obtain ⟨xs, n', rfl, -, hl, hlen, hi⟩ := DataW.trod_struct Try.underlying47 h
  have hc : Try.prog.cellsOf 47 = 3 := by kernel_rfl
  have k_int : Try.prog.cellsOf 3 = 1 := by kernel_rfl
  have k_str : Try.prog.cellsOf 9 = 1 := by kernel_rfl
  have hx : ∀ i, i < 3 → ∃ y, xs[i]? = some y := fun i hi => ⟨xs[i]'(by have : xs.length = 3 := hlen; omega), List.getElem?_eq_getElem _⟩
  rw [hc] at hl
  match cs, hl with
  | [c0, c1, c2], _ =>
    obtain ⟨y0, hy0⟩ := hx 0 (by decide)
    have e0 : DataW.trod enc Try.prog W 0 (fun _ => true) true n' 3 [c0] = some y0 := by
      have h := hi 0 _ rfl
      rw [hy0] at h
      simpa [k_int] using h
    obtain ⟨y1, hy1⟩ := hx 1 (by decide)
    have e1 : DataW.trod enc Try.prog W 0 (fun _ => true) true n' 3 [c1] = some y1 := by
      have h := hi 1 _ rfl
      rw [hy1] at h
      simpa [k_int] using h
    obtain ⟨y2, hy2⟩ := hx 2 (by decide)
    have e2 : DataW.trod enc Try.prog W 0 (fun _ => true) true n' 9 [c2] = some y2 := by
      have h := hi 2 _ rfl
      rw [hy2] at h
      simpa [k_str] using h
    exact ⟨rfl, fun j hj => match j, hj with
      | 0, _ => ⟨n', y0, Nat.lt_succ_self _, e0⟩
      | 1, _ => ⟨n', y1, Nat.lt_succ_self _, e1⟩
      | 2, _ => ⟨n', y2, Nat.lt_succ_self _, e2⟩
      | j + 3, hj => absurd hj (by simp [exprTy, rowTy])⟩
set_option maxRecDepth 100000 in
theorem flat_Expr {n : Nat} {cs : List Value} {y : DataW H × List MemPlace} (h : DataW.trod enc Try.prog W 0 (fun _ => true) true n 51 cs = some y) : Cells enc W exprTy n cs := by
  obtain ⟨xs, n', rfl, -, hl, hlen, hi⟩ := DataW.trod_struct Try.underlying51 h
  have hc : Try.prog.cellsOf 51 = 10 := by kernel_rfl
  have k_bool : Try.prog.cellsOf 4 = 1 := by kernel_rfl
  have k_exprs : Try.prog.cellsOf 48 = 1 := by kernel_rfl
  have k_int : Try.prog.cellsOf 3 = 1 := by kernel_rfl
  have k_queries : Try.prog.cellsOf 49 = 1 := by kernel_rfl
  have k_str : Try.prog.cellsOf 9 = 1 := by kernel_rfl
  have k_Value : Try.prog.cellsOf 47 = 3 := by kernel_rfl
  have hx : ∀ i, i < 8 → ∃ y, xs[i]? = some y := fun i hi => ⟨xs[i]'(by have : xs.length = 8 := hlen; omega), List.getElem?_eq_getElem _⟩
  rw [hc] at hl
  match cs, hl with
  | [c0, c1, c2, c3, c4, c5, c6, c7, c8, c9], _ =>
    obtain ⟨y0, hy0⟩ := hx 0 (by decide)
    have e0 : DataW.trod enc Try.prog W 0 (fun _ => true) true n' 3 [c0] = some y0 := by
      have h := hi 0 _ rfl
      rw [hy0] at h
      simpa [k_int] using h
    obtain ⟨y1, hy1⟩ := hx 1 (by decide)
    have e1 : DataW.trod enc Try.prog W 0 (fun _ => true) true n' 3 [c1] = some y1 := by
      have h := hi 1 _ rfl
      rw [hy1] at h
      simpa [k_int] using h
    obtain ⟨y2, hy2⟩ := hx 2 (by decide)
    have e2 : DataW.trod enc Try.prog W 0 (fun _ => true) true n' 4 [c2] = some y2 := by
      have h := hi 2 _ rfl
      rw [hy2] at h
      simpa [k_bool] using h
    obtain ⟨y3, hy3⟩ := hx 3 (by decide)
    have e3 : DataW.trod enc Try.prog W 0 (fun _ => true) true n' 47 [c3, c4, c5] = some y3 := by
      have h := hi 3 _ rfl
      rw [hy3] at h
      simpa [k_Value] using h
    have q3 := flat_Value e3
    obtain ⟨y4, hy4⟩ := hx 4 (by decide)
    have e4 : DataW.trod enc Try.prog W 0 (fun _ => true) true n' 9 [c6] = some y4 := by
      have h := hi 4 _ rfl
      rw [hy4] at h
      simpa [k_str] using h
    obtain ⟨y5, hy5⟩ := hx 5 (by decide)
    have e5 : DataW.trod enc Try.prog W 0 (fun _ => true) true n' 9 [c7] = some y5 := by
      have h := hi 5 _ rfl
      rw [hy5] at h
      simpa [k_str] using h
    obtain ⟨y6, hy6⟩ := hx 6 (by decide)
    have e6 : DataW.trod enc Try.prog W 0 (fun _ => true) true n' 48 [c8] = some y6 := by
      have h := hi 6 _ rfl
      rw [hy6] at h
      simpa [k_exprs] using h
    obtain ⟨y7, hy7⟩ := hx 7 (by decide)
    have e7 : DataW.trod enc Try.prog W 0 (fun _ => true) true n' 49 [c9] = some y7 := by
      have h := hi 7 _ rfl
      rw [hy7] at h
      simpa [k_queries] using h
    exact ⟨rfl, fun j hj => match j, hj with
      | 0, _ => ⟨n', y0, Nat.lt_succ_self _, e0⟩
      | 1, _ => ⟨n', y1, Nat.lt_succ_self _, e1⟩
      | 2, _ => ⟨n', y2, Nat.lt_succ_self _, e2⟩
      | 3, _ => by obtain ⟨m, y, hm, ht⟩ := q3.2 0 (by decide); exact ⟨m, y, by omega, ht⟩
      | 4, _ => by obtain ⟨m, y, hm, ht⟩ := q3.2 1 (by decide); exact ⟨m, y, by omega, ht⟩
      | 5, _ => by obtain ⟨m, y, hm, ht⟩ := q3.2 2 (by decide); exact ⟨m, y, by omega, ht⟩
      | 6, _ => ⟨n', y4, Nat.lt_succ_self _, e4⟩
      | 7, _ => ⟨n', y5, Nat.lt_succ_self _, e5⟩
      | 8, _ => ⟨n', y6, Nat.lt_succ_self _, e6⟩
      | 9, _ => ⟨n', y7, Nat.lt_succ_self _, e7⟩
      | j + 10, hj => absurd hj (by simp [exprTy, rowTy])⟩
set_option maxRecDepth 100000 in
theorem flat_Item {n : Nat} {cs : List Value} {y : DataW H × List MemPlace} (h : DataW.trod enc Try.prog W 0 (fun _ => true) true n 145 cs = some y) : Cells enc W (rowTy .items) n cs := by
  obtain ⟨xs, n', rfl, -, hl, hlen, hi⟩ := DataW.trod_struct Try.underlying145 h
  have hc : Try.prog.cellsOf 145 = 13 := by kernel_rfl
  have k_bool : Try.prog.cellsOf 4 = 1 := by kernel_rfl
  have k_str : Try.prog.cellsOf 9 = 1 := by kernel_rfl
  have k_Expr : Try.prog.cellsOf 51 = 10 := by kernel_rfl
  have hx : ∀ i, i < 4 → ∃ y, xs[i]? = some y := fun i hi => ⟨xs[i]'(by have : xs.length = 4 := hlen; omega), List.getElem?_eq_getElem _⟩
  rw [hc] at hl
  match cs, hl with
  | [c0, c1, c2, c3, c4, c5, c6, c7, c8, c9, c10, c11, c12], _ =>
    obtain ⟨y0, hy0⟩ := hx 0 (by decide)
    have e0 : DataW.trod enc Try.prog W 0 (fun _ => true) true n' 4 [c0] = some y0 := by
      have h := hi 0 _ rfl
      rw [hy0] at h
      simpa [k_bool] using h
    obtain ⟨y1, hy1⟩ := hx 1 (by decide)
    have e1 : DataW.trod enc Try.prog W 0 (fun _ => true) true n' 9 [c1] = some y1 := by
      have h := hi 1 _ rfl
      rw [hy1] at h
      simpa [k_str] using h
    obtain ⟨y2, hy2⟩ := hx 2 (by decide)
    have e2 : DataW.trod enc Try.prog W 0 (fun _ => true) true n' 51 [c2, c3, c4, c5, c6, c7, c8, c9, c10, c11] = some y2 := by
      have h := hi 2 _ rfl
      rw [hy2] at h
      simpa [k_Expr] using h
    have q2 := flat_Expr e2
    obtain ⟨y3, hy3⟩ := hx 3 (by decide)
    have e3 : DataW.trod enc Try.prog W 0 (fun _ => true) true n' 9 [c12] = some y3 := by
      have h := hi 3 _ rfl
      rw [hy3] at h
      simpa [k_str] using h
    exact ⟨rfl, fun j hj => match j, hj with
      | 0, _ => ⟨n', y0, Nat.lt_succ_self _, e0⟩
      | 1, _ => ⟨n', y1, Nat.lt_succ_self _, e1⟩
      | 2, _ => by obtain ⟨m, y, hm, ht⟩ := q2.2 0 (by decide); exact ⟨m, y, by omega, ht⟩
      | 3, _ => by obtain ⟨m, y, hm, ht⟩ := q2.2 1 (by decide); exact ⟨m, y, by omega, ht⟩
      | 4, _ => by obtain ⟨m, y, hm, ht⟩ := q2.2 2 (by decide); exact ⟨m, y, by omega, ht⟩
      | 5, _ => by obtain ⟨m, y, hm, ht⟩ := q2.2 3 (by decide); exact ⟨m, y, by omega, ht⟩
      | 6, _ => by obtain ⟨m, y, hm, ht⟩ := q2.2 4 (by decide); exact ⟨m, y, by omega, ht⟩
      | 7, _ => by obtain ⟨m, y, hm, ht⟩ := q2.2 5 (by decide); exact ⟨m, y, by omega, ht⟩
      | 8, _ => by obtain ⟨m, y, hm, ht⟩ := q2.2 6 (by decide); exact ⟨m, y, by omega, ht⟩
      | 9, _ => by obtain ⟨m, y, hm, ht⟩ := q2.2 7 (by decide); exact ⟨m, y, by omega, ht⟩
      | 10, _ => by obtain ⟨m, y, hm, ht⟩ := q2.2 8 (by decide); exact ⟨m, y, by omega, ht⟩
      | 11, _ => by obtain ⟨m, y, hm, ht⟩ := q2.2 9 (by decide); exact ⟨m, y, by omega, ht⟩
      | 12, _ => ⟨n', y3, Nat.lt_succ_self _, e3⟩
      | j + 13, hj => absurd hj (by simp [exprTy, rowTy])⟩
set_option maxRecDepth 100000 in
theorem flat_Source {n : Nat} {cs : List Value} {y : DataW H × List MemPlace} (h : DataW.trod enc Try.prog W 0 (fun _ => true) true n 148 cs = some y) : Cells enc W (rowTy .sources) n cs := by
  obtain ⟨xs, n', rfl, -, hl, hlen, hi⟩ := DataW.trod_struct Try.underlying148 h
  have hc : Try.prog.cellsOf 148 = 3 := by kernel_rfl
  have k_exprs : Try.prog.cellsOf 48 = 1 := by kernel_rfl
  have k_str : Try.prog.cellsOf 9 = 1 := by kernel_rfl
  have hx : ∀ i, i < 3 → ∃ y, xs[i]? = some y := fun i hi => ⟨xs[i]'(by have : xs.length = 3 := hlen; omega), List.getElem?_eq_getElem _⟩
  rw [hc] at hl
  match cs, hl with
  | [c0, c1, c2], _ =>
    obtain ⟨y0, hy0⟩ := hx 0 (by decide)
    have e0 : DataW.trod enc Try.prog W 0 (fun _ => true) true n' 9 [c0] = some y0 := by
      have h := hi 0 _ rfl
      rw [hy0] at h
      simpa [k_str] using h
    obtain ⟨y1, hy1⟩ := hx 1 (by decide)
    have e1 : DataW.trod enc Try.prog W 0 (fun _ => true) true n' 9 [c1] = some y1 := by
      have h := hi 1 _ rfl
      rw [hy1] at h
      simpa [k_str] using h
    obtain ⟨y2, hy2⟩ := hx 2 (by decide)
    have e2 : DataW.trod enc Try.prog W 0 (fun _ => true) true n' 48 [c2] = some y2 := by
      have h := hi 2 _ rfl
      rw [hy2] at h
      simpa [k_exprs] using h
    exact ⟨rfl, fun j hj => match j, hj with
      | 0, _ => ⟨n', y0, Nat.lt_succ_self _, e0⟩
      | 1, _ => ⟨n', y1, Nat.lt_succ_self _, e1⟩
      | 2, _ => ⟨n', y2, Nat.lt_succ_self _, e2⟩
      | j + 3, hj => absurd hj (by simp [exprTy, rowTy])⟩
set_option maxRecDepth 100000 in
theorem flat_SortKey {n : Nat} {cs : List Value} {y : DataW H × List MemPlace} (h : DataW.trod enc Try.prog W 0 (fun _ => true) true n 151 cs = some y) : Cells enc W (rowTy .keys) n cs := by
  obtain ⟨xs, n', rfl, -, hl, hlen, hi⟩ := DataW.trod_struct Try.underlying151 h
  have hc : Try.prog.cellsOf 151 = 11 := by kernel_rfl
  have k_bool : Try.prog.cellsOf 4 = 1 := by kernel_rfl
  have k_Expr : Try.prog.cellsOf 51 = 10 := by kernel_rfl
  have hx : ∀ i, i < 2 → ∃ y, xs[i]? = some y := fun i hi => ⟨xs[i]'(by have : xs.length = 2 := hlen; omega), List.getElem?_eq_getElem _⟩
  rw [hc] at hl
  match cs, hl with
  | [c0, c1, c2, c3, c4, c5, c6, c7, c8, c9, c10], _ =>
    obtain ⟨y0, hy0⟩ := hx 0 (by decide)
    have e0 : DataW.trod enc Try.prog W 0 (fun _ => true) true n' 51 [c0, c1, c2, c3, c4, c5, c6, c7, c8, c9] = some y0 := by
      have h := hi 0 _ rfl
      rw [hy0] at h
      simpa [k_Expr] using h
    have q0 := flat_Expr e0
    obtain ⟨y1, hy1⟩ := hx 1 (by decide)
    have e1 : DataW.trod enc Try.prog W 0 (fun _ => true) true n' 4 [c10] = some y1 := by
      have h := hi 1 _ rfl
      rw [hy1] at h
      simpa [k_bool] using h
    exact ⟨rfl, fun j hj => match j, hj with
      | 0, _ => by obtain ⟨m, y, hm, ht⟩ := q0.2 0 (by decide); exact ⟨m, y, by omega, ht⟩
      | 1, _ => by obtain ⟨m, y, hm, ht⟩ := q0.2 1 (by decide); exact ⟨m, y, by omega, ht⟩
      | 2, _ => by obtain ⟨m, y, hm, ht⟩ := q0.2 2 (by decide); exact ⟨m, y, by omega, ht⟩
      | 3, _ => by obtain ⟨m, y, hm, ht⟩ := q0.2 3 (by decide); exact ⟨m, y, by omega, ht⟩
      | 4, _ => by obtain ⟨m, y, hm, ht⟩ := q0.2 4 (by decide); exact ⟨m, y, by omega, ht⟩
      | 5, _ => by obtain ⟨m, y, hm, ht⟩ := q0.2 5 (by decide); exact ⟨m, y, by omega, ht⟩
      | 6, _ => by obtain ⟨m, y, hm, ht⟩ := q0.2 6 (by decide); exact ⟨m, y, by omega, ht⟩
      | 7, _ => by obtain ⟨m, y, hm, ht⟩ := q0.2 7 (by decide); exact ⟨m, y, by omega, ht⟩
      | 8, _ => by obtain ⟨m, y, hm, ht⟩ := q0.2 8 (by decide); exact ⟨m, y, by omega, ht⟩
      | 9, _ => by obtain ⟨m, y, hm, ht⟩ := q0.2 9 (by decide); exact ⟨m, y, by omega, ht⟩
      | 10, _ => ⟨n', y1, Nat.lt_succ_self _, e1⟩
      | j + 11, hj => absurd hj (by simp [exprTy, rowTy])⟩
set_option maxRecDepth 100000 in
theorem flat_Query {n : Nat} {cs : List Value} {y : DataW H × List MemPlace} (h : DataW.trod enc Try.prog W 0 (fun _ => true) true n 59 cs = some y) : Cells enc W (rowTy .queries) n cs := by
  obtain ⟨xs, n', rfl, -, hl, hlen, hi⟩ := DataW.trod_struct Try.underlying59 h
  have hc : Try.prog.cellsOf 59 = 6 := by kernel_rfl
  have k_bool : Try.prog.cellsOf 4 = 1 := by kernel_rfl
  have k_exprs : Try.prog.cellsOf 48 = 1 := by kernel_rfl
  have k_int : Try.prog.cellsOf 3 = 1 := by kernel_rfl
  have k_items : Try.prog.cellsOf 55 = 1 := by kernel_rfl
  have k_keys : Try.prog.cellsOf 57 = 1 := by kernel_rfl
  have k_sources : Try.prog.cellsOf 56 = 1 := by kernel_rfl
  have hx : ∀ i, i < 6 → ∃ y, xs[i]? = some y := fun i hi => ⟨xs[i]'(by have : xs.length = 6 := hlen; omega), List.getElem?_eq_getElem _⟩
  rw [hc] at hl
  match cs, hl with
  | [c0, c1, c2, c3, c4, c5], _ =>
    obtain ⟨y0, hy0⟩ := hx 0 (by decide)
    have e0 : DataW.trod enc Try.prog W 0 (fun _ => true) true n' 4 [c0] = some y0 := by
      have h := hi 0 _ rfl
      rw [hy0] at h
      simpa [k_bool] using h
    obtain ⟨y1, hy1⟩ := hx 1 (by decide)
    have e1 : DataW.trod enc Try.prog W 0 (fun _ => true) true n' 55 [c1] = some y1 := by
      have h := hi 1 _ rfl
      rw [hy1] at h
      simpa [k_items] using h
    obtain ⟨y2, hy2⟩ := hx 2 (by decide)
    have e2 : DataW.trod enc Try.prog W 0 (fun _ => true) true n' 56 [c2] = some y2 := by
      have h := hi 2 _ rfl
      rw [hy2] at h
      simpa [k_sources] using h
    obtain ⟨y3, hy3⟩ := hx 3 (by decide)
    have e3 : DataW.trod enc Try.prog W 0 (fun _ => true) true n' 48 [c3] = some y3 := by
      have h := hi 3 _ rfl
      rw [hy3] at h
      simpa [k_exprs] using h
    obtain ⟨y4, hy4⟩ := hx 4 (by decide)
    have e4 : DataW.trod enc Try.prog W 0 (fun _ => true) true n' 57 [c4] = some y4 := by
      have h := hi 4 _ rfl
      rw [hy4] at h
      simpa [k_keys] using h
    obtain ⟨y5, hy5⟩ := hx 5 (by decide)
    have e5 : DataW.trod enc Try.prog W 0 (fun _ => true) true n' 3 [c5] = some y5 := by
      have h := hi 5 _ rfl
      rw [hy5] at h
      simpa [k_int] using h
    exact ⟨rfl, fun j hj => match j, hj with
      | 0, _ => ⟨n', y0, Nat.lt_succ_self _, e0⟩
      | 1, _ => ⟨n', y1, Nat.lt_succ_self _, e1⟩
      | 2, _ => ⟨n', y2, Nat.lt_succ_self _, e2⟩
      | 3, _ => ⟨n', y3, Nat.lt_succ_self _, e3⟩
      | 4, _ => ⟨n', y4, Nat.lt_succ_self _, e4⟩
      | 5, _ => ⟨n', y5, Nat.lt_succ_self _, e5⟩
      | j + 6, hj => absurd hj (by simp [exprTy, rowTy])⟩

/-- one slice's elements, as cells -/
theorem rows_flat {ty : Ty} (hd : deep ty = true) : ∃ e : TypeId, Try.prog.underlying (tid ty) = some (.slice e) ∧ Try.prog.cellsOf e = (rowTy ty).length ∧
    ∀ {n : Nat} {cs : List Value} {y : DataW H × List MemPlace}, DataW.trod enc Try.prog W 0 (fun _ => true) true n e cs = some y → Cells enc W (rowTy ty) n cs := by
  cases ty
  case int => cases hd
  case bool => cases hd
  case str => cases hd
  case exprs => exact ⟨51, Try.underlying48, by kernel_rfl, fun h => flat_Expr h⟩
  case items => exact ⟨145, Try.underlying55, by kernel_rfl, fun h => flat_Item h⟩
  case sources => exact ⟨148, Try.underlying56, by kernel_rfl, fun h => flat_Source h⟩
  case keys => exact ⟨151, Try.underlying57, by kernel_rfl, fun h => flat_SortKey h⟩
  case queries => exact ⟨59, Try.underlying49, by kernel_rfl, fun h => flat_Query h⟩

theorem add_none {g o i : Nat} : (Addr.mk g o none).add i = ⟨g, o + i, none⟩ := by
  unfold Addr.add
  split <;> simp_all
/-- whatever has come in as one of the type reads as a datum of it -/
theorem cell_dat : ∀ (n : Nat) (ty : Ty) (x : Value) (y : DataW H × List MemPlace), DataW.trod enc Try.prog W 0 (fun _ => true) true n (tid ty) [x] = some y → ∃ d, Rd W 0 x d ∧ Fits d ty := by
  intro n
  induction n using Nat.strongRecOn with
  | _ n ih =>
    intro ty x y h
    by_cases hd : deep ty = true
    · obtain ⟨e, hu, hk, hflat⟩ := rows_flat (H := H) (enc := enc) (W := W) hd
      have hk0 : 0 < (rowTy ty).length := by cases ty <;> first | (cases hd; done) | decide
      rcases DataW.trod_slice hu h with ⟨hcs, _⟩ | ⟨ad, len, cap, elems, rest, n', rfl, hcs, _, _, hlc, hcm, hel, hi, _, _⟩
      · obtain rfl : x = .slice none 0 0 := by simpa using hcs
        refine ⟨.sl 0 (rowTy ty).length fun _ _ => .v undef, ⟨none, 0, rfl, Nat.le_refl _, fun _ => rfl, .inl rfl⟩, ?_⟩
        exact ⟨hd, by omega, rfl, fun i hi => by omega⟩
      · obtain rfl : x = .slice (some ad) len cap := by simpa using hcs
        have row : ∀ i, i < len → ∃ cs', W.cells? 0 (ad.add (i * (rowTy ty).length)) (rowTy ty).length = some cs' ∧ Cells enc W (rowTy ty) n' cs' := fun i hil => by
          have h1 := hi i hil
          rw [List.getElem?_eq_getElem (by omega), Option.bind_eq_some_iff, hk] at h1
          obtain ⟨cs', h2, h3⟩ := h1
          exact ⟨cs', h2, hflat h3⟩
        obtain ⟨g, o, spot⟩ := ad
        have hsp : 0 < len → spot = none := fun h0 => by
          obtain ⟨cs', h2, h3⟩ := row 0 h0
          obtain ⟨_, hl, hat⟩ := World.cells?_some h2
          have c0 := hat 0 hk0
          have e0 : ((Addr.mk g o spot).add (0 * (rowTy ty).length)).add 0 = Addr.mk g o spot := by unfold Addr.add; simp
          rw [e0, List.getElem?_eq_getElem (by omega)] at c0
          simpa using World.cell?_spot c0
        have key : ∀ i, i < len → ∃ F : Nat → Dat, ∀ j (hj : j < (rowTy ty).length), ∃ y, W.cell? ⟨g, o + i * (rowTy ty).length + j, none⟩ = some y ∧ Rd W 0 y (F j) ∧ Fits (F j) ((rowTy ty)[j]) := fun i hil => by
          obtain ⟨cs', h2, h3⟩ := row i hil
          have hs := hsp (by omega)
          subst hs
          obtain ⟨_, hl, hat⟩ := World.cells?_some h2
          have one : ∀ j (hj : j < (rowTy ty).length), ∃ d, Rd W 0 (cs'.getD j undef) d ∧ Fits d ((rowTy ty)[j]) := fun j hj => by
            obtain ⟨m, y, hm, ht⟩ := h3.2 j hj
            exact ih m (by omega) _ _ _ ht
          refine ⟨fun j => if hj : j < (rowTy ty).length then Classical.choose (one j hj) else .v undef, fun j hj => ⟨cs'.getD j undef, ?_, ?_⟩⟩
          · have c := hat j hj
            rw [add_none, add_none] at c
            rw [c, List.getElem?_eq_getElem (by omega), List.getD_eq_getElem?_getD, List.getElem?_eq_getElem (by omega)]
            rfl
          · simp only [dif_pos hj]
            exact Classical.choose_spec (one j hj)
        refine ⟨.sl len (rowTy ty).length fun i => if hil : i < len then Classical.choose (key i hil) else fun _ => .v undef, ?_, ?_⟩
        · refine ⟨some ⟨g, o, spot⟩, cap, rfl, hlc, (fun h => by cases h), ?_⟩
          by_cases h0 : len = 0
          · exact .inl h0
          · refine .inr ?_
            have hs := hsp (by omega)
            subst hs
            have lt : g < W.heap.size := by
              obtain ⟨y, hy, _⟩ := Classical.choose_spec (key 0 (by omega)) 0 hk0
              rcases Nat.lt_or_ge g W.heap.size with hb | hb
              · exact hb
              · exfalso
                have : W.heap[g]? = none := Array.getElem?_eq_none hb
                simp [World.cell?, this] at hy
            refine ⟨g, o, rfl, Nat.zero_le _, lt, fun i hil j hj => ?_⟩
            obtain ⟨y, hy, hr, _⟩ := Classical.choose_spec (key i hil) j hj
            exact ⟨y, hy, by simp only [dif_pos hil]; exact hr⟩
        · refine ⟨hd, by unfold maxLen at hcm; omega, rfl, fun i hil j hj => ?_⟩
          obtain ⟨y, hy, _, hf⟩ := Classical.choose_spec (key i hil) j hj
          simp only [dif_pos hil]; exact hf
    · cases ty
      case int =>
        obtain ⟨k, hk, -, hw⟩ := DataW.trod_int Try.underlying3 h
        obtain rfl : x = .int .i64 k := by simpa using hk
        exact ⟨.v (.int .i64 k), rfl, k, rfl, i64_bds hw⟩
      case bool =>
        obtain ⟨b, hb, -⟩ := DataW.trod_bool Try.underlying4 h
        obtain rfl : x = .bool b := by simpa using hb
        exact ⟨.v (.bool b), rfl, b, rfl⟩
      case str =>
        obtain ⟨b, hb, -, hw⟩ := DataW.trod_string Try.underlying9 h
        obtain rfl : x = .string b := by simpa using hb
        exact ⟨.v (.string b), rfl, b, rfl, hw⟩
      all_goals exact absurd rfl hd
end
end Go.Proofs.Ytgihklohhjhjbaa
