/- Joined texts: ExLaw. -/
import Derived.Test.YtkacelpndeoogaaQHFoldS
import Derived.Test.YtkacelpndeoogaaQHToS
import Derived.Test.YtkacelpndeoogaaQHSzS
import Derived.Test.YtkacelpndeoogaaQHEqS
import Derived.Deep.RegionWith
/- The walks of the exact laws on functions of one tree that give a number. -/
namespace Go.Proofs.Ytkacelpndeoogaa
open Go.RowKit

theorem siz_le : ∀ (d : Dat) (ty : Ty), Fits d ty → fold sizA d ty ≤ msr d
  | .v _, ty, hf => by cases ty <;> exact Nat.zero_le _
  | .sl n k f, ty, hf => by
    obtain ⟨hd, _, hk, hfit⟩ := hf
    have IH : ∀ i j ty, Fits (f i j) ty → fold sizA (f i j) ty ≤ msr (f i j) := fun i j ty h => siz_le (f i j) ty h
    have key : ∀ g : Nat → Nat, (∀ i, i < n → g i ≤ rowm f k i + 1) → sizA.of ((List.range n).map g) ≤ n + partm f k n := fun g hg => by
      have : ∀ m, m ≤ n → sizA.of ((List.range m).map g) ≤ m + partm f k m := fun m => by
        induction m with
        | zero => intro _; exact Nat.zero_le _
        | succ m ih =>
          intro hm
          have h1 := ih (by omega)
          have h2 := hg m (by omega)
          rw [of_range, partm_succ]
          show _ + _ ≤ _
          omega
      exact this n (Nat.le_refl n)
    rw [msr_is]
    have hs := fun i => show rowm f k i = ((List.range k).map fun j => msr (f i j)).sum from rfl
    cases ty
    case int => cases hd
    case bool => cases hd
    case str => cases hd
    case names => exact Nat.zero_le _
    all_goals
      obtain rfl := hk
      rw [fold]
      refine key _ fun i hi => ?_
      rw [hs i]
      simp only [rowTy, exprTy, List.length_cons, List.length_nil, List.length_append, Nat.zero_add, Nat.reduceAdd, List.range_succ, List.range_zero, List.nil_append, List.cons_append, List.map_cons, List.map_nil, List.sum_cons, List.sum_nil]
    case exprs =>
      have h1 := IH i 8 _ (hfit i hi 8 (by decide))
      have h2 := IH i 9 _ (hfit i hi 9 (by decide))
      show (_ + _) + 1 ≤ _
      simp only [rowTy, exprTy, List.getElem_cons_succ, List.getElem_cons_zero] at h1 h2
      omega
    case items =>
      have h1 := IH i 10 _ (hfit i hi 10 (by decide))
      have h2 := IH i 11 _ (hfit i hi 11 (by decide))
      simp only [rowTy, exprTy, List.cons_append, List.nil_append, List.getElem_cons_succ, List.getElem_cons_zero] at h1 h2
      cases (f i 0).tru
      · show (_ + _) + 1 ≤ _
        omega
      · exact Nat.zero_le _
    case rows =>
      have h1 := IH i 0 _ (hfit i hi 0 (by decide))
      simp only [rowTy, List.getElem_cons_zero] at h1
      omega
    case sources =>
      have h1 := IH i 2 _ (hfit i hi 2 (by decide))
      simp only [rowTy, List.getElem_cons_succ, List.getElem_cons_zero] at h1
      omega
    case keys =>
      have h1 := IH i 8 _ (hfit i hi 8 (by decide))
      have h2 := IH i 9 _ (hfit i hi 9 (by decide))
      show (_ + _) + 1 ≤ _
      simp only [rowTy, exprTy, List.cons_append, List.nil_append, List.getElem_cons_succ, List.getElem_cons_zero] at h1 h2
      omega
    case queries =>
      have h1 := IH i 1 _ (hfit i hi 1 (by decide))
      have h2 := IH i 2 _ (hfit i hi 2 (by decide))
      have h3 := IH i 3 _ (hfit i hi 3 (by decide))
      have h4 := IH i 4 _ (hfit i hi 4 (by decide))
      show _ + _ + _ + _ ≤ _
      simp only [rowTy, List.getElem_cons_succ, List.getElem_cons_zero] at h1 h2 h3 h4
      omega
/-- an int's bounds -/
abbrev I64 (n : Int) : Prop := -9223372036854775808 ≤ n ∧ n ≤ 9223372036854775807
/-- what the program's DepthOf and QueryDepth are known to give -/
def DepthOfI (c : Nat → Dat) : Prop := ∀ (c0 c1 : Int) (c2 : Bool) (c3 c4 : Int) (c5 c6 c7 : ByteArray) (x8 x9 : Value) (w : World), I64 c0 → I64 c1 → I64 c3 → I64 c4 → c5.size ≤ 9223372036854775807 → c6.size ≤ 9223372036854775807 → c7.size ≤ 9223372036854775807 → Rd w 0 x8 (c 8) → Fits (c 8) .exprs → Rd w 0 x9 (c 9) → Fits (c 9) .queries →
  Calls Try.prog 12 #[.agg #[.int .i64 c0, .int .i64 c1, .bool c2, .int .i64 c3, .int .i64 c4, .string c5, .string c6, .string c7, x8, x9]] w (IntE ((foldE depA c : Nat) : Int) w)
def QueryDepthI (q : Nat → Dat) : Prop := ∀ (c0 : Bool) (x1 x2 x3 x4 : Value) (c5 : Int) (w : World), I64 c5 → Rd w 0 x1 (q 1) → Fits (q 1) .items → Rd w 0 x2 (q 2) → Fits (q 2) .sources → Rd w 0 x3 (q 3) → Fits (q 3) .exprs → Rd w 0 x4 (q 4) → Fits (q 4) .keys →
  Calls Try.prog 14 #[.agg #[.bool c0, x1, x2, x3, x4, .int .i64 c5]] w (IntE ((foldQ depA q : Nat) : Int) w)
/-- what the program's SizeOf and QuerySize are known to give -/
def SizeOfI (c : Nat → Dat) : Prop := ∀ (c0 c1 : Int) (c2 : Bool) (c3 c4 : Int) (c5 c6 c7 : ByteArray) (x8 x9 : Value) (w : World), I64 c0 → I64 c1 → I64 c3 → I64 c4 → c5.size ≤ 9223372036854775807 → c6.size ≤ 9223372036854775807 → c7.size ≤ 9223372036854775807 → Rd w 0 x8 (c 8) → Fits (c 8) .exprs → Rd w 0 x9 (c 9) → Fits (c 9) .queries →
  Calls Try.prog 13 #[.agg #[.int .i64 c0, .int .i64 c1, .bool c2, .int .i64 c3, .int .i64 c4, .string c5, .string c6, .string c7, x8, x9]] w (IntE ((foldE sizA c : Nat) : Int) w)
def QuerySizeI (q : Nat → Dat) : Prop := ∀ (c0 : Bool) (x1 x2 x3 x4 : Value) (c5 : Int) (w : World), I64 c5 → Rd w 0 x1 (q 1) → Fits (q 1) .items → Rd w 0 x2 (q 2) → Fits (q 2) .sources → Rd w 0 x3 (q 3) → Fits (q 3) .exprs → Rd w 0 x4 (q 4) → Fits (q 4) .keys →
  Calls Try.prog 15 #[.agg #[.bool c0, x1, x2, x3, x4, .int .i64 c5]] w (IntE ((foldQ sizA q : Nat) : Int) w)
end Go.Proofs.Ytkacelpndeoogaa
