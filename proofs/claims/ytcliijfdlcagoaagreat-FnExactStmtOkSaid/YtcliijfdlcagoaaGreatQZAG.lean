/- Joined texts: ExDef. -/
import Derived.Test.YtcliijfdlcagoaaGreatQHFoldS
import Derived.Test.YtcliijfdlcagoaaGreatQHSzTree
namespace Go.Proofs.YtcliijfdlcagoaaGreat
set_option linter.unusedVariables false
set_option linter.unusedSimpArgs false
open Go.RowKit
theorem siz_le : ∀ (d : Dat) (ty : Ty), Fits d ty → fold sizA d ty ≤ msr d
  | .v _, ty, hf => by cases ty <;> exact Nat.zero_le _
  | .sl n k f, ty, hf => by
    obtain ⟨hd, _, hk, hfit⟩ := hf
    have IH : ∀ i j ty, Fits (f i j) ty → fold sizA (f i j) ty ≤ msr (f i j) := fun i j ty h => siz_le (f i j) ty h
    have key : ∀ g : Nat → Nat, (∀ i, i < n → g i ≤ rowm f k i + 1) → sizA.of ((List.range n).map g) ≤ n + partm f k n := fun g hg => by
      have : ∀ m, m ≤ n → sizA.of ((List.range m).map g) ≤ m + partm f k m := fun m => by
        induction m with
        | zero => intro _; exact Nat.zero_le _
        | succ m ih =>
          intro hm
          have h1 := ih (by omega)
          have h2 := hg m (by omega)
          rw [of_range, partm_succ]
          show _ + _ ≤ _
          omega
      exact this n (Nat.le_refl n)
    rw [msr_is]
    have hs := fun i => show rowm f k i = ((List.range k).map fun j => msr (f i j)).sum from rfl
    cases ty
    case int => cases hd
    case bool => cases hd
    case str => cases hd
    case names => exact Nat.zero_le _
    all_goals
      obtain rfl := hk
      rw [fold]
      refine key _ fun i hi => ?_
      rw [hs i]
      simp only [rowTy, exprTy, List.length_cons, List.length_nil, List.length_append, Nat.zero_add, Nat.reduceAdd, List.range_succ, List.range_zero, List.nil_append, List.cons_append, List.map_cons, List.map_nil, List.sum_cons, List.sum_nil]
    case exprs =>
      have h1 := IH i 8 _ (hfit i hi 8 (by decide))
      have h2 := IH i 9 _ (hfit i hi 9 (by decide))
      show (_ + _) + 1 ≤ _
      simp only [rowTy, exprTy, List.getElem_cons_succ, List.getElem_cons_zero] at h1 h2
      omega
    case items =>
      have h1 := IH i 10 _ (hfit i hi 10 (by decide))
      have h2 := IH i 11 _ (hfit i hi 11 (by decide))
      simp only [rowTy, exprTy, List.cons_append, List.nil_append, List.getElem_cons_succ, List.getElem_cons_zero] at h1 h2
      cases (f i 0).tru
      · show (_ + _) + 1 ≤ _
        omega
      · exact Nat.zero_le _
    case rows =>
      have h1 := IH i 0 _ (hfit i hi 0 (by decide))
      simp only [rowTy, List.getElem_cons_zero] at h1
      omega
    case sources =>
      have h1 := IH i 2 _ (hfit i hi 2 (by decide))
      simp only [rowTy, List.getElem_cons_succ, List.getElem_cons_zero] at h1
      omega
    case keys =>
      have h1 := IH i 8 _ (hfit i hi 8 (by decide))
      have h2 := IH i 9 _ (hfit i hi 9 (by decide))
      show (_ + _) + 1 ≤ _
      simp only [rowTy, exprTy, List.cons_append, List.nil_append, List.getElem_cons_succ, List.getElem_cons_zero] at h1 h2
      omega
    case queries =>
      have h1 := IH i 1 _ (hfit i hi 1 (by decide))
      have h2 := IH i 2 _ (hfit i hi 2 (by decide))
      have h3 := IH i 3 _ (hfit i hi 3 (by decide))
      have h4 := IH i 4 _ (hfit i hi 4 (by decide))
      show _ + _ + _ + _ ≤ _
      simp only [rowTy, List.getElem_cons_succ, List.getElem_cons_zero] at h1 h2 h3 h4
      omega
abbrev I64 (n : Int) : Prop := -9223372036854775808 ≤ n ∧ n ≤ 9223372036854775807
end Go.Proofs.YtcliijfdlcagoaaGreat
