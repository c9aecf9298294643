
/- The mathematics of the operators: what fits into 64 bits, products that don't, quotients. -/
import Derived.RowKit
import Derived.WalkKit
import Derived.Test.YtjekhgekldkopaaBase
namespace Go.Proofs.Ytjekhgekldkopaa
open Go.RowKit

/-- the number fits into 64 bits -/
def fits (x : Int) : Bool := decide (-9223372036854775808 ≤ x) && decide (x ≤ 9223372036854775807)
theorem fits_iff {x : Int} : fits x = true ↔ -9223372036854775808 ≤ x ∧ x ≤ 9223372036854775807 := by
  unfold fits
  simp only [Bool.and_eq_true, decide_eq_true_eq]
/-- the number, or 0 if it does not fit -/
def outI (x : Int) : Int := if fits x then x else 0
/-- a number and whether it fits are returned -/
def NumR (x : Int) (w : World) (e : Ending) (w' : World) : Prop := e = .returned (.tuple #[.int .i64 (outI x), .bool (fits x)]) ∧ w = w'
theorem outI_yes {x : Int} (h : -9223372036854775808 ≤ x ∧ x ≤ 9223372036854775807) : outI x = x ∧ fits x = true := by
  have := fits_iff.2 h
  exact ⟨by unfold outI; rw [if_pos this], this⟩
theorem outI_no {x : Int} (h : ¬ (-9223372036854775808 ≤ x ∧ x ≤ 9223372036854775807)) : outI x = 0 ∧ fits x = false := by
  have : fits x = false := by
    cases h2 : fits x
    · rfl
    · exact absurd (fits_iff.1 h2) h
  exact ⟨by unfold outI; rw [if_neg (by simp [this])], this⟩
theorem NumR.yes {x : Int} {w w' : World} {e : Ending} (h : -9223372036854775808 ≤ x ∧ x ≤ 9223372036854775807) (he : e = .returned (.tuple #[.int .i64 x, .bool true])) (hw : w = w') : NumR x w e w' := by
  refine ⟨?_, hw⟩
  rw [(outI_yes h).1, (outI_yes h).2]; exact he
theorem NumR.no {x : Int} {w w' : World} {e : Ending} (h : ¬ (-9223372036854775808 ≤ x ∧ x ≤ 9223372036854775807)) (he : e = .returned (.tuple #[.int .i64 0, .bool false])) (hw : w = w') : NumR x w e w' := by
  refine ⟨?_, hw⟩
  rw [(outI_no h).1, (outI_no h).2]; exact he

theorem wrap64_cong (x : Int) : ∃ m : Int, wrap64 x = x - m * 18446744073709551616 := by
  refine ⟨(x + 9223372036854775808) / 18446744073709551616, ?_⟩
  unfold wrap64
  have := Int.emod_add_mul_ediv (x + 9223372036854775808) 18446744073709551616
  omega
theorem wrap64_range (x : Int) : -9223372036854775808 ≤ wrap64 x ∧ wrap64 x ≤ 9223372036854775807 := by
  unfold wrap64
  omega
/-- a quotient of what wrapped gives the factor back only where nothing wrapped -/
theorem mul_back {a b : Int} (hb : b ≠ 0) (hb0 : -9223372036854775808 ≤ b) (hb1 : b ≤ 9223372036854775807) :
    (wrap64 (a * b)).tdiv b = a ↔ (-9223372036854775808 ≤ a * b ∧ a * b ≤ 9223372036854775807) := by
  constructor
  · intro h
    have h1 := Int.tdiv_mul_add_tmod (wrap64 (a * b)) b
    rw [h] at h1
    obtain ⟨m, hm⟩ := wrap64_cong (a * b)
    have hr := wrap64_range (a * b)
    have hl : ((wrap64 (a * b)).tmod b).natAbs < b.natAbs := by
      rw [Int.natAbs_tmod]
      exact Nat.mod_lt _ (by omega)
    have : m = 0 := by
      generalize a * b = p at *
      generalize (wrap64 p).tmod b = r at *
      omega
    subst this
    omega
  · intro h
    rw [IntWalk.wrap64_in _ h]
    exact Int.mul_tdiv_cancel a hb
/-- a quotient by another divisor than 0 and -1 fits -/
theorem quo_fits {n b : Int} (hn : -9223372036854775808 ≤ n ∧ n ≤ 9223372036854775807) (h0 : b ≠ 0) (h1 : b ≠ -1) : -9223372036854775808 ≤ n.tdiv b ∧ n.tdiv b ≤ 9223372036854775807 := by
  by_cases h2 : b = 1
  · subst h2; rw [Int.tdiv_one]; exact hn
  · have h := Int.natAbs_tdiv n b
    have h3 : n.natAbs.div b.natAbs ≤ n.natAbs / 2 := Nat.div_le_div_left (by omega) (by omega)
    omega
end Go.Proofs.Ytjekhgekldkopaa
