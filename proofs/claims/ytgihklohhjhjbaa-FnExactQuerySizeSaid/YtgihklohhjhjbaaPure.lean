
/- Contracts of the small tests on bytes and lengths, program and model. They write nothing. -/
import Derived.Test.YtgihklohhjhjbaaBase
import Derived.Test.YtgihklohhjhjbaaOwn
namespace Go.Proofs.Ytgihklohhjhjbaa
open Go.RowKit

/-- that value comes back, the world is as it was -/
def PureE (v : Value) (w : World) (e : Ending) (w' : World) : Prop := e = .returned v ∧ w' = w
theorem pure_bool {a b : Bool} {w : World} (h : a = b) : PureE (.bool b) w (.returned (.bool a)) w := by subst h; exact ⟨rfl, rfl⟩
/-- a number comes back; nothing that was there has turned -/
def IntE (n : Int) (w : World) (e : Ending) (w' : World) : Prop := e = .returned (.int .i64 n) ∧ Below w.heap.size w w'
/-- a bool comes back; nothing that was there has turned -/
def BoolE (b : Bool) (w : World) (e : Ending) (w' : World) : Prop := e = .returned (.bool b) ∧ Below w.heap.size w w'

/-- a digit -/
def dg (n : Int) : Bool := decide (48 ≤ n) && decide (n ≤ 57)
/-- a letter -/
def ltr (n : Int) : Bool := decide (65 ≤ n) && decide (n ≤ 90) || decide (97 ≤ n) && decide (n ≤ 122)
/-- a letter, a digit or an underscore -/
def wd (n : Int) : Bool := ltr n || dg n || n == 95
theorem in_any (a lo hi : Int) (b : Bool) (w : World) (hb : b = decide (lo ≤ a ∧ a ≤ hi)) : Calls Try.prog 121 #[.int .i64 a, .int .i64 lo, .int .i64 hi] w (PureE (.bool b) w) := by
  subst hb
  by_cases h1 : lo ≤ a
  · have hd : decide (lo ≤ a) = true := by simpa using h1
    by_cases h2 : a ≤ hi
    · have hd2 : decide (a ≤ hi) = true := by simpa using h2
      go_enter Try.func121, Try.ntmps121
      go_wp2
      go_ret
      exact pure_bool (by first | rfl | (rw [Bool.decide_and, hd, hd2] <;> rfl))
    · have hd2 : decide (a ≤ hi) = false := by simpa using h2
      go_enter Try.func121, Try.ntmps121
      go_wp2
      go_ret
      exact pure_bool (by first | rfl | (rw [Bool.decide_and, hd, hd2] <;> rfl))
  · have hd : decide (lo ≤ a) = false := by simpa using h1
    go_enter Try.func121, Try.ntmps121
    go_wp2
    go_ret
    exact pure_bool (by first | rfl | (rw [Bool.decide_and, hd] <;> rfl))
end Go.Proofs.Ytgihklohhjhjbaa
