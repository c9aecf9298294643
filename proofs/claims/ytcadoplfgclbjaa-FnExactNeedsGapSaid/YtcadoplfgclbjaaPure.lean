
/- Contracts of the small tests on bytes and lengths, program and model. They write nothing. -/
import Derived.Test.YtcadoplfgclbjaaBase
import Derived.Test.YtcadoplfgclbjaaOwn
namespace Go.Proofs.Ytcadoplfgclbjaa
open Go.RowKit

/-- that value comes back, the world is as it was -/
def PureE (v : Value) (w : World) (e : Ending) (w' : World) : Prop := e = .returned v ∧ w' = w
theorem pure_bool {a b : Bool} {w : World} (h : a = b) : PureE (.bool b) w (.returned (.bool a)) w := by subst h; exact ⟨rfl, rfl⟩
/-- a number comes back; nothing that was there has turned -/
def IntE (n : Int) (w : World) (e : Ending) (w' : World) : Prop := e = .returned (.int .i64 n) ∧ Below w.heap.size w w'
/-- a bool comes back; nothing that was there has turned -/
def BoolE (b : Bool) (w : World) (e : Ending) (w' : World) : Prop := e = .returned (.bool b) ∧ Below w.heap.size w w'

/-- a digit -/
def dg (n : Int) : Bool := decide (48 ≤ n) && decide (n ≤ 57)
/-- a letter -/
def ltr (n : Int) : Bool := decide (65 ≤ n) && decide (n ≤ 90) || decide (97 ≤ n) && decide (n ≤ 122)
/-- a letter, a digit or an underscore -/
def wd (n : Int) : Bool := ltr n || dg n || n == 95
set_option maxHeartbeats 400000 in
theorem isDigit_any (n : Int) (w : World) : Calls Try.prog 31 #[.int .u8 n] w (PureE (.bool (dg n)) w) := by
  by_cases h0 : 48 ≤ n
  · have d0 : decide (48 ≤ n) = true := by simpa using h0
    by_cases h1 : n ≤ 57
    · have d1 : decide (n ≤ 57) = true := by simpa using h1
      go_enter Try.func31, Try.ntmps31
      go_wp2
      go_ret
      exact pure_bool (by unfold dg; rw [d0, d1] <;> rfl)
    · have d1 : decide (n ≤ 57) = false := by simpa using h1
      go_enter Try.func31, Try.ntmps31
      go_wp2
      go_ret
      exact pure_bool (by unfold dg; rw [d0, d1] <;> rfl)
  · have d0 : decide (48 ≤ n) = false := by simpa using h0
    by_cases h1 : n ≤ 57
    · have d1 : decide (n ≤ 57) = true := by simpa using h1
      go_enter Try.func31, Try.ntmps31
      go_wp2
      go_ret
      exact pure_bool (by unfold dg; rw [d0, d1] <;> rfl)
    · have d1 : decide (n ≤ 57) = false := by simpa using h1
      go_enter Try.func31, Try.ntmps31
      go_wp2
      go_ret
      exact pure_bool (by unfold dg; rw [d0, d1] <;> rfl)

set_option maxHeartbeats 400000 in
theorem l2Figure_any (n : Int) (w : World) : Calls Try.prog 24 #[.int .u8 n] w (PureE (.bool (dg n)) w) := by
  by_cases h0 : 48 ≤ n
  · have d0 : decide (48 ≤ n) = true := by simpa using h0
    by_cases h1 : n ≤ 57
    · have d1 : decide (n ≤ 57) = true := by simpa using h1
      go_enter Try.func24, Try.ntmps24
      go_wp2
      go_ret
      exact pure_bool (by unfold dg; rw [d0, d1] <;> rfl)
    · have d1 : decide (n ≤ 57) = false := by simpa using h1
      go_enter Try.func24, Try.ntmps24
      go_wp2
      go_ret
      exact pure_bool (by unfold dg; rw [d0, d1] <;> rfl)
  · have d0 : decide (48 ≤ n) = false := by simpa using h0
    by_cases h1 : n ≤ 57
    · have d1 : decide (n ≤ 57) = true := by simpa using h1
      go_enter Try.func24, Try.ntmps24
      go_wp2
      go_ret
      exact pure_bool (by unfold dg; rw [d0, d1] <;> rfl)
    · have d1 : decide (n ≤ 57) = false := by simpa using h1
      go_enter Try.func24, Try.ntmps24
      go_wp2
      go_ret
      exact pure_bool (by unfold dg; rw [d0, d1] <;> rfl)

set_option maxHeartbeats 400000 in
theorem isLetter_any (n : Int) (w : World) : Calls Try.prog 38 #[.int .u8 n] w (PureE (.bool (ltr n)) w) := by
  by_cases h0 : 65 ≤ n
  · have d0 : decide (65 ≤ n) = true := by simpa using h0
    by_cases h1 : n ≤ 90
    · have d1 : decide (n ≤ 90) = true := by simpa using h1
      by_cases h2 : 97 ≤ n
      · have d2 : decide (97 ≤ n) = true := by simpa using h2
        by_cases h3 : n ≤ 122
        · have d3 : decide (n ≤ 122) = true := by simpa using h3
          go_enter Try.func38, Try.ntmps38
          go_wp2
          go_ret
          exact pure_bool (by unfold ltr; rw [d0, d1, d2, d3] <;> rfl)
        · have d3 : decide (n ≤ 122) = false := by simpa using h3
          go_enter Try.func38, Try.ntmps38
          go_wp2
          go_ret
          exact pure_bool (by unfold ltr; rw [d0, d1, d2, d3] <;> rfl)
      · have d2 : decide (97 ≤ n) = false := by simpa using h2
        by_cases h3 : n ≤ 122
        · have d3 : decide (n ≤ 122) = true := by simpa using h3
          go_enter Try.func38, Try.ntmps38
          go_wp2
          go_ret
          exact pure_bool (by unfold ltr; rw [d0, d1, d2, d3] <;> rfl)
        · have d3 : decide (n ≤ 122) = false := by simpa using h3
          go_enter Try.func38, Try.ntmps38
          go_wp2
          go_ret
          exact pure_bool (by unfold ltr; rw [d0, d1, d2, d3] <;> rfl)
    · have d1 : decide (n ≤ 90) = false := by simpa using h1
      by_cases h2 : 97 ≤ n
      · have d2 : decide (97 ≤ n) = true := by simpa using h2
        by_cases h3 : n ≤ 122
        · have d3 : decide (n ≤ 122) = true := by simpa using h3
          go_enter Try.func38, Try.ntmps38
          go_wp2
          go_ret
          exact pure_bool (by unfold ltr; rw [d0, d1, d2, d3] <;> rfl)
        · have d3 : decide (n ≤ 122) = false := by simpa using h3
          go_enter Try.func38, Try.ntmps38
          go_wp2
          go_ret
          exact pure_bool (by unfold ltr; rw [d0, d1, d2, d3] <;> rfl)
      · have d2 : decide (97 ≤ n) = false := by simpa using h2
        by_cases h3 : n ≤ 122
        · have d3 : decide (n ≤ 122) = true := by simpa using h3
          go_enter Try.func38, Try.ntmps38
          go_wp2
          go_ret
          exact pure_bool (by unfold ltr; rw [d0, d1, d2, d3] <;> rfl)
        · have d3 : decide (n ≤ 122) = false := by simpa using h3
          go_enter Try.func38, Try.ntmps38
          go_wp2
          go_ret
          exact pure_bool (by unfold ltr; rw [d0, d1, d2, d3] <;> rfl)
  · have d0 : decide (65 ≤ n) = false := by simpa using h0
    by_cases h1 : n ≤ 90
    · have d1 : decide (n ≤ 90) = true := by simpa using h1
      by_cases h2 : 97 ≤ n
      · have d2 : decide (97 ≤ n) = true := by simpa using h2
        by_cases h3 : n ≤ 122
        · have d3 : decide (n ≤ 122) = true := by simpa using h3
          go_enter Try.func38, Try.ntmps38
          go_wp2
          go_ret
          exact pure_bool (by unfold ltr; rw [d0, d1, d2, d3] <;> rfl)
        · have d3 : decide (n ≤ 122) = false := by simpa using h3
          go_enter Try.func38, Try.ntmps38
          go_wp2
          go_ret
          exact pure_bool (by unfold ltr; rw [d0, d1, d2, d3] <;> rfl)
      · have d2 : decide (97 ≤ n) = false := by simpa using h2
        by_cases h3 : n ≤ 122
        · have d3 : decide (n ≤ 122) = true := by simpa using h3
          go_enter Try.func38, Try.ntmps38
          go_wp2
          go_ret
          exact pure_bool (by unfold ltr; rw [d0, d1, d2, d3] <;> rfl)
        · have d3 : decide (n ≤ 122) = false := by simpa using h3
          go_enter Try.func38, Try.ntmps38
          go_wp2
          go_ret
          exact pure_bool (by unfold ltr; rw [d0, d1, d2, d3] <;> rfl)
    · have d1 : decide (n ≤ 90) = false := by simpa using h1
      by_cases h2 : 97 ≤ n
      · have d2 : decide (97 ≤ n) = true := by simpa using h2
        by_cases h3 : n ≤ 122
        · have d3 : decide (n ≤ 122) = true := by simpa using h3
          go_enter Try.func38, Try.ntmps38
          go_wp2
          go_ret
          exact pure_bool (by unfold ltr; rw [d0, d1, d2, d3] <;> rfl)
        · have d3 : decide (n ≤ 122) = false := by simpa using h3
          go_enter Try.func38, Try.ntmps38
          go_wp2
          go_ret
          exact pure_bool (by unfold ltr; rw [d0, d1, d2, d3] <;> rfl)
      · have d2 : decide (97 ≤ n) = false := by simpa using h2
        by_cases h3 : n ≤ 122
        · have d3 : decide (n ≤ 122) = true := by simpa using h3
          go_enter Try.func38, Try.ntmps38
          go_wp2
          go_ret
          exact pure_bool (by unfold ltr; rw [d0, d1, d2, d3] <;> rfl)
        · have d3 : decide (n ≤ 122) = false := by simpa using h3
          go_enter Try.func38, Try.ntmps38
          go_wp2
          go_ret
          exact pure_bool (by unfold ltr; rw [d0, d1, d2, d3] <;> rfl)

set_option maxHeartbeats 400000 in
theorem l2Letter_any (n : Int) (w : World) : Calls Try.prog 25 #[.int .u8 n] w (PureE (.bool (ltr n || n == 95)) w) := by
  by_cases h0 : 97 ≤ n
  · have d0 : decide (97 ≤ n) = true := by simpa using h0
    by_cases h1 : n ≤ 122
    · have d1 : decide (n ≤ 122) = true := by simpa using h1
      by_cases h2 : 65 ≤ n
      · have d2 : decide (65 ≤ n) = true := by simpa using h2
        by_cases h3 : n ≤ 90
        · have d3 : decide (n ≤ 90) = true := by simpa using h3
          by_cases h9 : n = 95
          · have d9 : (n == 95) = true := by simpa using h9
            go_enter Try.func25, Try.ntmps25
            go_wp2
            go_ret
            exact pure_bool (by first | rfl | (unfold ltr; rw [d0, d1, d2, d3] <;> rfl))
          · have d9 : (n == 95) = false := by simpa using h9
            go_enter Try.func25, Try.ntmps25
            go_wp2
            go_ret
            exact pure_bool (by first | rfl | (unfold ltr; rw [d0, d1, d2, d3] <;> rfl))
        · have d3 : decide (n ≤ 90) = false := by simpa using h3
          by_cases h9 : n = 95
          · have d9 : (n == 95) = true := by simpa using h9
            go_enter Try.func25, Try.ntmps25
            go_wp2
            go_ret
            exact pure_bool (by first | rfl | (unfold ltr; rw [d0, d1, d2, d3] <;> rfl))
          · have d9 : (n == 95) = false := by simpa using h9
            go_enter Try.func25, Try.ntmps25
            go_wp2
            go_ret
            exact pure_bool (by first | rfl | (unfold ltr; rw [d0, d1, d2, d3] <;> rfl))
      · have d2 : decide (65 ≤ n) = false := by simpa using h2
        by_cases h3 : n ≤ 90
        · have d3 : decide (n ≤ 90) = true := by simpa using h3
          by_cases h9 : n = 95
          · have d9 : (n == 95) = true := by simpa using h9
            go_enter Try.func25, Try.ntmps25
            go_wp2
            go_ret
            exact pure_bool (by first | rfl | (unfold ltr; rw [d0, d1, d2, d3] <;> rfl))
          · have d9 : (n == 95) = false := by simpa using h9
            go_enter Try.func25, Try.ntmps25
            go_wp2
            go_ret
            exact pure_bool (by first | rfl | (unfold ltr; rw [d0, d1, d2, d3] <;> rfl))
        · have d3 : decide (n ≤ 90) = false := by simpa using h3
          by_cases h9 : n = 95
          · have d9 : (n == 95) = true := by simpa using h9
            go_enter Try.func25, Try.ntmps25
            go_wp2
            go_ret
            exact pure_bool (by first | rfl | (unfold ltr; rw [d0, d1, d2, d3] <;> rfl))
          · have d9 : (n == 95) = false := by simpa using h9
            go_enter Try.func25, Try.ntmps25
            go_wp2
            go_ret
            exact pure_bool (by first | rfl | (unfold ltr; rw [d0, d1, d2, d3] <;> rfl))
    · have d1 : decide (n ≤ 122) = false := by simpa using h1
      by_cases h2 : 65 ≤ n
      · have d2 : decide (65 ≤ n) = true := by simpa using h2
        by_cases h3 : n ≤ 90
        · have d3 : decide (n ≤ 90) = true := by simpa using h3
          by_cases h9 : n = 95
          · have d9 : (n == 95) = true := by simpa using h9
            go_enter Try.func25, Try.ntmps25
            go_wp2
            go_ret
            exact pure_bool (by first | rfl | (unfold ltr; rw [d0, d1, d2, d3] <;> rfl))
          · have d9 : (n == 95) = false := by simpa using h9
            go_enter Try.func25, Try.ntmps25
            go_wp2
            go_ret
            exact pure_bool (by first | rfl | (unfold ltr; rw [d0, d1, d2, d3] <;> rfl))
        · have d3 : decide (n ≤ 90) = false := by simpa using h3
          by_cases h9 : n = 95
          · have d9 : (n == 95) = true := by simpa using h9
            go_enter Try.func25, Try.ntmps25
            go_wp2
            go_ret
            exact pure_bool (by first | rfl | (unfold ltr; rw [d0, d1, d2, d3] <;> rfl))
          · have d9 : (n == 95) = false := by simpa using h9
            go_enter Try.func25, Try.ntmps25
            go_wp2
            go_ret
            exact pure_bool (by first | rfl | (unfold ltr; rw [d0, d1, d2, d3] <;> rfl))
      · have d2 : decide (65 ≤ n) = false := by simpa using h2
        by_cases h3 : n ≤ 90
        · have d3 : decide (n ≤ 90) = true := by simpa using h3
          by_cases h9 : n = 95
          · have d9 : (n == 95) = true := by simpa using h9
            go_enter Try.func25, Try.ntmps25
            go_wp2
            go_ret
            exact pure_bool (by first | rfl | (unfold ltr; rw [d0, d1, d2, d3] <;> rfl))
          · have d9 : (n == 95) = false := by simpa using h9
            go_enter Try.func25, Try.ntmps25
            go_wp2
            go_ret
            exact pure_bool (by first | rfl | (unfold ltr; rw [d0, d1, d2, d3] <;> rfl))
        · have d3 : decide (n ≤ 90) = false := by simpa using h3
          by_cases h9 : n = 95
          · have d9 : (n == 95) = true := by simpa using h9
            go_enter Try.func25, Try.ntmps25
            go_wp2
            go_ret
            exact pure_bool (by first | rfl | (unfold ltr; rw [d0, d1, d2, d3] <;> rfl))
          · have d9 : (n == 95) = false := by simpa using h9
            go_enter Try.func25, Try.ntmps25
            go_wp2
            go_ret
            exact pure_bool (by first | rfl | (unfold ltr; rw [d0, d1, d2, d3] <;> rfl))
  · have d0 : decide (97 ≤ n) = false := by simpa using h0
    by_cases h1 : n ≤ 122
    · have d1 : decide (n ≤ 122) = true := by simpa using h1
      by_cases h2 : 65 ≤ n
      · have d2 : decide (65 ≤ n) = true := by simpa using h2
        by_cases h3 : n ≤ 90
        · have d3 : decide (n ≤ 90) = true := by simpa using h3
          by_cases h9 : n = 95
          · have d9 : (n == 95) = true := by simpa using h9
            go_enter Try.func25, Try.ntmps25
            go_wp2
            go_ret
            exact pure_bool (by first | rfl | (unfold ltr; rw [d0, d1, d2, d3] <;> rfl))
          · have d9 : (n == 95) = false := by simpa using h9
            go_enter Try.func25, Try.ntmps25
            go_wp2
            go_ret
            exact pure_bool (by first | rfl | (unfold ltr; rw [d0, d1, d2, d3] <;> rfl))
        · have d3 : decide (n ≤ 90) = false := by simpa using h3
          by_cases h9 : n = 95
          · have d9 : (n == 95) = true := by simpa using h9
            go_enter Try.func25, Try.ntmps25
            go_wp2
            go_ret
            exact pure_bool (by first | rfl | (unfold ltr; rw [d0, d1, d2, d3] <;> rfl))
          · have d9 : (n == 95) = false := by simpa using h9
            go_enter Try.func25, Try.ntmps25
            go_wp2
            go_ret
            exact pure_bool (by first | rfl | (unfold ltr; rw [d0, d1, d2, d3] <;> rfl))
      · have d2 : decide (65 ≤ n) = false := by simpa using h2
        by_cases h3 : n ≤ 90
        · have d3 : decide (n ≤ 90) = true := by simpa using h3
          by_cases h9 : n = 95
          · have d9 : (n == 95) = true := by simpa using h9
            go_enter Try.func25, Try.ntmps25
            go_wp2
            go_ret
            exact pure_bool (by first | rfl | (unfold ltr; rw [d0, d1, d2, d3] <;> rfl))
          · have d9 : (n == 95) = false := by simpa using h9
            go_enter Try.func25, Try.ntmps25
            go_wp2
            go_ret
            exact pure_bool (by first | rfl | (unfold ltr; rw [d0, d1, d2, d3] <;> rfl))
        · have d3 : decide (n ≤ 90) = false := by simpa using h3
          by_cases h9 : n = 95
          · have d9 : (n == 95) = true := by simpa using h9
            go_enter Try.func25, Try.ntmps25
            go_wp2
            go_ret
            exact pure_bool (by first | rfl | (unfold ltr; rw [d0, d1, d2, d3] <;> rfl))
          · have d9 : (n == 95) = false := by simpa using h9
            go_enter Try.func25, Try.ntmps25
            go_wp2
            go_ret
            exact pure_bool (by first | rfl | (unfold ltr; rw [d0, d1, d2, d3] <;> rfl))
    · have d1 : decide (n ≤ 122) = false := by simpa using h1
      by_cases h2 : 65 ≤ n
      · have d2 : decide (65 ≤ n) = true := by simpa using h2
        by_cases h3 : n ≤ 90
        · have d3 : decide (n ≤ 90) = true := by simpa using h3
          by_cases h9 : n = 95
          · have d9 : (n == 95) = true := by simpa using h9
            go_enter Try.func25, Try.ntmps25
            go_wp2
            go_ret
            exact pure_bool (by first | rfl | (unfold ltr; rw [d0, d1, d2, d3] <;> rfl))
          · have d9 : (n == 95) = false := by simpa using h9
            go_enter Try.func25, Try.ntmps25
            go_wp2
            go_ret
            exact pure_bool (by first | rfl | (unfold ltr; rw [d0, d1, d2, d3] <;> rfl))
        · have d3 : decide (n ≤ 90) = false := by simpa using h3
          by_cases h9 : n = 95
          · have d9 : (n == 95) = true := by simpa using h9
            go_enter Try.func25, Try.ntmps25
            go_wp2
            go_ret
            exact pure_bool (by first | rfl | (unfold ltr; rw [d0, d1, d2, d3] <;> rfl))
          · have d9 : (n == 95) = false := by simpa using h9
            go_enter Try.func25, Try.ntmps25
            go_wp2
            go_ret
            exact pure_bool (by first | rfl | (unfold ltr; rw [d0, d1, d2, d3] <;> rfl))
      · have d2 : decide (65 ≤ n) = false := by simpa using h2
        by_cases h3 : n ≤ 90
        · have d3 : decide (n ≤ 90) = true := by simpa using h3
          by_cases h9 : n = 95
          · have d9 : (n == 95) = true := by simpa using h9
            go_enter Try.func25, Try.ntmps25
            go_wp2
            go_ret
            exact pure_bool (by first | rfl | (unfold ltr; rw [d0, d1, d2, d3] <;> rfl))
          · have d9 : (n == 95) = false := by simpa using h9
            go_enter Try.func25, Try.ntmps25
            go_wp2
            go_ret
            exact pure_bool (by first | rfl | (unfold ltr; rw [d0, d1, d2, d3] <;> rfl))
        · have d3 : decide (n ≤ 90) = false := by simpa using h3
          by_cases h9 : n = 95
          · have d9 : (n == 95) = true := by simpa using h9
            go_enter Try.func25, Try.ntmps25
            go_wp2
            go_ret
            exact pure_bool (by first | rfl | (unfold ltr; rw [d0, d1, d2, d3] <;> rfl))
          · have d9 : (n == 95) = false := by simpa using h9
            go_enter Try.func25, Try.ntmps25
            go_wp2
            go_ret
            exact pure_bool (by first | rfl | (unfold ltr; rw [d0, d1, d2, d3] <;> rfl))

theorem in_any (a lo hi : Int) (b : Bool) (w : World) (hb : b = decide (lo ≤ a ∧ a ≤ hi)) : Calls Try.prog 22 #[.int .i64 a, .int .i64 lo, .int .i64 hi] w (PureE (.bool b) w) := by
  subst hb
  by_cases h1 : lo ≤ a
  · have hd : decide (lo ≤ a) = true := by simpa using h1
    by_cases h2 : a ≤ hi
    · have hd2 : decide (a ≤ hi) = true := by simpa using h2
      go_enter Try.func22, Try.ntmps22
      go_wp2
      go_ret
      exact pure_bool (by first | rfl | (rw [Bool.decide_and, hd, hd2] <;> rfl))
    · have hd2 : decide (a ≤ hi) = false := by simpa using h2
      go_enter Try.func22, Try.ntmps22
      go_wp2
      go_ret
      exact pure_bool (by first | rfl | (rw [Bool.decide_and, hd, hd2] <;> rfl))
  · have hd : decide (lo ≤ a) = false := by simpa using h1
    go_enter Try.func22, Try.ntmps22
    go_wp2
    go_ret
    exact pure_bool (by first | rfl | (rw [Bool.decide_and, hd] <;> rfl))
end Go.Proofs.Ytcadoplfgclbjaa
