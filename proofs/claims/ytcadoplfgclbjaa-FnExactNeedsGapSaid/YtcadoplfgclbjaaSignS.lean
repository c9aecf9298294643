
/- The contract of the model's test on operators. -/
import Derived.Test.YtcadoplfgclbjaaLexMath2
import Derived.Test.YtcadoplfgclbjaaNameDef
import Derived.Lib.SlicesS
namespace Go.Proofs.Ytcadoplfgclbjaa
open Go.RowKit

set_option maxRecDepth 100000 in
set_option maxHeartbeats 1200000 in
theorem signOk_spec (s : ByteArray) (w : World) : Calls Try.prog 17 #[.string s] w (PureE (.bool (signB s.data.toList)) w) := by
  cases h : signB s.data.toList
  · obtain ⟨h0, h1, h2, h3, h4, h5, h6, h7, h8, h9, h10, h11, h12, h13, h14, h15⟩ := signB_not h
    have q0 : (s.toList == [40]) = false := by rw [beq_lit, decide_eq_false h0]
    have q1 : (s.toList == [41]) = false := by rw [beq_lit, decide_eq_false h1]
    have q2 : (s.toList == [44]) = false := by rw [beq_lit, decide_eq_false h2]
    have q3 : (s.toList == [46]) = false := by rw [beq_lit, decide_eq_false h3]
    have q4 : (s.toList == [42]) = false := by rw [beq_lit, decide_eq_false h4]
    have q5 : (s.toList == [43]) = false := by rw [beq_lit, decide_eq_false h5]
    have q6 : (s.toList == [45]) = false := by rw [beq_lit, decide_eq_false h6]
    have q7 : (s.toList == [47]) = false := by rw [beq_lit, decide_eq_false h7]
    have q8 : (s.toList == [37]) = false := by rw [beq_lit, decide_eq_false h8]
    have q9 : (s.toList == [61]) = false := by rw [beq_lit, decide_eq_false h9]
    have q10 : (s.toList == [60, 62]) = false := by rw [beq_lit, decide_eq_false h10]
    have q11 : (s.toList == [60]) = false := by rw [beq_lit, decide_eq_false h11]
    have q12 : (s.toList == [60, 61]) = false := by rw [beq_lit, decide_eq_false h12]
    have q13 : (s.toList == [62]) = false := by rw [beq_lit, decide_eq_false h13]
    have q14 : (s.toList == [62, 61]) = false := by rw [beq_lit, decide_eq_false h14]
    have q15 : (s.toList == [124, 124]) = false := by rw [beq_lit, decide_eq_false h15]
    clear h h0 h1 h2 h3 h4 h5 h6 h7 h8 h9 h10 h11 h12 h13 h14 h15
    go_enter Try.func17, Try.ntmps17
    go_wp2
    go_ret
    exact ⟨rfl, rfl⟩
  · rcases signB_cases h with h | h | h | h | h | h | h | h | h | h | h | h | h | h | h | h <;>
    (obtain rfl := ba_of h
     go_enter Try.func17, Try.ntmps17
     go_wp2
     go_ret
     exact ⟨rfl, rfl⟩)

end Go.Proofs.Ytcadoplfgclbjaa
