
/- The texts of the operators. -/
import Derived.Test.YtjekhgekldkopaaLexMath2
import Derived.Test.YtjekhgekldkopaaPure
namespace Go.Proofs.Ytjekhgekldkopaa
open Go.RowKit

/-- the operator's text -/
def opText (op : Int) : ByteArray :=
  match op with
  | 1 => ⟨#[79, 82]⟩
  | 2 => ⟨#[65, 78, 68]⟩
  | 3 => ⟨#[61]⟩
  | 4 => ⟨#[60, 62]⟩
  | 5 => ⟨#[60]⟩
  | 6 => ⟨#[60, 61]⟩
  | 7 => ⟨#[62]⟩
  | 8 => ⟨#[62, 61]⟩
  | 9 => ⟨#[124, 124]⟩
  | 10 => ⟨#[43]⟩
  | 11 => ⟨#[45]⟩
  | 12 => ⟨#[42]⟩
  | 13 => ⟨#[47]⟩
  | 14 => ⟨#[37]⟩
  | 15 => ⟨#[78, 79, 84]⟩
  | 16 => ⟨#[45]⟩
  | _ => ⟨#[]⟩
/-- a text comes back -/
def TextO (s : ByteArray) (w : World) (e : Ending) (w' : World) : Prop := e = .returned (.string s) ∧ Below w.heap.size w w'
theorem op_cases {op : Int} (h0 : 1 ≤ op) (h1 : op ≤ 16) : op = 1 ∨ op = 2 ∨ op = 3 ∨ op = 4 ∨ op = 5 ∨ op = 6 ∨ op = 7 ∨ op = 8 ∨ op = 9 ∨ op = 10 ∨ op = 11 ∨ op = 12 ∨ op = 13 ∨ op = 14 ∨ op = 15 ∨ op = 16 := by omega
theorem opText_no {op : Int} (h : ¬ (1 ≤ op ∧ op ≤ 16)) : opText op = ⟨#[]⟩ := by
  unfold opText
  split <;> first | rfl | (exfalso; apply h; decide)
set_option maxRecDepth 100000 in
set_option maxHeartbeats 4000000 in
theorem opText_spec (op : Int) (w : World) : Calls Try.prog 39 #[.int .i64 op] w (TextO (opText op) w) := by
  have hI := fun w => in_any op 1 16 (decide (1 ≤ op ∧ op ≤ 16)) w rfl
  by_cases h : 1 ≤ op ∧ op ≤ 16
  · rw [decide_eq_true h] at hI
    rcases op_cases h.1 h.2 with rfl | rfl | rfl | rfl | rfl | rfl | rfl | rfl | rfl | rfl | rfl | rfl | rfl | rfl | rfl | rfl
    all_goals
      clear h
      have hR := heap_alloc_new w (.cells #[.string ⟨#[]⟩, .string ⟨#[79, 82]⟩, .string ⟨#[65, 78, 68]⟩, .string ⟨#[61]⟩, .string ⟨#[60, 62]⟩, .string ⟨#[60]⟩, .string ⟨#[60, 61]⟩, .string ⟨#[62]⟩, .string ⟨#[62, 61]⟩, .string ⟨#[124, 124]⟩, .string ⟨#[43]⟩, .string ⟨#[45]⟩, .string ⟨#[42]⟩, .string ⟨#[47]⟩, .string ⟨#[37]⟩, .string ⟨#[78, 79, 84]⟩, .string ⟨#[45]⟩] 9)
      have hb := (Below.refl w.heap.size w).alloc (Nat.le_refl _) (.cells #[.string ⟨#[]⟩, .string ⟨#[79, 82]⟩, .string ⟨#[65, 78, 68]⟩, .string ⟨#[61]⟩, .string ⟨#[60, 62]⟩, .string ⟨#[60]⟩, .string ⟨#[60, 61]⟩, .string ⟨#[62]⟩, .string ⟨#[62, 61]⟩, .string ⟨#[124, 124]⟩, .string ⟨#[43]⟩, .string ⟨#[45]⟩, .string ⟨#[42]⟩, .string ⟨#[47]⟩, .string ⟨#[37]⟩, .string ⟨#[78, 79, 84]⟩, .string ⟨#[45]⟩] 9)
      go_enter Try.func39, Try.ntmps39
      go_wp2_with fail
      refine (hI _).mono ?_
      rintro e w1 ⟨rfl, rfl⟩
      go_wp2_with fail
      go_ret
      exact ⟨rfl, hb⟩
  · rw [decide_eq_false h] at hI
    rw [opText_no h]
    clear h
    go_enter Try.func39, Try.ntmps39
    go_wp2_with fail
    refine (hI _).mono ?_
    rintro e w1 ⟨rfl, rfl⟩
    go_wp2_with fail
    go_ret
    exact ⟨rfl, Below.refl _ _⟩
set_option maxRecDepth 100000 in
set_option maxHeartbeats 4000000 in
theorem opText_impl (op : Int) (w : World) : Calls Try.prog 40 #[.int .i64 op] w (TextO (opText op) w) := by
  by_cases h : 1 ≤ op ∧ op ≤ 16
  · rcases op_cases h.1 h.2 with rfl | rfl | rfl | rfl | rfl | rfl | rfl | rfl | rfl | rfl | rfl | rfl | rfl | rfl | rfl | rfl
    all_goals
      clear h
      go_enter Try.func40, Try.ntmps40
      go_wp2_with fail
      go_ret
      exact ⟨rfl, (Below.refl w.heap.size w).alloc (Nat.le_refl _) _⟩
  · rw [opText_no h]
    rcases (show op < 1 ∨ 16 < op by omega) with h1 | h1
    all_goals
      clear h
      go_enter Try.func40, Try.ntmps40
      go_wp2_with fail
      go_ret
      exact ⟨rfl, (Below.refl w.heap.size w).alloc (Nat.le_refl _) _⟩
set_option maxRecDepth 100000 in
set_option maxHeartbeats 1000000 in
theorem ex_opText (op : Int) (w : World) : Calls Try.prog 14 #[.int .i64 op] w (BoolE true w) := by
  have hS := fun w => opText_spec op w
  have hI := fun w => opText_impl op w
  generalize opText op = s at hS hI
  go_enter Try.func14, Try.ntmps14
  go_wp2_with fail
  refine (hS _).mono ?_
  rintro e w1 ⟨rfl, hb1⟩
  go_wp2_with fail
  refine (hI _).mono ?_
  rintro e w2 ⟨rfl, hb2⟩
  have hb := hb1.trans (hb2.mono hb1.size)
  have hss : (s.toList != s.toList) = false := by simp
  go_wp2_with fail
  go_ret
  exact ⟨rfl, hb⟩
end Go.Proofs.Ytjekhgekldkopaa
