
/- A call that returns returns one value: two contracts at one world agree on it. -/
import Derived.WalkKit
import Derived.Below
import Derived.BigQuiet
namespace Go.Proofs.Ytgihklohhjhjbaa
open Go.RowKit

/-- a frame at which every run ends at once -/
def wall : Frame := { Frame.enter default 0 #[] .normal with todo := [.code (.refuse default)], mode := .run }
theorem wall_ends (P : Program) (v : Value) (w : World) : ∃ o, step P (lone (wall.finish v) [] w) = .ended o w :=
  ⟨_, step_lone_ended (by simp [wall, Frame.finish, stepG, stepG.exec]; rfl)⟩
theorem runN_ended {P : Program} {o : Outcome} {m : Machine} {w : World} (h : step P m = .ended o w) : ∀ n, runN P (n + 1) m = .ended o w
  | n => by simp [runN, h]
theorem Calls.one_value {P : Program} {f : FuncId} {args : Array Value} {w : World} {v v' : Value} {A B : World → Prop}
    (h : Calls P f args w fun e w' => e = .returned v ∧ A w') (h' : Calls P f args w fun e w' => e = .returned v' ∧ B w') : v = v' := by
  obtain ⟨e, w1, fr, ⟨rfl, _⟩, ⟨n, hn⟩, _, hl⟩ := h [wall]
  obtain ⟨e, w2, fr', ⟨rfl, _⟩, ⟨n', hn'⟩, _, hl'⟩ := h' [wall]
  have s1 := step_leave_returned (c := wall) (cs := []) hl
  have s2 := step_leave_returned (c := wall) (cs := []) hl'
  obtain ⟨o, ho⟩ := wall_ends P v w1
  obtain ⟨o', ho'⟩ := wall_ends P v' w2
  have key : ∀ (n n' : Nat) (fr fr' : Frame) (w1 w2 : World) (v : Value) (o : Outcome) (m : Machine), runN P n m = .next (lone fr [wall] w1) → runN P n' m = .next (lone fr' [wall] w2) →
      step P (lone fr [wall] w1) = .next (lone (wall.finish v) [] w1) → step P (lone (wall.finish v) [] w1) = .ended o w1 → ¬ n < n' := by
    intro n n' fr fr' w1 w2 v o m hn hn' s1 ho hlt
    obtain ⟨d, rfl⟩ : ∃ d, n' = n + (d + 1) := ⟨n' - n - 1, by omega⟩
    rw [runN_add, hn] at hn'
    cases d with
    | zero =>
      have h3 : Stepped.next (lone (wall.finish v) [] w1) = .next (lone fr' [wall] w2) := by rw [← hn']; simp [runN, s1]
      injection h3 with e1
      have := congrArg (fun g : Machine => (g.gs.map fun x => x.callers)) e1
      simp [lone] at this
    | succ d =>
      simp [runN, s1, ho] at hn'
  have e : n = n' := by
    rcases Nat.lt_trichotomy n n' with h | h | h
    · exact absurd h (key n n' fr fr' w1 w2 v o _ hn hn' s1 ho)
    · exact h
    · exact absurd h (key n' n fr' fr w2 w1 v' o' _ hn' hn s2 ho')
  subst e
  rw [hn] at hn'
  injection hn' with e1
  have hw : w1 = w2 := congrArg (fun m : Machine => m.world) e1
  have hf : fr = fr' := by
    have := congrArg (fun g : Machine => (g.gs.map fun x => x.frame)) e1
    simpa [lone] using this
  subst hw
  subst hf
  obtain ⟨_, _, _, fn, hfn, hr⟩ := hl
  obtain ⟨_, _, _, fn', hfn', hr'⟩ := hl'
  rw [hfn] at hfn'
  injection hfn' with e2
  subst e2
  rw [hr] at hr'
  injection hr'
theorem quiet_one {P : Program} {o : Oper} {a : Act} {C D : World → Prop} {w : World} {v v' : Value} (h : o.quietAt P a C w v) (h' : o.quietAt P a D w v') : v = v' := by
  unfold Oper.quietAt at h h'
  generalize (execOp a.eval o).run P w = r at h h'
  cases r with
  | ok n w' =>
    cases n <;> simp only [Oper.quietUpon] at h h'
    case value u => exact h.2.symm.trans h'.2
    case skip => exact h.2.trans h'.2.symm
    case enter f args => exact Calls.one_value h.2 h'.2
  | halt x w' => simp only [Oper.quietUpon] at h
end Go.Proofs.Ytgihklohhjhjbaa
