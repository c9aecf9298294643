
/- Comparing integers and strings, the first that is not zero: as plain functions. No program. -/
import Derived.Test.YtjekhgekldkopaaValMath
import Derived.Lib.Bytealg
namespace Go.Proofs.Ytjekhgekldkopaa

/-- two integers compared -/
def cmpI (x y : Int) : Int := if x < y then -1 else if y < x then 1 else 0
/-- the first of three that is not zero -/
def orI (a b c : Int) : Int := if a = 0 then if b = 0 then c else b else a
theorem cmpBytes_eq : ∀ x y : List UInt8, Lib.compareBytes x y = if Op.bytesLess x y then -1 else if Op.bytesLess y x then 1 else 0
  | [], [] => rfl
  | [], _ :: _ => rfl
  | _ :: _, [] => rfl
  | a :: x, b :: y => by
    rw [bl_cons, bl_cons, Lib.compareBytes]
    by_cases h : a < b
    · rw [if_pos h, decide_eq_true h]; rfl
    · rw [if_neg h, decide_eq_false h]
      by_cases h2 : b < a
      · have h3 : ¬ a = b := fun e => by subst e; exact UInt8.lt_irrefl _ h2
        rw [if_pos h2, decide_eq_true h2]
        simp [h3]
      · have h3 : a = b := by
          rcases UInt8.lt_or_lt_of_ne (a := a) (b := b) |> fun f => Classical.em (a = b) |>.imp id f with h1 | h1
          · exact h1
          · rcases h1 with h1 | h1
            · exact absurd h1 h
            · exact absurd h1 h2
        subst h3
        rw [if_neg h2, decide_eq_false h2, cmpBytes_eq x y]
        simp
theorem ordV_or (k n : Int) (t : List UInt8) (k' n' : Int) (t' : List UInt8) : ordV (k, n, t) (k', n', t') = orI (cmpI k k') (cmpI n n') (Lib.compareBytes t t') := by
  rw [cmpBytes_eq]
  unfold ordV orI cmpI
  simp only
  by_cases h1 : k < k'
  · rw [if_pos h1, if_pos h1, if_neg (by decide)]
  · rw [if_neg h1, if_neg h1]
    by_cases h2 : k' < k
    · rw [if_pos h2, if_pos h2, if_neg (by decide)]
    · rw [if_neg h2, if_neg h2, if_pos rfl]
      by_cases h3 : n < n'
      · rw [if_pos h3, if_pos h3, if_neg (by decide)]
      · rw [if_neg h3, if_neg h3]
        by_cases h4 : n' < n
        · rw [if_pos h4, if_pos h4, if_neg (by decide)]
        · rw [if_neg h4, if_neg h4, if_pos rfl]
end Go.Proofs.Ytjekhgekldkopaa
