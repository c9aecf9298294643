/- Joined texts: Pure KeyMath NameDef Math DecMath. -/
import Derived.Test.YtcliijfdlcagoaaGreatQZAA
import Derived.WalkKit
import Derived.ProofKit
import Derived.Maps.RangeWalk
import Derived.Maps.OwnOps
import Derived.Lib.Hide
import Derived.Lib.SlicesS
import Derived.Laws.BitsLemmas
import Derived.Laws.Bits64
import Derived.Laws.Bits64b
import Derived.Lib.ItoaNum
import Derived.Lib.Strings
namespace Go.Proofs.YtcliijfdlcagoaaGreat
set_option linter.unusedVariables false
set_option linter.unusedSimpArgs false
open Go.RowKit
def PureE (v : Value) (w : World) (e : Ending) (w' : World) : Prop := e = .returned v ∧ w' = w
theorem pure_bool {a b : Bool} {w : World} (h : a = b) : PureE (.bool b) w (.returned (.bool a)) w := by subst h; exact ⟨rfl, rfl⟩
def IntE (n : Int) (w : World) (e : Ending) (w' : World) : Prop := e = .returned (.int .i64 n) ∧ Below w.heap.size w w'
def BoolE (b : Bool) (w : World) (e : Ending) (w' : World) : Prop := e = .returned (.bool b) ∧ Below w.heap.size w w'
def dg (n : Int) : Bool := decide (48 ≤ n) && decide (n ≤ 57)
def ltr (n : Int) : Bool := decide (65 ≤ n) && decide (n ≤ 90) || decide (97 ≤ n) && decide (n ≤ 122)
def wd (n : Int) : Bool := ltr n || dg n || n == 95
theorem in_any (a lo hi : Int) (b : Bool) (w : World) (hb : b = decide (lo ≤ a ∧ a ≤ hi)) : Calls Tryz.prog 36 #[.int .i64 a, .int .i64 lo, .int .i64 hi] w (PureE (.bool b) w) := by
  subst hb
  by_cases h1 : lo ≤ a
  · have hd : decide (lo ≤ a) = true := by simpa using h1
    by_cases h2 : a ≤ hi
    · have hd2 : decide (a ≤ hi) = true := by simpa using h2
      go_enter Tryz.func36, Tryz.ntmps36
      go_wp2
      go_ret
      exact pure_bool (by first | rfl | (rw [Bool.decide_and, hd, hd2] <;> rfl))
    · have hd2 : decide (a ≤ hi) = false := by simpa using h2
      go_enter Tryz.func36, Tryz.ntmps36
      go_wp2
      go_ret
      exact pure_bool (by first | rfl | (rw [Bool.decide_and, hd, hd2] <;> rfl))
  · have hd : decide (lo ≤ a) = false := by simpa using h1
    go_enter Tryz.func36, Tryz.ntmps36
    go_wp2
    go_ret
    exact pure_bool (by first | rfl | (rw [Bool.decide_and, hd] <;> rfl))
def words : List (List UInt8) := [[], [83, 69, 76, 69, 67, 84], [68, 73, 83, 84, 73, 78, 67, 84], [70, 82, 79, 77], [74, 79, 73, 78], [79, 78], [87, 72, 69, 82, 69], [79, 82, 68, 69, 82], [66, 89], [65, 83, 67], [68, 69, 83, 67], [76, 73, 77, 73, 84], [65, 83], [65, 78, 68], [79, 82], [78, 79, 84], [73, 83], [73, 78], [66, 69, 84, 87, 69, 69, 78], [69, 88, 73, 83, 84, 83], [78, 85, 76, 76], [84, 82, 85, 69], [70, 65, 76, 83, 69], [73, 78, 83, 69, 82, 84], [73, 78, 84, 79], [86, 65, 76, 85, 69, 83], [85, 80, 68, 65, 84, 69], [83, 69, 84], [68, 69, 76, 69, 84, 69]]
def word (k : Nat) : List UInt8 := words.getD k []
def upB (b : UInt8) : UInt8 := if 97 ≤ b.toNat ∧ b.toNat ≤ 122 then UInt8.ofNat (b.toNat - 32) else b
def upL (l : List UInt8) : List UInt8 := l.map upB
def numOf (l : List UInt8) : Nat := ((List.range 29).find? (fun k => decide (1 ≤ k) && (word k == l))).getD 0
def StrRow (w : World) (g n : Nat) (f : Nat → ByteArray) : Prop := g < w.heap.size ∧ ∀ j, j < n → w.cell? ⟨g, j, none⟩ = some (.string (f j)) ∧ w.frozen? ⟨g, j, none⟩ = false
theorem StrRow.keep {w w' : World} {g n : Nat} {f : Nat → ByteArray} (h : StrRow w g n f) (hb : w'.heap[g]? = w.heap[g]?) (hs : w.heap.size ≤ w'.heap.size) : StrRow w' g n f :=
  ⟨by have := h.1; omega, fun j hj => ⟨(World.cell?_of_block (w := w) (w' := w') (a := ⟨g, j, none⟩) hb).trans (h.2 j hj).1, (World.frozen?_of_block (w := w) (w' := w') (a := ⟨g, j, none⟩) hb).trans (h.2 j hj).2⟩⟩
theorem StrRow.below {w w' : World} {g n B : Nat} {f : Nat → ByteArray} (h : StrRow w g n f) (hb : Below B w w') (hg : g < B) : StrRow w' g n f := h.keep (hb.block g hg) hb.size
def ByteRow (w : World) (g n : Nat) (f : Nat → UInt8) : Prop := g < w.heap.size ∧ ∀ j, j < n → w.cell? ⟨g, j, none⟩ = some (.int .u8 ((f j).toNat : Int)) ∧ w.frozen? ⟨g, j, none⟩ = false
theorem ByteRow.keep {w w' : World} {g n : Nat} {f : Nat → UInt8} (h : ByteRow w g n f) (hb : w'.heap[g]? = w.heap[g]?) (hs : w.heap.size ≤ w'.heap.size) : ByteRow w' g n f :=
  ⟨by have := h.1; omega, fun j hj => ⟨(World.cell?_of_block (w := w) (w' := w') (a := ⟨g, j, none⟩) hb).trans (h.2 j hj).1, (World.frozen?_of_block (w := w) (w' := w') (a := ⟨g, j, none⟩) hb).trans (h.2 j hj).2⟩⟩
theorem ByteRow.below {w w' : World} {g n B : Nat} {f : Nat → UInt8} (h : ByteRow w g n f) (hb : Below B w w') (hg : g < B) : ByteRow w' g n f := h.keep (hb.block g hg) hb.size
def mixB (i : Nat) (h f : Nat → UInt8) (j : Nat) : UInt8 := if j < i then h j else f j
theorem mixB_lt {i j : Nat} {h f : Nat → UInt8} (hj : j < i) : mixB i h f j = h j := if_pos hj
theorem mixB_ge {i j : Nat} {h f : Nat → UInt8} (hj : ¬ j < i) : mixB i h f j = f j := if_neg hj
theorem ByteRow.put {w : World} {g n i : Nat} {f h : Nat → UInt8} {x : Int} (H : ByteRow w g n (mixB i h f)) (hx : x = ((h i).toNat : Int)) : ByteRow (w.setCell ⟨g, i, none⟩ (.int .u8 x)) g n (mixB (i + 1) h f) := by
  subst hx
  refine ⟨by have := H.1; simpa using this, fun j hj => ?_⟩
  obtain ⟨h1, h2⟩ := H.2 j hj
  refine ⟨?_, by rw [World.frozen?_setCell]; exact h2⟩
  by_cases e : i = j
  · subst e
    rw [World.cell?_setCell_same _ _ _ h1, mixB_lt (by omega)]
  · rw [World.cell?_setCell_other _ _ _ _ (fun x => e (Addr.mk.inj x).2.1), h1]
    by_cases hl : j < i
    · rw [mixB_lt hl, mixB_lt (by omega)]
    · rw [mixB_ge hl, mixB_ge (by omega)]
theorem ByteRow.string {P : Program} {e src dst : TypeId} {w : World} {g n cap : Nat} {f : Nat → UInt8} {l : List UInt8} (h : ByteRow w g n f) (hl : l.length = n) (hf : ∀ j, j < n → f j = l.getD j 0)
    (hs : P.underlying src = some (.slice e)) (he : P.underlying e = some (.int .u8)) (hd : P.underlying dst = some .string) :
    (convert src dst (.slice (some ⟨g, 0, none⟩) n cap)).run P w = .ok (.string ⟨l.toArray⟩) w := by
  subst hl
  exact run_convert_bytes_back w src dst e ⟨g, 0, none⟩ cap l hs he hd fun j hj => by
    have hp : (⟨g, 0, none⟩ : Addr).add j = ⟨g, j, none⟩ := by unfold Addr.add; split <;> simp_all
    rw [hp, (h.2 j hj).1, hf j hj]
    simp [List.getD_eq_getElem?_getD, hj]
def okLen (n : Nat) : Bool := decide (1 ≤ (n : Int)) && decide ((n : Int) ≤ 20)
end Go.Proofs.YtcliijfdlcagoaaGreat

namespace Go.Proofs.YtcliijfdlcagoaaGreat
open Go.Lib (decDigits)
def digVal (l : List UInt8) : Nat := l.foldl (fun n b => 10 * n + (b.toNat - 48)) 0
theorem dec_small {u : Nat} (h : u < 10) : decDigits u = [UInt8.ofNat (48 + u)] := by rw [decDigits, dif_pos h]
theorem dec_big {u : Nat} (h : ¬ u < 10) : decDigits u = decDigits (u / 10) ++ [UInt8.ofNat (48 + u % 10)] := by rw [decDigits, dif_neg h]
theorem dec_len (k : Nat) : ∀ u, u < 10 ^ (k + 1) → (decDigits u).length ≤ k + 1 := by
  induction k with
  | zero => intro u h; rw [dec_small (by omega)]; simp
  | succ k ih =>
    intro u h
    by_cases hu : u < 10
    · rw [dec_small hu]; simp
    · rw [dec_big hu]
      have := ih (u / 10) (by rw [Nat.div_lt_iff_lt_mul (by omega)]; rw [← Nat.pow_succ]; exact h)
      simp; omega
def Num (s : List UInt8) (n : Nat) : Prop := n ≤ 9223372036854775807 ∧ decDigits n = s
theorem Num.len {s : List UInt8} {n : Nat} (h : Num s n) : s.length ≤ 19 := by rw [← h.2]; exact dec_len 18 n (by have := h.1; omega)
end Go.Proofs.YtcliijfdlcagoaaGreat
