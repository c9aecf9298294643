/- Joined texts: DepthM OutRow OkMath NameOkI Toks TokSlDef. -/
import Derived.Test.YtkacelpndeoogaaQPA
import Derived.Test.YtkacelpndeoogaaQPP
import Derived.Test.YtkacelpndeoogaaQPF
import Derived.Test.YtkacelpndeoogaaQPB
import Derived.Test.YtkacelpndeoogaaQPE
import Derived.Test.YtkacelpndeoogaaQPH
import Derived.Test.YtkacelpndeoogaaQPL
import Derived.Test.YtkacelpndeoogaaQPC
/- Depths and sizes of parts; the laws' low. -/
namespace Go.Proofs.Ytkacelpndeoogaa
open Go.RowKit

set_option maxRecDepth 100000 in
theorem low_any (a b : Int) (w : World) : Calls Try.prog 11 #[.int .i64 a, .int .i64 b] w (PureE (.int .i64 (if a < b then a else b)) w) := by
  go_enter Try.func11, Try.ntmps11
  by_cases h : a < b
  · have hd : decide (a < b) = true := decide_eq_true h
    rw [if_pos h]
    go_wp2_with fail
    go_ret
    exact ⟨rfl, rfl⟩
  · have hd : decide (a < b) = false := decide_eq_false h
    rw [if_neg h]
    go_wp2_with fail
    go_ret
    exact ⟨rfl, rfl⟩
theorem low_max (d k m : Nat) (h : m = max d k) (w : World) : Calls Try.prog 11 #[.int .i64 (-(d : Int)), .int .i64 (-(k : Int))] w (PureE (.int .i64 (-(m : Int))) w) := by
  have e : (if -(d : Int) < -(k : Int) then -(d : Int) else -(k : Int)) = -(m : Int) := by split <;> omega
  have hl := low_any (-(d : Int)) (-(k : Int)) w
  rw [e] at hl
  exact hl
/-- the deepest of the first, and all of them together -/
def dUp (g : Nat → Nat) (j : Nat) : Nat := depA.of ((List.range j).map g)
def sUp (g : Nat → Nat) (j : Nat) : Nat := sizA.of ((List.range j).map g)
theorem dUp_succ (g : Nat → Nat) (j : Nat) : dUp g (j + 1) = max (dUp g j) (g j) := by
  unfold dUp; rw [List.range_succ, List.map_append]; exact depA.of_snoc _ _
theorem sUp_succ (g : Nat → Nat) (j : Nat) : sUp g (j + 1) = sUp g j + g j := by
  unfold sUp; rw [List.range_succ, List.map_append]; exact sizA.of_snoc _ _
theorem sUp_mono (g : Nat → Nat) {j n : Nat} (h : j ≤ n) : sUp g j ≤ sUp g n := by
  induction n with
  | zero => obtain rfl : j = 0 := by omega
            exact Nat.le_refl _
  | succ n ih =>
    by_cases e : j = n + 1
    · rw [e]; exact Nat.le_refl _
    · have := ih (by omega)
      rw [sUp_succ]; omega
theorem dUp_le {g h : Nat → Nat} (hg : ∀ i, g i ≤ h i) : ∀ j, dUp g j ≤ sUp h j
  | 0 => Nat.le_refl _
  | j + 1 => by
    have := dUp_le hg j
    have := hg j
    rw [dUp_succ, sUp_succ]; omega
theorem kid_msr {n : Nat} {f : Nat → Nat → Dat} {j : Nat} (h : j < n) : msr (f j 8) + msr (f j 9) ≤ msr (.sl n 10 f) := by
  have h1 := msr_mono 10 f (show j + 1 ≤ n from h)
  have hx : msr (.sl j 10 f) + (1 + (msr (f j 8) + msr (f j 9))) ≤ msr (.sl (j + 1) 10 f) := by rw [msr_next]; simp [List.range_succ]; omega
  omega
theorem sub_msr {n : Nat} {f : Nat → Nat → Dat} {j : Nat} (h : j < n) : msr (f j 1) + msr (f j 2) + msr (f j 3) + msr (f j 4) ≤ msr (.sl n 6 f) := by
  have h1 := msr_mono 6 f (show j + 1 ≤ n from h)
  have hx : msr (.sl j 6 f) + (1 + (msr (f j 1) + msr (f j 2) + msr (f j 3) + msr (f j 4))) ≤ msr (.sl (j + 1) 6 f) := by rw [msr_next]; simp [List.range_succ]; omega
  omega
end Go.Proofs.Ytkacelpndeoogaa

/- A row of a tree, as the cells of one of its elements. -/
namespace Go.Proofs.Ytkacelpndeoogaa
open Go.RowKit

theorem out_exprs {w : World} {c : Nd} {c0 : Int} {c1 : Int} {c2 : Bool} {c3 : Int} {c4 : Int} {c5 : ByteArray} {c6 : ByteArray} {c7 : ByteArray} {c8 : Value} {c9 : Value} (h : (c 0 = .v (.int .i64 c0) ∧ -9223372036854775808 ≤ c0 ∧ c0 ≤ 9223372036854775807) ∧ (c 1 = .v (.int .i64 c1) ∧ -9223372036854775808 ≤ c1 ∧ c1 ≤ 9223372036854775807) ∧ c 2 = .v (.bool c2) ∧ (c 3 = .v (.int .i64 c3) ∧ -9223372036854775808 ≤ c3 ∧ c3 ≤ 9223372036854775807) ∧ (c 4 = .v (.int .i64 c4) ∧ -9223372036854775808 ≤ c4 ∧ c4 ≤ 9223372036854775807) ∧ (c 5 = .v (.string c5) ∧ c5.size ≤ 9223372036854775807) ∧ (c 6 = .v (.string c6) ∧ c6.size ≤ 9223372036854775807) ∧ (c 7 = .v (.string c7) ∧ c7.size ≤ 9223372036854775807) ∧ (Rd w 0 c8 (c 8) ∧ Fits (c 8) .exprs) ∧ (Rd w 0 c9 (c 9) ∧ Fits (c 9) .queries)) : OutK exprTy w [.int .i64 c0, .int .i64 c1, .bool c2, .int .i64 c3, .int .i64 c4, .string c5, .string c6, .string c7, c8, c9] [c] := by
  obtain ⟨⟨e0, b0⟩, ⟨e1, b1⟩, e2, ⟨e3, b3⟩, ⟨e4, b4⟩, ⟨e5, b5⟩, ⟨e6, b6⟩, ⟨e7, b7⟩, ⟨r8, f8⟩, ⟨r9, f9⟩⟩ := h
  exact OutK.one rfl (fun m hm => match m, hm with
  | 0, _ => ⟨_, rfl, (by rw [e0]; rfl), (by rw [e0]; exact ⟨_, rfl, b0⟩)⟩
  | 1, _ => ⟨_, rfl, (by rw [e1]; rfl), (by rw [e1]; exact ⟨_, rfl, b1⟩)⟩
  | 2, _ => ⟨_, rfl, (by rw [e2]; rfl), (by rw [e2]; exact ⟨_, rfl⟩)⟩
  | 3, _ => ⟨_, rfl, (by rw [e3]; rfl), (by rw [e3]; exact ⟨_, rfl, b3⟩)⟩
  | 4, _ => ⟨_, rfl, (by rw [e4]; rfl), (by rw [e4]; exact ⟨_, rfl, b4⟩)⟩
  | 5, _ => ⟨_, rfl, (by rw [e5]; rfl), (by rw [e5]; exact ⟨_, rfl, b5⟩)⟩
  | 6, _ => ⟨_, rfl, (by rw [e6]; rfl), (by rw [e6]; exact ⟨_, rfl, b6⟩)⟩
  | 7, _ => ⟨_, rfl, (by rw [e7]; rfl), (by rw [e7]; exact ⟨_, rfl, b7⟩)⟩
  | 8, _ => ⟨_, rfl, r8, f8⟩
  | 9, _ => ⟨_, rfl, r9, f9⟩
  | m + 10, hm => absurd hm (by simp [exprTy, rowTy]))
theorem out_items {w : World} {c : Nd} {c0 : Bool} {c1 : ByteArray} {c2 : Int} {c3 : Int} {c4 : Bool} {c5 : Int} {c6 : Int} {c7 : ByteArray} {c8 : ByteArray} {c9 : ByteArray} {c10 : Value} {c11 : Value} {c12 : ByteArray} (h : c 0 = .v (.bool c0) ∧ (c 1 = .v (.string c1) ∧ c1.size ≤ 9223372036854775807) ∧ (c 2 = .v (.int .i64 c2) ∧ -9223372036854775808 ≤ c2 ∧ c2 ≤ 9223372036854775807) ∧ (c 3 = .v (.int .i64 c3) ∧ -9223372036854775808 ≤ c3 ∧ c3 ≤ 9223372036854775807) ∧ c 4 = .v (.bool c4) ∧ (c 5 = .v (.int .i64 c5) ∧ -9223372036854775808 ≤ c5 ∧ c5 ≤ 9223372036854775807) ∧ (c 6 = .v (.int .i64 c6) ∧ -9223372036854775808 ≤ c6 ∧ c6 ≤ 9223372036854775807) ∧ (c 7 = .v (.string c7) ∧ c7.size ≤ 9223372036854775807) ∧ (c 8 = .v (.string c8) ∧ c8.size ≤ 9223372036854775807) ∧ (c 9 = .v (.string c9) ∧ c9.size ≤ 9223372036854775807) ∧ (Rd w 0 c10 (c 10) ∧ Fits (c 10) .exprs) ∧ (Rd w 0 c11 (c 11) ∧ Fits (c 11) .queries) ∧ (c 12 = .v (.string c12) ∧ c12.size ≤ 9223372036854775807)) : OutK (rowTy .items) w [.bool c0, .string c1, .int .i64 c2, .int .i64 c3, .bool c4, .int .i64 c5, .int .i64 c6, .string c7, .string c8, .string c9, c10, c11, .string c12] [c] := by
  obtain ⟨e0, ⟨e1, b1⟩, ⟨e2, b2⟩, ⟨e3, b3⟩, e4, ⟨e5, b5⟩, ⟨e6, b6⟩, ⟨e7, b7⟩, ⟨e8, b8⟩, ⟨e9, b9⟩, ⟨r10, f10⟩, ⟨r11, f11⟩, ⟨e12, b12⟩⟩ := h
  exact OutK.one rfl (fun m hm => match m, hm with
  | 0, _ => ⟨_, rfl, (by rw [e0]; rfl), (by rw [e0]; exact ⟨_, rfl⟩)⟩
  | 1, _ => ⟨_, rfl, (by rw [e1]; rfl), (by rw [e1]; exact ⟨_, rfl, b1⟩)⟩
  | 2, _ => ⟨_, rfl, (by rw [e2]; rfl), (by rw [e2]; exact ⟨_, rfl, b2⟩)⟩
  | 3, _ => ⟨_, rfl, (by rw [e3]; rfl), (by rw [e3]; exact ⟨_, rfl, b3⟩)⟩
  | 4, _ => ⟨_, rfl, (by rw [e4]; rfl), (by rw [e4]; exact ⟨_, rfl⟩)⟩
  | 5, _ => ⟨_, rfl, (by rw [e5]; rfl), (by rw [e5]; exact ⟨_, rfl, b5⟩)⟩
  | 6, _ => ⟨_, rfl, (by rw [e6]; rfl), (by rw [e6]; exact ⟨_, rfl, b6⟩)⟩
  | 7, _ => ⟨_, rfl, (by rw [e7]; rfl), (by rw [e7]; exact ⟨_, rfl, b7⟩)⟩
  | 8, _ => ⟨_, rfl, (by rw [e8]; rfl), (by rw [e8]; exact ⟨_, rfl, b8⟩)⟩
  | 9, _ => ⟨_, rfl, (by rw [e9]; rfl), (by rw [e9]; exact ⟨_, rfl, b9⟩)⟩
  | 10, _ => ⟨_, rfl, r10, f10⟩
  | 11, _ => ⟨_, rfl, r11, f11⟩
  | 12, _ => ⟨_, rfl, (by rw [e12]; rfl), (by rw [e12]; exact ⟨_, rfl, b12⟩)⟩
  | m + 13, hm => absurd hm (by simp [exprTy, rowTy]))
theorem out_sources {w : World} {c : Nd} {c0 : ByteArray} {c1 : ByteArray} {c2 : Value} (h : (c 0 = .v (.string c0) ∧ c0.size ≤ 9223372036854775807) ∧ (c 1 = .v (.string c1) ∧ c1.size ≤ 9223372036854775807) ∧ (Rd w 0 c2 (c 2) ∧ Fits (c 2) .exprs)) : OutK (rowTy .sources) w [.string c0, .string c1, c2] [c] := by
  obtain ⟨⟨e0, b0⟩, ⟨e1, b1⟩, ⟨r2, f2⟩⟩ := h
  exact OutK.one rfl (fun m hm => match m, hm with
  | 0, _ => ⟨_, rfl, (by rw [e0]; rfl), (by rw [e0]; exact ⟨_, rfl, b0⟩)⟩
  | 1, _ => ⟨_, rfl, (by rw [e1]; rfl), (by rw [e1]; exact ⟨_, rfl, b1⟩)⟩
  | 2, _ => ⟨_, rfl, r2, f2⟩
  | m + 3, hm => absurd hm (by simp [exprTy, rowTy]))
theorem out_keys {w : World} {c : Nd} {c0 : Int} {c1 : Int} {c2 : Bool} {c3 : Int} {c4 : Int} {c5 : ByteArray} {c6 : ByteArray} {c7 : ByteArray} {c8 : Value} {c9 : Value} {c10 : Bool} (h : (c 0 = .v (.int .i64 c0) ∧ -9223372036854775808 ≤ c0 ∧ c0 ≤ 9223372036854775807) ∧ (c 1 = .v (.int .i64 c1) ∧ -9223372036854775808 ≤ c1 ∧ c1 ≤ 9223372036854775807) ∧ c 2 = .v (.bool c2) ∧ (c 3 = .v (.int .i64 c3) ∧ -9223372036854775808 ≤ c3 ∧ c3 ≤ 9223372036854775807) ∧ (c 4 = .v (.int .i64 c4) ∧ -9223372036854775808 ≤ c4 ∧ c4 ≤ 9223372036854775807) ∧ (c 5 = .v (.string c5) ∧ c5.size ≤ 9223372036854775807) ∧ (c 6 = .v (.string c6) ∧ c6.size ≤ 9223372036854775807) ∧ (c 7 = .v (.string c7) ∧ c7.size ≤ 9223372036854775807) ∧ (Rd w 0 c8 (c 8) ∧ Fits (c 8) .exprs) ∧ (Rd w 0 c9 (c 9) ∧ Fits (c 9) .queries) ∧ c 10 = .v (.bool c10)) : OutK (rowTy .keys) w [.int .i64 c0, .int .i64 c1, .bool c2, .int .i64 c3, .int .i64 c4, .string c5, .string c6, .string c7, c8, c9, .bool c10] [c] := by
  obtain ⟨⟨e0, b0⟩, ⟨e1, b1⟩, e2, ⟨e3, b3⟩, ⟨e4, b4⟩, ⟨e5, b5⟩, ⟨e6, b6⟩, ⟨e7, b7⟩, ⟨r8, f8⟩, ⟨r9, f9⟩, e10⟩ := h
  exact OutK.one rfl (fun m hm => match m, hm with
  | 0, _ => ⟨_, rfl, (by rw [e0]; rfl), (by rw [e0]; exact ⟨_, rfl, b0⟩)⟩
  | 1, _ => ⟨_, rfl, (by rw [e1]; rfl), (by rw [e1]; exact ⟨_, rfl, b1⟩)⟩
  | 2, _ => ⟨_, rfl, (by rw [e2]; rfl), (by rw [e2]; exact ⟨_, rfl⟩)⟩
  | 3, _ => ⟨_, rfl, (by rw [e3]; rfl), (by rw [e3]; exact ⟨_, rfl, b3⟩)⟩
  | 4, _ => ⟨_, rfl, (by rw [e4]; rfl), (by rw [e4]; exact ⟨_, rfl, b4⟩)⟩
  | 5, _ => ⟨_, rfl, (by rw [e5]; rfl), (by rw [e5]; exact ⟨_, rfl, b5⟩)⟩
  | 6, _ => ⟨_, rfl, (by rw [e6]; rfl), (by rw [e6]; exact ⟨_, rfl, b6⟩)⟩
  | 7, _ => ⟨_, rfl, (by rw [e7]; rfl), (by rw [e7]; exact ⟨_, rfl, b7⟩)⟩
  | 8, _ => ⟨_, rfl, r8, f8⟩
  | 9, _ => ⟨_, rfl, r9, f9⟩
  | 10, _ => ⟨_, rfl, (by rw [e10]; rfl), (by rw [e10]; exact ⟨_, rfl⟩)⟩
  | m + 11, hm => absurd hm (by simp [exprTy, rowTy]))
theorem out_queries {w : World} {c : Nd} {c0 : Bool} {c1 : Value} {c2 : Value} {c3 : Value} {c4 : Value} {c5 : Int} (h : c 0 = .v (.bool c0) ∧ (Rd w 0 c1 (c 1) ∧ Fits (c 1) .items) ∧ (Rd w 0 c2 (c 2) ∧ Fits (c 2) .sources) ∧ (Rd w 0 c3 (c 3) ∧ Fits (c 3) .exprs) ∧ (Rd w 0 c4 (c 4) ∧ Fits (c 4) .keys) ∧ (c 5 = .v (.int .i64 c5) ∧ -9223372036854775808 ≤ c5 ∧ c5 ≤ 9223372036854775807)) : OutK (rowTy .queries) w [.bool c0, c1, c2, c3, c4, .int .i64 c5] [c] := by
  obtain ⟨e0, ⟨r1, f1⟩, ⟨r2, f2⟩, ⟨r3, f3⟩, ⟨r4, f4⟩, ⟨e5, b5⟩⟩ := h
  exact OutK.one rfl (fun m hm => match m, hm with
  | 0, _ => ⟨_, rfl, (by rw [e0]; rfl), (by rw [e0]; exact ⟨_, rfl⟩)⟩
  | 1, _ => ⟨_, rfl, r1, f1⟩
  | 2, _ => ⟨_, rfl, r2, f2⟩
  | 3, _ => ⟨_, rfl, r3, f3⟩
  | 4, _ => ⟨_, rfl, r4, f4⟩
  | 5, _ => ⟨_, rfl, (by rw [e5]; rfl), (by rw [e5]; exact ⟨_, rfl, b5⟩)⟩
  | m + 6, hm => absurd hm (by simp [exprTy, rowTy]))
end Go.Proofs.Ytkacelpndeoogaa

/- When a tree is right: node by node, and as a whole. No program. -/
namespace Go.Proofs.Ytkacelpndeoogaa
open Go.RowKit

def Dat.num : Dat → Int
  | .v (.int _ n) => n
  | _ => 0
def Dat.txt : Dat → ByteArray
  | .v (.string s) => s
  | _ => ⟨#[]⟩
/-- a value that is one token -/
def litB (k n : Int) (t : ByteArray) : Bool := valOk k n t.data.toList && (decide (0 ≤ n) && decide ((t.size : Int) ≤ 40))
def emptyB (s : ByteArray) : Bool := decide (s.size = 0)
def optB (s : ByteArray) : Bool := emptyB s || okLen s.size
def zeroV (k n : Int) (t : ByteArray) : Bool := (k == 0) && ((n == 0) && emptyB t)
/-- the fields but the names and the parts -/
def headB (k op : Int) (nt : Bool) (vk vn : Int) (vt : ByteArray) : Bool :=
  if k = 1 then (op == 0) && (!nt && litB vk vn vt)
  else if k = 3 then !nt && (zeroV vk vn vt && ((op == 15) || (op == 16)))
  else if k = 4 then !nt && (zeroV vk vn vt && (decide (1 ≤ op) && decide (op ≤ 14)))
  else if k = 5 ∨ k = 6 ∨ k = 7 ∨ k = 8 then (op == 0) && zeroV vk vn vt
  else if k = 2 ∨ k = 9 then (op == 0) && (!nt && zeroV vk vn vt)
  else false
def namesB (k : Int) (q n : ByteArray) : Bool := if k = 2 then okLen n.size && optB q else emptyB q && emptyB n
def takesB (k : Int) (a b : Nat) : Bool :=
  if k = 1 ∨ k = 2 then (a == 0) && (b == 0)
  else if k = 3 ∨ k = 5 then (a == 1) && (b == 0)
  else if k = 4 then (a == 2) && (b == 0)
  else if k = 6 then (a == 3) && (b == 0)
  else if k = 7 then (decide (2 ≤ a) && decide (a ≤ 9)) && (b == 0)
  else if k = 8 then (a == 1) && (b == 1)
  else if k = 9 then (a == 0) && (b == 1)
  else false
def shapeF (k op : Int) (nt : Bool) (vk vn : Int) (vt q n : ByteArray) (a b : Nat) : Bool := headB k op nt vk vn vt && (namesB k q n && takesB k a b)
def shapeB (c : Nat → Dat) : Bool := shapeF (c 0).num (c 1).num (c 2).tru (c 3).num (c 4).num (c 5).txt (c 6).txt (c 7).txt (c 8).len (c 9).len
/-- the expression with nothing in it -/
def zeroNd : Nat → Dat := fun j => match j with
  | 0 => .v (.int .i64 0) | 1 => .v (.int .i64 0) | 2 => .v (.bool false) | 3 => .v (.int .i64 0) | 4 => .v (.int .i64 0) | 5 => .v (.string ⟨#[]⟩) | 6 => .v (.string ⟨#[]⟩) | 7 => .v (.string ⟨#[]⟩)
  | 8 => .sl 0 10 fun _ _ => .v undef
  | _ => .sl 0 6 fun _ _ => .v undef
def itemB (x : Nat → Dat) : Bool :=
  if (x 0).tru then optB (x 1).txt && (emptyB (x 12).txt && sameC exprTy (cut 2 x) zeroNd) else emptyB (x 1).txt && optB (x 12).txt
def sourceB (x : Nat → Dat) : Bool := okLen (x 0).txt.size && (optB (x 1).txt && decide ((x 2).len ≤ 1))
/-- the first source bears no condition -/
def firstB (d : Dat) : Bool := (d.el 0 2).len == 0
def frameB (q : Nat → Dat) : Bool :=
  (decide (1 ≤ (q 1).len) && decide ((q 1).len ≤ 12)) && ((q 1).els.all itemB && ((decide (1 ≤ (q 2).len) && decide ((q 2).len ≤ 3)) && ((q 2).els.all sourceB &&
    (firstB (q 2) && (decide ((q 3).len ≤ 1) && (decide ((q 4).len ≤ 12) && decide (-1 ≤ (q 5).num)))))))
def nodeB (c : Nat → Dat) : Bool := shapeB c && (c 9).els.all frameB
/-- node by node; and query by query -/
def okA : Alg Bool := ⟨and, true, fun c b => nodeB c && b, fun _ b => b⟩
def rightA : Alg Bool := ⟨and, true, fun c b => shapeB c && b, fun q b => frameB q && b⟩
theorem okA_good : okA.Good := ⟨fun a b c => Bool.and_assoc a b c, fun a => Bool.true_and a, fun a => Bool.and_true a⟩
theorem rightA_good : rightA.Good := ⟨fun a b c => Bool.and_assoc a b c, fun a => Bool.true_and a, fun a => Bool.and_true a⟩
theorem okA_of (l : List Bool) : okA.of l = l.all id := by
  induction l with
  | nil => rfl
  | cons a l ih => rw [okA_good.of_cons, ih]; rfl
theorem rightA_of (l : List Bool) : rightA.of l = l.all id := by
  induction l with
  | nil => rfl
  | cons a l ih => rw [rightA_good.of_cons, ih]; rfl
theorem all_and {β : Type} (p q : β → Bool) (l : List β) : (l.all fun x => p x && q x) = (l.all p && l.all q) := by
  induction l with
  | nil => rfl
  | cons a l ih => rw [List.all_cons, List.all_cons, List.all_cons, ih]; cases p a <;> cases q a <;> cases l.all p <;> cases l.all q <;> rfl
/-- the frames of the queries are told at the node above them -/
theorem right_ok : ∀ (d : Dat) (ty : Ty), fold rightA d ty = ((match ty with | .queries => d.els.all frameB | _ => true) && fold okA d ty)
  | .v _, ty => by cases ty <;> rfl
  | .sl n k f, ty => by
    have IH : ∀ i j ty, fold rightA (f i j) ty = ((match ty with | .queries => (f i j).els.all frameB | _ => true) && fold okA (f i j) ty) := fun i j ty => right_ok (f i j) ty
    have HE : ∀ (c : Nat → Dat) i a b, c 9 = f i b → (shapeB c && (fold rightA (f i a) .exprs && fold rightA (f i b) .queries)) = (nodeB c && (fold okA (f i a) .exprs && fold okA (f i b) .queries)) := fun c i a b hc => by
      rw [IH i a .exprs, IH i b .queries]
      unfold nodeB
      rw [hc]
      show (shapeB c && ((true && fold okA (f i a) .exprs) && ((f i b).els.all frameB && fold okA (f i b) .queries))) = _
      cases shapeB c <;> cases (f i b).els.all frameB <;> cases fold okA (f i a) .exprs <;> rfl
    have HL : ∀ g h : Nat → Bool, (∀ i, g i = h i) → rightA.of ((List.range n).map g) = (true && okA.of ((List.range n).map h)) := fun g h e => by
      rw [rightA_of, okA_of, Bool.true_and]
      congr 2
      funext i; exact e i
    cases ty
    case int => rfl
    case bool => rfl
    case str => rfl
    case names => rfl
    case rows => rw [fold, fold]; exact HL _ _ fun i => by rw [IH i 0 .exprs]; rfl
    case exprs => rw [fold, fold]; exact HL _ _ fun i => HE (f i) i 8 9 rfl
    case keys => rw [fold, fold]; exact HL _ _ fun i => HE (f i) i 8 9 rfl
    case items =>
      rw [fold, fold]
      refine HL _ _ fun i => ?_
      cases (f i 0).tru
      · exact HE (cut 2 (f i)) i 10 11 rfl
      · rfl
    case sources => rw [fold, fold]; exact HL _ _ fun i => by rw [IH i 2 .exprs]; rfl
    case queries =>
      rw [fold, fold, rightA_of, okA_of]
      show _ = (((List.range n).map f).all frameB && _)
      rw [List.all_map, List.all_map, List.all_map]
      show ((List.range n).all fun i => frameB (f i) && _) = _
      rw [all_and]
      congr 2
      funext i
      show (((fold rightA (f i 1) .items && fold rightA (f i 2) .sources) && fold rightA (f i 3) .exprs) && fold rightA (f i 4) .keys) = _
      rw [IH i 1 .items, IH i 2 .sources, IH i 3 .exprs, IH i 4 .keys]
      rfl
theorem rightE_ok (c : Nat → Dat) : foldE rightA c = foldE okA c := by
  show (shapeB c && (fold rightA (c 8) .exprs && fold rightA (c 9) .queries)) = (nodeB c && (fold okA (c 8) .exprs && fold okA (c 9) .queries))
  rw [right_ok (c 8) .exprs, right_ok (c 9) .queries]
  unfold nodeB
  show (shapeB c && ((true && fold okA (c 8) .exprs) && ((c 9).els.all frameB && fold okA (c 9) .queries))) = _
  cases shapeB c <;> cases (c 9).els.all frameB <;> cases fold okA (c 8) .exprs <;> rfl
theorem rightQ_ok {q : Nat → Dat} (h1 : Fits (q 1) .items) (h2 : Fits (q 2) .sources) (h3 : Fits (q 3) .exprs) (h4 : Fits (q 4) .keys) : foldQ rightA q = (frameB q && (exprsOf q).all (foldE okA)) := by
  rw [foldQ_is rightA_good h1 h2 h3 h4]
  show (frameB q && rightA.of _) = _
  rw [rightA_of, List.all_map]
  congr 2
  funext c; exact rightE_ok c
/-- all nodes of a tree in order -/
theorem ok_pre (d : Nat) (c : Nd) : foldE okA c = (pre d c).all fun p => nodeB p.2 := by
  unfold pre
  rw [List.all_map]
  refine (fold_homE (G := preA) (H := okA) (fun l => l.all fun p => nodeB p.2) (fun a b => ?_) rfl (fun c l => ?_) (fun _ _ => rfl) c).symm
  · show (a ++ b).all _ = (a.all _ && b.all _)
    rw [List.all_append]
  · show (((0, c) :: l.map (shift 1)).all _) = (nodeB c && l.all _)
    rw [List.all_cons, List.all_map]
    rfl
theorem ok_flat (d : Nat) (L : List Nd) : L.all (foldE okA) = (L.flatMap (pre d)).all fun p => nodeB p.2 := by
  induction L with
  | nil => rfl
  | cons c L ih => rw [List.all_cons, List.flatMap_cons, List.all_append, ← ih, ← ok_pre]
/-- the deepest is no deeper than n where none is -/
theorem mx_le (l : List (Nat × Nd)) (n : Nat) : decide (mx l ≤ n) = l.all fun p => decide (p.1 ≤ n) := by
  induction l with
  | nil => show decide (0 ≤ n) = true; simp
  | cons a l ih =>
    rw [List.all_cons, ← ih]
    show decide (max a.1 (mx l) ≤ n) = _
    rw [← Bool.decide_and, decide_eq_decide]; omega
/-- all that the program asks of the nodes of some trees -/
def listOk (L : List Nd) : Bool := L.all (foldE okA) && (decide (mx (L.flatMap (pre 1)) ≤ 24) && decide ((L.flatMap (pre 1)).length ≤ 200))
/-- at the place i of the walk -/
def stepOk (i : Nat) (p : Nat × Nd) : Bool := decide (p.1 ≤ 24) && (decide (i + 1 ≤ 200) && nodeB p.2)
theorem listOk_true {L : List Nd} {xs : List (Nat × Nd)} (hx : L.flatMap (pre 1) = xs) (h : ∀ i p, xs[i]? = some p → stepOk i p = true) : listOk L = true := by
  unfold listOk
  rw [ok_flat 1, mx_le, hx]
  have h1 : ∀ p ∈ xs, p.1 ≤ 24 ∧ nodeB p.2 = true := fun p hp => by
    obtain ⟨i, hi⟩ := List.getElem?_of_mem hp
    have := h i p hi
    unfold stepOk at this
    simp only [Bool.and_eq_true, decide_eq_true_eq] at this
    exact ⟨this.1, this.2.2⟩
  have h2 : xs.length ≤ 200 := by
    by_cases e : xs.length = 0
    · omega
    · have := h (xs.length - 1) xs[xs.length - 1] (List.getElem?_eq_getElem (by omega))
      unfold stepOk at this
      simp only [Bool.and_eq_true, decide_eq_true_eq] at this
      omega
  simp only [Bool.and_eq_true, List.all_eq_true, decide_eq_true_eq]
  exact ⟨fun p hp => (h1 p hp).2, fun p hp => (h1 p hp).1, h2⟩
theorem listOk_false {L : List Nd} {xs : List (Nat × Nd)} (hx : L.flatMap (pre 1) = xs) {i : Nat} {p : Nat × Nd} (hi : xs[i]? = some p) (h : stepOk i p = false) : listOk L = false := by
  refine Bool.eq_false_iff.2 fun hL => ?_
  unfold listOk at hL
  rw [ok_flat 1, mx_le, hx] at hL
  simp only [Bool.and_eq_true, List.all_eq_true, decide_eq_true_eq] at hL
  have hm := List.mem_of_getElem? hi
  have hlt := (List.getElem?_eq_some_iff.1 hi).1
  have h1 := hL.1 p hm
  have h2 := hL.2.1 p hm
  have h3 := hL.2.2
  unfold stepOk at h
  rw [h1, decide_eq_true h2, decide_eq_true (by omega : i + 1 ≤ 200)] at h
  cases h
theorem listOk_is (L : List Nd) : listOk L = (L.all (foldE okA) && (decide (depA.of (L.map (foldE depA)) ≤ 24) && decide (sizA.of (L.map (foldE sizA)) ≤ 200))) := by
  unfold listOk
  rw [mx_flat, len_flat]
end Go.Proofs.Ytkacelpndeoogaa

/- The contract of NameOk in the program. -/
namespace Go.Proofs.Ytkacelpndeoogaa
open Go.RowKit

set_option maxHeartbeats 400000 in
theorem nameOk_impl (s : ByteArray) (w : World) (_hs : s.size ≤ 9223372036854775807) : Calls Try.prog 170 #[.string s] w (PureE (.bool (okLen s.size)) w) := by
  have hE : okLen s.size = (decide (1 ≤ (s.size : Int)) && decide ((s.size : Int) ≤ 20)) := rfl
  by_cases h0 : 1 ≤ (s.size : Int)
  · have d0 : decide (1 ≤ (s.size : Int)) = true := by simpa using h0
    by_cases h1 : (s.size : Int) ≤ 20
    · have d1 : decide ((s.size : Int) ≤ 20) = true := by simpa using h1
      rw [d0, d1] at hE
      have HE := Lib.hid hE; clear hE
      go_enter Try.func170, Try.ntmps170
      go_wp2
      go_ret
      exact pure_bool (by rw [HE.out]; rfl)
    · have d1 : decide ((s.size : Int) ≤ 20) = false := by simpa using h1
      rw [d0, d1] at hE
      have HE := Lib.hid hE; clear hE
      go_enter Try.func170, Try.ntmps170
      go_wp2
      go_ret
      exact pure_bool (by rw [HE.out]; rfl)
  · have d0 : decide (1 ≤ (s.size : Int)) = false := by simpa using h0
    rw [d0] at hE
    have HE := Lib.hid hE; clear hE
    go_enter Try.func170, Try.ntmps170
    go_wp2
    go_ret
    exact pure_bool (by rw [HE.out]; rfl)
end Go.Proofs.Ytkacelpndeoogaa

/- Slices of tokens that a call owns; what a lexer hands back. -/
namespace Go.Proofs.Ytkacelpndeoogaa
open Go.RowKit

theorem Try.infoTk : (Try.prog.info? 53).map (fun i => (i.zero, i.size, i.bytes)) = some (some (.agg #[.int .i64 0, .string ByteArray.empty, .int .i64 0]), 3, 32) := by kernel_rfl

/-- a token's cells -/
def tkCells (t : Tk) : List Value := [.int .i64 t.k, .string ⟨t.t.toArray⟩, .int .i64 (t.a : Int)]
def toksCells (L : List Tk) : List Value := L.flatMap tkCells
theorem toksCells_snoc (L : List Tk) (t : Tk) : toksCells (L ++ [t]) = toksCells L ++ tkCells t := by simp [toksCells]
/-- the slice value v of the call's own holds the tokens L -/
def OwnT (w : World) (B : Nat) (v : Value) (L : List Tk) : Prop := w.ownsRow B 53 3 v L.length (toksCells L)

theorem appT {ops : Array Oper} {rest : List Oper} {o : Oper} {a : Act} {Q : Exit → Act → World → Prop}
    (hgd : o.guard = none) (s x : Operand) (ho : o.op = .call { callee := .builtin .append, args := #[s, x], argTypes := #[50, 50] })
    (B : Nat) (v : Value) (L : List Tk) (t : Tk) (S : ByteArray) (hS : S = ⟨t.t.toArray⟩) (W : World) (nb : Nat) (hnb : W.heap.size = nb) (hs : a.eval s = v) (hx : a.eval x = .slice (some ⟨nb, 0, none⟩) 1 1)
    (hown : OwnT W B v L) (hl : L.length ≤ 4000000) (hB : B ≤ W.heap.size)
    (h : ∀ (g cap : Nat) (w' : World), OwnT w' B (.slice (some ⟨g, 0, none⟩) (L.length + 1) cap) (L ++ [t]) → Below B W w' → wpList Try.prog ops Q rest (a.put o.dst (.slice (some ⟨g, 0, none⟩) (L.length + 1) cap)) w') :
    wpList Try.prog ops Q (o :: rest) a (W.alloc (.cells #[.int .i64 t.k, .string S, .int .i64 (t.a : Int)] 53)) := by
  subst hS
  subst hnb
  obtain ⟨i, hi, hz, hsize, hby⟩ := info_parts Try.infoTk
  have hrow := heap_alloc_new W (.cells #[.int .i64 t.k, .string ⟨t.t.toArray⟩, .int .i64 (t.a : Int)] 53)
  refine wpList_append_own _ hgd s x 50 ho B 53 i _ 3 32 Try.underlying50 hi hz hsize hby rfl (by decide) v L.length (toksCells L) hs (World.ownsRow.alloc hown _) ⟨W.heap.size, 0, none⟩ 1 1 (tkCells t) hx rfl (fun j u hj => ?_) (fun u hu => by simp [tkCells] at hu; rcases hu with rfl | rfl | rfl <;> rfl) (by unfold maxLen; omega) (by omega) (by simp; omega) ?_
  · have hp : (⟨W.heap.size, 0, none⟩ : Addr).add j = ⟨W.heap.size, j, none⟩ := by unfold Addr.add; split <;> simp_all
    rw [hp, cell_of_row _ W.heap.size j _ 53 (0, 0) hrow]
    have hj3 : j < 3 := by
      have := (List.getElem?_eq_some_iff.1 hj).1
      simpa [tkCells] using this
    rcases (show j = 0 ∨ j = 1 ∨ j = 2 by omega) with rfl | rfl | rfl <;> exact hj
  · intro v' w' hown' hgrow hnil
    have hb : Below B W w' := ((Below.refl B W).alloc hB _).grown hgrow (by simp; omega) (fun q hq => (World.ownsRow.lt hown q hq).1)
    obtain ⟨g, cap, rfl⟩ : ∃ g cap, v' = .slice (some ⟨g, 0, none⟩) (L.length + 1) cap := by
      rcases hown'.2 with ⟨_, h0⟩ | ⟨g, cap, _, h0, _⟩
      · omega
      · exact ⟨g, cap, h0⟩
    exact h g cap w' (by unfold OwnT; rw [toksCells_snoc, List.length_append]; exact hown') hb

/-- what a lexer hands back -/
def LexE (r : Except Nat (List Tk)) (w : World) (e : Ending) (w' : World) : Prop :=
  (match r with
    | .ok L => ∃ v, e = .returned (.tuple #[v, .int .i64 (-1)]) ∧ OwnT w' w.heap.size v L
    | .error n => ∃ (a : Option Addr) (cap : Nat), e = .returned (.tuple #[.slice a 0 cap, .int .i64 (n : Int)])) ∧ Below w.heap.size w w'
end Go.Proofs.Ytkacelpndeoogaa

/- Slices of tokens: what it is that one holds, and what keeps it. -/
namespace Go.Proofs.Ytkacelpndeoogaa
open Go.RowKit

/-- the slice at a holds the tokens f 0, f 1, .. up to n; its block is new since B -/
def TokSl (w : World) (B : Nat) (a : Option Addr) (n : Nat) (f : Nat → Int × ByteArray × Int) : Prop :=
  ∀ j, j < n → ∃ g, a = some ⟨g, 0, none⟩ ∧ B ≤ g ∧ g < w.heap.size ∧
    w.cell? ⟨g, j * 3, none⟩ = some (.int .i64 (f j).1) ∧ w.cell? ⟨g, j * 3 + 1, none⟩ = some (.string (f j).2.1) ∧ w.cell? ⟨g, j * 3 + 2, none⟩ = some (.int .i64 (f j).2.2) ∧
    w.frozen? ⟨g, j * 3, none⟩ = false ∧ w.frozen? ⟨g, j * 3 + 1, none⟩ = false ∧ w.frozen? ⟨g, j * 3 + 2, none⟩ = false

def upd (f : Nat → Int × ByteArray × Int) (k : Nat) (v : Int × ByteArray × Int) (j : Nat) : Int × ByteArray × Int := if j = k then v else f j
theorem upd_same {f : Nat → Int × ByteArray × Int} {k : Nat} {v : Int × ByteArray × Int} : upd f k v k = v := if_pos rfl
theorem upd_other {f : Nat → Int × ByteArray × Int} {k j : Nat} {v : Int × ByteArray × Int} (h : ¬ j = k) : upd f k v j = f j := if_neg h
theorem TokSl.put0 {w : World} {B n k g : Nat} {a : Option Addr} {f : Nat → Int × ByteArray × Int} (x : Int) (H : TokSl w B a n f) (ha : a = some ⟨g, 0, none⟩) :
    TokSl (w.setCell ⟨g, k * 3, none⟩ (.int .i64 x)) B a n (upd f k (x, (f k).2.1, (f k).2.2)) := fun j hj => by
  obtain ⟨g', e, h1, h2, c0, c1, c2, z0, z1, z2⟩ := H j hj
  obtain rfl : g' = g := by rw [e] at ha; simpa using ha
  have hsz : (w.setCell ⟨g', k * 3, none⟩ (.int .i64 x)).heap.size = w.heap.size := by simp
  refine ⟨g', e, h1, by rw [hsz]; exact h2, ?_, ?_, ?_, by rw [World.frozen?_setCell]; exact z0, by rw [World.frozen?_setCell]; exact z1, by rw [World.frozen?_setCell]; exact z2⟩
  all_goals
    by_cases ej : j = k
    · subst ej
      rw [upd_same]
      first
        | exact World.cell?_setCell_same _ _ _ (by assumption)
        | (rw [World.cell?_setCell_other _ _ _ _ (fun x => by have := (Addr.mk.inj x).2.1; omega)]; assumption)
    · rw [upd_other ej, World.cell?_setCell_other _ _ _ _ (fun x => by have := (Addr.mk.inj x).2.1; omega)]; assumption
theorem TokSl.put1 {w : World} {B n k g : Nat} {a : Option Addr} {f : Nat → Int × ByteArray × Int} (x : ByteArray) (H : TokSl w B a n f) (ha : a = some ⟨g, 0, none⟩) :
    TokSl (w.setCell ⟨g, k * 3 + 1, none⟩ (.string x)) B a n (upd f k ((f k).1, x, (f k).2.2)) := fun j hj => by
  obtain ⟨g', e, h1, h2, c0, c1, c2, z0, z1, z2⟩ := H j hj
  obtain rfl : g' = g := by rw [e] at ha; simpa using ha
  have hsz : (w.setCell ⟨g', k * 3 + 1, none⟩ (.string x)).heap.size = w.heap.size := by simp
  refine ⟨g', e, h1, by rw [hsz]; exact h2, ?_, ?_, ?_, by rw [World.frozen?_setCell]; exact z0, by rw [World.frozen?_setCell]; exact z1, by rw [World.frozen?_setCell]; exact z2⟩
  all_goals
    by_cases ej : j = k
    · subst ej
      rw [upd_same]
      first
        | exact World.cell?_setCell_same _ _ _ (by assumption)
        | (rw [World.cell?_setCell_other _ _ _ _ (fun x => by have := (Addr.mk.inj x).2.1; omega)]; assumption)
    · rw [upd_other ej, World.cell?_setCell_other _ _ _ _ (fun x => by have := (Addr.mk.inj x).2.1; omega)]; assumption
theorem TokSl.put2 {w : World} {B n k g : Nat} {a : Option Addr} {f : Nat → Int × ByteArray × Int} (x : Int) (H : TokSl w B a n f) (ha : a = some ⟨g, 0, none⟩) :
    TokSl (w.setCell ⟨g, k * 3 + 2, none⟩ (.int .i64 x)) B a n (upd f k ((f k).1, (f k).2.1, x)) := fun j hj => by
  obtain ⟨g', e, h1, h2, c0, c1, c2, z0, z1, z2⟩ := H j hj
  obtain rfl : g' = g := by rw [e] at ha; simpa using ha
  have hsz : (w.setCell ⟨g', k * 3 + 2, none⟩ (.int .i64 x)).heap.size = w.heap.size := by simp
  refine ⟨g', e, h1, by rw [hsz]; exact h2, ?_, ?_, ?_, by rw [World.frozen?_setCell]; exact z0, by rw [World.frozen?_setCell]; exact z1, by rw [World.frozen?_setCell]; exact z2⟩
  all_goals
    by_cases ej : j = k
    · subst ej
      rw [upd_same]
      first
        | exact World.cell?_setCell_same _ _ _ (by assumption)
        | (rw [World.cell?_setCell_other _ _ _ _ (fun x => by have := (Addr.mk.inj x).2.1; omega)]; assumption)
    · rw [upd_other ej, World.cell?_setCell_other _ _ _ _ (fun x => by have := (Addr.mk.inj x).2.1; omega)]; assumption
theorem TokSl.congr {w : World} {B n : Nat} {a : Option Addr} {f f' : Nat → Int × ByteArray × Int} (H : TokSl w B a n f) (h : ∀ j, j < n → f j = f' j) : TokSl w B a n f' := fun j hj => by
  rw [← h j hj]; exact H j hj
theorem TokSl.keep {w w' : World} {B n : Nat} {a : Option Addr} {f : Nat → Int × ByteArray × Int} (H : TokSl w B a n f) (hs : w.heap.size ≤ w'.heap.size) (hb : ∀ g, a = some ⟨g, 0, none⟩ → B ≤ g → g < w.heap.size → w'.heap[g]? = w.heap[g]?) : TokSl w' B a n f := fun j hj => by
  obtain ⟨g, e, h1, h2, c0, c1, c2, z0, z1, z2⟩ := H j hj
  have hk := hb g e h1 h2
  have hc : ∀ o, w'.cell? ⟨g, o, none⟩ = w.cell? ⟨g, o, none⟩ := fun o => World.cell?_of_block (w := w) (w' := w') (a := ⟨g, o, none⟩) hk
  have hz : ∀ o, w'.frozen? ⟨g, o, none⟩ = w.frozen? ⟨g, o, none⟩ := fun o => World.frozen?_of_block (w := w) (w' := w') (a := ⟨g, o, none⟩) hk
  exact ⟨g, e, h1, by omega, by rw [hc]; exact c0, by rw [hc]; exact c1, by rw [hc]; exact c2, by rw [hz]; exact z0, by rw [hz]; exact z1, by rw [hz]; exact z2⟩
theorem TokSl.below {w w' : World} {B n : Nat} {a : Option Addr} {f : Nat → Int × ByteArray × Int} (H : TokSl w B a n f) (hb : Below w.heap.size w w') : TokSl w' B a n f :=
  H.keep hb.size fun g _ _ h => hb.block g h

/-- the cells of token k, in any later world -/
theorem TokSl.at_k {w w' : World} {B n k g : Nat} {f : Nat → Int × ByteArray × Int} (H : TokSl w B (some ⟨g, 0, none⟩) n f) (hb : Below w.heap.size w w') (hk : k < n) :
    w'.cell? ⟨g, k * 3, none⟩ = some (.int .i64 (f k).1) ∧ w'.cell? ⟨g, k * 3 + 1, none⟩ = some (.string (f k).2.1) ∧ w'.cell? ⟨g, k * 3 + 2, none⟩ = some (.int .i64 (f k).2.2) := by
  obtain ⟨g', e, _, _, c0, c1, c2, _⟩ := H.below hb k hk
  obtain rfl : g = g' := by simpa using e
  exact ⟨c0, c1, c2⟩

/-- nothing that was there has turned but the slice's own block -/
def Turns (a : Option Addr) (w w' : World) : Prop := w.grownBy w' (a.map (·.block))
theorem turns_refl (a : Option Addr) (w : World) : Turns a w w := ⟨rfl, rfl, rfl, Nat.le_refl _, fun _ _ _ => rfl⟩
theorem turns_set {a : Option Addr} {w w1 : World} {g o : Nat} {v : Value} (h : Turns a w w1) (ha : a = some ⟨g, 0, none⟩) : Turns a w (w1.setCell ⟨g, o, none⟩ v) := by
  subst ha
  exact ⟨h.os, h.tape, h.output, by simpa using h.size, fun k hk hr => (heap_setCell_other w1 ⟨g, o, none⟩ k v (fun e => hr (by simp [e]))).trans (h.block k hk hr)⟩
theorem turns_below {a : Option Addr} {w w1 w2 : World} (h : Turns a w w1) (g : Below w1.heap.size w1 w2) : Turns a w w2 :=
  ⟨g.os.trans h.os, g.tape.trans h.tape, g.output.trans h.output, Nat.le_trans h.size g.size, fun k hk hr => (g.block k (by have := h.size; omega)).trans (h.block k hk hr)⟩
end Go.Proofs.Ytkacelpndeoogaa
