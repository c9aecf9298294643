/- Joined texts: ValSlDef ValSl ValLaws ValMath OrdS ValI. -/
import Derived.Test.YtkacelpndeoogaaQPQ
import Derived.Test.YtkacelpndeoogaaQPL
import Derived.Test.YtkacelpndeoogaaQPD
import Derived.Test.YtkacelpndeoogaaQPC
import Derived.Deep.RegionWith
import Derived.WalkKit
import Derived.Lib.Hide
import Derived.Laws.Cover1
/- Slices of values: what it is that one holds, and what keeps it. -/
namespace Go.Proofs.Ytkacelpndeoogaa
open Go.RowKit

/-- the slice at a holds the values f 0, f 1, .. up to n; its block is new since B -/
def ValSl (w : World) (B : Nat) (a : Option Addr) (n : Nat) (f : Nat → Int × Int × ByteArray) : Prop :=
  ∀ j, j < n → ∃ g, a = some ⟨g, 0, none⟩ ∧ B ≤ g ∧ g < w.heap.size ∧
    w.cell? ⟨g, j * 3, none⟩ = some (.int .i64 (f j).1) ∧ w.cell? ⟨g, j * 3 + 1, none⟩ = some (.int .i64 (f j).2.1) ∧ w.cell? ⟨g, j * 3 + 2, none⟩ = some (.string (f j).2.2) ∧
    w.frozen? ⟨g, j * 3, none⟩ = false ∧ w.frozen? ⟨g, j * 3 + 1, none⟩ = false ∧ w.frozen? ⟨g, j * 3 + 2, none⟩ = false

def updV (f : Nat → Int × Int × ByteArray) (k : Nat) (v : Int × Int × ByteArray) (j : Nat) : Int × Int × ByteArray := if j = k then v else f j
theorem updV_same {f : Nat → Int × Int × ByteArray} {k : Nat} {v : Int × Int × ByteArray} : updV f k v k = v := if_pos rfl
theorem updV_other {f : Nat → Int × Int × ByteArray} {k j : Nat} {v : Int × Int × ByteArray} (h : ¬ j = k) : updV f k v j = f j := if_neg h
theorem ValSl.put0 {w : World} {B n k g : Nat} {a : Option Addr} {f : Nat → Int × Int × ByteArray} (x : Int) (H : ValSl w B a n f) (ha : a = some ⟨g, 0, none⟩) :
    ValSl (w.setCell ⟨g, k * 3, none⟩ (.int .i64 x)) B a n (updV f k (x, (f k).2.1, (f k).2.2)) := fun j hj => by
  obtain ⟨g', e, h1, h2, c0, c1, c2, z0, z1, z2⟩ := H j hj
  obtain rfl : g' = g := by rw [e] at ha; simpa using ha
  have hsz : (w.setCell ⟨g', k * 3, none⟩ (.int .i64 x)).heap.size = w.heap.size := by simp
  refine ⟨g', e, h1, by rw [hsz]; exact h2, ?_, ?_, ?_, by rw [World.frozen?_setCell]; exact z0, by rw [World.frozen?_setCell]; exact z1, by rw [World.frozen?_setCell]; exact z2⟩
  all_goals
    by_cases ej : j = k
    · subst ej
      rw [updV_same]
      first
        | exact World.cell?_setCell_same _ _ _ (by assumption)
        | (rw [World.cell?_setCell_other _ _ _ _ (fun x => by have := (Addr.mk.inj x).2.1; omega)]; assumption)
    · rw [updV_other ej, World.cell?_setCell_other _ _ _ _ (fun x => by have := (Addr.mk.inj x).2.1; omega)]; assumption
theorem ValSl.put1 {w : World} {B n k g : Nat} {a : Option Addr} {f : Nat → Int × Int × ByteArray} (x : Int) (H : ValSl w B a n f) (ha : a = some ⟨g, 0, none⟩) :
    ValSl (w.setCell ⟨g, k * 3 + 1, none⟩ (.int .i64 x)) B a n (updV f k ((f k).1, x, (f k).2.2)) := fun j hj => by
  obtain ⟨g', e, h1, h2, c0, c1, c2, z0, z1, z2⟩ := H j hj
  obtain rfl : g' = g := by rw [e] at ha; simpa using ha
  have hsz : (w.setCell ⟨g', k * 3 + 1, none⟩ (.int .i64 x)).heap.size = w.heap.size := by simp
  refine ⟨g', e, h1, by rw [hsz]; exact h2, ?_, ?_, ?_, by rw [World.frozen?_setCell]; exact z0, by rw [World.frozen?_setCell]; exact z1, by rw [World.frozen?_setCell]; exact z2⟩
  all_goals
    by_cases ej : j = k
    · subst ej
      rw [updV_same]
      first
        | exact World.cell?_setCell_same _ _ _ (by assumption)
        | (rw [World.cell?_setCell_other _ _ _ _ (fun x => by have := (Addr.mk.inj x).2.1; omega)]; assumption)
    · rw [updV_other ej, World.cell?_setCell_other _ _ _ _ (fun x => by have := (Addr.mk.inj x).2.1; omega)]; assumption
theorem ValSl.put2 {w : World} {B n k g : Nat} {a : Option Addr} {f : Nat → Int × Int × ByteArray} (x : ByteArray) (H : ValSl w B a n f) (ha : a = some ⟨g, 0, none⟩) :
    ValSl (w.setCell ⟨g, k * 3 + 2, none⟩ (.string x)) B a n (updV f k ((f k).1, (f k).2.1, x)) := fun j hj => by
  obtain ⟨g', e, h1, h2, c0, c1, c2, z0, z1, z2⟩ := H j hj
  obtain rfl : g' = g := by rw [e] at ha; simpa using ha
  have hsz : (w.setCell ⟨g', k * 3 + 2, none⟩ (.string x)).heap.size = w.heap.size := by simp
  refine ⟨g', e, h1, by rw [hsz]; exact h2, ?_, ?_, ?_, by rw [World.frozen?_setCell]; exact z0, by rw [World.frozen?_setCell]; exact z1, by rw [World.frozen?_setCell]; exact z2⟩
  all_goals
    by_cases ej : j = k
    · subst ej
      rw [updV_same]
      first
        | exact World.cell?_setCell_same _ _ _ (by assumption)
        | (rw [World.cell?_setCell_other _ _ _ _ (fun x => by have := (Addr.mk.inj x).2.1; omega)]; assumption)
    · rw [updV_other ej, World.cell?_setCell_other _ _ _ _ (fun x => by have := (Addr.mk.inj x).2.1; omega)]; assumption
theorem ValSl.congr {w : World} {B n : Nat} {a : Option Addr} {f f' : Nat → Int × Int × ByteArray} (H : ValSl w B a n f) (h : ∀ j, j < n → f j = f' j) : ValSl w B a n f' := fun j hj => by
  rw [← h j hj]; exact H j hj
theorem ValSl.keep {w w' : World} {B n : Nat} {a : Option Addr} {f : Nat → Int × Int × ByteArray} (H : ValSl w B a n f) (hs : w.heap.size ≤ w'.heap.size) (hb : ∀ g, a = some ⟨g, 0, none⟩ → B ≤ g → g < w.heap.size → w'.heap[g]? = w.heap[g]?) : ValSl w' B a n f := fun j hj => by
  obtain ⟨g, e, h1, h2, c0, c1, c2, z0, z1, z2⟩ := H j hj
  have hk := hb g e h1 h2
  have hc : ∀ o, w'.cell? ⟨g, o, none⟩ = w.cell? ⟨g, o, none⟩ := fun o => World.cell?_of_block (w := w) (w' := w') (a := ⟨g, o, none⟩) hk
  have hz : ∀ o, w'.frozen? ⟨g, o, none⟩ = w.frozen? ⟨g, o, none⟩ := fun o => World.frozen?_of_block (w := w) (w' := w') (a := ⟨g, o, none⟩) hk
  exact ⟨g, e, h1, by omega, by rw [hc]; exact c0, by rw [hc]; exact c1, by rw [hc]; exact c2, by rw [hz]; exact z0, by rw [hz]; exact z1, by rw [hz]; exact z2⟩
theorem ValSl.below {w w' : World} {B n : Nat} {a : Option Addr} {f : Nat → Int × Int × ByteArray} (H : ValSl w B a n f) (hb : Below w.heap.size w w') : ValSl w' B a n f :=
  H.keep hb.size fun g _ _ h => hb.block g h

/-- the cells of value k, in any later world -/
theorem ValSl.at_k {w w' : World} {B n k g : Nat} {f : Nat → Int × Int × ByteArray} (H : ValSl w B (some ⟨g, 0, none⟩) n f) (hb : Below w.heap.size w w') (hk : k < n) :
    w'.cell? ⟨g, k * 3, none⟩ = some (.int .i64 (f k).1) ∧ w'.cell? ⟨g, k * 3 + 1, none⟩ = some (.int .i64 (f k).2.1) ∧ w'.cell? ⟨g, k * 3 + 2, none⟩ = some (.string (f k).2.2) := by
  obtain ⟨g', e, _, _, c0, c1, c2, _⟩ := H.below hb k hk
  obtain rfl : g = g' := by simpa using e
  exact ⟨c0, c1, c2⟩

end Go.Proofs.Ytkacelpndeoogaa

/- The laws' comparison of slices of values. -/
namespace Go.Proofs.Ytkacelpndeoogaa
open Go.RowKit

set_option maxRecDepth 100000 in
set_option maxHeartbeats 400000 in
theorem eqValue_yes (k a : Int) (t : ByteArray) (w : World) :
    Calls Try.prog 138 #[.agg #[.int .i64 k, .int .i64 a, .string t], .agg #[.int .i64 k, .int .i64 a, .string t]] w (BoolE true w) := by
  go_enter Try.func138, Try.ntmps138
  go_wp2_with fail
  go_ret
  exact ⟨rfl, ((Below.refl _ _).alloc (Nat.le_refl _) _).alloc (by simp) _⟩

end Go.Proofs.Ytkacelpndeoogaa

/- The walks of the exact laws on the test on values and on the makers of values. -/
namespace Go.Proofs.Ytkacelpndeoogaa
open Go.RowKit

/-- what the program's functions are known to do -/
def ValueOkI : Prop := ∀ (k n : Int) (t : ByteArray) (w : World), t.size ≤ 9223372036854775807 → Calls Try.prog 230 #[.agg #[.int .i64 k, .int .i64 n, .string t]] w (BoolE (valOk k n t.data.toList) w)
def IntValueI : Prop := ∀ (n : Int) (w : World), Calls Try.prog 232 #[.int .i64 n] w (CopyV 1 n ⟨#[]⟩ w)
def TextValueI : Prop := ∀ (s : ByteArray) (w : World), Calls Try.prog 233 #[.string s] w (CopyV 2 0 s w)
def BoolValueI : Prop := ∀ (b : Bool) (w : World), Calls Try.prog 234 #[.bool b] w (CopyV 3 (if b then 1 else 0) ⟨#[]⟩ w)

end Go.Proofs.Ytkacelpndeoogaa

/- The order of values and of rows, and rows put in order, as plain functions. No program. -/
namespace Go.Proofs.Ytkacelpndeoogaa

/-- a value: its kind, its number, its text -/
abbrev VL := Int × Int × List UInt8

/-! ### The order of strings -/
theorem bl_nil (x : List UInt8) : Op.bytesLess x [] = false := by cases x <;> rfl
theorem bl_cons (a b : UInt8) (x y : List UInt8) : Op.bytesLess (a :: x) (b :: y) = (decide (a < b) || (a == b && Op.bytesLess x y)) := rfl
theorem bl_irrefl : ∀ x : List UInt8, Op.bytesLess x x = false
  | [] => rfl
  | a :: x => by rw [bl_cons, bl_irrefl x, decide_eq_false (UInt8.lt_irrefl a)]; simp
theorem bl_asymm : ∀ x y : List UInt8, Op.bytesLess x y = true → Op.bytesLess y x = false
  | _, [], h => by rw [bl_nil] at h; cases h
  | [], b :: y, _ => bl_nil _
  | a :: x, b :: y, h => by
    rw [bl_cons] at h ⊢
    simp only [Bool.or_eq_true, decide_eq_true_eq, Bool.and_eq_true, beq_iff_eq] at h
    rcases h with h | ⟨rfl, h⟩
    · have h1 : ¬ b < a := fun h2 => UInt8.lt_irrefl a (UInt8.lt_trans h h2)
      have h2 : ¬ b = a := fun e => by subst e; exact UInt8.lt_irrefl _ h
      simp [h1, h2]
    · rw [decide_eq_false (UInt8.lt_irrefl a), bl_asymm x y h]; simp
theorem bl_tri : ∀ x y : List UInt8, Op.bytesLess x y = false → Op.bytesLess y x = false → x = y
  | [], [], _, _ => rfl
  | [], b :: y, h, _ => by cases h
  | a :: x, [], _, h => by cases h
  | a :: x, b :: y, h, h' => by
    rw [bl_cons] at h h'
    simp only [Bool.or_eq_false_iff, decide_eq_false_iff_not, Bool.and_eq_false_iff] at h h'
    have hab : a = b := by
      rcases UInt8.lt_or_lt_of_ne (a := a) (b := b) |> fun f => Classical.em (a = b) |>.imp id f with h1 | h1
      · exact h1
      · rcases h1 with h1 | h1
        · exact absurd h1 h.1
        · exact absurd h1 h'.1
    subst hab
    have e1 : Op.bytesLess x y = false := by
      rcases h.2 with h2 | h2
      · simp at h2
      · exact h2
    have e2 : Op.bytesLess y x = false := by
      rcases h'.2 with h2 | h2
      · simp at h2
      · exact h2
    rw [bl_tri x y e1 e2]
theorem bl_trans : ∀ x y z : List UInt8, Op.bytesLess x y = true → Op.bytesLess y z = true → Op.bytesLess x z = true
  | _, _, [], _, h => by rw [bl_nil] at h; cases h
  | _, [], _ :: _, h, _ => by rw [bl_nil] at h; cases h
  | [], _ :: _, _ :: _, _, _ => rfl
  | a :: x, b :: y, c :: z, h, h' => by
    rw [bl_cons] at h h' ⊢
    simp only [Bool.or_eq_true, decide_eq_true_eq, Bool.and_eq_true, beq_iff_eq] at h h' ⊢
    rcases h with h | ⟨rfl, h⟩
    · rcases h' with h' | ⟨rfl, h'⟩
      · exact .inl (UInt8.lt_trans h h')
      · exact .inl h
    · rcases h' with h' | ⟨rfl, h'⟩
      · exact .inl h'
      · exact .inr ⟨rfl, bl_trans x y z h h'⟩

/-! ### The order of values -/
def ordV (a b : VL) : Int :=
  if a.1 < b.1 then -1 else if b.1 < a.1 then 1
  else if a.2.1 < b.2.1 then -1 else if b.2.1 < a.2.1 then 1
  else if Op.bytesLess a.2.2 b.2.2 then -1 else if Op.bytesLess b.2.2 a.2.2 then 1 else 0
theorem ordV_cases (a b : VL) :
    (ordV a b = -1 ∧ (a.1 < b.1 ∨ (a.1 = b.1 ∧ (a.2.1 < b.2.1 ∨ (a.2.1 = b.2.1 ∧ Op.bytesLess a.2.2 b.2.2 = true))))) ∨
    (ordV a b = 1 ∧ (b.1 < a.1 ∨ (a.1 = b.1 ∧ (b.2.1 < a.2.1 ∨ (a.2.1 = b.2.1 ∧ Op.bytesLess b.2.2 a.2.2 = true))))) ∨
    (ordV a b = 0 ∧ a = b) := by
  unfold ordV
  by_cases h1 : a.1 < b.1
  · rw [if_pos h1]; exact .inl ⟨rfl, .inl h1⟩
  · rw [if_neg h1]
    by_cases h2 : b.1 < a.1
    · rw [if_pos h2]; exact .inr (.inl ⟨rfl, .inl h2⟩)
    · rw [if_neg h2]
      have e1 : a.1 = b.1 := by omega
      by_cases h3 : a.2.1 < b.2.1
      · rw [if_pos h3]; exact .inl ⟨rfl, .inr ⟨e1, .inl h3⟩⟩
      · rw [if_neg h3]
        by_cases h4 : b.2.1 < a.2.1
        · rw [if_pos h4]; exact .inr (.inl ⟨rfl, .inr ⟨e1, .inl h4⟩⟩)
        · rw [if_neg h4]
          have e2 : a.2.1 = b.2.1 := by omega
          cases h5 : Op.bytesLess a.2.2 b.2.2
          · rw [if_neg (by simp)]
            cases h6 : Op.bytesLess b.2.2 a.2.2
            · rw [if_neg (by simp)]
              refine .inr (.inr ⟨rfl, ?_⟩)
              have e3 := bl_tri _ _ h5 h6
              obtain ⟨x, y, z⟩ := a
              obtain ⟨x', y', z'⟩ := b
              simp only at e1 e2 e3
              rw [e1, e2, e3]
            · rw [if_pos rfl]; exact .inr (.inl ⟨rfl, .inr ⟨e1, .inr ⟨e2, rfl⟩⟩⟩)
          · rw [if_pos rfl]; exact .inl ⟨rfl, .inr ⟨e1, .inr ⟨e2, rfl⟩⟩⟩
theorem ordV_self (a : VL) : ordV a a = 0 := by
  rcases ordV_cases a a with ⟨_, h⟩ | ⟨_, h⟩ | ⟨h, _⟩
  · rcases h with h | ⟨_, h | ⟨_, h⟩⟩
    · omega
    · omega
    · rw [bl_irrefl] at h; cases h
  · rcases h with h | ⟨_, h | ⟨_, h⟩⟩
    · omega
    · omega
    · rw [bl_irrefl] at h; cases h
  · exact h
theorem ordV_lt_iff (a b : VL) : ordV a b = -1 ↔ (a.1 < b.1 ∨ (a.1 = b.1 ∧ (a.2.1 < b.2.1 ∨ (a.2.1 = b.2.1 ∧ Op.bytesLess a.2.2 b.2.2 = true)))) := by
  constructor
  · intro h
    rcases ordV_cases a b with ⟨_, h1⟩ | ⟨h1, _⟩ | ⟨h1, _⟩
    · exact h1
    · rw [h] at h1; cases h1
    · rw [h] at h1; cases h1
  · intro h
    unfold ordV
    rcases h with h | ⟨e, h | ⟨e2, h⟩⟩
    · rw [if_pos h]
    · rw [if_neg (by omega), if_neg (by omega), if_pos h]
    · rw [if_neg (by omega), if_neg (by omega), if_neg (by omega), if_neg (by omega), if_pos h]
theorem ordV_neg (a b : VL) : ordV b a = -ordV a b := by
  rcases ordV_cases a b with ⟨h, h1⟩ | ⟨h, h1⟩ | ⟨h, rfl⟩
  · rw [h]
    rcases ordV_cases b a with ⟨h2, h3⟩ | ⟨h2, _⟩ | ⟨_, rfl⟩
    · exfalso
      rcases h1 with h1 | ⟨e1, h1 | ⟨e2, h1⟩⟩ <;> rcases h3 with h3 | ⟨e3, h3 | ⟨e4, h3⟩⟩ <;> first | omega | (rw [bl_asymm _ _ h1] at h3; cases h3)
    · rw [h2]; rfl
    · rw [ordV_self] at h; cases h
  · rw [h]
    have : ordV b a = -1 := by
      rw [ordV_lt_iff]
      rcases h1 with h1 | ⟨e, h1 | ⟨e2, h1⟩⟩
      · exact .inl h1
      · exact .inr ⟨e.symm, .inl h1⟩
      · exact .inr ⟨e.symm, .inr ⟨e2.symm, h1⟩⟩
    rw [this]
  · rw [ordV_self]; rfl
theorem ordV_zero {a b : VL} : ordV a b = 0 ↔ a = b := by
  constructor
  · intro h
    rcases ordV_cases a b with ⟨h1, _⟩ | ⟨h1, _⟩ | ⟨_, h1⟩
    · rw [h] at h1; cases h1
    · rw [h] at h1; cases h1
    · exact h1
  · rintro rfl; exact ordV_self a
theorem ordV_range (a b : VL) : ordV a b = -1 ∨ ordV a b = 0 ∨ ordV a b = 1 := by
  rcases ordV_cases a b with ⟨h, _⟩ | ⟨h, _⟩ | ⟨h, _⟩ <;> simp [h]
theorem ordV_trans_lt {a b c : VL} (h : ordV a b = -1) (g : ordV b c = -1) : ordV a c = -1 := by
  rw [ordV_lt_iff] at h g ⊢
  rcases h with h | ⟨e1, h | ⟨e2, h⟩⟩ <;> rcases g with g | ⟨f1, g | ⟨f2, g⟩⟩
  · exact .inl (by omega)
  · exact .inl (by omega)
  · exact .inl (by omega)
  · exact .inl (by omega)
  · exact .inr ⟨by omega, .inl (by omega)⟩
  · exact .inr ⟨by omega, .inl (by omega)⟩
  · exact .inl (by omega)
  · exact .inr ⟨by omega, .inl (by omega)⟩
  · exact .inr ⟨by omega, .inr ⟨by omega, bl_trans _ _ _ h g⟩⟩
theorem ordV_trans {a b c : VL} (h : ordV a b ≤ 0) (g : ordV b c ≤ 0) : ordV a c ≤ 0 := by
  rcases ordV_range a b with h1 | h1 | h1
  · rcases ordV_range b c with g1 | g1 | g1
    · rw [ordV_trans_lt h1 g1]; decide
    · rw [ordV_zero] at g1; subst g1; exact h
    · omega
  · rw [ordV_zero] at h1; subst h1; exact g
  · omega

/-! ### The order of rows -/
def ordR : List VL → List VL → Int
  | [], [] => 0
  | [], _ :: _ => -1
  | _ :: _, [] => 1
  | a :: x, b :: y => if ordV a b = 0 then ordR x y else ordV a b
theorem ordR_self : ∀ x : List VL, ordR x x = 0
  | [] => rfl
  | a :: x => by rw [ordR, if_pos (ordV_self a), ordR_self x]
theorem ordR_neg : ∀ x y : List VL, ordR y x = -ordR x y
  | [], [] => rfl
  | [], _ :: _ => rfl
  | _ :: _, [] => rfl
  | a :: x, b :: y => by
    rw [ordR, ordR, ordV_neg a b]
    by_cases h : ordV a b = 0
    · rw [if_pos h, if_pos (by omega), ordR_neg x y]
    · rw [if_neg h, if_neg (by omega)]
theorem ordR_range : ∀ x y : List VL, ordR x y = -1 ∨ ordR x y = 0 ∨ ordR x y = 1
  | [], [] => .inr (.inl rfl)
  | [], _ :: _ => .inl rfl
  | _ :: _, [] => .inr (.inr rfl)
  | a :: x, b :: y => by
    rw [ordR]
    split
    · exact ordR_range x y
    · exact ordV_range a b
theorem ordR_zero : ∀ {x y : List VL}, ordR x y = 0 → x = y
  | [], [], _ => rfl
  | [], _ :: _, h => by cases h
  | _ :: _, [], h => by cases h
  | a :: x, b :: y, h => by
    rw [ordR] at h
    by_cases h1 : ordV a b = 0
    · rw [if_pos h1] at h
      rw [ordV_zero.1 h1, ordR_zero h]
    · rw [if_neg h1] at h; exact absurd h h1
theorem ordR_trans : ∀ {x y z : List VL}, ordR x y ≤ 0 → ordR y z ≤ 0 → ordR x z ≤ 0
  | [], _, [], _, _ => by decide
  | [], _, _ :: _, _, _ => by show (-1 : Int) ≤ 0; decide
  | _ :: _, [], _, h, _ => by exact absurd h (by show ¬ (1 : Int) ≤ 0; decide)
  | _ :: _, _ :: _, [], _, h => by exact absurd h (by show ¬ (1 : Int) ≤ 0; decide)
  | a :: x, b :: y, c :: z, h, g => by
    rw [ordR] at h g ⊢
    by_cases h1 : ordV a b = 0
    · have e := ordV_zero.1 h1
      subst e
      rw [if_pos h1] at h
      by_cases g1 : ordV a c = 0
      · rw [if_pos g1] at g ⊢; exact ordR_trans h g
      · rw [if_neg g1] at g ⊢; exact g
    · rw [if_neg h1] at h
      by_cases g1 : ordV b c = 0
      · have e := ordV_zero.1 g1
        subst e
        rw [if_neg h1]; exact h
      · rw [if_neg g1] at g
        have h2 : ordV a b = -1 := by rcases ordV_range a b with h | h | h <;> omega
        have g2 : ordV b c = -1 := by rcases ordV_range b c with h | h | h <;> omega
        have := ordV_trans_lt h2 g2
        rw [if_neg (by omega)]; omega

/-! ### Rows in order -/
def SortedR (l : List (List VL)) : Prop := l.Pairwise fun x y => ordR x y ≤ 0
/-- rows that are in order are told by which rows they are -/
theorem sorted_unique : ∀ {l m : List (List VL)}, SortedR l → SortedR m → l.Perm m → l = m
  | [], m, _, _, hp => (List.Perm.nil_eq hp)
  | x :: l, [], _, _, hp => by have := hp.length_eq; simp at this
  | x :: l, y :: m, hl, hm, hp => by
    have hl' := List.pairwise_cons.1 hl
    have hm' := List.pairwise_cons.1 hm
    have hxy : x = y := by
      have h1 : x ∈ y :: m := hp.subset (List.mem_cons_self)
      have h2 : y ∈ x :: l := hp.symm.subset (List.mem_cons_self)
      rcases List.mem_cons.1 h1 with h1 | h1
      · exact h1
      · rcases List.mem_cons.1 h2 with h2 | h2
        · exact h2.symm
        · have a1 := hm'.1 x h1
          have a2 := hl'.1 y h2
          have a3 := ordR_neg x y
          exact ordR_zero (by omega)
    subst hxy
    rw [sorted_unique hl'.2 hm'.2 ((List.perm_cons x).1 hp)]

/-- where a row is put, looked for from behind -/
def posR (l : List (List VL)) (r : List VL) : Nat → Nat
  | 0 => 0
  | k + 1 => if 0 < ordR (l.getD k []) r then posR l r k else k + 1
def insR (l : List (List VL)) (r : List VL) : List (List VL) := l.take (posR l r l.length) ++ [r] ++ l.drop (posR l r l.length)
/-- the rows in order -/
def sortR (l : List (List VL)) : List (List VL) := l.foldl insR []
theorem posR_le (l : List (List VL)) (r : List VL) : ∀ k, posR l r k ≤ k
  | 0 => Nat.le_refl _
  | k + 1 => by
    unfold posR
    split
    · have := posR_le l r k; omega
    · exact Nat.le_refl _
theorem posR_above (l : List (List VL)) (r : List VL) : ∀ k j, posR l r k ≤ j → j < k → 0 < ordR (l.getD j []) r
  | 0, j, _, h => by omega
  | k + 1, j, h, hj => by
    unfold posR at h
    split at h
    · rename_i h1
      by_cases e : j = k
      · subst e; exact h1
      · exact posR_above l r k j h (by omega)
    · omega
theorem posR_at (l : List (List VL)) (r : List VL) : ∀ k, 0 < posR l r k → ordR (l.getD (posR l r k - 1) []) r ≤ 0
  | 0, h => by cases h
  | k + 1, h => by
    unfold posR at h ⊢
    split
    · rename_i h1
      rw [if_pos h1] at h
      exact posR_at l r k h
    · rename_i h1
      show ordR (l.getD (k + 1 - 1) []) r ≤ 0
      rw [Nat.add_sub_cancel]; omega
theorem insR_perm (l : List (List VL)) (r : List VL) : (insR l r).Perm (r :: l) := by
  unfold insR
  rw [List.append_assoc]
  show (l.take (posR l r l.length) ++ r :: l.drop (posR l r l.length)).Perm (r :: l)
  refine List.perm_middle.trans ?_
  rw [List.take_append_drop]
theorem getD_getElem {l : List (List VL)} {j : Nat} (h : j < l.length) : l.getD j [] = l[j] := by
  rw [List.getD_eq_getElem?_getD, List.getElem?_eq_getElem h]; rfl
theorem insR_sorted {l : List (List VL)} (h : SortedR l) (r : List VL) : SortedR (insR l r) := by
  have hp := posR_le l r l.length
  have hlow : ∀ x ∈ l.take (posR l r l.length), ordR x r ≤ 0 := by
    intro x hx
    obtain ⟨j, hj, rfl⟩ := List.getElem_of_mem hx
    rw [List.length_take] at hj
    have hjl : j < l.length := by omega
    rw [List.getElem_take]
    have h1 := posR_at l r l.length (by omega)
    rw [getD_getElem (by omega)] at h1
    by_cases e : j = posR l r l.length - 1
    · subst e; exact h1
    · exact ordR_trans (List.pairwise_iff_getElem.1 h j (posR l r l.length - 1) hjl (by omega) (by omega)) h1
  have hup : ∀ x ∈ l.drop (posR l r l.length), ordR r x ≤ 0 := by
    intro x hx
    obtain ⟨j, hj, rfl⟩ := List.getElem_of_mem hx
    rw [List.length_drop] at hj
    rw [List.getElem_drop]
    have h1 := posR_above l r l.length (posR l r l.length + j) (by omega) (by omega)
    rw [getD_getElem (by omega)] at h1
    have h2 := ordR_neg r (l[posR l r l.length + j]'(by omega))
    have h3 := ordR_neg (l[posR l r l.length + j]'(by omega)) r
    omega
  unfold insR SortedR
  have hs : (l.take (posR l r l.length) ++ l.drop (posR l r l.length)).Pairwise fun x y => ordR x y ≤ 0 := by rw [List.take_append_drop]; exact h
  rw [List.pairwise_append] at hs
  rw [List.append_assoc, List.pairwise_append]
  refine ⟨hs.1, ?_, ?_⟩
  · show (r :: l.drop _).Pairwise _
    rw [List.pairwise_cons]
    exact ⟨hup, hs.2.1⟩
  · intro x hx y hy
    rcases List.mem_cons.1 (show y ∈ r :: l.drop (posR l r l.length) from hy) with rfl | hy
    · exact hlow x hx
    · exact hs.2.2 x hx y hy
theorem sortR_step (l : List (List VL)) (r : List VL) : sortR (l ++ [r]) = insR (sortR l) r := by unfold sortR; rw [List.foldl_append]; rfl
theorem foldl_ins : ∀ (l acc : List (List VL)), SortedR acc → SortedR (l.foldl insR acc) ∧ (l.foldl insR acc).Perm (acc ++ l)
  | [], acc, h => ⟨h, by rw [List.append_nil]; exact List.Perm.refl _⟩
  | r :: l, acc, h => by
    have ih := foldl_ins l (insR acc r) (insR_sorted h r)
    refine ⟨ih.1, ih.2.trans ?_⟩
    refine ((insR_perm acc r).append_right l).trans ?_
    exact (List.perm_middle (a := r) (l₁ := acc) (l₂ := l)).symm
theorem sortR_sorted (l : List (List VL)) : SortedR (sortR l) := (foldl_ins l [] List.Pairwise.nil).1
theorem sortR_perm (l : List (List VL)) : (sortR l).Perm l := (foldl_ins l [] List.Pairwise.nil).2
/-- whatever else puts the rows in order gives the same -/
theorem sortR_only {l m : List (List VL)} (hs : SortedR m) (hp : m.Perm l) : m = sortR l := sorted_unique hs (sortR_sorted l) (hp.trans (sortR_perm l).symm)
theorem sortR_len (l : List (List VL)) : (sortR l).length = l.length := (sortR_perm l).length_eq
/-- each row stands in both as often -/
theorem sortR_count (l : List (List VL)) (p : List VL → Bool) : (sortR l).countP p = l.countP p := (sortR_perm l).countP_eq p
end Go.Proofs.Ytkacelpndeoogaa

/- Contracts of the model's order of values and of rows. -/
namespace Go.Proofs.Ytkacelpndeoogaa
open Go.RowKit

/-- a value as its kind, its number and its bytes -/
def vl (v : Int × Int × ByteArray) : VL := (v.1, v.2.1, v.2.2.data.toList)
theorem ba_toList (t : ByteArray) : t.toList = t.data.toList := ByteArray.toList_eq t

/-- the first n values of f -/
def rowF (n : Nat) (f : Nat → Int × Int × ByteArray) : List VL := (List.range n).map fun j => vl (f j)
theorem rowF_drop {n k : Nat} {f : Nat → Int × Int × ByteArray} (h : k < n) : (rowF n f).drop k = vl (f k) :: (rowF n f).drop (k + 1) := by
  have hl : k < (rowF n f).length := by simpa [rowF] using h
  rw [List.drop_eq_getElem_cons hl]
  congr 1
  simp [rowF]
theorem rowF_end {n k : Nat} {f : Nat → Int × Int × ByteArray} (h : ¬ k < n) : (rowF n f).drop k = [] := by
  apply List.drop_eq_nil_iff.2
  simp [rowF]; omega
theorem ordR_nil_cons (b : VL) (y : List VL) : ordR [] (b :: y) = -1 := rfl
theorem ordR_cons_nil (a : VL) (x : List VL) : ordR (a :: x) [] = 1 := rfl

end Go.Proofs.Ytkacelpndeoogaa

/- Contracts of the program's test on values and of its makers of values. -/
namespace Go.Proofs.Ytkacelpndeoogaa
open Go.RowKit

set_option maxRecDepth 100000 in
set_option maxHeartbeats 800000 in
theorem intValue_implC (n : Int) (w : World) : Calls Try.prog 232 #[.int .i64 n] w (CopyV 1 n ⟨#[]⟩ w) := by
  have hR := heap_alloc_new w (.cells #[.int .i64 1, .int .i64 n, .string ⟨#[]⟩] 25)
  have f0 := cell_of_row _ w.heap.size 0 _ 25 (0, 0) hR
  have f1 := cell_of_row _ w.heap.size 1 _ 25 (0, 0) hR
  have f2 := cell_of_row _ w.heap.size 2 _ 25 (0, 0) hR
  have hb := (Below.refl w.heap.size w).alloc (Nat.le_refl _) (.cells #[.int .i64 1, .int .i64 n, .string ⟨#[]⟩] 25)
  go_enter Try.func232, Try.ntmps232
  go_wp2_with fail
  generalize w.alloc (.cells #[.int .i64 1, .int .i64 n, .string ⟨#[]⟩] 25) = wf at f0 f1 f2 hb ⊢
  refine bodyPost_ret (v := .agg #[.int .i64 1, .int .i64 n, .string ⟨#[]⟩]) (by simp [results, Try.results232, go_sem, f0, f1, f2]) rfl ?_
  exact ⟨rfl, hb⟩
set_option maxRecDepth 100000 in
set_option maxHeartbeats 800000 in
theorem textValue_implC (s : ByteArray) (w : World) : Calls Try.prog 233 #[.string s] w (CopyV 2 0 s w) := by
  have hR := heap_alloc_new w (.cells #[.int .i64 2, .int .i64 0, .string s] 25)
  have f0 := cell_of_row _ w.heap.size 0 _ 25 (0, 0) hR
  have f1 := cell_of_row _ w.heap.size 1 _ 25 (0, 0) hR
  have f2 := cell_of_row _ w.heap.size 2 _ 25 (0, 0) hR
  have hb := (Below.refl w.heap.size w).alloc (Nat.le_refl _) (.cells #[.int .i64 2, .int .i64 0, .string s] 25)
  go_enter Try.func233, Try.ntmps233
  go_wp2_with fail
  generalize w.alloc (.cells #[.int .i64 2, .int .i64 0, .string s] 25) = wf at f0 f1 f2 hb ⊢
  refine bodyPost_ret (v := .agg #[.int .i64 2, .int .i64 0, .string s]) (by simp [results, Try.results233, go_sem, f0, f1, f2]) rfl ?_
  exact ⟨rfl, hb⟩
set_option maxRecDepth 100000 in
set_option maxHeartbeats 800000 in
theorem boolValue_implC (b : Bool) (w : World) : Calls Try.prog 234 #[.bool b] w (CopyV 3 (if b then 1 else 0) ⟨#[]⟩ w) := by
  cases b
  · have hR := heap_alloc_new w (.cells #[.int .i64 3, .int .i64 0, .string ⟨#[]⟩] 25)
    have f0 := cell_of_row _ w.heap.size 0 _ 25 (0, 0) hR
    have f1 := cell_of_row _ w.heap.size 1 _ 25 (0, 0) hR
    have f2 := cell_of_row _ w.heap.size 2 _ 25 (0, 0) hR
    have hb := (Below.refl w.heap.size w).alloc (Nat.le_refl _) (.cells #[.int .i64 3, .int .i64 0, .string ⟨#[]⟩] 25)
    go_enter Try.func234, Try.ntmps234
    go_wp2_with fail
    generalize w.alloc (.cells #[.int .i64 3, .int .i64 0, .string ⟨#[]⟩] 25) = wf at f0 f1 f2 hb ⊢
    refine bodyPost_ret (v := .agg #[.int .i64 3, .int .i64 0, .string ⟨#[]⟩]) (by simp [results, Try.results234, go_sem, f0, f1, f2]) rfl ?_
    exact ⟨rfl, hb⟩
  · have hR := heap_alloc_new w (.cells #[.int .i64 3, .int .i64 1, .string ⟨#[]⟩] 25)
    have f0 := cell_of_row _ w.heap.size 0 _ 25 (0, 0) hR
    have f1 := cell_of_row _ w.heap.size 1 _ 25 (0, 0) hR
    have f2 := cell_of_row _ w.heap.size 2 _ 25 (0, 0) hR
    have hb := (Below.refl w.heap.size w).alloc (Nat.le_refl _) (.cells #[.int .i64 3, .int .i64 1, .string ⟨#[]⟩] 25)
    go_enter Try.func234, Try.ntmps234
    go_wp2_with fail
    generalize w.alloc (.cells #[.int .i64 3, .int .i64 1, .string ⟨#[]⟩] 25) = wf at f0 f1 f2 hb ⊢
    refine bodyPost_ret (v := .agg #[.int .i64 3, .int .i64 1, .string ⟨#[]⟩]) (by simp [results, Try.results234, go_sem, f0, f1, f2]) rfl ?_
    exact ⟨rfl, hb⟩

theorem intValue_impl : IntValueI := intValue_implC
theorem textValue_impl : TextValueI := textValue_implC
theorem boolValue_impl : BoolValueI := boolValue_implC

theorem lst_nil (t : ByteArray) : (t.toList = []) = (t.data.toList = []) := by rw [ba_toList]

set_option maxRecDepth 100000 in
set_option maxHeartbeats 4000000 in
theorem valueOk_impl : ValueOkI := fun k n t w ht => by
  have hbb := (Below.refl w.heap.size w).alloc (Nat.le_refl _) (.cells #[.int .i64 k, .int .i64 n, .string t] 25)
  have hR := heap_alloc_new w (.cells #[.int .i64 k, .int .i64 n, .string t] 25)
  have c0 := cell_of_row _ w.heap.size 0 _ 25 (0, 0) hR
  have c1 := cell_of_row _ w.heap.size 1 _ 25 (0, 0) hR
  have c2 := cell_of_row _ w.heap.size 2 _ 25 (0, 0) hR
  clear hR
  have hV : valOk k n t.data.toList = (if k = 0 then decide (n = 0) && decide (t.data.toList = []) else if k = 1 then decide (t.data.toList = []) else if k = 2 then decide (n = 0) && decide ((t.size : Int) ≤ 200) else if k = 3 then (decide (0 ≤ n) && decide (n ≤ 1)) && decide (t.data.toList = []) else false) := rfl
  generalize valOk k n t.data.toList = V at hV ⊢
  simp only [← lst_nil] at hV
  have hI := fun w => intValue_implC n w
  have hT := fun w => textValue_implC t w
  have hB := fun w => boolValue_implC (n == 1) w
  by_cases h1 : k = 1
  · subst h1
    rw [if_neg (by decide), if_pos rfl] at hV
    clear hT hB
    by_cases ht0 : t.toList = []
    · rw [decide_eq_true ht0] at hV
      have HV := Lib.hid hV; clear hV
      have x0 := lat_cell c0
      have x1 := lat_cell c1
      have x2 := lat_cell c2
      go_enter Try.func230, Try.ntmps230
      go_wp2_with fail
      generalize w.alloc (.cells #[.int .i64 1, .int .i64 n, .string t] 25) = wr at *
      refine region_lat (by kernel_rfl) (by kernel_rfl) ?_
      iterate 6 (go_big_quiet_step ((refine (hI (lat wr _)).mono ?_; rintro e w'' ⟨rfl, hb''⟩; exact ⟨rfl, lat_to hb''⟩)))
      refine wpQuiet_nil ?_
      rintro _ ⟨nq, rfl⟩
      have hbq := hbb.trans ((lat_below wr nq).mono hbb.size)
      clear x0 x1 x2 hI
      generalize lat wr nq = wq at hbq ⊢
      go_wp2_with fail
      go_ret
      exact ⟨by rw [HV.out]; rfl, hbq⟩
    · rw [decide_eq_false ht0] at hV
      have HV := Lib.hid hV; clear hV
      have x0 := lat_cell c0
      have x1 := lat_cell c1
      have x2 := lat_cell c2
      go_enter Try.func230, Try.ntmps230
      go_wp2_with fail
      generalize w.alloc (.cells #[.int .i64 1, .int .i64 n, .string t] 25) = wr at *
      refine region_lat (by kernel_rfl) (by kernel_rfl) ?_
      iterate 6 (go_big_quiet_step ((refine (hI (lat wr _)).mono ?_; rintro e w'' ⟨rfl, hb''⟩; exact ⟨rfl, lat_to hb''⟩)))
      refine wpQuiet_nil ?_
      rintro _ ⟨nq, rfl⟩
      have hbq := hbb.trans ((lat_below wr nq).mono hbb.size)
      clear x0 x1 x2 hI
      generalize lat wr nq = wq at hbq ⊢
      go_wp2_with fail
      go_ret
      exact ⟨by rw [HV.out]; rfl, hbq⟩
  have q1 : (k == 1) = false := by simpa using h1
  by_cases h2 : k = 2
  · subst h2
    rw [if_neg (by decide), if_neg (by decide), if_pos rfl] at hV
    clear hI hB q1 h1
    by_cases hn : n = 0
    · subst hn
      by_cases hz : t.size ≤ 200
      · have d1 : decide ((t.size : Int) ≤ 200) = true := by simp; omega
        have d2 : decide (t.size ≤ 200) = true := by simp; omega
        rw [d1] at hV
        have HV := Lib.hid (hV.trans (by rfl : _ = true)); clear hV hz
        have x0 := lat_cell c0
        have x1 := lat_cell c1
        have x2 := lat_cell c2
        go_enter Try.func230, Try.ntmps230
        go_wp2_with fail
        generalize w.alloc (.cells #[.int .i64 2, .int .i64 0, .string t] 25) = wr at *
        refine region_lat (by kernel_rfl) (by kernel_rfl) ?_
        iterate 12 (go_big_quiet_step ((refine (hT (lat wr _)).mono ?_; rintro e w'' ⟨rfl, hb''⟩; exact ⟨rfl, lat_to hb''⟩)))
        refine wpQuiet_nil ?_
        rintro _ ⟨nq, rfl⟩
        have hbq := hbb.trans ((lat_below wr nq).mono hbb.size)
        clear x0 x1 x2 hT
        generalize lat wr nq = wq at hbq ⊢
        go_wp2_with fail
        go_ret
        exact ⟨by rw [HV.out]; rfl, hbq⟩
      · have d1 : decide ((t.size : Int) ≤ 200) = false := by simp; omega
        have d2 : decide (t.size ≤ 200) = false := by simp; omega
        rw [d1] at hV
        have HV := Lib.hid (hV.trans (by rfl : _ = false)); clear hV hz
        have x0 := lat_cell c0
        have x1 := lat_cell c1
        have x2 := lat_cell c2
        go_enter Try.func230, Try.ntmps230
        go_wp2_with fail
        generalize w.alloc (.cells #[.int .i64 2, .int .i64 0, .string t] 25) = wr at *
        refine region_lat (by kernel_rfl) (by kernel_rfl) ?_
        iterate 12 (go_big_quiet_step ((refine (hT (lat wr _)).mono ?_; rintro e w'' ⟨rfl, hb''⟩; exact ⟨rfl, lat_to hb''⟩)))
        refine wpQuiet_nil ?_
        rintro _ ⟨nq, rfl⟩
        have hbq := hbb.trans ((lat_below wr nq).mono hbb.size)
        clear x0 x1 x2 hT
        generalize lat wr nq = wq at hbq ⊢
        go_wp2_with fail
        go_ret
        exact ⟨by rw [HV.out]; rfl, hbq⟩
    · rw [decide_eq_false hn] at hV
      have HV := Lib.hid (hV.trans (by rfl : _ = false)); clear hV
      have x0 := lat_cell c0
      have x1 := lat_cell c1
      have x2 := lat_cell c2
      go_enter Try.func230, Try.ntmps230
      go_wp2_with fail
      generalize w.alloc (.cells #[.int .i64 2, .int .i64 n, .string t] 25) = wr at *
      refine region_lat (by kernel_rfl) (by kernel_rfl) ?_
      iterate 12 (go_big_quiet_step ((refine (hT (lat wr _)).mono ?_; rintro e w'' ⟨rfl, hb''⟩; exact ⟨rfl, lat_to hb''⟩)))
      refine wpQuiet_nil ?_
      rintro _ ⟨nq, rfl⟩
      have hbq := hbb.trans ((lat_below wr nq).mono hbb.size)
      clear x0 x1 x2 hT
      generalize lat wr nq = wq at hbq ⊢
      go_wp2_with fail
      go_ret
      exact ⟨by rw [HV.out]; rfl, hbq⟩
  have q2 : (k == 2) = false := by simpa using h2
  clear hI hT
  by_cases h3 : k = 3
  · subst h3
    rw [if_neg (by decide), if_neg (by decide), if_neg (by decide), if_pos rfl] at hV
    clear q1 q2 h1 h2
    have hn3 : n = 1 ∨ n = 0 ∨ (¬ n = 1 ∧ ¬ n = 0) := by omega
    rcases hn3 with rfl | rfl | ⟨hn1, hn0⟩
    · by_cases ht0 : t.toList = []
      · rw [decide_eq_true ht0] at hV
        have HV := Lib.hid (hV.trans (by rfl : _ = true)); clear hV
        have x0 := lat_cell c0
        have x1 := lat_cell c1
        have x2 := lat_cell c2
        go_enter Try.func230, Try.ntmps230
        go_wp2_with fail
        generalize w.alloc (.cells #[.int .i64 3, .int .i64 1, .string t] 25) = wr at *
        refine region_lat (by kernel_rfl) (by kernel_rfl) ?_
        iterate 7 (go_big_quiet_step ((refine (hB (lat wr _)).mono ?_; rintro e w'' ⟨rfl, hb''⟩; exact ⟨rfl, lat_to hb''⟩)))
        refine wpQuiet_nil ?_
        rintro _ ⟨nq, rfl⟩
        have hbq := hbb.trans ((lat_below wr nq).mono hbb.size)
        clear x0 x1 x2 hB
        generalize lat wr nq = wq at hbq ⊢
        go_wp2_with fail
        go_ret
        exact ⟨by rw [HV.out]; rfl, hbq⟩
      · rw [decide_eq_false ht0] at hV
        have HV := Lib.hid (hV.trans (by rfl : _ = false)); clear hV
        have x0 := lat_cell c0
        have x1 := lat_cell c1
        have x2 := lat_cell c2
        go_enter Try.func230, Try.ntmps230
        go_wp2_with fail
        generalize w.alloc (.cells #[.int .i64 3, .int .i64 1, .string t] 25) = wr at *
        refine region_lat (by kernel_rfl) (by kernel_rfl) ?_
        iterate 7 (go_big_quiet_step ((refine (hB (lat wr _)).mono ?_; rintro e w'' ⟨rfl, hb''⟩; exact ⟨rfl, lat_to hb''⟩)))
        refine wpQuiet_nil ?_
        rintro _ ⟨nq, rfl⟩
        have hbq := hbb.trans ((lat_below wr nq).mono hbb.size)
        clear x0 x1 x2 hB
        generalize lat wr nq = wq at hbq ⊢
        go_wp2_with fail
        go_ret
        exact ⟨by rw [HV.out]; rfl, hbq⟩
    · by_cases ht0 : t.toList = []
      · rw [decide_eq_true ht0] at hV
        have HV := Lib.hid (hV.trans (by rfl : _ = true)); clear hV
        have x0 := lat_cell c0
        have x1 := lat_cell c1
        have x2 := lat_cell c2
        go_enter Try.func230, Try.ntmps230
        go_wp2_with fail
        generalize w.alloc (.cells #[.int .i64 3, .int .i64 0, .string t] 25) = wr at *
        refine region_lat (by kernel_rfl) (by kernel_rfl) ?_
        iterate 7 (go_big_quiet_step ((refine (hB (lat wr _)).mono ?_; rintro e w'' ⟨rfl, hb''⟩; exact ⟨rfl, lat_to hb''⟩)))
        refine wpQuiet_nil ?_
        rintro _ ⟨nq, rfl⟩
        have hbq := hbb.trans ((lat_below wr nq).mono hbb.size)
        clear x0 x1 x2 hB
        generalize lat wr nq = wq at hbq ⊢
        go_wp2_with fail
        go_ret
        exact ⟨by rw [HV.out]; rfl, hbq⟩
      · rw [decide_eq_false ht0] at hV
        have HV := Lib.hid (hV.trans (by rfl : _ = false)); clear hV
        have x0 := lat_cell c0
        have x1 := lat_cell c1
        have x2 := lat_cell c2
        go_enter Try.func230, Try.ntmps230
        go_wp2_with fail
        generalize w.alloc (.cells #[.int .i64 3, .int .i64 0, .string t] 25) = wr at *
        refine region_lat (by kernel_rfl) (by kernel_rfl) ?_
        iterate 7 (go_big_quiet_step ((refine (hB (lat wr _)).mono ?_; rintro e w'' ⟨rfl, hb''⟩; exact ⟨rfl, lat_to hb''⟩)))
        refine wpQuiet_nil ?_
        rintro _ ⟨nq, rfl⟩
        have hbq := hbb.trans ((lat_below wr nq).mono hbb.size)
        clear x0 x1 x2 hB
        generalize lat wr nq = wq at hbq ⊢
        go_wp2_with fail
        go_ret
        exact ⟨by rw [HV.out]; rfl, hbq⟩
    · have hr : (decide (0 ≤ n) && decide (n ≤ 1)) = false := by
        rw [Bool.and_eq_false_iff]
        simp only [decide_eq_false_iff_not]
        omega
      have hn1b : (n == 1) = false := by simpa using hn1
      rw [hr] at hV
      have HV := Lib.hid (hV.trans (by rfl : _ = false)); clear hV hr
      rw [hn1b] at hB
      have x0 := lat_cell c0
      have x1 := lat_cell c1
      have x2 := lat_cell c2
      go_enter Try.func230, Try.ntmps230
      go_wp2_with fail
      generalize w.alloc (.cells #[.int .i64 3, .int .i64 n, .string t] 25) = wr at *
      refine region_lat (by kernel_rfl) (by kernel_rfl) ?_
      iterate 7 (go_big_quiet_step ((refine (hB (lat wr _)).mono ?_; rintro e w'' ⟨rfl, hb''⟩; exact ⟨rfl, lat_to hb''⟩)))
      refine wpQuiet_nil ?_
      rintro _ ⟨nq, rfl⟩
      have hbq := hbb.trans ((lat_below wr nq).mono hbb.size)
      clear x0 x1 x2 hB
      generalize lat wr nq = wq at hbq ⊢
      go_wp2_with fail
      go_ret
      exact ⟨by rw [HV.out]; rfl, hbq⟩
  have q3 : (k == 3) = false := by simpa using h3
  rw [if_neg h1, if_neg h2, if_neg h3] at hV
  clear hB
  by_cases h0 : k = 0
  · subst h0
    rw [if_pos rfl] at hV
    clear q1 q2 q3 h1 h2 h3
    by_cases hn : n = 0
    · subst hn
      by_cases ht0 : t.toList = []
      · rw [decide_eq_true ht0] at hV
        have HV := Lib.hid (hV.trans (by rfl : _ = true)); clear hV
        have x0 := lat_cell c0
        have x1 := lat_cell c1
        have x2 := lat_cell c2
        go_enter Try.func230, Try.ntmps230
        go_wp2_with fail
        go_ret
        exact ⟨by rw [HV.out]; rfl, hbb⟩
      · rw [decide_eq_false ht0] at hV
        have HV := Lib.hid (hV.trans (by rfl : _ = false)); clear hV
        have x0 := lat_cell c0
        have x1 := lat_cell c1
        have x2 := lat_cell c2
        go_enter Try.func230, Try.ntmps230
        go_wp2_with fail
        go_ret
        exact ⟨by rw [HV.out]; rfl, hbb⟩
    · rw [decide_eq_false hn] at hV
      have HV := Lib.hid (hV.trans (by rfl : _ = false)); clear hV
      have x0 := lat_cell c0
      have x1 := lat_cell c1
      have x2 := lat_cell c2
      go_enter Try.func230, Try.ntmps230
      go_wp2_with fail
      go_ret
      exact ⟨by rw [HV.out]; rfl, hbb⟩
  · rw [if_neg h0] at hV
    have HV := Lib.hid hV; clear hV
    have x0 := lat_cell c0
    have x1 := lat_cell c1
    have x2 := lat_cell c2
    go_enter Try.func230, Try.ntmps230
    go_wp2_with fail
    go_ret
    exact ⟨by rw [HV.out]; rfl, hbb⟩
end Go.Proofs.Ytkacelpndeoogaa
