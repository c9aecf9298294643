
/- Contracts of what the laws do with a slice of values that came in: its size, and a copy of it. -/
import Derived.Test.YtelbcfipkanfkaaValArg
import Derived.Test.YtelbcfipkanfkaaValSlDef
import Derived.Test.YtelbcfipkanfkaaArgTok
import Derived.Laws.MakeOwn
namespace Go.Proofs.Ytelbcfipkanfkaa
open Go.RowKit

/-- the slice at a that came in holds the values f 0, f 1, .. up to n -/
def ArgV (w : World) (a : Option Addr) (n : Nat) (f : Nat → Int × Int × ByteArray) : Prop :=
  ∀ j, j < n → ∃ g o, a = some ⟨g, o, none⟩ ∧ g < w.heap.size ∧
    w.cell? ⟨g, o + j * 3, none⟩ = some (.int .i64 (f j).1) ∧ w.cell? ⟨g, o + j * 3 + 1, none⟩ = some (.int .i64 (f j).2.1) ∧ w.cell? ⟨g, o + j * 3 + 2, none⟩ = some (.string (f j).2.2) ∧ (f j).2.2.size ≤ 9223372036854775807
theorem ArgV.below {w w' : World} {a : Option Addr} {n : Nat} {f : Nat → Int × Int × ByteArray} (H : ArgV w a n f) (hb : Below w.heap.size w w') : ArgV w' a n f := fun j hj => by
  obtain ⟨g, o, e, hg, c0, c1, c2, hz⟩ := H j hj
  exact ⟨g, o, e, Nat.lt_of_lt_of_le hg hb.size, (hb.cell (p := ⟨g, o + j * 3, none⟩) hg).trans c0, (hb.cell (p := ⟨g, o + j * 3 + 1, none⟩) hg).trans c1, (hb.cell (p := ⟨g, o + j * 3 + 2, none⟩) hg).trans c2, hz⟩

set_option maxRecDepth 100000 in
set_option maxHeartbeats 1600000 in
theorem szValueS_any (a : Option Addr) (n ca : Nat) (f : Nat → Int × Int × ByteArray) (m : Int) (w : World) (ha : ArgV w a n f) (h0 : 0 ≤ m) (h1 : m ≤ 1048576) (hn : n ≤ 9223372036854775807) :
    Calls Try.prog 32 #[.slice a n ca, .int .i64 m] w fun e w' => ∃ r : Int, e = .returned (.int .i64 r) ∧ (r < 0 ∨ (0 ≤ r ∧ r ≤ 1048576 ∧ n ≤ 1048576)) ∧ Below w.heap.size w w' := by
  by_cases hbig : m - (n : Int) < 0
  · have d : decide (m - (n : Int) < 0) = true := by simpa using hbig
    go_enter Try.func32, Try.ntmps32
    go_wp2_with fail
    go_ret
    exact ⟨-1, rfl, .inl (by omega), Below.refl _ _⟩
  · have d : decide (m - (n : Int) < 0) = false := by simpa using hbig
    have hnm : n ≤ 1048576 := by omega
    go_enter Try.func32, Try.ntmps32
    go_wp2_with fail
    go_loopw [1, 5] (fun b i wr => ∃ (k : Nat) (r : Int), k ≤ n ∧ i = .int .i64 (k : Int) ∧ b = .int .i64 r ∧ 0 ≤ r ∧ r ≤ 1048576 ∧ Below w.heap.size w wr) (fun _ i _ => n - (intOf i).toNat)
    case atStart => exact ⟨0, m - n, by omega, rfl, by go_num, by omega, by omega, Below.refl _ _⟩
    case round =>
      obtain ⟨k, r, hk, rfl, rfl, hr0, hr1, hbel⟩ := hrel
      by_cases hlt : k < n
      · have hlt2 : (k : Int) < (n : Int) := by omega
        obtain ⟨g, o, rfl, hg, c0, c1, c2, hz⟩ := ha k hlt
        rw [← hbel.cell (p := ⟨g, o + k * 3, none⟩) hg] at c0
        rw [← hbel.cell (p := ⟨g, o + k * 3 + 1, none⟩) hg] at c1
        rw [← hbel.cell (p := ⟨g, o + k * 3 + 2, none⟩) hg] at c2
        generalize (f k).1 = K at c0
        generalize (f k).2.1 = A at c1
        generalize (f k).2.2 = T at c2 hz
        have hZ := fun w => szValue_any K A T r w hz hr0 hr1
        have hle := leftOf_le (n := r) (z := T.size) (by omega) hr1
        have hge := leftOf_ge (n := r) (z := T.size)
        generalize leftOf r T.size = z at hZ hle hge
        cases d2 : decide (z < 0)
        · have hz0 := hge d2
          clear hge
          go_wp2_with fail
          refine (hZ _).mono ?_
          rintro e w1 ⟨rfl, hb1⟩
          have hbb := hbel.trans (hb1.mono hbel.size)
          go_wp2_with fail
          go_roundw
          case rel => exact ⟨k + 1, z, by omega, by go_num, rfl, hz0, hle, hbb⟩
          case measure => simp [intOf]; omega
        · clear hge
          go_wp2_with fail
          refine (hZ _).mono ?_
          rintro e w1 ⟨rfl, hb1⟩
          have hbb := hbel.trans (hb1.mono hbel.size)
          go_wp2_with fail
          go_ret
          exact ⟨-1, rfl, .inl (by omega), hbb⟩
      · go_wp2_with fail
        go_ret
        exact ⟨r, rfl, .inr ⟨hr0, hr1, hnm⟩, hbel⟩

theorem Try.infoVlA : (Try.prog.info? 25).map (fun i => (i.zero, i.size, i.bytes)) = some (some (.agg #[.int .i64 0, .int .i64 0, .string ByteArray.empty]), 3, 32) := by kernel_rfl
def zeroV : Nat → Int × Int × ByteArray := fun _ => (0, 0, ⟨#[]⟩)
/-- the first k of f, nothing behind -/
def mixV (k : Nat) (f : Nat → Int × Int × ByteArray) (j : Nat) : Int × Int × ByteArray := if j < k then f j else (0, 0, ⟨#[]⟩)
def zeroCellsV (n : Nat) : Array Value := madeCells #[.int .i64 0, .int .i64 0, .string ⟨#[]⟩] (n * 3)
theorem zeroCellsV_at {n i : Nat} (h : i < n * 3) : (zeroCellsV n)[i]? = (#[.int .i64 0, .int .i64 0, .string ⟨#[]⟩] : Array Value)[i % 3]? := by
  unfold zeroCellsV madeCells
  have hm : i % 3 < 3 := Nat.mod_lt _ (by omega)
  rw [Array.getElem?_map, Array.getElem?_range, if_pos h]
  rcases (show i % 3 = 0 ∨ i % 3 = 1 ∨ i % 3 = 2 by omega) with e | e | e <;> simp [e]
theorem made_vals (w : World) (n : Nat) : ValSl (w.alloc (.cells (zeroCellsV n) 25)) w.heap.size (some ⟨w.heap.size, 0, none⟩) n zeroV := fun j hj => by
  have hr := heap_alloc_new w (.cells (zeroCellsV n) 25)
  refine ⟨w.heap.size, rfl, Nat.le_refl _, by simp, ?_, ?_, ?_, frozen_of_row _ _ _ _ _ hr, frozen_of_row _ _ _ _ _ hr, frozen_of_row _ _ _ _ _ hr⟩
  · rw [cell_of_row _ w.heap.size (j * 3) _ 25 (0, 0) hr, zeroCellsV_at (by omega), show j * 3 % 3 = 0 by omega]; rfl
  · rw [cell_of_row _ w.heap.size (j * 3 + 1) _ 25 (0, 0) hr, zeroCellsV_at (by omega), show (j * 3 + 1) % 3 = 1 by omega]; rfl
  · rw [cell_of_row _ w.heap.size (j * 3 + 2) _ 25 (0, 0) hr, zeroCellsV_at (by omega), show (j * 3 + 2) % 3 = 2 by omega]; rfl
theorem make_vals (w : World) (n : Nat) (hn : n ≤ 1048576) : (Instr.makeSlice 34 (.int .i64 (n : Int)) (.int .i64 (n : Int))).run Try.prog w = .ok (.slice (some ⟨w.heap.size, 0, none⟩) n n) (w.alloc (.cells (zeroCellsV n) 25)) := by
  obtain ⟨i, hi, hz, hsize, hby⟩ := info_parts Try.infoVlA
  have h := run_make (P := Try.prog) w 34 25 i _ Try.underlying34 hi hz .i64 .i64 (n : Int) (n : Int) (by omega) (by omega) (by rw [hby]; omega) (by omega)
  rw [hsize, Int.toNat_natCast] at h
  exact h

set_option maxRecDepth 100000 in
set_option maxHeartbeats 1600000 in
theorem toValueS_any (a : Option Addr) (n ca : Nat) (f : Nat → Int × Int × ByteArray) (w : World) (ha : ArgV w a n f) (hn : n ≤ 1048576) :
    Calls Try.prog 33 #[.slice a n ca] w fun e w' => ∃ g, e = .returned (.slice (some ⟨g, 0, none⟩) n n) ∧ ValSl w' w.heap.size (some ⟨g, 0, none⟩) n f ∧ Below w.heap.size w w' := by
  have hmk := make_vals w n hn
  have hT0 := made_vals w n
  have hB0 : Below w.heap.size w (w.alloc (.cells (zeroCellsV n) 25)) := (Below.refl _ _).alloc (Nat.le_refl _) _
  go_enter Try.func33, Try.ntmps33
  go_wp2_with fail
  clear hmk
  generalize w.alloc (.cells (zeroCellsV n) 25) = w0 at hT0 hB0 ⊢
  go_loopw [4] (fun i wr => ∃ k : Nat, k ≤ n ∧ i = .int .i64 (k : Int) ∧ ValSl wr w.heap.size (some ⟨w.heap.size, 0, none⟩) n (mixV k f) ∧ Below w.heap.size w wr) (fun i _ => n - (intOf i).toNat)
  case atStart => exact ⟨0, by omega, rfl, hT0.congr (fun j _ => by unfold mixV; rw [if_neg (by omega)]; rfl), hB0⟩
  case round =>
    obtain ⟨k, hk, rfl, hT, hbel⟩ := hrel
    by_cases hlt : k < n
    · have hlt2 : (k : Int) < (n : Int) := by omega
      obtain ⟨g, o, rfl, hg, c0, c1, c2, hz⟩ := ha k hlt
      rw [← hbel.cell (p := ⟨g, o + k * 3, none⟩) hg] at c0
      rw [← hbel.cell (p := ⟨g, o + k * 3 + 1, none⟩) hg] at c1
      rw [← hbel.cell (p := ⟨g, o + k * 3 + 2, none⟩) hg] at c2
      have hfk : f k = ((f k).1, (f k).2.1, (f k).2.2) := rfl
      generalize (f k).1 = K at c0 hfk
      generalize (f k).2.1 = A at c1 hfk
      generalize (f k).2.2 = T at c2 hz hfk
      have hC := fun w => toValue_any K A T w
      have HFK := Lib.hid hfk
      clear hfk
      go_wp2_with fail
      refine (hC _).mono ?_
      rintro e w1 ⟨rfl, hb1⟩
      have hT1 := hT.below hb1
      have hbb := hbel.trans (hb1.mono hbel.size)
      clear hT hb1 hbel c0 c1 c2 hC
      obtain ⟨g', e', hBg, _, c0, c1, c2, z0, z1, z2⟩ := hT1 k hlt
      obtain rfl : w.heap.size = g' := by simpa using e'
      have p1 := ((hT1.put0 (k := k) K e').put1 (k := k) A e').put2 (k := k) T e'
      have b1 := ((hbb.setCell (p := ⟨w.heap.size, k * 3, none⟩) (Nat.le_refl _) (.int .i64 K)).setCell (p := ⟨w.heap.size, k * 3 + 1, none⟩) (Nat.le_refl _) (.int .i64 A)).setCell (p := ⟨w.heap.size, k * 3 + 2, none⟩) (Nat.le_refl _) (.string T)
      have p2 := p1.congr (f' := mixV (k + 1) f) (fun x hx => by
        by_cases ex : x = k
        · subst ex
          have em : mixV (x + 1) f x = f x := by unfold mixV; rw [if_pos (by omega)]
          rw [em, HFK.out]
          simp [updV]
        · rw [updV_other ex, updV_other ex, updV_other ex]
          unfold mixV
          by_cases hxk : x < k
          · rw [if_pos hxk, if_pos (by omega)]
          · rw [if_neg hxk, if_neg (by omega)])
      clear p1 hT1 hbb e'
      go_wp2_with fail
      go_roundw
      case rel => exact ⟨k + 1, by omega, by go_num, p2, b1⟩
      case measure => simp [intOf]; omega
    · have e : k = n := by omega
      subst e
      have hT2 := hT.congr (f' := f) (fun j hj => by unfold mixV; rw [if_pos hj])
      go_wp2_with fail
      go_ret
      exact ⟨_, rfl, hT2, hbel⟩
end Go.Proofs.Ytelbcfipkanfkaa
