/- Joined texts: TokArg ArgTok ArgOpen. -/
import Derived.Test.YtcadoplfgclbjaaDoorQF
import Derived.Test.YtcadoplfgclbjaaDoorQA
import Derived.Test.YtcadoplfgclbjaaDoorRows
import Derived.Deep.QuietTactic
import Derived.BigQuiet
import Derived.Laws.MakeOwn
import Derived.WalkKit
import Derived.ProofKit
import Derived.OpenShut
import Derived.ShutString
import Derived.Deep.Slices
import Derived.Deep.Strs
/- Contracts of what the laws do with a token that came in: its size, and a copy of it. -/
namespace Go.Proofs.YtcadoplfgclbjaaDoor
open Go.RowKit

/-- what is left of n behind a text of z bytes, or -1 -/
def leftOf (n z : Int) : Int := if n - z < 0 then -1 else n - z
theorem leftOf_neg {n z : Int} (h : n - z < 0) : decide (leftOf n z < 0) = true := by unfold leftOf; rw [if_pos h]; rfl
theorem leftOf_nat {n z : Int} (h : ¬ n - z < 0) : decide (leftOf n z < 0) = false := by unfold leftOf; rw [if_neg h]; simpa using h

set_option maxRecDepth 100000 in
set_option maxHeartbeats 800000 in
theorem szToken_any (k : Int) (t : ByteArray) (a : Int) (n : Int) (w : World) (ht : t.size ≤ 9223372036854775807) (h0 : 0 ≤ n) (h1 : n ≤ 1048576) :
    Calls Tryd.prog 41 #[.agg #[.int .i64 k, .string t, .int .i64 a], .int .i64 n] w (IntE (leftOf n t.size) w) := by
  unfold leftOf
  by_cases h : n - (t.size : Int) < 0
  · have d : decide (n - (t.size : Int) < 0) = true := by simpa using h
    rw [if_pos h]
    clear h
    go_enter Tryd.func41, Tryd.ntmps41
    go_wp2_with fail
    go_ret
    exact ⟨rfl, (Below.refl _ _).alloc (Nat.le_refl _) _⟩
  · have d : decide (n - (t.size : Int) < 0) = false := by simpa using h
    rw [if_neg h]
    clear h
    go_enter Tryd.func41, Tryd.ntmps41
    go_wp2_with fail
    go_ret
    exact ⟨by go_num, (Below.refl _ _).alloc (Nat.le_refl _) _⟩

/-- a token comes back -/
def CopyE (k : Int) (t : ByteArray) (a : Int) (w : World) (e : Ending) (w' : World) : Prop := e = .returned (.agg #[.int .i64 k, .string t, .int .i64 a]) ∧ Below w.heap.size w w'

set_option maxRecDepth 100000 in
set_option maxHeartbeats 1600000 in
theorem toToken_any (k : Int) (t : ByteArray) (a : Int) (w : World) :
    Calls Tryd.prog 43 #[.agg #[.int .i64 k, .string t, .int .i64 a]] w (CopyE k t a w) := by
  go_enter Tryd.func43, Tryd.ntmps43
  go_wp2_with fail
  have hF : TokAt (((w.alloc (.cells #[.int .i64 k, .string t, .int .i64 a] 58)).alloc (.cells #[.int .i64 k, .string t, .int .i64 a] 25)).alloc (.cells #[.int .i64 k, .string t, .int .i64 a] 25)) (w.heap.size + 1) k t a :=
    (Below.heap_alloc _ _ (w.heap.size + 1) (by simp)).trans (tok_new w _ k t a)
  have f0 := cell_of_row _ (w.heap.size + 1) 0 _ 25 (0, 0) hF
  have f1 := cell_of_row _ (w.heap.size + 1) 1 _ 25 (0, 0) hF
  have f2 := cell_of_row _ (w.heap.size + 1) 2 _ 25 (0, 0) hF
  have hBf : Below w.heap.size w (((w.alloc (.cells #[.int .i64 k, .string t, .int .i64 a] 58)).alloc (.cells #[.int .i64 k, .string t, .int .i64 a] 25)).alloc (.cells #[.int .i64 k, .string t, .int .i64 a] 25)) := (((Below.refl _ _).alloc (Nat.le_refl _) _).alloc (by simp) _).alloc (by simp; omega) _
  clear hF
  generalize ((w.alloc (.cells #[.int .i64 k, .string t, .int .i64 a] 58)).alloc (.cells #[.int .i64 k, .string t, .int .i64 a] 25)).alloc (.cells #[.int .i64 k, .string t, .int .i64 a] 25) = wf at f0 f1 f2 hBf ⊢
  refine bodyPost_ret (v := .agg #[.int .i64 k, .string t, .int .i64 a]) (by simp [results, Tryd.results43, go_sem, f0, f1, f2]) rfl ?_
  exact ⟨rfl, hBf⟩
end Go.Proofs.YtcadoplfgclbjaaDoor

/- Contracts of what the laws do with a slice of tokens that came in: its size, and a copy of it. -/
namespace Go.Proofs.YtcadoplfgclbjaaDoor
open Go.RowKit

/-- the slice at a that came in holds the tokens f 0, f 1, .. up to n -/
def ArgSl (w : World) (a : Option Addr) (n : Nat) (f : Nat → Int × ByteArray × Int) : Prop :=
  ∀ j, j < n → ∃ g o, a = some ⟨g, o, none⟩ ∧ g < w.heap.size ∧
    w.cell? ⟨g, o + j * 3, none⟩ = some (.int .i64 (f j).1) ∧ w.cell? ⟨g, o + j * 3 + 1, none⟩ = some (.string (f j).2.1) ∧ w.cell? ⟨g, o + j * 3 + 2, none⟩ = some (.int .i64 (f j).2.2) ∧ (f j).2.1.size ≤ 9223372036854775807
theorem ArgSl.below {w w' : World} {a : Option Addr} {n : Nat} {f : Nat → Int × ByteArray × Int} (H : ArgSl w a n f) (hb : Below w.heap.size w w') : ArgSl w' a n f := fun j hj => by
  obtain ⟨g, o, e, hg, c0, c1, c2, hz⟩ := H j hj
  exact ⟨g, o, e, Nat.lt_of_lt_of_le hg hb.size, (hb.cell (p := ⟨g, o + j * 3, none⟩) hg).trans c0, (hb.cell (p := ⟨g, o + j * 3 + 1, none⟩) hg).trans c1, (hb.cell (p := ⟨g, o + j * 3 + 2, none⟩) hg).trans c2, hz⟩

theorem leftOf_le {n z : Int} (h : 0 ≤ z) (h1 : n ≤ 1048576) : leftOf n z ≤ 1048576 := by unfold leftOf; split <;> omega
theorem leftOf_ge {n z : Int} (h : decide (leftOf n z < 0) = false) : 0 ≤ leftOf n z := by simpa using h

set_option maxRecDepth 100000 in
set_option maxHeartbeats 1600000 in
theorem szTokenS_any (a : Option Addr) (n ca : Nat) (f : Nat → Int × ByteArray × Int) (m : Int) (w : World) (ha : ArgSl w a n f) (h0 : 0 ≤ m) (h1 : m ≤ 1048576) (hn : n ≤ 9223372036854775807) :
    Calls Tryd.prog 15 #[.slice a n ca, .int .i64 m] w fun e w' => ∃ r : Int, e = .returned (.int .i64 r) ∧ (r < 0 ∨ (0 ≤ r ∧ r ≤ 1048576 ∧ n ≤ 1048576)) ∧ Below w.heap.size w w' := by
  by_cases hbig : m - (n : Int) < 0
  · have d : decide (m - (n : Int) < 0) = true := by simpa using hbig
    go_enter Tryd.func15, Tryd.ntmps15
    go_wp2_with fail
    go_ret
    exact ⟨-1, rfl, .inl (by omega), Below.refl _ _⟩
  · have d : decide (m - (n : Int) < 0) = false := by simpa using hbig
    have hnm : n ≤ 1048576 := by omega
    go_enter Tryd.func15, Tryd.ntmps15
    go_wp2_with fail
    go_loopw [1, 5] (fun b i wr => ∃ (k : Nat) (r : Int), k ≤ n ∧ i = .int .i64 (k : Int) ∧ b = .int .i64 r ∧ 0 ≤ r ∧ r ≤ 1048576 ∧ Below w.heap.size w wr) (fun _ i _ => n - (intOf i).toNat)
    case atStart => exact ⟨0, m - n, by omega, rfl, by go_num, by omega, by omega, Below.refl _ _⟩
    case round =>
      obtain ⟨k, r, hk, rfl, rfl, hr0, hr1, hbel⟩ := hrel
      by_cases hlt : k < n
      · have hlt2 : (k : Int) < (n : Int) := by omega
        obtain ⟨g, o, rfl, hg, c0, c1, c2, hz⟩ := ha k hlt
        rw [← hbel.cell (p := ⟨g, o + k * 3, none⟩) hg] at c0
        rw [← hbel.cell (p := ⟨g, o + k * 3 + 1, none⟩) hg] at c1
        rw [← hbel.cell (p := ⟨g, o + k * 3 + 2, none⟩) hg] at c2
        generalize (f k).1 = K at c0
        generalize (f k).2.1 = T at c1 hz
        generalize (f k).2.2 = A at c2
        have hZ := fun w => szToken_any K T A r w hz hr0 hr1
        have hle := leftOf_le (n := r) (z := T.size) (by omega) hr1
        have hge := leftOf_ge (n := r) (z := T.size)
        generalize leftOf r T.size = z at hZ hle hge
        cases d2 : decide (z < 0)
        · have hz0 := hge d2
          clear hge
          go_wp2_with fail
          refine (hZ _).mono ?_
          rintro e w1 ⟨rfl, hb1⟩
          have hbb := hbel.trans (hb1.mono hbel.size)
          go_wp2_with fail
          go_roundw
          case rel => exact ⟨k + 1, z, by omega, by go_num, rfl, hz0, hle, hbb⟩
          case measure => simp [intOf]; omega
        · clear hge
          go_wp2_with fail
          refine (hZ _).mono ?_
          rintro e w1 ⟨rfl, hb1⟩
          have hbb := hbel.trans (hb1.mono hbel.size)
          go_wp2_with fail
          go_ret
          exact ⟨-1, rfl, .inl (by omega), hbb⟩
      · go_wp2_with fail
        go_ret
        exact ⟨r, rfl, .inr ⟨hr0, hr1, hnm⟩, hbel⟩

theorem Tryd.infoTkA : (Tryd.prog.info? 25).map (fun i => (i.zero, i.size, i.bytes)) = some (some (.agg #[.int .i64 0, .string ByteArray.empty, .int .i64 0]), 3, 32) := by kernel_rfl
def zeroT : Nat → Int × ByteArray × Int := fun _ => (0, ⟨#[]⟩, 0)
/-- the first k of f, nothing behind -/
def mixA (k : Nat) (f : Nat → Int × ByteArray × Int) (j : Nat) : Int × ByteArray × Int := if j < k then f j else (0, ⟨#[]⟩, 0)
def zeroCells (n : Nat) : Array Value := madeCells #[.int .i64 0, .string ⟨#[]⟩, .int .i64 0] (n * 3)
theorem zeroCells_at {n i : Nat} (h : i < n * 3) : (zeroCells n)[i]? = (#[.int .i64 0, .string ⟨#[]⟩, .int .i64 0] : Array Value)[i % 3]? := by
  unfold zeroCells madeCells
  have hm : i % 3 < 3 := Nat.mod_lt _ (by omega)
  rw [Array.getElem?_map, Array.getElem?_range, if_pos h]
  rcases (show i % 3 = 0 ∨ i % 3 = 1 ∨ i % 3 = 2 by omega) with e | e | e <;> simp [e]
theorem made_toks (w : World) (n : Nat) : TokSl (w.alloc (.cells (zeroCells n) 25)) w.heap.size (some ⟨w.heap.size, 0, none⟩) n zeroT := fun j hj => by
  have hr := heap_alloc_new w (.cells (zeroCells n) 25)
  refine ⟨w.heap.size, rfl, Nat.le_refl _, by simp, ?_, ?_, ?_, frozen_of_row _ _ _ _ _ hr, frozen_of_row _ _ _ _ _ hr, frozen_of_row _ _ _ _ _ hr⟩
  · rw [cell_of_row _ w.heap.size (j * 3) _ 25 (0, 0) hr, zeroCells_at (by omega), show j * 3 % 3 = 0 by omega]; rfl
  · rw [cell_of_row _ w.heap.size (j * 3 + 1) _ 25 (0, 0) hr, zeroCells_at (by omega), show (j * 3 + 1) % 3 = 1 by omega]; rfl
  · rw [cell_of_row _ w.heap.size (j * 3 + 2) _ 25 (0, 0) hr, zeroCells_at (by omega), show (j * 3 + 2) % 3 = 2 by omega]; rfl
theorem make_toks (w : World) (n : Nat) (hn : n ≤ 1048576) : (Instr.makeSlice 30 (.int .i64 (n : Int)) (.int .i64 (n : Int))).run Tryd.prog w = .ok (.slice (some ⟨w.heap.size, 0, none⟩) n n) (w.alloc (.cells (zeroCells n) 25)) := by
  obtain ⟨i, hi, hz, hsize, hby⟩ := info_parts Tryd.infoTkA
  have h := run_make (P := Tryd.prog) w 30 25 i _ Tryd.underlying30 hi hz .i64 .i64 (n : Int) (n : Int) (by omega) (by omega) (by rw [hby]; omega) (by omega)
  rw [hsize, Int.toNat_natCast] at h
  exact h

set_option maxRecDepth 100000 in
set_option maxHeartbeats 1600000 in
theorem toTokenS_any (a : Option Addr) (n ca : Nat) (f : Nat → Int × ByteArray × Int) (w : World) (ha : ArgSl w a n f) (hn : n ≤ 1048576) :
    Calls Tryd.prog 17 #[.slice a n ca] w fun e w' => ∃ g, e = .returned (.slice (some ⟨g, 0, none⟩) n n) ∧ TokSl w' w.heap.size (some ⟨g, 0, none⟩) n f ∧ Below w.heap.size w w' := by
  have hmk := make_toks w n hn
  have hT0 := made_toks w n
  have hB0 : Below w.heap.size w (w.alloc (.cells (zeroCells n) 25)) := (Below.refl _ _).alloc (Nat.le_refl _) _
  go_enter Tryd.func17, Tryd.ntmps17
  go_wp2_with fail
  clear hmk
  generalize w.alloc (.cells (zeroCells n) 25) = w0 at hT0 hB0 ⊢
  go_loopw [4] (fun i wr => ∃ k : Nat, k ≤ n ∧ i = .int .i64 (k : Int) ∧ TokSl wr w.heap.size (some ⟨w.heap.size, 0, none⟩) n (mixA k f) ∧ Below w.heap.size w wr) (fun i _ => n - (intOf i).toNat)
  case atStart => exact ⟨0, by omega, rfl, hT0.congr (fun j _ => by unfold mixA; rw [if_neg (by omega)]; rfl), hB0⟩
  case round =>
    obtain ⟨k, hk, rfl, hT, hbel⟩ := hrel
    by_cases hlt : k < n
    · have hlt2 : (k : Int) < (n : Int) := by omega
      obtain ⟨g, o, rfl, hg, c0, c1, c2, hz⟩ := ha k hlt
      rw [← hbel.cell (p := ⟨g, o + k * 3, none⟩) hg] at c0
      rw [← hbel.cell (p := ⟨g, o + k * 3 + 1, none⟩) hg] at c1
      rw [← hbel.cell (p := ⟨g, o + k * 3 + 2, none⟩) hg] at c2
      have hfk : f k = ((f k).1, (f k).2.1, (f k).2.2) := rfl
      generalize (f k).1 = K at c0 hfk
      generalize (f k).2.1 = T at c1 hz hfk
      generalize (f k).2.2 = A at c2 hfk
      have hC := fun w => toToken_any K T A w
      have HFK := Lib.hid hfk
      clear hfk
      go_wp2_with fail
      refine (hC _).mono ?_
      rintro e w1 ⟨rfl, hb1⟩
      have hT1 := hT.below hb1
      have hbb := hbel.trans (hb1.mono hbel.size)
      clear hT hb1 hbel c0 c1 c2 hC
      obtain ⟨g', e', hBg, _, c0, c1, c2, z0, z1, z2⟩ := hT1 k hlt
      obtain rfl : w.heap.size = g' := by simpa using e'
      have p1 := ((hT1.put0 (k := k) K e').put1 (k := k) T e').put2 (k := k) A e'
      have b1 := ((hbb.setCell (p := ⟨w.heap.size, k * 3, none⟩) (Nat.le_refl _) (.int .i64 K)).setCell (p := ⟨w.heap.size, k * 3 + 1, none⟩) (Nat.le_refl _) (.string T)).setCell (p := ⟨w.heap.size, k * 3 + 2, none⟩) (Nat.le_refl _) (.int .i64 A)
      have p2 := p1.congr (f' := mixA (k + 1) f) (fun x hx => by
        by_cases ex : x = k
        · subst ex
          have em : mixA (x + 1) f x = f x := by unfold mixA; rw [if_pos (by omega)]
          rw [em, HFK.out]
          simp [upd]
        · rw [upd_other ex, upd_other ex, upd_other ex]
          unfold mixA
          by_cases hxk : x < k
          · rw [if_pos hxk, if_pos (by omega)]
          · rw [if_neg hxk, if_neg (by omega)])
      clear p1 hT1 hbb e'
      go_wp2_with fail
      go_roundw
      case rel => exact ⟨k + 1, by omega, by go_num, p2, b1⟩
      case measure => simp [intOf]; omega
    · have e : k = n := by omega
      subst e
      have hT2 := hT.congr (f' := f) (fun j hj => by unfold mixA; rw [if_pos hj])
      go_wp2_with fail
      go_ret
      exact ⟨_, rfl, hT2, hbel⟩
end Go.Proofs.YtcadoplfgclbjaaDoor

/- Tokens that came in, read out of the rows. -/
namespace Go.Proofs.YtcadoplfgclbjaaDoor
open Go.ChangeShapes Go.WideShapes Go.ChangeAt Go.RowKit Go.Deep

set_option maxRecDepth 100000 in
theorem tok_cells {H : Type} {enc : TypeId × Value → H} {w : World} {base : Nat} {spare : Nat → Bool} {held : Bool} {n : Nat} {cs : List Value} {y : DataW H × List MemPlace}
    (h : DataW.trod enc Tryd.prog w base spare held n 58 cs = some y) : ∃ (K : Int) (T : ByteArray) (A : Int), cs = [.int .i64 K, .string T, .int .i64 A] ∧ T.size ≤ maxLen := by
  obtain ⟨y0, y1, y2, m, _, hl, t0, t1, t2⟩ := trod_struct3 Tryd.underlying58 h
  have hc : Tryd.prog.cellsOf 58 = 3 := by kernel_rfl
  have h3 : Tryd.prog.cellsOf 3 = 1 := by kernel_rfl
  have h9 : Tryd.prog.cellsOf 9 = 1 := by kernel_rfl
  rw [hc] at hl
  match cs, hl with
  | [c0, c1, c2], _ =>
    have e0 : DataW.trod enc Tryd.prog w base spare held m 3 [c0] = some y0 := by simpa [h3] using t0
    have e1 : DataW.trod enc Tryd.prog w base spare held m 9 [c1] = some y1 := by simpa [h9] using t1
    have e2 : DataW.trod enc Tryd.prog w base spare held m 3 [c2] = some y2 := by simpa [h3] using t2
    obtain ⟨K, k0, -, -⟩ := DataW.trod_int Tryd.underlying3 e0
    obtain ⟨T, k1, -, hT⟩ := DataW.trod_string Tryd.underlying9 e1
    obtain ⟨A, k2, -, -⟩ := DataW.trod_int Tryd.underlying3 e2
    have q0 : c0 = .int .i64 K := by simpa using k0
    have q1 : c1 = .string T := by simpa using k1
    have q2 : c2 = .int .i64 A := by simpa using k2
    exact ⟨K, T, A, by rw [q0, q1, q2], hT⟩

set_option maxRecDepth 100000 in
theorem arg_toks {H : Type} {enc : TypeId × Value → H} {W : World} {a : Option Addr} {len cap : Nat} {d : DataW H} {p : List MemPlace}
    (h : DataW.Trod enc Tryd.prog W 0 (fun _ => true) true 35 (.slice a len cap) d p) : (∃ f, ArgSl W a len f) ∧ len ≤ 9223372036854775807 := by
  obtain ⟨fuel, hf⟩ := h
  rcases open_slice Tryd.underlying35 hf with ⟨hcs, _⟩ | ⟨x, l, c, m, n, D, Pl, hcs, _, hl, hm, hmm, _, hi⟩
  · simp [Value.cells] at hcs
    obtain ⟨rfl, rfl, rfl⟩ := hcs
    exact ⟨⟨fun _ => (0, ⟨#[]⟩, 0), fun j hj => by omega⟩, by omega⟩
  · simp [Value.cells] at hcs
    obtain ⟨rfl, rfl, rfl⟩ := hcs
    have hc : Tryd.prog.cellsOf 58 = 3 := by kernel_rfl
    rw [hc] at hi
    have hlm : len ≤ m := by rw [hmm]; simpa using hl
    have key : ∀ j, j < len → ∃ v : Int × ByteArray × Int, ∃ g o, x = ⟨g, o, none⟩ ∧ g < W.heap.size ∧ W.cell? ⟨g, o + j * 3, none⟩ = some (.int .i64 v.1) ∧ W.cell? ⟨g, o + j * 3 + 1, none⟩ = some (.string v.2.1) ∧ W.cell? ⟨g, o + j * 3 + 2, none⟩ = some (.int .i64 v.2.2) ∧ v.2.1.size ≤ 9223372036854775807 := fun j hj => by
      obtain ⟨cs', hcc, ht⟩ := hi j (by omega)
      obtain ⟨K, T, A, rfl, hT⟩ := tok_cells ht
      obtain ⟨_, _, hat⟩ := World.cells?_some hcc
      have c0 := hat 0 (by omega)
      have c1 := hat 1 (by omega)
      have c2 := hat 2 (by omega)
      obtain ⟨g, o, spot⟩ := x
      have hadd : ∀ (y : Addr) (i : Nat), 0 < i → y.add i = ⟨y.block, y.off + i, none⟩ := fun y i hi => by unfold Addr.add; rw [if_neg (by omega)]
      have e1 : ((Addr.mk g o spot).add (j * 3)).add 1 = ⟨g, o + j * 3 + 1, none⟩ := by
        rw [hadd _ 1 (by omega)]
        unfold Addr.add; split
        · rename_i h0; simp [h0]
        · rfl
      have e2 : ((Addr.mk g o spot).add (j * 3)).add 2 = ⟨g, o + j * 3 + 2, none⟩ := by
        rw [hadd _ 2 (by omega)]
        unfold Addr.add; split
        · rename_i h0; simp [h0]
        · rfl
      have e0 : ((Addr.mk g o spot).add (j * 3)).add 0 = (Addr.mk g o spot).add (j * 3) := by unfold Addr.add; simp
      rw [e0] at c0
      rw [e1] at c1
      rw [e2] at c2
      have hcx : W.cell? ((Addr.mk g o spot).add (j * 3)) = some (.int .i64 K) := c0
      have hsp : spot = none := by
        obtain ⟨cs0, hcc0, ht0⟩ := hi 0 (by omega)
        obtain ⟨K0, T0, A0, rfl, _⟩ := tok_cells ht0
        obtain ⟨_, _, hat0⟩ := World.cells?_some hcc0
        have c00 := hat0 0 (by omega)
        have e00 : ((Addr.mk g o spot).add (0 * 3)).add 0 = Addr.mk g o spot := by unfold Addr.add; simp
        rw [e00] at c00
        have h00 : W.cell? (Addr.mk g o spot) = some (.int .i64 K0) := c00
        simpa using World.cell?_spot h00
      subst hsp
      have e3 : (Addr.mk g o none).add (j * 3) = ⟨g, o + j * 3, none⟩ := by
        unfold Addr.add; split
        · simp
        · rfl
      rw [e3] at hcx
      refine ⟨(K, T, A), g, o, rfl, ?_, hcx, c1, c2, hT⟩
      rcases Nat.lt_or_ge g W.heap.size with hb | hb
      · exact hb
      · exfalso
        have : W.heap[g]? = none := by simp; omega
        simp [World.cell?, this] at hcx
    obtain ⟨f, hff⟩ : ∃ f : Nat → Int × ByteArray × Int, ∀ (j : Nat) (h : j < len), f j = Classical.choose (key j h) :=
      ⟨fun j => if h : j < len then Classical.choose (key j h) else (0, ⟨#[]⟩, 0), fun j h => dif_pos h⟩
    refine ⟨⟨f, fun j hj => ?_⟩, by unfold maxLen at hm; omega⟩
    obtain ⟨g, o, e, rest⟩ := Classical.choose_spec (key j hj)
    rw [hff j hj]
    exact ⟨g, o, by rw [e], rest⟩
end Go.Proofs.YtcadoplfgclbjaaDoor
