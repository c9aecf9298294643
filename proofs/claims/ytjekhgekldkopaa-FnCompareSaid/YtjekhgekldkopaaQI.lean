/- Joined texts: OrdLaw OrdI0 OrdI DrawOrd. -/
import Derived.Test.YtjekhgekldkopaaQD
import Derived.Test.YtjekhgekldkopaaQG
import Derived.Test.YtjekhgekldkopaaQH
import Derived.Test.YtjekhgekldkopaaShelf
import Derived.Test.YtjekhgekldkopaaQF
import Derived.Deep.RegionWith
import Derived.StillTailTactics
import Derived.Laws.Cover1
/- The walk of the law on Order, from the contract of the program's function. -/
namespace Go.Proofs.Ytjekhgekldkopaa
open Go.RowKit

/-- what the program's Order is known to do -/
def OrdI : Prop := ∀ (k a : Int) (t : ByteArray) (k' a' : Int) (t' : ByteArray) (w : World), t.size ≤ 9223372036854775807 → t'.size ≤ 9223372036854775807 →
    Calls Try.prog 49 #[.agg #[.int .i64 k, .int .i64 a, .string t], .agg #[.int .i64 k', .int .i64 a', .string t']] w (IntE (ordV (k, a, t.data.toList) (k', a', t'.data.toList)) w)

/-- two blocks of values that came in -/
def twoArgV (k a : Int) (t : ByteArray) (k' a' : Int) (t' : ByteArray) (w : World) : World :=
  (w.alloc (.cells #[.int .i64 k, .int .i64 a, .string t] 40)).alloc (.cells #[.int .i64 k', .int .i64 a', .string t'] 40)
theorem twoArgV_size (k a : Int) (t : ByteArray) (k' a' : Int) (t' : ByteArray) (w : World) : (twoArgV k a t k' a' t' w).heap.size = w.heap.size + 2 := by simp [twoArgV]
theorem twoArgV_below (k a : Int) (t : ByteArray) (k' a' : Int) (t' : ByteArray) (w : World) : Below w.heap.size w (twoArgV k a t k' a' t' w) :=
  ((Below.refl w.heap.size w).alloc (Nat.le_refl _) _).alloc (by simp) _
theorem twoArgV_cells {k a : Int} {t : ByteArray} {k' a' : Int} {t' : ByteArray} {w w' : World} (h : Below (w.heap.size + 2) (twoArgV k a t k' a' t' w) w') :
    w'.cell? ⟨w.heap.size, 0, none⟩ = some (.int .i64 k) ∧ w'.cell? ⟨w.heap.size, 1, none⟩ = some (.int .i64 a) ∧ w'.cell? ⟨w.heap.size, 2, none⟩ = some (.string t) ∧
    w'.cell? ⟨w.heap.size + 1, 0, none⟩ = some (.int .i64 k') ∧ w'.cell? ⟨w.heap.size + 1, 1, none⟩ = some (.int .i64 a') ∧ w'.cell? ⟨w.heap.size + 1, 2, none⟩ = some (.string t') := by
  have r1 : (twoArgV k a t k' a' t' w).heap[w.heap.size]? = some (.cells #[.int .i64 k, .int .i64 a, .string t] 40) := by
    unfold twoArgV
    rw [Below.heap_alloc _ _ _ (by simp)]
    exact heap_alloc_new w _
  have r2 : (twoArgV k a t k' a' t' w).heap[w.heap.size + 1]? = some (.cells #[.int .i64 k', .int .i64 a', .string t'] 40) := by
    have := heap_alloc_new (w.alloc (.cells #[.int .i64 k, .int .i64 a, .string t] 40)) (.cells #[.int .i64 k', .int .i64 a', .string t'] 40)
    simpa [twoArgV] using this
  refine ⟨?_, ?_, ?_, ?_, ?_, ?_⟩
  · rw [h.cell (by show w.heap.size < _; omega), cell_of_row _ _ 0 _ 40 (0, 0) r1]; rfl
  · rw [h.cell (by show w.heap.size < _; omega), cell_of_row _ _ 1 _ 40 (0, 0) r1]; rfl
  · rw [h.cell (by show w.heap.size < _; omega), cell_of_row _ _ 2 _ 40 (0, 0) r1]; rfl
  · rw [h.cell (by show w.heap.size + 1 < _; omega), cell_of_row _ _ 0 _ 40 (0, 0) r2]; rfl
  · rw [h.cell (by show w.heap.size + 1 < _; omega), cell_of_row _ _ 1 _ 40 (0, 0) r2]; rfl
  · rw [h.cell (by show w.heap.size + 1 < _; omega), cell_of_row _ _ 2 _ 40 (0, 0) r2]; rfl

end Go.Proofs.Ytjekhgekldkopaa

/- Contracts of the library's functions that the program's Order calls. -/
namespace Go.Proofs.Ytjekhgekldkopaa
open Go.RowKit

theorem isNaN_any (x : Int) (w : World) : Calls Try.prog 79 #[.int .i64 x] w fun e w' => e = .returned (.bool false) ∧ w = w' := by
  go_enter Try.func79, Try.ntmps79
  go_wp2
  go_ret
  exact ⟨rfl, rfl⟩
theorem cmpInt_any (x y : Int) (w : World) : Calls Try.prog 74 #[.int .i64 x, .int .i64 y] w fun e w' => e = .returned (.int .i64 (cmpI x y)) ∧ w = w' := by
  unfold cmpI
  by_cases h : x < y
  · rw [if_pos h]
    go_enter Try.func74, Try.ntmps74
    go_wp2_with (refine (isNaN_any _ _).mono ?_; rintro e w' ⟨rfl, rfl⟩)
    go_ret
    exact ⟨rfl, rfl⟩
  · rw [if_neg h]
    by_cases h2 : y < x
    · rw [if_pos h2]
      go_enter Try.func74, Try.ntmps74
      go_wp2_with (refine (isNaN_any _ _).mono ?_; rintro e w' ⟨rfl, rfl⟩)
      go_ret
      exact ⟨rfl, rfl⟩
    · rw [if_neg h2]
      go_enter Try.func74, Try.ntmps74
      go_wp2_with (refine (isNaN_any _ _).mono ?_; rintro e w' ⟨rfl, rfl⟩)
      go_ret
      exact ⟨rfl, rfl⟩
theorem cmpStr_any (s t : ByteArray) (w : World) : Calls Try.prog 75 #[.string s, .string t] w fun e w' => e = .returned (.int .i64 (Lib.compareBytes s.data.toList t.data.toList)) ∧ w = w' :=
  (Try.strings_Compare s t w).mono fun _ _ ⟨h, k⟩ => ⟨h, k.symm⟩

/-- block g holds three integers -/
def Three (w : World) (g : Nat) (a b c : Int) : Prop := w.cell? ⟨g, 0, none⟩ = some (.int .i64 a) ∧ w.cell? ⟨g, 1, none⟩ = some (.int .i64 b) ∧ w.cell? ⟨g, 2, none⟩ = some (.int .i64 c)
set_option maxRecDepth 100000 in
theorem or_any (g ca : Nat) (a b c : Int) (w : World) (H : Three w g a b c) : Calls Try.prog 73 #[.slice (some ⟨g, 0, none⟩) 3 ca] w fun e w' => e = .returned (.int .i64 (orI a b c)) ∧ w = w' := by
  obtain ⟨h0, h1, h2⟩ := H
  unfold orI
  by_cases ha : a = 0
  · subst ha
    rw [if_pos rfl]
    by_cases hb : b = 0
    · subst hb
      rw [if_pos rfl]
      go_enter Try.func73, Try.ntmps73
      go_wp2
      go_loop [8] (fun i => i = .int .i64 0 ∨ i = .int .i64 1 ∨ i = .int .i64 2 ∨ i = .int .i64 3 ∧ c = 0) (fun i => 3 - (intOf i).toNat)
      case atStart => exact .inl rfl
      case round =>
        rcases hrel with rfl | rfl | rfl | ⟨rfl, rfl⟩
        · go_wp2
          go_round
          case rel => exact .inr (.inl rfl)
          case measure => simp [intOf]
        · go_wp2
          go_round
          case rel => exact .inr (.inr (.inl rfl))
          case measure => simp [intOf]
        · by_cases hc : c = 0
          · subst hc
            go_wp2
            go_round
            case rel => exact .inr (.inr (.inr (by first | exact ⟨rfl, trivial⟩ | exact ⟨rfl, rfl⟩)))
            case measure => simp [intOf]
          · have hc1 : (c != 0) = true := by simpa using hc
            go_wp2
            go_ret
            exact ⟨rfl, rfl⟩
        · go_wp2
          go_ret
          exact ⟨rfl, rfl⟩
    · rw [if_neg hb]
      have hb1 : (b != 0) = true := by simpa using hb
      go_enter Try.func73, Try.ntmps73
      go_wp2
      go_loop [8] (fun i => i = .int .i64 0 ∨ i = .int .i64 1) (fun i => 3 - (intOf i).toNat)
      case atStart => exact .inl rfl
      case round =>
        rcases hrel with rfl | rfl
        · go_wp2
          go_round
          case rel => exact .inr rfl
          case measure => simp [intOf]
        · go_wp2
          go_ret
          exact ⟨rfl, rfl⟩
  · rw [if_neg ha]
    have ha1 : (a != 0) = true := by simpa using ha
    go_enter Try.func73, Try.ntmps73
    go_wp2
    go_loop [8] (fun i => i = .int .i64 0) (fun i => 3 - (intOf i).toNat)
    case atStart => rfl
    case round =>
      subst hrel
      go_wp2
      go_ret
      exact ⟨rfl, rfl⟩
end Go.Proofs.Ytjekhgekldkopaa

/- The contract of the program's Order. -/
namespace Go.Proofs.Ytjekhgekldkopaa
open Go.RowKit

theorem Calls.flip {P : Program} {f : FuncId} {args : Array Value} {w : World} {v : Value} (h : Calls P f args w fun e w' => e = .returned v ∧ w = w') : Calls P f args w fun e w' => e = .returned v ∧ w' = w := h.mono fun _ _ ⟨a, b⟩ => ⟨a, b.symm⟩
theorem three_new (V : World) (a b c : Int) : Three (V.alloc (.cells #[.int .i64 a, .int .i64 b, .int .i64 c] 3)) V.heap.size a b c := by
  have h := heap_alloc_new V (.cells #[.int .i64 a, .int .i64 b, .int .i64 c] 3)
  exact ⟨cell_of_row _ _ 0 _ 3 (0, 0) h, cell_of_row _ _ 1 _ 3 (0, 0) h, cell_of_row _ _ 2 _ 3 (0, 0) h⟩
theorem still_tail {P : Program} {id : Nat} {Q : Exit → Act → World → Prop} {a : Act} {w : World} {l : List Oper} (n : Nat) (hm : P.follows .mixedOrders = true) (hB : Region.lexTailB .any l.toArray n = true)
    (h : wpStill P l.toArray w.drew (fun a' => wpList P l.toArray Q (l.drop n) a' w.drew) (l.take n) a) : (Code.region id l.toArray true).wp P Q a w := wp_region_still_tail n hm hB h
/-- two blocks of values in a world behind them -/
structure TwoV (w V : World) (k a : Int) (t : ByteArray) (k' a' : Int) (t' : ByteArray) : Prop where
  below : Below w.heap.size w V
  c0 : V.cell? ⟨w.heap.size, 0, none⟩ = some (.int .i64 k)
  c1 : V.cell? ⟨w.heap.size, 1, none⟩ = some (.int .i64 a)
  c2 : V.cell? ⟨w.heap.size, 2, none⟩ = some (.string t)
  d0 : V.cell? ⟨w.heap.size + 1, 0, none⟩ = some (.int .i64 k')
  d1 : V.cell? ⟨w.heap.size + 1, 1, none⟩ = some (.int .i64 a')
  d2 : V.cell? ⟨w.heap.size + 1, 2, none⟩ = some (.string t')
theorem twoV_drew (w : World) (k a : Int) (t : ByteArray) (k' a' : Int) (t' : ByteArray) :
    TwoV w ((w.alloc (.cells #[.int .i64 k, .int .i64 a, .string t] 27)).alloc (.cells #[.int .i64 k', .int .i64 a', .string t'] 27)).drew k a t k' a' t' := by
  have r2 := heap_alloc_new (w.alloc (.cells #[.int .i64 k, .int .i64 a, .string t] 27)) (.cells #[.int .i64 k', .int .i64 a', .string t'] 27)
  have e : (w.alloc (.cells #[.int .i64 k, .int .i64 a, .string t] 27)).heap.size = w.heap.size + 1 := by simp
  rw [e] at r2
  have r1 : ((w.alloc (.cells #[.int .i64 k, .int .i64 a, .string t] 27)).alloc (.cells #[.int .i64 k', .int .i64 a', .string t'] 27)).heap[w.heap.size]? = some (.cells #[.int .i64 k, .int .i64 a, .string t] 27 (0, 0)) := by
    rw [Below.heap_alloc _ _ _ (by simp)]
    exact heap_alloc_new w _
  exact ⟨(((Below.refl w.heap.size w).alloc (Nat.le_refl _) _).alloc (by simp) _).trans (Below.refl _ _).drew, cell_of_row _ _ 0 _ 27 (0, 0) r1, cell_of_row _ _ 1 _ 27 (0, 0) r1, cell_of_row _ _ 2 _ 27 (0, 0) r1,
    cell_of_row _ _ 0 _ 27 (0, 0) r2, cell_of_row _ _ 1 _ 27 (0, 0) r2, cell_of_row _ _ 2 _ 27 (0, 0) r2⟩

set_option maxRecDepth 100000 in
set_option maxHeartbeats 4000000 in
theorem order_impl0 (k a : Int) (t : ByteArray) (k' a' : Int) (t' : ByteArray) (w : World) :
    Calls Try.prog 49 #[.agg #[.int .i64 k, .int .i64 a, .string t], .agg #[.int .i64 k', .int .i64 a', .string t']] w (IntE (ordV (k, a, t.data.toList) (k', a', t'.data.toList)) w) := by
  have hbb : Below w.heap.size w ((w.alloc (.cells #[.int .i64 k, .int .i64 a, .string t] 27)).alloc (.cells #[.int .i64 k', .int .i64 a', .string t'] 27)) :=
    ((Below.refl w.heap.size w).alloc (Nat.le_refl _) _).alloc (by simp) _
  have hO := ordV_or k a t.data.toList k' a' t'.data.toList
  have hE : k = k' ∧ a = a' ∧ t = t' → ordV (k, a, t.data.toList) (k', a', t'.data.toList) = 0 := fun ⟨e1, e2, e3⟩ => by subst e1; subst e2; subst e3; exact ordV_self _
  have hS := fun w => Calls.flip (cmpStr_any t t' w)
  have hK := fun w => Calls.flip (cmpInt_any k k' w)
  have hA := fun w => Calls.flip (cmpInt_any a a' w)
  generalize ordV (k, a, t.data.toList) (k', a', t'.data.toList) = X at hO hE ⊢
  generalize Lib.compareBytes t.data.toList t'.data.toList = c2 at hO hS
  generalize cmpI k k' = c0 at hO hK
  generalize cmpI a a' = c1 at hO hA
  have HO := Lib.hid hO
  clear hO
  have hsplit : (k = k' ∧ a = a' ∧ t = t') ∨ (k = k' ∧ a = a' ∧ ¬ t.toList = t'.toList) ∨ (k = k' ∧ ¬ a = a') ∨ ¬ k = k' := by
    by_cases hk : k = k'
    · by_cases ha : a = a'
      · by_cases htt : t = t'
        · exact .inl ⟨hk, ha, htt⟩
        · exact .inr (.inl ⟨hk, ha, fun e => htt ((ba_of (by rw [← ba_toList, e, ba_toList])).trans (ba_of rfl).symm)⟩)
      · exact .inr (.inr (.inl ⟨hk, ha⟩))
    · exact .inr (.inr (.inr hk))
  rcases hsplit with ⟨rfl, rfl, rfl⟩ | ⟨rfl, rfl, hT⟩ | ⟨rfl, hA'⟩ | hK'
  · have hX := hE ⟨rfl, rfl, rfl⟩
    subst hX
    clear hE HO hS hK hA
    go_enter Try.func49, Try.ntmps49
    go_wp2_with fail
    go_ret
    exact ⟨rfl, hbb⟩
  all_goals
    clear hE
    go_enter Try.func49, Try.ntmps49
    go_wp2_with fail
    refine still_tail 15 (by kernel_rfl) (by kernel_rfl) ?_
    simp only [List.take_succ_cons, List.take_zero, List.drop_succ_cons, List.drop_zero]
    have H := twoV_drew w k a t
    first | specialize H k' a' t' | specialize H k a' t' | specialize H k a t'
    generalize ((w.alloc (.cells #[.int .i64 k, .int .i64 a, .string t] 27)).alloc (.cells _ 27)).drew = V at H ⊢
    obtain ⟨hb, c0', c1', c2', d0', d1', d2'⟩ := H
    iterate 4 still_step
    still_call (hK _)
    iterate 4 still_step
    still_call (hA _)
    iterate 4 still_step
    still_call (hS _)
    refine wpStill_nil ?_
    clear hS hK hA hbb c0' c1' c2' d0' d1' d2'
    have h3 := three_new V c0 c1 c2
    have hq := fun ca => or_any V.heap.size ca c0 c1 c2 _ h3
    clear h3
    go_wp2_with fail
    refine (hq _).mono ?_
    rintro e w1 ⟨rfl, rfl⟩
    have hbe : Below w.heap.size w (V.alloc (.cells #[.int .i64 c0, .int .i64 c1, .int .i64 c2] 3)) := hb.alloc hb.size _
    clear hq
    go_wp2_with fail
    go_ret
    exact ⟨by rw [HO.out]; rfl, hbe⟩
theorem order_impl : OrdI := fun k a t k' a' t' w _ _ => order_impl0 k a t k' a' t' w
end Go.Proofs.Ytjekhgekldkopaa

/- The contract of the function that draws two values. -/
namespace Go.Proofs.Ytjekhgekldkopaa
open Go.RowKit

/-- two values with texts of at most M bytes -/
def TwoValE (M B : Nat) (W : World) (e : Ending) (W' : World) : Prop :=
  ∃ (k n : Int) (t : ByteArray) (k' n' : Int) (t' : ByteArray), t.size ≤ M ∧ t'.size ≤ M ∧ e = .returned (.tuple #[.agg #[.int .i64 k, .int .i64 n, .string t], .agg #[.int .i64 k', .int .i64 n', .string t']]) ∧ Below B W W'
theorem RowB.wider5 {B B' : Nat} {a : Option Addr} {len : Nat} {W : World} (h : RowB B a len W) (hB : B ≤ B') : RowB B' a len W := by
  refine ⟨h.1, fun j hj => ?_⟩
  obtain ⟨b, off, n, e1, e2, e3, e4, e5⟩ := h.2 j hj
  exact ⟨b, off, n, e1, by omega, e3, e4, e5⟩
theorem below_set5 {B R o : Nat} {v : Value} {W W' : World} (h : Below B W W') (hR : B ≤ R) : Below B W (W'.setCell ⟨R, o, none⟩ v) :=
  ⟨h.os, h.tape, h.output, by simpa using h.size, fun k hk => (heap_setCell_other W' ⟨R, o, none⟩ k v (by show k ≠ R; omega)).trans (h.block k hk)⟩
theorem val_two (w : World) (o : Obj) : ValAt ((w.alloc o).alloc (.cells #[.int .i64 0, .int .i64 0, .string ⟨#[]⟩] 27)) (w.heap.size + 1) 0 0 ⟨#[]⟩ := val_new w o 0 0 ⟨#[]⟩

theorem Cur.setApart {B C R : Nat} {a : Option Addr} {len cap : Nat} {W : World} (H : Cur B C a len cap W) (hRC : R ≠ C) (hR : B ≤ R) (o : Nat) (v : Value) : Cur B C a len cap (W.setCell ⟨R, o, none⟩ v) := by
  obtain ⟨h1, ⟨i, h, hi, hc⟩, h3, h4⟩ := H
  refine ⟨h1, ⟨i, h, hi, (heap_setCell_other W ⟨R, o, none⟩ C v (by show C ≠ R; omega)).trans hc⟩, h3, fun j hj => ?_⟩
  obtain ⟨b, off, n, e1, e2, e3, e4, e5⟩ := h4 j hj
  exact ⟨b, off, n, e1, e2, e3, e4, (World.cell?_of_block (w := W) (a := ⟨b, off + j, none⟩) (heap_setCell_other W ⟨R, o, none⟩ b v (by show b ≠ R; omega))).trans e5⟩
theorem Cur.rows {B B' C : Nat} {a : Option Addr} {len cap : Nat} {W : World} (H : Cur B' C a len cap W) (hr : RowB B a len W) (hB : B ≤ C) : Cur B C a len cap W := ⟨hB, H.2.1, H.2.2.1, hr.2⟩

end Go.Proofs.Ytjekhgekldkopaa
