
/- The contract of the program's Order. -/
import Derived.Test.YtjekhgekldkopaaOrdI0
import Derived.Deep.RegionWith
import Derived.StillTailTactics
import Derived.Laws.Cover1
namespace Go.Proofs.Ytjekhgekldkopaa
open Go.RowKit

theorem Calls.flip {P : Program} {f : FuncId} {args : Array Value} {w : World} {v : Value} (h : Calls P f args w fun e w' => e = .returned v ∧ w = w') : Calls P f args w fun e w' => e = .returned v ∧ w' = w := h.mono fun _ _ ⟨a, b⟩ => ⟨a, b.symm⟩
theorem three_new (V : World) (a b c : Int) : Three (V.alloc (.cells #[.int .i64 a, .int .i64 b, .int .i64 c] 3)) V.heap.size a b c := by
  have h := heap_alloc_new V (.cells #[.int .i64 a, .int .i64 b, .int .i64 c] 3)
  exact ⟨cell_of_row _ _ 0 _ 3 (0, 0) h, cell_of_row _ _ 1 _ 3 (0, 0) h, cell_of_row _ _ 2 _ 3 (0, 0) h⟩
theorem still_tail {P : Program} {id : Nat} {Q : Exit → Act → World → Prop} {a : Act} {w : World} {l : List Oper} (n : Nat) (hm : P.follows .mixedOrders = true) (hB : Region.lexTailB .any l.toArray n = true)
    (h : wpStill P l.toArray w.drew (fun a' => wpList P l.toArray Q (l.drop n) a' w.drew) (l.take n) a) : (Code.region id l.toArray true).wp P Q a w := wp_region_still_tail n hm hB h
/-- two blocks of values in a world behind them -/
structure TwoV (w V : World) (k a : Int) (t : ByteArray) (k' a' : Int) (t' : ByteArray) : Prop where
  below : Below w.heap.size w V
  c0 : V.cell? ⟨w.heap.size, 0, none⟩ = some (.int .i64 k)
  c1 : V.cell? ⟨w.heap.size, 1, none⟩ = some (.int .i64 a)
  c2 : V.cell? ⟨w.heap.size, 2, none⟩ = some (.string t)
  d0 : V.cell? ⟨w.heap.size + 1, 0, none⟩ = some (.int .i64 k')
  d1 : V.cell? ⟨w.heap.size + 1, 1, none⟩ = some (.int .i64 a')
  d2 : V.cell? ⟨w.heap.size + 1, 2, none⟩ = some (.string t')
theorem twoV_drew (w : World) (k a : Int) (t : ByteArray) (k' a' : Int) (t' : ByteArray) :
    TwoV w ((w.alloc (.cells #[.int .i64 k, .int .i64 a, .string t] 27)).alloc (.cells #[.int .i64 k', .int .i64 a', .string t'] 27)).drew k a t k' a' t' := by
  have r2 := heap_alloc_new (w.alloc (.cells #[.int .i64 k, .int .i64 a, .string t] 27)) (.cells #[.int .i64 k', .int .i64 a', .string t'] 27)
  have e : (w.alloc (.cells #[.int .i64 k, .int .i64 a, .string t] 27)).heap.size = w.heap.size + 1 := by simp
  rw [e] at r2
  have r1 : ((w.alloc (.cells #[.int .i64 k, .int .i64 a, .string t] 27)).alloc (.cells #[.int .i64 k', .int .i64 a', .string t'] 27)).heap[w.heap.size]? = some (.cells #[.int .i64 k, .int .i64 a, .string t] 27 (0, 0)) := by
    rw [Below.heap_alloc _ _ _ (by simp)]
    exact heap_alloc_new w _
  exact ⟨(((Below.refl w.heap.size w).alloc (Nat.le_refl _) _).alloc (by simp) _).trans (Below.refl _ _).drew, cell_of_row _ _ 0 _ 27 (0, 0) r1, cell_of_row _ _ 1 _ 27 (0, 0) r1, cell_of_row _ _ 2 _ 27 (0, 0) r1,
    cell_of_row _ _ 0 _ 27 (0, 0) r2, cell_of_row _ _ 1 _ 27 (0, 0) r2, cell_of_row _ _ 2 _ 27 (0, 0) r2⟩

set_option maxRecDepth 100000 in
set_option maxHeartbeats 4000000 in
theorem order_impl0 (k a : Int) (t : ByteArray) (k' a' : Int) (t' : ByteArray) (w : World) :
    Calls Try.prog 49 #[.agg #[.int .i64 k, .int .i64 a, .string t], .agg #[.int .i64 k', .int .i64 a', .string t']] w (IntE (ordV (k, a, t.data.toList) (k', a', t'.data.toList)) w) := by
  have hbb : Below w.heap.size w ((w.alloc (.cells #[.int .i64 k, .int .i64 a, .string t] 27)).alloc (.cells #[.int .i64 k', .int .i64 a', .string t'] 27)) :=
    ((Below.refl w.heap.size w).alloc (Nat.le_refl _) _).alloc (by simp) _
  have hO := ordV_or k a t.data.toList k' a' t'.data.toList
  have hE : k = k' ∧ a = a' ∧ t = t' → ordV (k, a, t.data.toList) (k', a', t'.data.toList) = 0 := fun ⟨e1, e2, e3⟩ => by subst e1; subst e2; subst e3; exact ordV_self _
  have hS := fun w => Calls.flip (cmpStr_any t t' w)
  have hK := fun w => Calls.flip (cmpInt_any k k' w)
  have hA := fun w => Calls.flip (cmpInt_any a a' w)
  generalize ordV (k, a, t.data.toList) (k', a', t'.data.toList) = X at hO hE ⊢
  generalize Lib.compareBytes t.data.toList t'.data.toList = c2 at hO hS
  generalize cmpI k k' = c0 at hO hK
  generalize cmpI a a' = c1 at hO hA
  have HO := Lib.hid hO
  clear hO
  have hsplit : (k = k' ∧ a = a' ∧ t = t') ∨ (k = k' ∧ a = a' ∧ ¬ t.toList = t'.toList) ∨ (k = k' ∧ ¬ a = a') ∨ ¬ k = k' := by
    by_cases hk : k = k'
    · by_cases ha : a = a'
      · by_cases htt : t = t'
        · exact .inl ⟨hk, ha, htt⟩
        · exact .inr (.inl ⟨hk, ha, fun e => htt ((ba_of (by rw [← ba_toList, e, ba_toList])).trans (ba_of rfl).symm)⟩)
      · exact .inr (.inr (.inl ⟨hk, ha⟩))
    · exact .inr (.inr (.inr hk))
  rcases hsplit with ⟨rfl, rfl, rfl⟩ | ⟨rfl, rfl, hT⟩ | ⟨rfl, hA'⟩ | hK'
  · have hX := hE ⟨rfl, rfl, rfl⟩
    subst hX
    clear hE HO hS hK hA
    go_enter Try.func49, Try.ntmps49
    go_wp2_with fail
    go_ret
    exact ⟨rfl, hbb⟩
  all_goals
    clear hE
    go_enter Try.func49, Try.ntmps49
    go_wp2_with fail
    refine still_tail 15 (by kernel_rfl) (by kernel_rfl) ?_
    simp only [List.take_succ_cons, List.take_zero, List.drop_succ_cons, List.drop_zero]
    have H := twoV_drew w k a t
    first | specialize H k' a' t' | specialize H k a' t' | specialize H k a t'
    generalize ((w.alloc (.cells #[.int .i64 k, .int .i64 a, .string t] 27)).alloc (.cells _ 27)).drew = V at H ⊢
    obtain ⟨hb, c0', c1', c2', d0', d1', d2'⟩ := H
    iterate 4 still_step
    still_call (hK _)
    iterate 4 still_step
    still_call (hA _)
    iterate 4 still_step
    still_call (hS _)
    refine wpStill_nil ?_
    clear hS hK hA hbb c0' c1' c2' d0' d1' d2'
    have h3 := three_new V c0 c1 c2
    have hq := fun ca => or_any V.heap.size ca c0 c1 c2 _ h3
    clear h3
    go_wp2_with fail
    refine (hq _).mono ?_
    rintro e w1 ⟨rfl, rfl⟩
    have hbe : Below w.heap.size w (V.alloc (.cells #[.int .i64 c0, .int .i64 c1, .int .i64 c2] 3)) := hb.alloc hb.size _
    clear hq
    go_wp2_with fail
    go_ret
    exact ⟨by rw [HO.out]; rfl, hbe⟩
theorem order_impl : OrdI := fun k a t k' a' t' w _ _ => order_impl0 k a t k' a' t' w
end Go.Proofs.Ytjekhgekldkopaa
