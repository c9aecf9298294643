
/- The walk of the law on three truths. -/
import Derived.Test.YtjekhgekldkopaaFloatV
import Derived.Test.YtjekhgekldkopaaUnI
import Derived.Test.YtjekhgekldkopaaAt0
import Derived.Test.YtjekhgekldkopaaBig
namespace Go.Proofs.Ytjekhgekldkopaa
open Go.RowKit

/-- the block of the three truths -/
def TAt (W : World) (B : Nat) : Prop := W.heap[B]? = some (.cells #[.int .i64 3, .int .i64 0, .string ⟨#[]⟩, .int .i64 0, .int .i64 0, .string ⟨#[]⟩, .int .i64 3, .int .i64 1, .string ⟨#[]⟩] 27 (0, 0))
theorem TAt.cells {W : World} {B : Nat} (h : TAt W B) :
    (W.cell? ⟨B, 0, none⟩ = some (.int .i64 3) ∧ W.cell? ⟨B, 1, none⟩ = some (.int .i64 0) ∧ W.cell? ⟨B, 2, none⟩ = some (.string ⟨#[]⟩)) ∧
    (W.cell? ⟨B, 3, none⟩ = some (.int .i64 0) ∧ W.cell? ⟨B, 4, none⟩ = some (.int .i64 0) ∧ W.cell? ⟨B, 5, none⟩ = some (.string ⟨#[]⟩)) ∧
    (W.cell? ⟨B, 6, none⟩ = some (.int .i64 3) ∧ W.cell? ⟨B, 7, none⟩ = some (.int .i64 1) ∧ W.cell? ⟨B, 8, none⟩ = some (.string ⟨#[]⟩)) :=
  ⟨⟨cell_of_row W B 0 _ 27 (0, 0) h, cell_of_row W B 1 _ 27 (0, 0) h, cell_of_row W B 2 _ 27 (0, 0) h⟩, ⟨cell_of_row W B 3 _ 27 (0, 0) h, cell_of_row W B 4 _ 27 (0, 0) h, cell_of_row W B 5 _ 27 (0, 0) h⟩, ⟨cell_of_row W B 6 _ 27 (0, 0) h, cell_of_row W B 7 _ 27 (0, 0) h, cell_of_row W B 8 _ 27 (0, 0) h⟩⟩
theorem TAt.later {W W' : World} {B : Nat} (h : TAt W B) (g : Below W.heap.size W W') : TAt W' B := (g.block B (cells_lt h)).trans h
theorem ValAt.later {W W' : World} {B : Nat} {k n : Int} {t : ByteArray} (h : ValAt W B k n t) (g : Below W.heap.size W W') : ValAt W' B k n t := (g.block B (cells_lt h)).trans h
theorem and_00 : calcC 2 3 0 ⟨#[]⟩ 3 0 ⟨#[]⟩ = ⟨3, 0, ⟨#[]⟩, 0⟩ := by rfl
theorem or_00 : calcC 1 3 0 ⟨#[]⟩ 3 0 ⟨#[]⟩ = ⟨3, 0, ⟨#[]⟩, 0⟩ := by rfl
theorem and_01 : calcC 2 3 0 ⟨#[]⟩ 0 0 ⟨#[]⟩ = ⟨3, 0, ⟨#[]⟩, 0⟩ := by rfl
theorem or_01 : calcC 1 3 0 ⟨#[]⟩ 0 0 ⟨#[]⟩ = ⟨0, 0, ⟨#[]⟩, 0⟩ := by rfl
theorem and_02 : calcC 2 3 0 ⟨#[]⟩ 3 1 ⟨#[]⟩ = ⟨3, 0, ⟨#[]⟩, 0⟩ := by rfl
theorem or_02 : calcC 1 3 0 ⟨#[]⟩ 3 1 ⟨#[]⟩ = ⟨3, 1, ⟨#[]⟩, 0⟩ := by rfl
theorem not_0 : unC 15 3 0 ⟨#[]⟩ = ⟨3, 1, ⟨#[]⟩, 0⟩ := by rfl
theorem and_10 : calcC 2 0 0 ⟨#[]⟩ 3 0 ⟨#[]⟩ = ⟨3, 0, ⟨#[]⟩, 0⟩ := by rfl
theorem or_10 : calcC 1 0 0 ⟨#[]⟩ 3 0 ⟨#[]⟩ = ⟨0, 0, ⟨#[]⟩, 0⟩ := by rfl
theorem and_11 : calcC 2 0 0 ⟨#[]⟩ 0 0 ⟨#[]⟩ = ⟨0, 0, ⟨#[]⟩, 0⟩ := by rfl
theorem or_11 : calcC 1 0 0 ⟨#[]⟩ 0 0 ⟨#[]⟩ = ⟨0, 0, ⟨#[]⟩, 0⟩ := by rfl
theorem and_12 : calcC 2 0 0 ⟨#[]⟩ 3 1 ⟨#[]⟩ = ⟨0, 0, ⟨#[]⟩, 0⟩ := by rfl
theorem or_12 : calcC 1 0 0 ⟨#[]⟩ 3 1 ⟨#[]⟩ = ⟨3, 1, ⟨#[]⟩, 0⟩ := by rfl
theorem not_1 : unC 15 0 0 ⟨#[]⟩ = ⟨0, 0, ⟨#[]⟩, 0⟩ := by rfl
theorem and_20 : calcC 2 3 1 ⟨#[]⟩ 3 0 ⟨#[]⟩ = ⟨3, 0, ⟨#[]⟩, 0⟩ := by rfl
theorem or_20 : calcC 1 3 1 ⟨#[]⟩ 3 0 ⟨#[]⟩ = ⟨3, 1, ⟨#[]⟩, 0⟩ := by rfl
theorem and_21 : calcC 2 3 1 ⟨#[]⟩ 0 0 ⟨#[]⟩ = ⟨0, 0, ⟨#[]⟩, 0⟩ := by rfl
theorem or_21 : calcC 1 3 1 ⟨#[]⟩ 0 0 ⟨#[]⟩ = ⟨3, 1, ⟨#[]⟩, 0⟩ := by rfl
theorem and_22 : calcC 2 3 1 ⟨#[]⟩ 3 1 ⟨#[]⟩ = ⟨3, 1, ⟨#[]⟩, 0⟩ := by rfl
theorem or_22 : calcC 1 3 1 ⟨#[]⟩ 3 1 ⟨#[]⟩ = ⟨3, 1, ⟨#[]⟩, 0⟩ := by rfl
theorem not_2 : unC 15 3 1 ⟨#[]⟩ = ⟨3, 0, ⟨#[]⟩, 0⟩ := by rfl
set_option maxRecDepth 100000 in
set_option maxHeartbeats 16000000 in
theorem third_law (a : Option Addr) (len cap : Nat) (w : World) (hrow : RowB w.heap.size a len w) :
    Calls Try.prog 4 #[.slice a len cap] w (BoolE true w) := by
  have hlen := hrow.1
  by_cases hbig : 1048576 < len
  · go_enter Try.func4, Try.ntmps4
    go_wp2_with fail
    refine (big_yes a len cap _ hlen hbig).mono ?_
    rintro e w' ⟨rfl, rfl⟩
    go_wp2_with fail
    go_ret
    exact ⟨rfl, Below.refl _ _⟩
  · have hF : ∀ w, Calls Try.prog 21 #[.bool false] w (CopyV 3 0 ⟨#[]⟩ w) := fun w => boolValue_implC false w
    have hG : ∀ w, Calls Try.prog 21 #[.bool true] w (CopyV 3 1 ⟨#[]⟩ w) := fun w => boolValue_implC true w
    go_enter Try.func4, Try.ntmps4
    go_wp2_with fail
    refine (big_no a len cap _ hbig).mono ?_
    rintro e w' ⟨rfl, rfl⟩
    go_wp2_with fail
    refine (hF _).mono ?_
    rintro e w1 ⟨rfl, hb1⟩
    go_wp2_with fail
    refine (hG _).mono ?_
    rintro e w2 ⟨rfl, hb2⟩
    have hB := hb1.trans (hb2.mono hb1.size)
    clear hb1 hb2
    have hT : TAt (w2.alloc (.cells #[.int .i64 3, .int .i64 0, .string ⟨#[]⟩, .int .i64 0, .int .i64 0, .string ⟨#[]⟩, .int .i64 3, .int .i64 1, .string ⟨#[]⟩] 27)) w2.heap.size := heap_alloc_new w2 _
    replace hB := hB.alloc hB.size (.cells #[.int .i64 3, .int .i64 0, .string ⟨#[]⟩, .int .i64 0, .int .i64 0, .string ⟨#[]⟩, .int .i64 3, .int .i64 1, .string ⟨#[]⟩] 27)
    go_wp2_with fail
    generalize w2.alloc (.cells #[.int .i64 3, .int .i64 0, .string ⟨#[]⟩, .int .i64 0, .int .i64 0, .string ⟨#[]⟩, .int .i64 3, .int .i64 1, .string ⟨#[]⟩] 27) = w3 at hT hB ⊢
    refine (at0_any 0 w.heap.size a len cap _ (hrow.later hB) (by omega) (by omega)).mono ?_
    rintro e w' ⟨y0, hy0, rfl, rfl⟩
    have hi : (y0 : Int) % 3 = 0 ∨ (y0 : Int) % 3 = 1 ∨ (y0 : Int) % 3 = 2 := by omega
    generalize (w2.heap.size) = T0 at hT ⊢
    rcases hi with hi | hi | hi
    all_goals
      go_wp2_with fail
      refine (at0_any 1 w.heap.size a len cap _ (hrow.later hB) (by omega) (by omega)).mono ?_
      rintro e w' ⟨y1, hy1, rfl, rfl⟩
      have hk : (y1 : Int) % 3 = 0 ∨ (y1 : Int) % 3 = 1 ∨ (y1 : Int) % 3 = 2 := by omega
      rcases hk with hk | hk | hk
    · clear hF hG hrow hlen hbig
      have hA : ∀ w, Calls Try.prog 17 #[.int .i64 2, .agg #[.int .i64 3, .int .i64 0, .string ⟨#[]⟩], .agg #[.int .i64 3, .int .i64 0, .string ⟨#[]⟩]] w (CalcE ⟨3, 0, ⟨#[]⟩, 0⟩ w) := fun w => by
        have h := calc_impl 2 3 0 ⟨#[]⟩ 3 0 ⟨#[]⟩ w (by decide) (by decide) (by decide) (by decide) (by decide) (by decide)
        rw [and_00] at h
        exact h
      have hO : ∀ w, Calls Try.prog 17 #[.int .i64 1, .agg #[.int .i64 3, .int .i64 0, .string ⟨#[]⟩], .agg #[.int .i64 3, .int .i64 0, .string ⟨#[]⟩]] w (CalcE ⟨3, 0, ⟨#[]⟩, 0⟩ w) := fun w => by
        have h := calc_impl 1 3 0 ⟨#[]⟩ 3 0 ⟨#[]⟩ w (by decide) (by decide) (by decide) (by decide) (by decide) (by decide)
        rw [or_00] at h
        exact h
      have hX : ∀ w, Calls Try.prog 23 #[.int .i64 15, .agg #[.int .i64 3, .int .i64 0, .string ⟨#[]⟩]] w (CalcE ⟨3, 1, ⟨#[]⟩, 0⟩ w) := fun w => by
        have h := unary_impl 15 3 0 ⟨#[]⟩ w (by decide) (by decide) (by decide)
        rw [not_0] at h
        exact h
      have hY : ∀ w, Calls Try.prog 23 #[.int .i64 15, .agg #[.int .i64 3, .int .i64 0, .string ⟨#[]⟩]] w (CalcE ⟨3, 1, ⟨#[]⟩, 0⟩ w) := fun w => by
        have h := unary_impl 15 3 0 ⟨#[]⟩ w (by decide) (by decide) (by decide)
        rw [not_0] at h
        exact h
      have hN : ∀ w, Calls Try.prog 23 #[.int .i64 15, .agg #[.int .i64 3, .int .i64 0, .string ⟨#[]⟩]] w (CalcE ⟨3, 1, ⟨#[]⟩, 0⟩ w) := fun w => by
        have h := unary_impl 15 3 0 ⟨#[]⟩ w (by decide) (by decide) (by decide)
        rw [not_0] at h
        exact h
      have hR : ∀ w, Calls Try.prog 17 #[.int .i64 1, .agg #[.int .i64 3, .int .i64 1, .string ⟨#[]⟩], .agg #[.int .i64 3, .int .i64 1, .string ⟨#[]⟩]] w (CalcE ⟨3, 1, ⟨#[]⟩, 0⟩ w) := fun w => by
        have h := calc_impl 1 3 1 ⟨#[]⟩ 3 1 ⟨#[]⟩ w (by decide) (by decide) (by decide) (by decide) (by decide) (by decide)
        rw [or_22] at h
        exact h
      have hJ : ∀ w, Calls Try.prog 24 #[.bool true] w (CopyV 3 1 ⟨#[]⟩ w) := fun w => boolValue_spec true w
      go_wp2_with fail
      refine' region_float (Qf := fun a' => a' = _) 12 13 10 6 42 rfl rfl (by kernel_rfl) (by kernel_rfl) (by kernel_rfl) (by simp) (fun A w => alloc_val A w _ _ _ _ _) (fun A w b cs hp hg hh => store_val A w b cs _ _ _ _ _ _ _ hp hg hh) ?hG ?hW ?hQ
      case hW =>
        intro X hX
        have hT' := hT.later hX
        obtain ⟨⟨t0, t1, t2⟩, ⟨t3, t4, t5⟩, ⟨t6, t7, t8⟩⟩ := hT'.cells
        have l0 := lat_cell t0
        have l1 := lat_cell t1
        have l2 := lat_cell t2
        have l3 := lat_cell t3
        have l4 := lat_cell t4
        have l5 := lat_cell t5
        have l6 := lat_cell t6
        have l7 := lat_cell t7
        have l8 := lat_cell t8
        clear t0 t1 t2 t3 t4 t5 t6 t7 t8 hT'
        simp only [idle]
        iterate 15 (first
          | go_big_quiet_step (fail)
          | go_big_quiet_step ((refine (hA (lat X _)).mono ?_; rintro e w'' ⟨rfl, hb''⟩; exact ⟨rfl, lat_to hb''⟩)))
        refine wpQuiet_nil ?_
        exact rfl
      case hG =>
        rintro _ rfl
        exact ⟨_, _, _, _, rfl, rfl⟩
      case hQ =>
      rintro _ w4 bA cs rfl hbq hltq ⟨k4, m4, t4, hu4, rfl⟩ hh4
      obtain ⟨rfl, rfl, rfl⟩ : 3 = k4 ∧ 0 = m4 ∧ ⟨#[]⟩ = t4 := by simpa [Act.eval] using hu4
      clear hu4 hltq
      have vA : ValAt w4 bA 3 0 ⟨#[]⟩ := hh4
      clear hh4
      replace hT := hT.later hbq
      replace hB := hB.trans (hbq.mono hB.size)
      clear hbq
      simp only [Act.put, List.setIfInBounds_toArray, List.set_cons_zero, List.set_cons_succ]
      go_wp2_with fail
      refine' region_float (Qf := fun a' => a' = _) 12 13 10 8 54 rfl rfl (by kernel_rfl) (by kernel_rfl) (by kernel_rfl) (by simp) (fun A w => alloc_val A w _ _ _ _ _) (fun A w b cs hp hg hh => store_val A w b cs _ _ _ _ _ _ _ hp hg hh) ?hG ?hW ?hQ
      case hW =>
        intro X hX
        have hT' := hT.later hX
        obtain ⟨⟨t0, t1, t2⟩, ⟨t3, t4, t5⟩, ⟨t6, t7, t8⟩⟩ := hT'.cells
        have l0 := lat_cell t0
        have l1 := lat_cell t1
        have l2 := lat_cell t2
        have l3 := lat_cell t3
        have l4 := lat_cell t4
        have l5 := lat_cell t5
        have l6 := lat_cell t6
        have l7 := lat_cell t7
        have l8 := lat_cell t8
        clear t0 t1 t2 t3 t4 t5 t6 t7 t8 hT'
        simp only [idle]
        iterate 15 (first
          | go_big_quiet_step (fail)
          | go_big_quiet_step ((refine (hO (lat X _)).mono ?_; rintro e w'' ⟨rfl, hb''⟩; exact ⟨rfl, lat_to hb''⟩)))
        refine wpQuiet_nil ?_
        exact rfl
      case hG =>
        rintro _ rfl
        exact ⟨_, _, _, _, rfl, rfl⟩
      case hQ =>
      rintro _ w5 bO cs rfl hbq hltq ⟨k4, m4, t4, hu4, rfl⟩ hh4
      obtain ⟨rfl, rfl, rfl⟩ : 3 = k4 ∧ 0 = m4 ∧ ⟨#[]⟩ = t4 := by simpa [Act.eval] using hu4
      clear hu4 hltq
      have vO : ValAt w5 bO 3 0 ⟨#[]⟩ := hh4
      clear hh4
      replace hT := hT.later hbq
      replace vA := vA.later hbq
      replace hB := hB.trans (hbq.mono hB.size)
      clear hbq
      simp only [Act.put, List.setIfInBounds_toArray, List.set_cons_zero, List.set_cons_succ]
      obtain ⟨⟨t0, t1, t2⟩, ⟨t3, t4, t5⟩, ⟨t6, t7, t8⟩⟩ := hT.cells
      go_wp2_with fail
      refine (hX _).mono ?_
      rintro e w6 ⟨rfl, hbq⟩
      replace hT := hT.later hbq
      replace vA := vA.later hbq
      replace vO := vO.later hbq
      replace hB := hB.trans (hbq.mono hB.size)
      clear hbq
      have vX : ValAt (w6.alloc (.cells #[.int .i64 3, .int .i64 1, .string ⟨#[]⟩] 27)) w6.heap.size 3 1 ⟨#[]⟩ := heap_alloc_new w6 _
      have hbq : Below w6.heap.size w6 (w6.alloc (.cells #[.int .i64 3, .int .i64 1, .string ⟨#[]⟩] 27)) := (Below.refl _ _).alloc (Nat.le_refl _) _
      replace hT := hT.later hbq
      replace vA := vA.later hbq
      replace vO := vO.later hbq
      replace hB := hB.trans (hbq.mono hB.size)
      clear hbq
      obtain ⟨⟨t0, t1, t2⟩, ⟨t3, t4, t5⟩, ⟨t6, t7, t8⟩⟩ := hT.cells
      go_wp2_with fail
      generalize w6.alloc (.cells #[.int .i64 3, .int .i64 1, .string ⟨#[]⟩] 27) = w7 at *
      generalize w6.heap.size = bX at *
      refine (hY _).mono ?_
      rintro e w8 ⟨rfl, hbq⟩
      replace hT := hT.later hbq
      replace vA := vA.later hbq
      replace vO := vO.later hbq
      replace vX := vX.later hbq
      replace hB := hB.trans (hbq.mono hB.size)
      clear hbq
      have vY : ValAt (w8.alloc (.cells #[.int .i64 3, .int .i64 1, .string ⟨#[]⟩] 27)) w8.heap.size 3 1 ⟨#[]⟩ := heap_alloc_new w8 _
      have hbq : Below w8.heap.size w8 (w8.alloc (.cells #[.int .i64 3, .int .i64 1, .string ⟨#[]⟩] 27)) := (Below.refl _ _).alloc (Nat.le_refl _) _
      replace hT := hT.later hbq
      replace vA := vA.later hbq
      replace vO := vO.later hbq
      replace vX := vX.later hbq
      replace hB := hB.trans (hbq.mono hB.size)
      clear hbq
      obtain ⟨a0, a1, a2⟩ := vA.cells
      go_wp2_with fail
      generalize w8.alloc (.cells #[.int .i64 3, .int .i64 1, .string ⟨#[]⟩] 27) = w9 at *
      generalize w8.heap.size = bY at *
      refine (hN _).mono ?_
      rintro e w10 ⟨rfl, hbq⟩
      replace hT := hT.later hbq
      replace vA := vA.later hbq
      replace vO := vO.later hbq
      replace vX := vX.later hbq
      replace vY := vY.later hbq
      replace hB := hB.trans (hbq.mono hB.size)
      clear hbq
      have vN : ValAt (w10.alloc (.cells #[.int .i64 3, .int .i64 1, .string ⟨#[]⟩] 27)) w10.heap.size 3 1 ⟨#[]⟩ := heap_alloc_new w10 _
      have hbq : Below w10.heap.size w10 (w10.alloc (.cells #[.int .i64 3, .int .i64 1, .string ⟨#[]⟩] 27)) := (Below.refl _ _).alloc (Nat.le_refl _) _
      replace hT := hT.later hbq
      replace vA := vA.later hbq
      replace vO := vO.later hbq
      replace vX := vX.later hbq
      replace vY := vY.later hbq
      replace hB := hB.trans (hbq.mono hB.size)
      clear hbq
      obtain ⟨a0, a1, a2⟩ := vX.cells
      obtain ⟨b0, b1, b2⟩ := vY.cells
      go_wp2_with fail
      generalize w10.alloc (.cells #[.int .i64 3, .int .i64 1, .string ⟨#[]⟩] 27) = w11 at *
      generalize w10.heap.size = bN at *
      refine (hR _).mono ?_
      rintro e w12 ⟨rfl, hbq⟩
      replace hT := hT.later hbq
      replace vA := vA.later hbq
      replace vO := vO.later hbq
      replace vX := vX.later hbq
      replace vY := vY.later hbq
      replace vN := vN.later hbq
      replace hB := hB.trans (hbq.mono hB.size)
      clear hbq
      have vF : ValAt (w12.alloc (.cells #[.int .i64 3, .int .i64 1, .string ⟨#[]⟩] 27)) w12.heap.size 3 1 ⟨#[]⟩ := heap_alloc_new w12 _
      have hbq : Below w12.heap.size w12 (w12.alloc (.cells #[.int .i64 3, .int .i64 1, .string ⟨#[]⟩] 27)) := (Below.refl _ _).alloc (Nat.le_refl _) _
      replace hT := hT.later hbq
      replace vA := vA.later hbq
      replace vO := vO.later hbq
      replace vX := vX.later hbq
      replace vY := vY.later hbq
      replace vN := vN.later hbq
      replace hB := hB.trans (hbq.mono hB.size)
      clear hbq
      go_wp2_with fail
      generalize w12.alloc (.cells #[.int .i64 3, .int .i64 1, .string ⟨#[]⟩] 27) = w13 at *
      generalize w12.heap.size = bF at *
      clear vY
      obtain ⟨⟨t0, t1, t2⟩, ⟨t3, t4, t5⟩, ⟨t6, t7, t8⟩⟩ := hT.cells
      have l0 := lat_cell t0
      have l1 := lat_cell t1
      have l2 := lat_cell t2
      have l3 := lat_cell t3
      have l4 := lat_cell t4
      have l5 := lat_cell t5
      have l6 := lat_cell t6
      have l7 := lat_cell t7
      have l8 := lat_cell t8
      obtain ⟨p0, p1, p2⟩ := vA.cells
      have mp0 := lat_cell p0
      have mp1 := lat_cell p1
      have mp2 := lat_cell p2
      obtain ⟨q0, q1, q2⟩ := vO.cells
      have mq0 := lat_cell q0
      have mq1 := lat_cell q1
      have mq2 := lat_cell q2
      obtain ⟨r0, r1, r2⟩ := vX.cells
      have mr0 := lat_cell r0
      have mr1 := lat_cell r1
      have mr2 := lat_cell r2
      obtain ⟨s0, s1, s2⟩ := vN.cells
      have ms0 := lat_cell s0
      have ms1 := lat_cell s1
      have ms2 := lat_cell s2
      obtain ⟨u0, u1, u2⟩ := vF.cells
      have mu0 := lat_cell u0
      have mu1 := lat_cell u1
      have mu2 := lat_cell u2
      refine region_lat (by kernel_rfl) (by kernel_rfl) ?_
      iterate 55 (first
        | go_big_quiet_step (fail)
        | go_big_quiet_step ((refine (hJ (lat w13 _)).mono ?_; rintro e w'' ⟨rfl, hb''⟩; exact ⟨rfl, lat_to hb''⟩)))
      refine wpQuiet_nil ?_
      rintro _ ⟨nq, rfl⟩
      have hbb := hB.trans ((lat_below w13 nq).mono hB.size)
      go_wp2_with fail
      go_ret
      exact ⟨rfl, hbb⟩
    · clear hF hG hrow hlen hbig
      have hA : ∀ w, Calls Try.prog 17 #[.int .i64 2, .agg #[.int .i64 3, .int .i64 0, .string ⟨#[]⟩], .agg #[.int .i64 0, .int .i64 0, .string ⟨#[]⟩]] w (CalcE ⟨3, 0, ⟨#[]⟩, 0⟩ w) := fun w => by
        have h := calc_impl 2 3 0 ⟨#[]⟩ 0 0 ⟨#[]⟩ w (by decide) (by decide) (by decide) (by decide) (by decide) (by decide)
        rw [and_01] at h
        exact h
      have hO : ∀ w, Calls Try.prog 17 #[.int .i64 1, .agg #[.int .i64 3, .int .i64 0, .string ⟨#[]⟩], .agg #[.int .i64 0, .int .i64 0, .string ⟨#[]⟩]] w (CalcE ⟨0, 0, ⟨#[]⟩, 0⟩ w) := fun w => by
        have h := calc_impl 1 3 0 ⟨#[]⟩ 0 0 ⟨#[]⟩ w (by decide) (by decide) (by decide) (by decide) (by decide) (by decide)
        rw [or_01] at h
        exact h
      have hX : ∀ w, Calls Try.prog 23 #[.int .i64 15, .agg #[.int .i64 3, .int .i64 0, .string ⟨#[]⟩]] w (CalcE ⟨3, 1, ⟨#[]⟩, 0⟩ w) := fun w => by
        have h := unary_impl 15 3 0 ⟨#[]⟩ w (by decide) (by decide) (by decide)
        rw [not_0] at h
        exact h
      have hY : ∀ w, Calls Try.prog 23 #[.int .i64 15, .agg #[.int .i64 0, .int .i64 0, .string ⟨#[]⟩]] w (CalcE ⟨0, 0, ⟨#[]⟩, 0⟩ w) := fun w => by
        have h := unary_impl 15 0 0 ⟨#[]⟩ w (by decide) (by decide) (by decide)
        rw [not_1] at h
        exact h
      have hN : ∀ w, Calls Try.prog 23 #[.int .i64 15, .agg #[.int .i64 3, .int .i64 0, .string ⟨#[]⟩]] w (CalcE ⟨3, 1, ⟨#[]⟩, 0⟩ w) := fun w => by
        have h := unary_impl 15 3 0 ⟨#[]⟩ w (by decide) (by decide) (by decide)
        rw [not_0] at h
        exact h
      have hR : ∀ w, Calls Try.prog 17 #[.int .i64 1, .agg #[.int .i64 3, .int .i64 1, .string ⟨#[]⟩], .agg #[.int .i64 0, .int .i64 0, .string ⟨#[]⟩]] w (CalcE ⟨3, 1, ⟨#[]⟩, 0⟩ w) := fun w => by
        have h := calc_impl 1 3 1 ⟨#[]⟩ 0 0 ⟨#[]⟩ w (by decide) (by decide) (by decide) (by decide) (by decide) (by decide)
        rw [or_21] at h
        exact h
      have hJ : ∀ w, Calls Try.prog 24 #[.bool true] w (CopyV 3 1 ⟨#[]⟩ w) := fun w => boolValue_spec true w
      go_wp2_with fail
      refine' region_float (Qf := fun a' => a' = _) 12 13 10 6 42 rfl rfl (by kernel_rfl) (by kernel_rfl) (by kernel_rfl) (by simp) (fun A w => alloc_val A w _ _ _ _ _) (fun A w b cs hp hg hh => store_val A w b cs _ _ _ _ _ _ _ hp hg hh) ?hG ?hW ?hQ
      case hW =>
        intro X hX
        have hT' := hT.later hX
        obtain ⟨⟨t0, t1, t2⟩, ⟨t3, t4, t5⟩, ⟨t6, t7, t8⟩⟩ := hT'.cells
        have l0 := lat_cell t0
        have l1 := lat_cell t1
        have l2 := lat_cell t2
        have l3 := lat_cell t3
        have l4 := lat_cell t4
        have l5 := lat_cell t5
        have l6 := lat_cell t6
        have l7 := lat_cell t7
        have l8 := lat_cell t8
        clear t0 t1 t2 t3 t4 t5 t6 t7 t8 hT'
        simp only [idle]
        iterate 15 (first
          | go_big_quiet_step (fail)
          | go_big_quiet_step ((refine (hA (lat X _)).mono ?_; rintro e w'' ⟨rfl, hb''⟩; exact ⟨rfl, lat_to hb''⟩)))
        refine wpQuiet_nil ?_
        exact rfl
      case hG =>
        rintro _ rfl
        exact ⟨_, _, _, _, rfl, rfl⟩
      case hQ =>
      rintro _ w4 bA cs rfl hbq hltq ⟨k4, m4, t4, hu4, rfl⟩ hh4
      obtain ⟨rfl, rfl, rfl⟩ : 3 = k4 ∧ 0 = m4 ∧ ⟨#[]⟩ = t4 := by simpa [Act.eval] using hu4
      clear hu4 hltq
      have vA : ValAt w4 bA 3 0 ⟨#[]⟩ := hh4
      clear hh4
      replace hT := hT.later hbq
      replace hB := hB.trans (hbq.mono hB.size)
      clear hbq
      simp only [Act.put, List.setIfInBounds_toArray, List.set_cons_zero, List.set_cons_succ]
      go_wp2_with fail
      refine' region_float (Qf := fun a' => a' = _) 12 13 10 8 54 rfl rfl (by kernel_rfl) (by kernel_rfl) (by kernel_rfl) (by simp) (fun A w => alloc_val A w _ _ _ _ _) (fun A w b cs hp hg hh => store_val A w b cs _ _ _ _ _ _ _ hp hg hh) ?hG ?hW ?hQ
      case hW =>
        intro X hX
        have hT' := hT.later hX
        obtain ⟨⟨t0, t1, t2⟩, ⟨t3, t4, t5⟩, ⟨t6, t7, t8⟩⟩ := hT'.cells
        have l0 := lat_cell t0
        have l1 := lat_cell t1
        have l2 := lat_cell t2
        have l3 := lat_cell t3
        have l4 := lat_cell t4
        have l5 := lat_cell t5
        have l6 := lat_cell t6
        have l7 := lat_cell t7
        have l8 := lat_cell t8
        clear t0 t1 t2 t3 t4 t5 t6 t7 t8 hT'
        simp only [idle]
        iterate 15 (first
          | go_big_quiet_step (fail)
          | go_big_quiet_step ((refine (hO (lat X _)).mono ?_; rintro e w'' ⟨rfl, hb''⟩; exact ⟨rfl, lat_to hb''⟩)))
        refine wpQuiet_nil ?_
        exact rfl
      case hG =>
        rintro _ rfl
        exact ⟨_, _, _, _, rfl, rfl⟩
      case hQ =>
      rintro _ w5 bO cs rfl hbq hltq ⟨k4, m4, t4, hu4, rfl⟩ hh4
      obtain ⟨rfl, rfl, rfl⟩ : 0 = k4 ∧ 0 = m4 ∧ ⟨#[]⟩ = t4 := by simpa [Act.eval] using hu4
      clear hu4 hltq
      have vO : ValAt w5 bO 0 0 ⟨#[]⟩ := hh4
      clear hh4
      replace hT := hT.later hbq
      replace vA := vA.later hbq
      replace hB := hB.trans (hbq.mono hB.size)
      clear hbq
      simp only [Act.put, List.setIfInBounds_toArray, List.set_cons_zero, List.set_cons_succ]
      obtain ⟨⟨t0, t1, t2⟩, ⟨t3, t4, t5⟩, ⟨t6, t7, t8⟩⟩ := hT.cells
      go_wp2_with fail
      refine (hX _).mono ?_
      rintro e w6 ⟨rfl, hbq⟩
      replace hT := hT.later hbq
      replace vA := vA.later hbq
      replace vO := vO.later hbq
      replace hB := hB.trans (hbq.mono hB.size)
      clear hbq
      have vX : ValAt (w6.alloc (.cells #[.int .i64 3, .int .i64 1, .string ⟨#[]⟩] 27)) w6.heap.size 3 1 ⟨#[]⟩ := heap_alloc_new w6 _
      have hbq : Below w6.heap.size w6 (w6.alloc (.cells #[.int .i64 3, .int .i64 1, .string ⟨#[]⟩] 27)) := (Below.refl _ _).alloc (Nat.le_refl _) _
      replace hT := hT.later hbq
      replace vA := vA.later hbq
      replace vO := vO.later hbq
      replace hB := hB.trans (hbq.mono hB.size)
      clear hbq
      obtain ⟨⟨t0, t1, t2⟩, ⟨t3, t4, t5⟩, ⟨t6, t7, t8⟩⟩ := hT.cells
      go_wp2_with fail
      generalize w6.alloc (.cells #[.int .i64 3, .int .i64 1, .string ⟨#[]⟩] 27) = w7 at *
      generalize w6.heap.size = bX at *
      refine (hY _).mono ?_
      rintro e w8 ⟨rfl, hbq⟩
      replace hT := hT.later hbq
      replace vA := vA.later hbq
      replace vO := vO.later hbq
      replace vX := vX.later hbq
      replace hB := hB.trans (hbq.mono hB.size)
      clear hbq
      have vY : ValAt (w8.alloc (.cells #[.int .i64 0, .int .i64 0, .string ⟨#[]⟩] 27)) w8.heap.size 0 0 ⟨#[]⟩ := heap_alloc_new w8 _
      have hbq : Below w8.heap.size w8 (w8.alloc (.cells #[.int .i64 0, .int .i64 0, .string ⟨#[]⟩] 27)) := (Below.refl _ _).alloc (Nat.le_refl _) _
      replace hT := hT.later hbq
      replace vA := vA.later hbq
      replace vO := vO.later hbq
      replace vX := vX.later hbq
      replace hB := hB.trans (hbq.mono hB.size)
      clear hbq
      obtain ⟨a0, a1, a2⟩ := vA.cells
      go_wp2_with fail
      generalize w8.alloc (.cells #[.int .i64 0, .int .i64 0, .string ⟨#[]⟩] 27) = w9 at *
      generalize w8.heap.size = bY at *
      refine (hN _).mono ?_
      rintro e w10 ⟨rfl, hbq⟩
      replace hT := hT.later hbq
      replace vA := vA.later hbq
      replace vO := vO.later hbq
      replace vX := vX.later hbq
      replace vY := vY.later hbq
      replace hB := hB.trans (hbq.mono hB.size)
      clear hbq
      have vN : ValAt (w10.alloc (.cells #[.int .i64 3, .int .i64 1, .string ⟨#[]⟩] 27)) w10.heap.size 3 1 ⟨#[]⟩ := heap_alloc_new w10 _
      have hbq : Below w10.heap.size w10 (w10.alloc (.cells #[.int .i64 3, .int .i64 1, .string ⟨#[]⟩] 27)) := (Below.refl _ _).alloc (Nat.le_refl _) _
      replace hT := hT.later hbq
      replace vA := vA.later hbq
      replace vO := vO.later hbq
      replace vX := vX.later hbq
      replace vY := vY.later hbq
      replace hB := hB.trans (hbq.mono hB.size)
      clear hbq
      obtain ⟨a0, a1, a2⟩ := vX.cells
      obtain ⟨b0, b1, b2⟩ := vY.cells
      go_wp2_with fail
      generalize w10.alloc (.cells #[.int .i64 3, .int .i64 1, .string ⟨#[]⟩] 27) = w11 at *
      generalize w10.heap.size = bN at *
      refine (hR _).mono ?_
      rintro e w12 ⟨rfl, hbq⟩
      replace hT := hT.later hbq
      replace vA := vA.later hbq
      replace vO := vO.later hbq
      replace vX := vX.later hbq
      replace vY := vY.later hbq
      replace vN := vN.later hbq
      replace hB := hB.trans (hbq.mono hB.size)
      clear hbq
      have vF : ValAt (w12.alloc (.cells #[.int .i64 3, .int .i64 1, .string ⟨#[]⟩] 27)) w12.heap.size 3 1 ⟨#[]⟩ := heap_alloc_new w12 _
      have hbq : Below w12.heap.size w12 (w12.alloc (.cells #[.int .i64 3, .int .i64 1, .string ⟨#[]⟩] 27)) := (Below.refl _ _).alloc (Nat.le_refl _) _
      replace hT := hT.later hbq
      replace vA := vA.later hbq
      replace vO := vO.later hbq
      replace vX := vX.later hbq
      replace vY := vY.later hbq
      replace vN := vN.later hbq
      replace hB := hB.trans (hbq.mono hB.size)
      clear hbq
      go_wp2_with fail
      generalize w12.alloc (.cells #[.int .i64 3, .int .i64 1, .string ⟨#[]⟩] 27) = w13 at *
      generalize w12.heap.size = bF at *
      clear vY
      obtain ⟨⟨t0, t1, t2⟩, ⟨t3, t4, t5⟩, ⟨t6, t7, t8⟩⟩ := hT.cells
      have l0 := lat_cell t0
      have l1 := lat_cell t1
      have l2 := lat_cell t2
      have l3 := lat_cell t3
      have l4 := lat_cell t4
      have l5 := lat_cell t5
      have l6 := lat_cell t6
      have l7 := lat_cell t7
      have l8 := lat_cell t8
      obtain ⟨p0, p1, p2⟩ := vA.cells
      have mp0 := lat_cell p0
      have mp1 := lat_cell p1
      have mp2 := lat_cell p2
      obtain ⟨q0, q1, q2⟩ := vO.cells
      have mq0 := lat_cell q0
      have mq1 := lat_cell q1
      have mq2 := lat_cell q2
      obtain ⟨r0, r1, r2⟩ := vX.cells
      have mr0 := lat_cell r0
      have mr1 := lat_cell r1
      have mr2 := lat_cell r2
      obtain ⟨s0, s1, s2⟩ := vN.cells
      have ms0 := lat_cell s0
      have ms1 := lat_cell s1
      have ms2 := lat_cell s2
      obtain ⟨u0, u1, u2⟩ := vF.cells
      have mu0 := lat_cell u0
      have mu1 := lat_cell u1
      have mu2 := lat_cell u2
      refine region_lat (by kernel_rfl) (by kernel_rfl) ?_
      iterate 55 (first
        | go_big_quiet_step (fail)
        | go_big_quiet_step ((refine (hJ (lat w13 _)).mono ?_; rintro e w'' ⟨rfl, hb''⟩; exact ⟨rfl, lat_to hb''⟩)))
      refine wpQuiet_nil ?_
      rintro _ ⟨nq, rfl⟩
      have hbb := hB.trans ((lat_below w13 nq).mono hB.size)
      go_wp2_with fail
      go_ret
      exact ⟨rfl, hbb⟩
    · clear hF hG hrow hlen hbig
      have hA : ∀ w, Calls Try.prog 17 #[.int .i64 2, .agg #[.int .i64 3, .int .i64 0, .string ⟨#[]⟩], .agg #[.int .i64 3, .int .i64 1, .string ⟨#[]⟩]] w (CalcE ⟨3, 0, ⟨#[]⟩, 0⟩ w) := fun w => by
        have h := calc_impl 2 3 0 ⟨#[]⟩ 3 1 ⟨#[]⟩ w (by decide) (by decide) (by decide) (by decide) (by decide) (by decide)
        rw [and_02] at h
        exact h
      have hO : ∀ w, Calls Try.prog 17 #[.int .i64 1, .agg #[.int .i64 3, .int .i64 0, .string ⟨#[]⟩], .agg #[.int .i64 3, .int .i64 1, .string ⟨#[]⟩]] w (CalcE ⟨3, 1, ⟨#[]⟩, 0⟩ w) := fun w => by
        have h := calc_impl 1 3 0 ⟨#[]⟩ 3 1 ⟨#[]⟩ w (by decide) (by decide) (by decide) (by decide) (by decide) (by decide)
        rw [or_02] at h
        exact h
      have hX : ∀ w, Calls Try.prog 23 #[.int .i64 15, .agg #[.int .i64 3, .int .i64 0, .string ⟨#[]⟩]] w (CalcE ⟨3, 1, ⟨#[]⟩, 0⟩ w) := fun w => by
        have h := unary_impl 15 3 0 ⟨#[]⟩ w (by decide) (by decide) (by decide)
        rw [not_0] at h
        exact h
      have hY : ∀ w, Calls Try.prog 23 #[.int .i64 15, .agg #[.int .i64 3, .int .i64 1, .string ⟨#[]⟩]] w (CalcE ⟨3, 0, ⟨#[]⟩, 0⟩ w) := fun w => by
        have h := unary_impl 15 3 1 ⟨#[]⟩ w (by decide) (by decide) (by decide)
        rw [not_2] at h
        exact h
      have hN : ∀ w, Calls Try.prog 23 #[.int .i64 15, .agg #[.int .i64 3, .int .i64 0, .string ⟨#[]⟩]] w (CalcE ⟨3, 1, ⟨#[]⟩, 0⟩ w) := fun w => by
        have h := unary_impl 15 3 0 ⟨#[]⟩ w (by decide) (by decide) (by decide)
        rw [not_0] at h
        exact h
      have hR : ∀ w, Calls Try.prog 17 #[.int .i64 1, .agg #[.int .i64 3, .int .i64 1, .string ⟨#[]⟩], .agg #[.int .i64 3, .int .i64 0, .string ⟨#[]⟩]] w (CalcE ⟨3, 1, ⟨#[]⟩, 0⟩ w) := fun w => by
        have h := calc_impl 1 3 1 ⟨#[]⟩ 3 0 ⟨#[]⟩ w (by decide) (by decide) (by decide) (by decide) (by decide) (by decide)
        rw [or_20] at h
        exact h
      have hJ : ∀ w, Calls Try.prog 24 #[.bool true] w (CopyV 3 1 ⟨#[]⟩ w) := fun w => boolValue_spec true w
      go_wp2_with fail
      refine' region_float (Qf := fun a' => a' = _) 12 13 10 6 42 rfl rfl (by kernel_rfl) (by kernel_rfl) (by kernel_rfl) (by simp) (fun A w => alloc_val A w _ _ _ _ _) (fun A w b cs hp hg hh => store_val A w b cs _ _ _ _ _ _ _ hp hg hh) ?hG ?hW ?hQ
      case hW =>
        intro X hX
        have hT' := hT.later hX
        obtain ⟨⟨t0, t1, t2⟩, ⟨t3, t4, t5⟩, ⟨t6, t7, t8⟩⟩ := hT'.cells
        have l0 := lat_cell t0
        have l1 := lat_cell t1
        have l2 := lat_cell t2
        have l3 := lat_cell t3
        have l4 := lat_cell t4
        have l5 := lat_cell t5
        have l6 := lat_cell t6
        have l7 := lat_cell t7
        have l8 := lat_cell t8
        clear t0 t1 t2 t3 t4 t5 t6 t7 t8 hT'
        simp only [idle]
        iterate 15 (first
          | go_big_quiet_step (fail)
          | go_big_quiet_step ((refine (hA (lat X _)).mono ?_; rintro e w'' ⟨rfl, hb''⟩; exact ⟨rfl, lat_to hb''⟩)))
        refine wpQuiet_nil ?_
        exact rfl
      case hG =>
        rintro _ rfl
        exact ⟨_, _, _, _, rfl, rfl⟩
      case hQ =>
      rintro _ w4 bA cs rfl hbq hltq ⟨k4, m4, t4, hu4, rfl⟩ hh4
      obtain ⟨rfl, rfl, rfl⟩ : 3 = k4 ∧ 0 = m4 ∧ ⟨#[]⟩ = t4 := by simpa [Act.eval] using hu4
      clear hu4 hltq
      have vA : ValAt w4 bA 3 0 ⟨#[]⟩ := hh4
      clear hh4
      replace hT := hT.later hbq
      replace hB := hB.trans (hbq.mono hB.size)
      clear hbq
      simp only [Act.put, List.setIfInBounds_toArray, List.set_cons_zero, List.set_cons_succ]
      go_wp2_with fail
      refine' region_float (Qf := fun a' => a' = _) 12 13 10 8 54 rfl rfl (by kernel_rfl) (by kernel_rfl) (by kernel_rfl) (by simp) (fun A w => alloc_val A w _ _ _ _ _) (fun A w b cs hp hg hh => store_val A w b cs _ _ _ _ _ _ _ hp hg hh) ?hG ?hW ?hQ
      case hW =>
        intro X hX
        have hT' := hT.later hX
        obtain ⟨⟨t0, t1, t2⟩, ⟨t3, t4, t5⟩, ⟨t6, t7, t8⟩⟩ := hT'.cells
        have l0 := lat_cell t0
        have l1 := lat_cell t1
        have l2 := lat_cell t2
        have l3 := lat_cell t3
        have l4 := lat_cell t4
        have l5 := lat_cell t5
        have l6 := lat_cell t6
        have l7 := lat_cell t7
        have l8 := lat_cell t8
        clear t0 t1 t2 t3 t4 t5 t6 t7 t8 hT'
        simp only [idle]
        iterate 15 (first
          | go_big_quiet_step (fail)
          | go_big_quiet_step ((refine (hO (lat X _)).mono ?_; rintro e w'' ⟨rfl, hb''⟩; exact ⟨rfl, lat_to hb''⟩)))
        refine wpQuiet_nil ?_
        exact rfl
      case hG =>
        rintro _ rfl
        exact ⟨_, _, _, _, rfl, rfl⟩
      case hQ =>
      rintro _ w5 bO cs rfl hbq hltq ⟨k4, m4, t4, hu4, rfl⟩ hh4
      obtain ⟨rfl, rfl, rfl⟩ : 3 = k4 ∧ 1 = m4 ∧ ⟨#[]⟩ = t4 := by simpa [Act.eval] using hu4
      clear hu4 hltq
      have vO : ValAt w5 bO 3 1 ⟨#[]⟩ := hh4
      clear hh4
      replace hT := hT.later hbq
      replace vA := vA.later hbq
      replace hB := hB.trans (hbq.mono hB.size)
      clear hbq
      simp only [Act.put, List.setIfInBounds_toArray, List.set_cons_zero, List.set_cons_succ]
      obtain ⟨⟨t0, t1, t2⟩, ⟨t3, t4, t5⟩, ⟨t6, t7, t8⟩⟩ := hT.cells
      go_wp2_with fail
      refine (hX _).mono ?_
      rintro e w6 ⟨rfl, hbq⟩
      replace hT := hT.later hbq
      replace vA := vA.later hbq
      replace vO := vO.later hbq
      replace hB := hB.trans (hbq.mono hB.size)
      clear hbq
      have vX : ValAt (w6.alloc (.cells #[.int .i64 3, .int .i64 1, .string ⟨#[]⟩] 27)) w6.heap.size 3 1 ⟨#[]⟩ := heap_alloc_new w6 _
      have hbq : Below w6.heap.size w6 (w6.alloc (.cells #[.int .i64 3, .int .i64 1, .string ⟨#[]⟩] 27)) := (Below.refl _ _).alloc (Nat.le_refl _) _
      replace hT := hT.later hbq
      replace vA := vA.later hbq
      replace vO := vO.later hbq
      replace hB := hB.trans (hbq.mono hB.size)
      clear hbq
      obtain ⟨⟨t0, t1, t2⟩, ⟨t3, t4, t5⟩, ⟨t6, t7, t8⟩⟩ := hT.cells
      go_wp2_with fail
      generalize w6.alloc (.cells #[.int .i64 3, .int .i64 1, .string ⟨#[]⟩] 27) = w7 at *
      generalize w6.heap.size = bX at *
      refine (hY _).mono ?_
      rintro e w8 ⟨rfl, hbq⟩
      replace hT := hT.later hbq
      replace vA := vA.later hbq
      replace vO := vO.later hbq
      replace vX := vX.later hbq
      replace hB := hB.trans (hbq.mono hB.size)
      clear hbq
      have vY : ValAt (w8.alloc (.cells #[.int .i64 3, .int .i64 0, .string ⟨#[]⟩] 27)) w8.heap.size 3 0 ⟨#[]⟩ := heap_alloc_new w8 _
      have hbq : Below w8.heap.size w8 (w8.alloc (.cells #[.int .i64 3, .int .i64 0, .string ⟨#[]⟩] 27)) := (Below.refl _ _).alloc (Nat.le_refl _) _
      replace hT := hT.later hbq
      replace vA := vA.later hbq
      replace vO := vO.later hbq
      replace vX := vX.later hbq
      replace hB := hB.trans (hbq.mono hB.size)
      clear hbq
      obtain ⟨a0, a1, a2⟩ := vA.cells
      go_wp2_with fail
      generalize w8.alloc (.cells #[.int .i64 3, .int .i64 0, .string ⟨#[]⟩] 27) = w9 at *
      generalize w8.heap.size = bY at *
      refine (hN _).mono ?_
      rintro e w10 ⟨rfl, hbq⟩
      replace hT := hT.later hbq
      replace vA := vA.later hbq
      replace vO := vO.later hbq
      replace vX := vX.later hbq
      replace vY := vY.later hbq
      replace hB := hB.trans (hbq.mono hB.size)
      clear hbq
      have vN : ValAt (w10.alloc (.cells #[.int .i64 3, .int .i64 1, .string ⟨#[]⟩] 27)) w10.heap.size 3 1 ⟨#[]⟩ := heap_alloc_new w10 _
      have hbq : Below w10.heap.size w10 (w10.alloc (.cells #[.int .i64 3, .int .i64 1, .string ⟨#[]⟩] 27)) := (Below.refl _ _).alloc (Nat.le_refl _) _
      replace hT := hT.later hbq
      replace vA := vA.later hbq
      replace vO := vO.later hbq
      replace vX := vX.later hbq
      replace vY := vY.later hbq
      replace hB := hB.trans (hbq.mono hB.size)
      clear hbq
      obtain ⟨a0, a1, a2⟩ := vX.cells
      obtain ⟨b0, b1, b2⟩ := vY.cells
      go_wp2_with fail
      generalize w10.alloc (.cells #[.int .i64 3, .int .i64 1, .string ⟨#[]⟩] 27) = w11 at *
      generalize w10.heap.size = bN at *
      refine (hR _).mono ?_
      rintro e w12 ⟨rfl, hbq⟩
      replace hT := hT.later hbq
      replace vA := vA.later hbq
      replace vO := vO.later hbq
      replace vX := vX.later hbq
      replace vY := vY.later hbq
      replace vN := vN.later hbq
      replace hB := hB.trans (hbq.mono hB.size)
      clear hbq
      have vF : ValAt (w12.alloc (.cells #[.int .i64 3, .int .i64 1, .string ⟨#[]⟩] 27)) w12.heap.size 3 1 ⟨#[]⟩ := heap_alloc_new w12 _
      have hbq : Below w12.heap.size w12 (w12.alloc (.cells #[.int .i64 3, .int .i64 1, .string ⟨#[]⟩] 27)) := (Below.refl _ _).alloc (Nat.le_refl _) _
      replace hT := hT.later hbq
      replace vA := vA.later hbq
      replace vO := vO.later hbq
      replace vX := vX.later hbq
      replace vY := vY.later hbq
      replace vN := vN.later hbq
      replace hB := hB.trans (hbq.mono hB.size)
      clear hbq
      go_wp2_with fail
      generalize w12.alloc (.cells #[.int .i64 3, .int .i64 1, .string ⟨#[]⟩] 27) = w13 at *
      generalize w12.heap.size = bF at *
      clear vY
      obtain ⟨⟨t0, t1, t2⟩, ⟨t3, t4, t5⟩, ⟨t6, t7, t8⟩⟩ := hT.cells
      have l0 := lat_cell t0
      have l1 := lat_cell t1
      have l2 := lat_cell t2
      have l3 := lat_cell t3
      have l4 := lat_cell t4
      have l5 := lat_cell t5
      have l6 := lat_cell t6
      have l7 := lat_cell t7
      have l8 := lat_cell t8
      obtain ⟨p0, p1, p2⟩ := vA.cells
      have mp0 := lat_cell p0
      have mp1 := lat_cell p1
      have mp2 := lat_cell p2
      obtain ⟨q0, q1, q2⟩ := vO.cells
      have mq0 := lat_cell q0
      have mq1 := lat_cell q1
      have mq2 := lat_cell q2
      obtain ⟨r0, r1, r2⟩ := vX.cells
      have mr0 := lat_cell r0
      have mr1 := lat_cell r1
      have mr2 := lat_cell r2
      obtain ⟨s0, s1, s2⟩ := vN.cells
      have ms0 := lat_cell s0
      have ms1 := lat_cell s1
      have ms2 := lat_cell s2
      obtain ⟨u0, u1, u2⟩ := vF.cells
      have mu0 := lat_cell u0
      have mu1 := lat_cell u1
      have mu2 := lat_cell u2
      refine region_lat (by kernel_rfl) (by kernel_rfl) ?_
      iterate 55 (first
        | go_big_quiet_step (fail)
        | go_big_quiet_step ((refine (hJ (lat w13 _)).mono ?_; rintro e w'' ⟨rfl, hb''⟩; exact ⟨rfl, lat_to hb''⟩)))
      refine wpQuiet_nil ?_
      rintro _ ⟨nq, rfl⟩
      have hbb := hB.trans ((lat_below w13 nq).mono hB.size)
      go_wp2_with fail
      go_ret
      exact ⟨rfl, hbb⟩
    · clear hF hG hrow hlen hbig
      have hA : ∀ w, Calls Try.prog 17 #[.int .i64 2, .agg #[.int .i64 0, .int .i64 0, .string ⟨#[]⟩], .agg #[.int .i64 3, .int .i64 0, .string ⟨#[]⟩]] w (CalcE ⟨3, 0, ⟨#[]⟩, 0⟩ w) := fun w => by
        have h := calc_impl 2 0 0 ⟨#[]⟩ 3 0 ⟨#[]⟩ w (by decide) (by decide) (by decide) (by decide) (by decide) (by decide)
        rw [and_10] at h
        exact h
      have hO : ∀ w, Calls Try.prog 17 #[.int .i64 1, .agg #[.int .i64 0, .int .i64 0, .string ⟨#[]⟩], .agg #[.int .i64 3, .int .i64 0, .string ⟨#[]⟩]] w (CalcE ⟨0, 0, ⟨#[]⟩, 0⟩ w) := fun w => by
        have h := calc_impl 1 0 0 ⟨#[]⟩ 3 0 ⟨#[]⟩ w (by decide) (by decide) (by decide) (by decide) (by decide) (by decide)
        rw [or_10] at h
        exact h
      have hX : ∀ w, Calls Try.prog 23 #[.int .i64 15, .agg #[.int .i64 0, .int .i64 0, .string ⟨#[]⟩]] w (CalcE ⟨0, 0, ⟨#[]⟩, 0⟩ w) := fun w => by
        have h := unary_impl 15 0 0 ⟨#[]⟩ w (by decide) (by decide) (by decide)
        rw [not_1] at h
        exact h
      have hY : ∀ w, Calls Try.prog 23 #[.int .i64 15, .agg #[.int .i64 3, .int .i64 0, .string ⟨#[]⟩]] w (CalcE ⟨3, 1, ⟨#[]⟩, 0⟩ w) := fun w => by
        have h := unary_impl 15 3 0 ⟨#[]⟩ w (by decide) (by decide) (by decide)
        rw [not_0] at h
        exact h
      have hN : ∀ w, Calls Try.prog 23 #[.int .i64 15, .agg #[.int .i64 3, .int .i64 0, .string ⟨#[]⟩]] w (CalcE ⟨3, 1, ⟨#[]⟩, 0⟩ w) := fun w => by
        have h := unary_impl 15 3 0 ⟨#[]⟩ w (by decide) (by decide) (by decide)
        rw [not_0] at h
        exact h
      have hR : ∀ w, Calls Try.prog 17 #[.int .i64 1, .agg #[.int .i64 0, .int .i64 0, .string ⟨#[]⟩], .agg #[.int .i64 3, .int .i64 1, .string ⟨#[]⟩]] w (CalcE ⟨3, 1, ⟨#[]⟩, 0⟩ w) := fun w => by
        have h := calc_impl 1 0 0 ⟨#[]⟩ 3 1 ⟨#[]⟩ w (by decide) (by decide) (by decide) (by decide) (by decide) (by decide)
        rw [or_12] at h
        exact h
      have hJ : ∀ w, Calls Try.prog 24 #[.bool false] w (CopyV 3 0 ⟨#[]⟩ w) := fun w => boolValue_spec false w
      go_wp2_with fail
      refine' region_float (Qf := fun a' => a' = _) 12 13 10 6 42 rfl rfl (by kernel_rfl) (by kernel_rfl) (by kernel_rfl) (by simp) (fun A w => alloc_val A w _ _ _ _ _) (fun A w b cs hp hg hh => store_val A w b cs _ _ _ _ _ _ _ hp hg hh) ?hG ?hW ?hQ
      case hW =>
        intro X hX
        have hT' := hT.later hX
        obtain ⟨⟨t0, t1, t2⟩, ⟨t3, t4, t5⟩, ⟨t6, t7, t8⟩⟩ := hT'.cells
        have l0 := lat_cell t0
        have l1 := lat_cell t1
        have l2 := lat_cell t2
        have l3 := lat_cell t3
        have l4 := lat_cell t4
        have l5 := lat_cell t5
        have l6 := lat_cell t6
        have l7 := lat_cell t7
        have l8 := lat_cell t8
        clear t0 t1 t2 t3 t4 t5 t6 t7 t8 hT'
        simp only [idle]
        iterate 15 (first
          | go_big_quiet_step (fail)
          | go_big_quiet_step ((refine (hA (lat X _)).mono ?_; rintro e w'' ⟨rfl, hb''⟩; exact ⟨rfl, lat_to hb''⟩)))
        refine wpQuiet_nil ?_
        exact rfl
      case hG =>
        rintro _ rfl
        exact ⟨_, _, _, _, rfl, rfl⟩
      case hQ =>
      rintro _ w4 bA cs rfl hbq hltq ⟨k4, m4, t4, hu4, rfl⟩ hh4
      obtain ⟨rfl, rfl, rfl⟩ : 3 = k4 ∧ 0 = m4 ∧ ⟨#[]⟩ = t4 := by simpa [Act.eval] using hu4
      clear hu4 hltq
      have vA : ValAt w4 bA 3 0 ⟨#[]⟩ := hh4
      clear hh4
      replace hT := hT.later hbq
      replace hB := hB.trans (hbq.mono hB.size)
      clear hbq
      simp only [Act.put, List.setIfInBounds_toArray, List.set_cons_zero, List.set_cons_succ]
      go_wp2_with fail
      refine' region_float (Qf := fun a' => a' = _) 12 13 10 8 54 rfl rfl (by kernel_rfl) (by kernel_rfl) (by kernel_rfl) (by simp) (fun A w => alloc_val A w _ _ _ _ _) (fun A w b cs hp hg hh => store_val A w b cs _ _ _ _ _ _ _ hp hg hh) ?hG ?hW ?hQ
      case hW =>
        intro X hX
        have hT' := hT.later hX
        obtain ⟨⟨t0, t1, t2⟩, ⟨t3, t4, t5⟩, ⟨t6, t7, t8⟩⟩ := hT'.cells
        have l0 := lat_cell t0
        have l1 := lat_cell t1
        have l2 := lat_cell t2
        have l3 := lat_cell t3
        have l4 := lat_cell t4
        have l5 := lat_cell t5
        have l6 := lat_cell t6
        have l7 := lat_cell t7
        have l8 := lat_cell t8
        clear t0 t1 t2 t3 t4 t5 t6 t7 t8 hT'
        simp only [idle]
        iterate 15 (first
          | go_big_quiet_step (fail)
          | go_big_quiet_step ((refine (hO (lat X _)).mono ?_; rintro e w'' ⟨rfl, hb''⟩; exact ⟨rfl, lat_to hb''⟩)))
        refine wpQuiet_nil ?_
        exact rfl
      case hG =>
        rintro _ rfl
        exact ⟨_, _, _, _, rfl, rfl⟩
      case hQ =>
      rintro _ w5 bO cs rfl hbq hltq ⟨k4, m4, t4, hu4, rfl⟩ hh4
      obtain ⟨rfl, rfl, rfl⟩ : 0 = k4 ∧ 0 = m4 ∧ ⟨#[]⟩ = t4 := by simpa [Act.eval] using hu4
      clear hu4 hltq
      have vO : ValAt w5 bO 0 0 ⟨#[]⟩ := hh4
      clear hh4
      replace hT := hT.later hbq
      replace vA := vA.later hbq
      replace hB := hB.trans (hbq.mono hB.size)
      clear hbq
      simp only [Act.put, List.setIfInBounds_toArray, List.set_cons_zero, List.set_cons_succ]
      obtain ⟨⟨t0, t1, t2⟩, ⟨t3, t4, t5⟩, ⟨t6, t7, t8⟩⟩ := hT.cells
      go_wp2_with fail
      refine (hX _).mono ?_
      rintro e w6 ⟨rfl, hbq⟩
      replace hT := hT.later hbq
      replace vA := vA.later hbq
      replace vO := vO.later hbq
      replace hB := hB.trans (hbq.mono hB.size)
      clear hbq
      have vX : ValAt (w6.alloc (.cells #[.int .i64 0, .int .i64 0, .string ⟨#[]⟩] 27)) w6.heap.size 0 0 ⟨#[]⟩ := heap_alloc_new w6 _
      have hbq : Below w6.heap.size w6 (w6.alloc (.cells #[.int .i64 0, .int .i64 0, .string ⟨#[]⟩] 27)) := (Below.refl _ _).alloc (Nat.le_refl _) _
      replace hT := hT.later hbq
      replace vA := vA.later hbq
      replace vO := vO.later hbq
      replace hB := hB.trans (hbq.mono hB.size)
      clear hbq
      obtain ⟨⟨t0, t1, t2⟩, ⟨t3, t4, t5⟩, ⟨t6, t7, t8⟩⟩ := hT.cells
      go_wp2_with fail
      generalize w6.alloc (.cells #[.int .i64 0, .int .i64 0, .string ⟨#[]⟩] 27) = w7 at *
      generalize w6.heap.size = bX at *
      refine (hY _).mono ?_
      rintro e w8 ⟨rfl, hbq⟩
      replace hT := hT.later hbq
      replace vA := vA.later hbq
      replace vO := vO.later hbq
      replace vX := vX.later hbq
      replace hB := hB.trans (hbq.mono hB.size)
      clear hbq
      have vY : ValAt (w8.alloc (.cells #[.int .i64 3, .int .i64 1, .string ⟨#[]⟩] 27)) w8.heap.size 3 1 ⟨#[]⟩ := heap_alloc_new w8 _
      have hbq : Below w8.heap.size w8 (w8.alloc (.cells #[.int .i64 3, .int .i64 1, .string ⟨#[]⟩] 27)) := (Below.refl _ _).alloc (Nat.le_refl _) _
      replace hT := hT.later hbq
      replace vA := vA.later hbq
      replace vO := vO.later hbq
      replace vX := vX.later hbq
      replace hB := hB.trans (hbq.mono hB.size)
      clear hbq
      obtain ⟨a0, a1, a2⟩ := vA.cells
      go_wp2_with fail
      generalize w8.alloc (.cells #[.int .i64 3, .int .i64 1, .string ⟨#[]⟩] 27) = w9 at *
      generalize w8.heap.size = bY at *
      refine (hN _).mono ?_
      rintro e w10 ⟨rfl, hbq⟩
      replace hT := hT.later hbq
      replace vA := vA.later hbq
      replace vO := vO.later hbq
      replace vX := vX.later hbq
      replace vY := vY.later hbq
      replace hB := hB.trans (hbq.mono hB.size)
      clear hbq
      have vN : ValAt (w10.alloc (.cells #[.int .i64 3, .int .i64 1, .string ⟨#[]⟩] 27)) w10.heap.size 3 1 ⟨#[]⟩ := heap_alloc_new w10 _
      have hbq : Below w10.heap.size w10 (w10.alloc (.cells #[.int .i64 3, .int .i64 1, .string ⟨#[]⟩] 27)) := (Below.refl _ _).alloc (Nat.le_refl _) _
      replace hT := hT.later hbq
      replace vA := vA.later hbq
      replace vO := vO.later hbq
      replace vX := vX.later hbq
      replace vY := vY.later hbq
      replace hB := hB.trans (hbq.mono hB.size)
      clear hbq
      obtain ⟨a0, a1, a2⟩ := vX.cells
      obtain ⟨b0, b1, b2⟩ := vY.cells
      go_wp2_with fail
      generalize w10.alloc (.cells #[.int .i64 3, .int .i64 1, .string ⟨#[]⟩] 27) = w11 at *
      generalize w10.heap.size = bN at *
      refine (hR _).mono ?_
      rintro e w12 ⟨rfl, hbq⟩
      replace hT := hT.later hbq
      replace vA := vA.later hbq
      replace vO := vO.later hbq
      replace vX := vX.later hbq
      replace vY := vY.later hbq
      replace vN := vN.later hbq
      replace hB := hB.trans (hbq.mono hB.size)
      clear hbq
      have vF : ValAt (w12.alloc (.cells #[.int .i64 3, .int .i64 1, .string ⟨#[]⟩] 27)) w12.heap.size 3 1 ⟨#[]⟩ := heap_alloc_new w12 _
      have hbq : Below w12.heap.size w12 (w12.alloc (.cells #[.int .i64 3, .int .i64 1, .string ⟨#[]⟩] 27)) := (Below.refl _ _).alloc (Nat.le_refl _) _
      replace hT := hT.later hbq
      replace vA := vA.later hbq
      replace vO := vO.later hbq
      replace vX := vX.later hbq
      replace vY := vY.later hbq
      replace vN := vN.later hbq
      replace hB := hB.trans (hbq.mono hB.size)
      clear hbq
      go_wp2_with fail
      generalize w12.alloc (.cells #[.int .i64 3, .int .i64 1, .string ⟨#[]⟩] 27) = w13 at *
      generalize w12.heap.size = bF at *
      clear vY
      obtain ⟨⟨t0, t1, t2⟩, ⟨t3, t4, t5⟩, ⟨t6, t7, t8⟩⟩ := hT.cells
      have l0 := lat_cell t0
      have l1 := lat_cell t1
      have l2 := lat_cell t2
      have l3 := lat_cell t3
      have l4 := lat_cell t4
      have l5 := lat_cell t5
      have l6 := lat_cell t6
      have l7 := lat_cell t7
      have l8 := lat_cell t8
      obtain ⟨p0, p1, p2⟩ := vA.cells
      have mp0 := lat_cell p0
      have mp1 := lat_cell p1
      have mp2 := lat_cell p2
      obtain ⟨q0, q1, q2⟩ := vO.cells
      have mq0 := lat_cell q0
      have mq1 := lat_cell q1
      have mq2 := lat_cell q2
      obtain ⟨r0, r1, r2⟩ := vX.cells
      have mr0 := lat_cell r0
      have mr1 := lat_cell r1
      have mr2 := lat_cell r2
      obtain ⟨s0, s1, s2⟩ := vN.cells
      have ms0 := lat_cell s0
      have ms1 := lat_cell s1
      have ms2 := lat_cell s2
      obtain ⟨u0, u1, u2⟩ := vF.cells
      have mu0 := lat_cell u0
      have mu1 := lat_cell u1
      have mu2 := lat_cell u2
      refine region_lat (by kernel_rfl) (by kernel_rfl) ?_
      iterate 55 (first
        | go_big_quiet_step (fail)
        | go_big_quiet_step ((refine (hJ (lat w13 _)).mono ?_; rintro e w'' ⟨rfl, hb''⟩; exact ⟨rfl, lat_to hb''⟩)))
      refine wpQuiet_nil ?_
      rintro _ ⟨nq, rfl⟩
      have hbb := hB.trans ((lat_below w13 nq).mono hB.size)
      go_wp2_with fail
      go_ret
      exact ⟨rfl, hbb⟩
    · clear hF hG hrow hlen hbig
      have hA : ∀ w, Calls Try.prog 17 #[.int .i64 2, .agg #[.int .i64 0, .int .i64 0, .string ⟨#[]⟩], .agg #[.int .i64 0, .int .i64 0, .string ⟨#[]⟩]] w (CalcE ⟨0, 0, ⟨#[]⟩, 0⟩ w) := fun w => by
        have h := calc_impl 2 0 0 ⟨#[]⟩ 0 0 ⟨#[]⟩ w (by decide) (by decide) (by decide) (by decide) (by decide) (by decide)
        rw [and_11] at h
        exact h
      have hO : ∀ w, Calls Try.prog 17 #[.int .i64 1, .agg #[.int .i64 0, .int .i64 0, .string ⟨#[]⟩], .agg #[.int .i64 0, .int .i64 0, .string ⟨#[]⟩]] w (CalcE ⟨0, 0, ⟨#[]⟩, 0⟩ w) := fun w => by
        have h := calc_impl 1 0 0 ⟨#[]⟩ 0 0 ⟨#[]⟩ w (by decide) (by decide) (by decide) (by decide) (by decide) (by decide)
        rw [or_11] at h
        exact h
      have hX : ∀ w, Calls Try.prog 23 #[.int .i64 15, .agg #[.int .i64 0, .int .i64 0, .string ⟨#[]⟩]] w (CalcE ⟨0, 0, ⟨#[]⟩, 0⟩ w) := fun w => by
        have h := unary_impl 15 0 0 ⟨#[]⟩ w (by decide) (by decide) (by decide)
        rw [not_1] at h
        exact h
      have hY : ∀ w, Calls Try.prog 23 #[.int .i64 15, .agg #[.int .i64 0, .int .i64 0, .string ⟨#[]⟩]] w (CalcE ⟨0, 0, ⟨#[]⟩, 0⟩ w) := fun w => by
        have h := unary_impl 15 0 0 ⟨#[]⟩ w (by decide) (by decide) (by decide)
        rw [not_1] at h
        exact h
      have hN : ∀ w, Calls Try.prog 23 #[.int .i64 15, .agg #[.int .i64 0, .int .i64 0, .string ⟨#[]⟩]] w (CalcE ⟨0, 0, ⟨#[]⟩, 0⟩ w) := fun w => by
        have h := unary_impl 15 0 0 ⟨#[]⟩ w (by decide) (by decide) (by decide)
        rw [not_1] at h
        exact h
      have hR : ∀ w, Calls Try.prog 17 #[.int .i64 1, .agg #[.int .i64 0, .int .i64 0, .string ⟨#[]⟩], .agg #[.int .i64 0, .int .i64 0, .string ⟨#[]⟩]] w (CalcE ⟨0, 0, ⟨#[]⟩, 0⟩ w) := fun w => by
        have h := calc_impl 1 0 0 ⟨#[]⟩ 0 0 ⟨#[]⟩ w (by decide) (by decide) (by decide) (by decide) (by decide) (by decide)
        rw [or_11] at h
        exact h
      have hJ : ∀ w, Calls Try.prog 24 #[.bool false] w (CopyV 3 0 ⟨#[]⟩ w) := fun w => boolValue_spec false w
      go_wp2_with fail
      refine' region_float (Qf := fun a' => a' = _) 12 13 10 6 42 rfl rfl (by kernel_rfl) (by kernel_rfl) (by kernel_rfl) (by simp) (fun A w => alloc_val A w _ _ _ _ _) (fun A w b cs hp hg hh => store_val A w b cs _ _ _ _ _ _ _ hp hg hh) ?hG ?hW ?hQ
      case hW =>
        intro X hX
        have hT' := hT.later hX
        obtain ⟨⟨t0, t1, t2⟩, ⟨t3, t4, t5⟩, ⟨t6, t7, t8⟩⟩ := hT'.cells
        have l0 := lat_cell t0
        have l1 := lat_cell t1
        have l2 := lat_cell t2
        have l3 := lat_cell t3
        have l4 := lat_cell t4
        have l5 := lat_cell t5
        have l6 := lat_cell t6
        have l7 := lat_cell t7
        have l8 := lat_cell t8
        clear t0 t1 t2 t3 t4 t5 t6 t7 t8 hT'
        simp only [idle]
        iterate 15 (first
          | go_big_quiet_step (fail)
          | go_big_quiet_step ((refine (hA (lat X _)).mono ?_; rintro e w'' ⟨rfl, hb''⟩; exact ⟨rfl, lat_to hb''⟩)))
        refine wpQuiet_nil ?_
        exact rfl
      case hG =>
        rintro _ rfl
        exact ⟨_, _, _, _, rfl, rfl⟩
      case hQ =>
      rintro _ w4 bA cs rfl hbq hltq ⟨k4, m4, t4, hu4, rfl⟩ hh4
      obtain ⟨rfl, rfl, rfl⟩ : 0 = k4 ∧ 0 = m4 ∧ ⟨#[]⟩ = t4 := by simpa [Act.eval] using hu4
      clear hu4 hltq
      have vA : ValAt w4 bA 0 0 ⟨#[]⟩ := hh4
      clear hh4
      replace hT := hT.later hbq
      replace hB := hB.trans (hbq.mono hB.size)
      clear hbq
      simp only [Act.put, List.setIfInBounds_toArray, List.set_cons_zero, List.set_cons_succ]
      go_wp2_with fail
      refine' region_float (Qf := fun a' => a' = _) 12 13 10 8 54 rfl rfl (by kernel_rfl) (by kernel_rfl) (by kernel_rfl) (by simp) (fun A w => alloc_val A w _ _ _ _ _) (fun A w b cs hp hg hh => store_val A w b cs _ _ _ _ _ _ _ hp hg hh) ?hG ?hW ?hQ
      case hW =>
        intro X hX
        have hT' := hT.later hX
        obtain ⟨⟨t0, t1, t2⟩, ⟨t3, t4, t5⟩, ⟨t6, t7, t8⟩⟩ := hT'.cells
        have l0 := lat_cell t0
        have l1 := lat_cell t1
        have l2 := lat_cell t2
        have l3 := lat_cell t3
        have l4 := lat_cell t4
        have l5 := lat_cell t5
        have l6 := lat_cell t6
        have l7 := lat_cell t7
        have l8 := lat_cell t8
        clear t0 t1 t2 t3 t4 t5 t6 t7 t8 hT'
        simp only [idle]
        iterate 15 (first
          | go_big_quiet_step (fail)
          | go_big_quiet_step ((refine (hO (lat X _)).mono ?_; rintro e w'' ⟨rfl, hb''⟩; exact ⟨rfl, lat_to hb''⟩)))
        refine wpQuiet_nil ?_
        exact rfl
      case hG =>
        rintro _ rfl
        exact ⟨_, _, _, _, rfl, rfl⟩
      case hQ =>
      rintro _ w5 bO cs rfl hbq hltq ⟨k4, m4, t4, hu4, rfl⟩ hh4
      obtain ⟨rfl, rfl, rfl⟩ : 0 = k4 ∧ 0 = m4 ∧ ⟨#[]⟩ = t4 := by simpa [Act.eval] using hu4
      clear hu4 hltq
      have vO : ValAt w5 bO 0 0 ⟨#[]⟩ := hh4
      clear hh4
      replace hT := hT.later hbq
      replace vA := vA.later hbq
      replace hB := hB.trans (hbq.mono hB.size)
      clear hbq
      simp only [Act.put, List.setIfInBounds_toArray, List.set_cons_zero, List.set_cons_succ]
      obtain ⟨⟨t0, t1, t2⟩, ⟨t3, t4, t5⟩, ⟨t6, t7, t8⟩⟩ := hT.cells
      go_wp2_with fail
      refine (hX _).mono ?_
      rintro e w6 ⟨rfl, hbq⟩
      replace hT := hT.later hbq
      replace vA := vA.later hbq
      replace vO := vO.later hbq
      replace hB := hB.trans (hbq.mono hB.size)
      clear hbq
      have vX : ValAt (w6.alloc (.cells #[.int .i64 0, .int .i64 0, .string ⟨#[]⟩] 27)) w6.heap.size 0 0 ⟨#[]⟩ := heap_alloc_new w6 _
      have hbq : Below w6.heap.size w6 (w6.alloc (.cells #[.int .i64 0, .int .i64 0, .string ⟨#[]⟩] 27)) := (Below.refl _ _).alloc (Nat.le_refl _) _
      replace hT := hT.later hbq
      replace vA := vA.later hbq
      replace vO := vO.later hbq
      replace hB := hB.trans (hbq.mono hB.size)
      clear hbq
      obtain ⟨⟨t0, t1, t2⟩, ⟨t3, t4, t5⟩, ⟨t6, t7, t8⟩⟩ := hT.cells
      go_wp2_with fail
      generalize w6.alloc (.cells #[.int .i64 0, .int .i64 0, .string ⟨#[]⟩] 27) = w7 at *
      generalize w6.heap.size = bX at *
      refine (hY _).mono ?_
      rintro e w8 ⟨rfl, hbq⟩
      replace hT := hT.later hbq
      replace vA := vA.later hbq
      replace vO := vO.later hbq
      replace vX := vX.later hbq
      replace hB := hB.trans (hbq.mono hB.size)
      clear hbq
      have vY : ValAt (w8.alloc (.cells #[.int .i64 0, .int .i64 0, .string ⟨#[]⟩] 27)) w8.heap.size 0 0 ⟨#[]⟩ := heap_alloc_new w8 _
      have hbq : Below w8.heap.size w8 (w8.alloc (.cells #[.int .i64 0, .int .i64 0, .string ⟨#[]⟩] 27)) := (Below.refl _ _).alloc (Nat.le_refl _) _
      replace hT := hT.later hbq
      replace vA := vA.later hbq
      replace vO := vO.later hbq
      replace vX := vX.later hbq
      replace hB := hB.trans (hbq.mono hB.size)
      clear hbq
      obtain ⟨a0, a1, a2⟩ := vA.cells
      go_wp2_with fail
      generalize w8.alloc (.cells #[.int .i64 0, .int .i64 0, .string ⟨#[]⟩] 27) = w9 at *
      generalize w8.heap.size = bY at *
      refine (hN _).mono ?_
      rintro e w10 ⟨rfl, hbq⟩
      replace hT := hT.later hbq
      replace vA := vA.later hbq
      replace vO := vO.later hbq
      replace vX := vX.later hbq
      replace vY := vY.later hbq
      replace hB := hB.trans (hbq.mono hB.size)
      clear hbq
      have vN : ValAt (w10.alloc (.cells #[.int .i64 0, .int .i64 0, .string ⟨#[]⟩] 27)) w10.heap.size 0 0 ⟨#[]⟩ := heap_alloc_new w10 _
      have hbq : Below w10.heap.size w10 (w10.alloc (.cells #[.int .i64 0, .int .i64 0, .string ⟨#[]⟩] 27)) := (Below.refl _ _).alloc (Nat.le_refl _) _
      replace hT := hT.later hbq
      replace vA := vA.later hbq
      replace vO := vO.later hbq
      replace vX := vX.later hbq
      replace vY := vY.later hbq
      replace hB := hB.trans (hbq.mono hB.size)
      clear hbq
      obtain ⟨a0, a1, a2⟩ := vX.cells
      obtain ⟨b0, b1, b2⟩ := vY.cells
      go_wp2_with fail
      generalize w10.alloc (.cells #[.int .i64 0, .int .i64 0, .string ⟨#[]⟩] 27) = w11 at *
      generalize w10.heap.size = bN at *
      refine (hR _).mono ?_
      rintro e w12 ⟨rfl, hbq⟩
      replace hT := hT.later hbq
      replace vA := vA.later hbq
      replace vO := vO.later hbq
      replace vX := vX.later hbq
      replace vY := vY.later hbq
      replace vN := vN.later hbq
      replace hB := hB.trans (hbq.mono hB.size)
      clear hbq
      have vF : ValAt (w12.alloc (.cells #[.int .i64 0, .int .i64 0, .string ⟨#[]⟩] 27)) w12.heap.size 0 0 ⟨#[]⟩ := heap_alloc_new w12 _
      have hbq : Below w12.heap.size w12 (w12.alloc (.cells #[.int .i64 0, .int .i64 0, .string ⟨#[]⟩] 27)) := (Below.refl _ _).alloc (Nat.le_refl _) _
      replace hT := hT.later hbq
      replace vA := vA.later hbq
      replace vO := vO.later hbq
      replace vX := vX.later hbq
      replace vY := vY.later hbq
      replace vN := vN.later hbq
      replace hB := hB.trans (hbq.mono hB.size)
      clear hbq
      go_wp2_with fail
      generalize w12.alloc (.cells #[.int .i64 0, .int .i64 0, .string ⟨#[]⟩] 27) = w13 at *
      generalize w12.heap.size = bF at *
      clear vY
      obtain ⟨⟨t0, t1, t2⟩, ⟨t3, t4, t5⟩, ⟨t6, t7, t8⟩⟩ := hT.cells
      have l0 := lat_cell t0
      have l1 := lat_cell t1
      have l2 := lat_cell t2
      have l3 := lat_cell t3
      have l4 := lat_cell t4
      have l5 := lat_cell t5
      have l6 := lat_cell t6
      have l7 := lat_cell t7
      have l8 := lat_cell t8
      obtain ⟨p0, p1, p2⟩ := vA.cells
      have mp0 := lat_cell p0
      have mp1 := lat_cell p1
      have mp2 := lat_cell p2
      obtain ⟨q0, q1, q2⟩ := vO.cells
      have mq0 := lat_cell q0
      have mq1 := lat_cell q1
      have mq2 := lat_cell q2
      obtain ⟨r0, r1, r2⟩ := vX.cells
      have mr0 := lat_cell r0
      have mr1 := lat_cell r1
      have mr2 := lat_cell r2
      obtain ⟨s0, s1, s2⟩ := vN.cells
      have ms0 := lat_cell s0
      have ms1 := lat_cell s1
      have ms2 := lat_cell s2
      obtain ⟨u0, u1, u2⟩ := vF.cells
      have mu0 := lat_cell u0
      have mu1 := lat_cell u1
      have mu2 := lat_cell u2
      refine region_lat (by kernel_rfl) (by kernel_rfl) ?_
      iterate 55 (first
        | go_big_quiet_step (fail)
        | go_big_quiet_step ((refine (hJ (lat w13 _)).mono ?_; rintro e w'' ⟨rfl, hb''⟩; exact ⟨rfl, lat_to hb''⟩)))
      refine wpQuiet_nil ?_
      rintro _ ⟨nq, rfl⟩
      have hbb := hB.trans ((lat_below w13 nq).mono hB.size)
      go_wp2_with fail
      go_ret
      exact ⟨rfl, hbb⟩
    · clear hF hG hrow hlen hbig
      have hA : ∀ w, Calls Try.prog 17 #[.int .i64 2, .agg #[.int .i64 0, .int .i64 0, .string ⟨#[]⟩], .agg #[.int .i64 3, .int .i64 1, .string ⟨#[]⟩]] w (CalcE ⟨0, 0, ⟨#[]⟩, 0⟩ w) := fun w => by
        have h := calc_impl 2 0 0 ⟨#[]⟩ 3 1 ⟨#[]⟩ w (by decide) (by decide) (by decide) (by decide) (by decide) (by decide)
        rw [and_12] at h
        exact h
      have hO : ∀ w, Calls Try.prog 17 #[.int .i64 1, .agg #[.int .i64 0, .int .i64 0, .string ⟨#[]⟩], .agg #[.int .i64 3, .int .i64 1, .string ⟨#[]⟩]] w (CalcE ⟨3, 1, ⟨#[]⟩, 0⟩ w) := fun w => by
        have h := calc_impl 1 0 0 ⟨#[]⟩ 3 1 ⟨#[]⟩ w (by decide) (by decide) (by decide) (by decide) (by decide) (by decide)
        rw [or_12] at h
        exact h
      have hX : ∀ w, Calls Try.prog 23 #[.int .i64 15, .agg #[.int .i64 0, .int .i64 0, .string ⟨#[]⟩]] w (CalcE ⟨0, 0, ⟨#[]⟩, 0⟩ w) := fun w => by
        have h := unary_impl 15 0 0 ⟨#[]⟩ w (by decide) (by decide) (by decide)
        rw [not_1] at h
        exact h
      have hY : ∀ w, Calls Try.prog 23 #[.int .i64 15, .agg #[.int .i64 3, .int .i64 1, .string ⟨#[]⟩]] w (CalcE ⟨3, 0, ⟨#[]⟩, 0⟩ w) := fun w => by
        have h := unary_impl 15 3 1 ⟨#[]⟩ w (by decide) (by decide) (by decide)
        rw [not_2] at h
        exact h
      have hN : ∀ w, Calls Try.prog 23 #[.int .i64 15, .agg #[.int .i64 0, .int .i64 0, .string ⟨#[]⟩]] w (CalcE ⟨0, 0, ⟨#[]⟩, 0⟩ w) := fun w => by
        have h := unary_impl 15 0 0 ⟨#[]⟩ w (by decide) (by decide) (by decide)
        rw [not_1] at h
        exact h
      have hR : ∀ w, Calls Try.prog 17 #[.int .i64 1, .agg #[.int .i64 0, .int .i64 0, .string ⟨#[]⟩], .agg #[.int .i64 3, .int .i64 0, .string ⟨#[]⟩]] w (CalcE ⟨0, 0, ⟨#[]⟩, 0⟩ w) := fun w => by
        have h := calc_impl 1 0 0 ⟨#[]⟩ 3 0 ⟨#[]⟩ w (by decide) (by decide) (by decide) (by decide) (by decide) (by decide)
        rw [or_10] at h
        exact h
      have hJ : ∀ w, Calls Try.prog 24 #[.bool false] w (CopyV 3 0 ⟨#[]⟩ w) := fun w => boolValue_spec false w
      go_wp2_with fail
      refine' region_float (Qf := fun a' => a' = _) 12 13 10 6 42 rfl rfl (by kernel_rfl) (by kernel_rfl) (by kernel_rfl) (by simp) (fun A w => alloc_val A w _ _ _ _ _) (fun A w b cs hp hg hh => store_val A w b cs _ _ _ _ _ _ _ hp hg hh) ?hG ?hW ?hQ
      case hW =>
        intro X hX
        have hT' := hT.later hX
        obtain ⟨⟨t0, t1, t2⟩, ⟨t3, t4, t5⟩, ⟨t6, t7, t8⟩⟩ := hT'.cells
        have l0 := lat_cell t0
        have l1 := lat_cell t1
        have l2 := lat_cell t2
        have l3 := lat_cell t3
        have l4 := lat_cell t4
        have l5 := lat_cell t5
        have l6 := lat_cell t6
        have l7 := lat_cell t7
        have l8 := lat_cell t8
        clear t0 t1 t2 t3 t4 t5 t6 t7 t8 hT'
        simp only [idle]
        iterate 15 (first
          | go_big_quiet_step (fail)
          | go_big_quiet_step ((refine (hA (lat X _)).mono ?_; rintro e w'' ⟨rfl, hb''⟩; exact ⟨rfl, lat_to hb''⟩)))
        refine wpQuiet_nil ?_
        exact rfl
      case hG =>
        rintro _ rfl
        exact ⟨_, _, _, _, rfl, rfl⟩
      case hQ =>
      rintro _ w4 bA cs rfl hbq hltq ⟨k4, m4, t4, hu4, rfl⟩ hh4
      obtain ⟨rfl, rfl, rfl⟩ : 0 = k4 ∧ 0 = m4 ∧ ⟨#[]⟩ = t4 := by simpa [Act.eval] using hu4
      clear hu4 hltq
      have vA : ValAt w4 bA 0 0 ⟨#[]⟩ := hh4
      clear hh4
      replace hT := hT.later hbq
      replace hB := hB.trans (hbq.mono hB.size)
      clear hbq
      simp only [Act.put, List.setIfInBounds_toArray, List.set_cons_zero, List.set_cons_succ]
      go_wp2_with fail
      refine' region_float (Qf := fun a' => a' = _) 12 13 10 8 54 rfl rfl (by kernel_rfl) (by kernel_rfl) (by kernel_rfl) (by simp) (fun A w => alloc_val A w _ _ _ _ _) (fun A w b cs hp hg hh => store_val A w b cs _ _ _ _ _ _ _ hp hg hh) ?hG ?hW ?hQ
      case hW =>
        intro X hX
        have hT' := hT.later hX
        obtain ⟨⟨t0, t1, t2⟩, ⟨t3, t4, t5⟩, ⟨t6, t7, t8⟩⟩ := hT'.cells
        have l0 := lat_cell t0
        have l1 := lat_cell t1
        have l2 := lat_cell t2
        have l3 := lat_cell t3
        have l4 := lat_cell t4
        have l5 := lat_cell t5
        have l6 := lat_cell t6
        have l7 := lat_cell t7
        have l8 := lat_cell t8
        clear t0 t1 t2 t3 t4 t5 t6 t7 t8 hT'
        simp only [idle]
        iterate 15 (first
          | go_big_quiet_step (fail)
          | go_big_quiet_step ((refine (hO (lat X _)).mono ?_; rintro e w'' ⟨rfl, hb''⟩; exact ⟨rfl, lat_to hb''⟩)))
        refine wpQuiet_nil ?_
        exact rfl
      case hG =>
        rintro _ rfl
        exact ⟨_, _, _, _, rfl, rfl⟩
      case hQ =>
      rintro _ w5 bO cs rfl hbq hltq ⟨k4, m4, t4, hu4, rfl⟩ hh4
      obtain ⟨rfl, rfl, rfl⟩ : 3 = k4 ∧ 1 = m4 ∧ ⟨#[]⟩ = t4 := by simpa [Act.eval] using hu4
      clear hu4 hltq
      have vO : ValAt w5 bO 3 1 ⟨#[]⟩ := hh4
      clear hh4
      replace hT := hT.later hbq
      replace vA := vA.later hbq
      replace hB := hB.trans (hbq.mono hB.size)
      clear hbq
      simp only [Act.put, List.setIfInBounds_toArray, List.set_cons_zero, List.set_cons_succ]
      obtain ⟨⟨t0, t1, t2⟩, ⟨t3, t4, t5⟩, ⟨t6, t7, t8⟩⟩ := hT.cells
      go_wp2_with fail
      refine (hX _).mono ?_
      rintro e w6 ⟨rfl, hbq⟩
      replace hT := hT.later hbq
      replace vA := vA.later hbq
      replace vO := vO.later hbq
      replace hB := hB.trans (hbq.mono hB.size)
      clear hbq
      have vX : ValAt (w6.alloc (.cells #[.int .i64 0, .int .i64 0, .string ⟨#[]⟩] 27)) w6.heap.size 0 0 ⟨#[]⟩ := heap_alloc_new w6 _
      have hbq : Below w6.heap.size w6 (w6.alloc (.cells #[.int .i64 0, .int .i64 0, .string ⟨#[]⟩] 27)) := (Below.refl _ _).alloc (Nat.le_refl _) _
      replace hT := hT.later hbq
      replace vA := vA.later hbq
      replace vO := vO.later hbq
      replace hB := hB.trans (hbq.mono hB.size)
      clear hbq
      obtain ⟨⟨t0, t1, t2⟩, ⟨t3, t4, t5⟩, ⟨t6, t7, t8⟩⟩ := hT.cells
      go_wp2_with fail
      generalize w6.alloc (.cells #[.int .i64 0, .int .i64 0, .string ⟨#[]⟩] 27) = w7 at *
      generalize w6.heap.size = bX at *
      refine (hY _).mono ?_
      rintro e w8 ⟨rfl, hbq⟩
      replace hT := hT.later hbq
      replace vA := vA.later hbq
      replace vO := vO.later hbq
      replace vX := vX.later hbq
      replace hB := hB.trans (hbq.mono hB.size)
      clear hbq
      have vY : ValAt (w8.alloc (.cells #[.int .i64 3, .int .i64 0, .string ⟨#[]⟩] 27)) w8.heap.size 3 0 ⟨#[]⟩ := heap_alloc_new w8 _
      have hbq : Below w8.heap.size w8 (w8.alloc (.cells #[.int .i64 3, .int .i64 0, .string ⟨#[]⟩] 27)) := (Below.refl _ _).alloc (Nat.le_refl _) _
      replace hT := hT.later hbq
      replace vA := vA.later hbq
      replace vO := vO.later hbq
      replace vX := vX.later hbq
      replace hB := hB.trans (hbq.mono hB.size)
      clear hbq
      obtain ⟨a0, a1, a2⟩ := vA.cells
      go_wp2_with fail
      generalize w8.alloc (.cells #[.int .i64 3, .int .i64 0, .string ⟨#[]⟩] 27) = w9 at *
      generalize w8.heap.size = bY at *
      refine (hN _).mono ?_
      rintro e w10 ⟨rfl, hbq⟩
      replace hT := hT.later hbq
      replace vA := vA.later hbq
      replace vO := vO.later hbq
      replace vX := vX.later hbq
      replace vY := vY.later hbq
      replace hB := hB.trans (hbq.mono hB.size)
      clear hbq
      have vN : ValAt (w10.alloc (.cells #[.int .i64 0, .int .i64 0, .string ⟨#[]⟩] 27)) w10.heap.size 0 0 ⟨#[]⟩ := heap_alloc_new w10 _
      have hbq : Below w10.heap.size w10 (w10.alloc (.cells #[.int .i64 0, .int .i64 0, .string ⟨#[]⟩] 27)) := (Below.refl _ _).alloc (Nat.le_refl _) _
      replace hT := hT.later hbq
      replace vA := vA.later hbq
      replace vO := vO.later hbq
      replace vX := vX.later hbq
      replace vY := vY.later hbq
      replace hB := hB.trans (hbq.mono hB.size)
      clear hbq
      obtain ⟨a0, a1, a2⟩ := vX.cells
      obtain ⟨b0, b1, b2⟩ := vY.cells
      go_wp2_with fail
      generalize w10.alloc (.cells #[.int .i64 0, .int .i64 0, .string ⟨#[]⟩] 27) = w11 at *
      generalize w10.heap.size = bN at *
      refine (hR _).mono ?_
      rintro e w12 ⟨rfl, hbq⟩
      replace hT := hT.later hbq
      replace vA := vA.later hbq
      replace vO := vO.later hbq
      replace vX := vX.later hbq
      replace vY := vY.later hbq
      replace vN := vN.later hbq
      replace hB := hB.trans (hbq.mono hB.size)
      clear hbq
      have vF : ValAt (w12.alloc (.cells #[.int .i64 0, .int .i64 0, .string ⟨#[]⟩] 27)) w12.heap.size 0 0 ⟨#[]⟩ := heap_alloc_new w12 _
      have hbq : Below w12.heap.size w12 (w12.alloc (.cells #[.int .i64 0, .int .i64 0, .string ⟨#[]⟩] 27)) := (Below.refl _ _).alloc (Nat.le_refl _) _
      replace hT := hT.later hbq
      replace vA := vA.later hbq
      replace vO := vO.later hbq
      replace vX := vX.later hbq
      replace vY := vY.later hbq
      replace vN := vN.later hbq
      replace hB := hB.trans (hbq.mono hB.size)
      clear hbq
      go_wp2_with fail
      generalize w12.alloc (.cells #[.int .i64 0, .int .i64 0, .string ⟨#[]⟩] 27) = w13 at *
      generalize w12.heap.size = bF at *
      clear vY
      obtain ⟨⟨t0, t1, t2⟩, ⟨t3, t4, t5⟩, ⟨t6, t7, t8⟩⟩ := hT.cells
      have l0 := lat_cell t0
      have l1 := lat_cell t1
      have l2 := lat_cell t2
      have l3 := lat_cell t3
      have l4 := lat_cell t4
      have l5 := lat_cell t5
      have l6 := lat_cell t6
      have l7 := lat_cell t7
      have l8 := lat_cell t8
      obtain ⟨p0, p1, p2⟩ := vA.cells
      have mp0 := lat_cell p0
      have mp1 := lat_cell p1
      have mp2 := lat_cell p2
      obtain ⟨q0, q1, q2⟩ := vO.cells
      have mq0 := lat_cell q0
      have mq1 := lat_cell q1
      have mq2 := lat_cell q2
      obtain ⟨r0, r1, r2⟩ := vX.cells
      have mr0 := lat_cell r0
      have mr1 := lat_cell r1
      have mr2 := lat_cell r2
      obtain ⟨s0, s1, s2⟩ := vN.cells
      have ms0 := lat_cell s0
      have ms1 := lat_cell s1
      have ms2 := lat_cell s2
      obtain ⟨u0, u1, u2⟩ := vF.cells
      have mu0 := lat_cell u0
      have mu1 := lat_cell u1
      have mu2 := lat_cell u2
      refine region_lat (by kernel_rfl) (by kernel_rfl) ?_
      iterate 55 (first
        | go_big_quiet_step (fail)
        | go_big_quiet_step ((refine (hJ (lat w13 _)).mono ?_; rintro e w'' ⟨rfl, hb''⟩; exact ⟨rfl, lat_to hb''⟩)))
      refine wpQuiet_nil ?_
      rintro _ ⟨nq, rfl⟩
      have hbb := hB.trans ((lat_below w13 nq).mono hB.size)
      go_wp2_with fail
      go_ret
      exact ⟨rfl, hbb⟩
    · clear hF hG hrow hlen hbig
      have hA : ∀ w, Calls Try.prog 17 #[.int .i64 2, .agg #[.int .i64 3, .int .i64 1, .string ⟨#[]⟩], .agg #[.int .i64 3, .int .i64 0, .string ⟨#[]⟩]] w (CalcE ⟨3, 0, ⟨#[]⟩, 0⟩ w) := fun w => by
        have h := calc_impl 2 3 1 ⟨#[]⟩ 3 0 ⟨#[]⟩ w (by decide) (by decide) (by decide) (by decide) (by decide) (by decide)
        rw [and_20] at h
        exact h
      have hO : ∀ w, Calls Try.prog 17 #[.int .i64 1, .agg #[.int .i64 3, .int .i64 1, .string ⟨#[]⟩], .agg #[.int .i64 3, .int .i64 0, .string ⟨#[]⟩]] w (CalcE ⟨3, 1, ⟨#[]⟩, 0⟩ w) := fun w => by
        have h := calc_impl 1 3 1 ⟨#[]⟩ 3 0 ⟨#[]⟩ w (by decide) (by decide) (by decide) (by decide) (by decide) (by decide)
        rw [or_20] at h
        exact h
      have hX : ∀ w, Calls Try.prog 23 #[.int .i64 15, .agg #[.int .i64 3, .int .i64 1, .string ⟨#[]⟩]] w (CalcE ⟨3, 0, ⟨#[]⟩, 0⟩ w) := fun w => by
        have h := unary_impl 15 3 1 ⟨#[]⟩ w (by decide) (by decide) (by decide)
        rw [not_2] at h
        exact h
      have hY : ∀ w, Calls Try.prog 23 #[.int .i64 15, .agg #[.int .i64 3, .int .i64 0, .string ⟨#[]⟩]] w (CalcE ⟨3, 1, ⟨#[]⟩, 0⟩ w) := fun w => by
        have h := unary_impl 15 3 0 ⟨#[]⟩ w (by decide) (by decide) (by decide)
        rw [not_0] at h
        exact h
      have hN : ∀ w, Calls Try.prog 23 #[.int .i64 15, .agg #[.int .i64 3, .int .i64 0, .string ⟨#[]⟩]] w (CalcE ⟨3, 1, ⟨#[]⟩, 0⟩ w) := fun w => by
        have h := unary_impl 15 3 0 ⟨#[]⟩ w (by decide) (by decide) (by decide)
        rw [not_0] at h
        exact h
      have hR : ∀ w, Calls Try.prog 17 #[.int .i64 1, .agg #[.int .i64 3, .int .i64 0, .string ⟨#[]⟩], .agg #[.int .i64 3, .int .i64 1, .string ⟨#[]⟩]] w (CalcE ⟨3, 1, ⟨#[]⟩, 0⟩ w) := fun w => by
        have h := calc_impl 1 3 0 ⟨#[]⟩ 3 1 ⟨#[]⟩ w (by decide) (by decide) (by decide) (by decide) (by decide) (by decide)
        rw [or_02] at h
        exact h
      have hJ : ∀ w, Calls Try.prog 24 #[.bool false] w (CopyV 3 0 ⟨#[]⟩ w) := fun w => boolValue_spec false w
      go_wp2_with fail
      refine' region_float (Qf := fun a' => a' = _) 12 13 10 6 42 rfl rfl (by kernel_rfl) (by kernel_rfl) (by kernel_rfl) (by simp) (fun A w => alloc_val A w _ _ _ _ _) (fun A w b cs hp hg hh => store_val A w b cs _ _ _ _ _ _ _ hp hg hh) ?hG ?hW ?hQ
      case hW =>
        intro X hX
        have hT' := hT.later hX
        obtain ⟨⟨t0, t1, t2⟩, ⟨t3, t4, t5⟩, ⟨t6, t7, t8⟩⟩ := hT'.cells
        have l0 := lat_cell t0
        have l1 := lat_cell t1
        have l2 := lat_cell t2
        have l3 := lat_cell t3
        have l4 := lat_cell t4
        have l5 := lat_cell t5
        have l6 := lat_cell t6
        have l7 := lat_cell t7
        have l8 := lat_cell t8
        clear t0 t1 t2 t3 t4 t5 t6 t7 t8 hT'
        simp only [idle]
        iterate 15 (first
          | go_big_quiet_step (fail)
          | go_big_quiet_step ((refine (hA (lat X _)).mono ?_; rintro e w'' ⟨rfl, hb''⟩; exact ⟨rfl, lat_to hb''⟩)))
        refine wpQuiet_nil ?_
        exact rfl
      case hG =>
        rintro _ rfl
        exact ⟨_, _, _, _, rfl, rfl⟩
      case hQ =>
      rintro _ w4 bA cs rfl hbq hltq ⟨k4, m4, t4, hu4, rfl⟩ hh4
      obtain ⟨rfl, rfl, rfl⟩ : 3 = k4 ∧ 0 = m4 ∧ ⟨#[]⟩ = t4 := by simpa [Act.eval] using hu4
      clear hu4 hltq
      have vA : ValAt w4 bA 3 0 ⟨#[]⟩ := hh4
      clear hh4
      replace hT := hT.later hbq
      replace hB := hB.trans (hbq.mono hB.size)
      clear hbq
      simp only [Act.put, List.setIfInBounds_toArray, List.set_cons_zero, List.set_cons_succ]
      go_wp2_with fail
      refine' region_float (Qf := fun a' => a' = _) 12 13 10 8 54 rfl rfl (by kernel_rfl) (by kernel_rfl) (by kernel_rfl) (by simp) (fun A w => alloc_val A w _ _ _ _ _) (fun A w b cs hp hg hh => store_val A w b cs _ _ _ _ _ _ _ hp hg hh) ?hG ?hW ?hQ
      case hW =>
        intro X hX
        have hT' := hT.later hX
        obtain ⟨⟨t0, t1, t2⟩, ⟨t3, t4, t5⟩, ⟨t6, t7, t8⟩⟩ := hT'.cells
        have l0 := lat_cell t0
        have l1 := lat_cell t1
        have l2 := lat_cell t2
        have l3 := lat_cell t3
        have l4 := lat_cell t4
        have l5 := lat_cell t5
        have l6 := lat_cell t6
        have l7 := lat_cell t7
        have l8 := lat_cell t8
        clear t0 t1 t2 t3 t4 t5 t6 t7 t8 hT'
        simp only [idle]
        iterate 15 (first
          | go_big_quiet_step (fail)
          | go_big_quiet_step ((refine (hO (lat X _)).mono ?_; rintro e w'' ⟨rfl, hb''⟩; exact ⟨rfl, lat_to hb''⟩)))
        refine wpQuiet_nil ?_
        exact rfl
      case hG =>
        rintro _ rfl
        exact ⟨_, _, _, _, rfl, rfl⟩
      case hQ =>
      rintro _ w5 bO cs rfl hbq hltq ⟨k4, m4, t4, hu4, rfl⟩ hh4
      obtain ⟨rfl, rfl, rfl⟩ : 3 = k4 ∧ 1 = m4 ∧ ⟨#[]⟩ = t4 := by simpa [Act.eval] using hu4
      clear hu4 hltq
      have vO : ValAt w5 bO 3 1 ⟨#[]⟩ := hh4
      clear hh4
      replace hT := hT.later hbq
      replace vA := vA.later hbq
      replace hB := hB.trans (hbq.mono hB.size)
      clear hbq
      simp only [Act.put, List.setIfInBounds_toArray, List.set_cons_zero, List.set_cons_succ]
      obtain ⟨⟨t0, t1, t2⟩, ⟨t3, t4, t5⟩, ⟨t6, t7, t8⟩⟩ := hT.cells
      go_wp2_with fail
      refine (hX _).mono ?_
      rintro e w6 ⟨rfl, hbq⟩
      replace hT := hT.later hbq
      replace vA := vA.later hbq
      replace vO := vO.later hbq
      replace hB := hB.trans (hbq.mono hB.size)
      clear hbq
      have vX : ValAt (w6.alloc (.cells #[.int .i64 3, .int .i64 0, .string ⟨#[]⟩] 27)) w6.heap.size 3 0 ⟨#[]⟩ := heap_alloc_new w6 _
      have hbq : Below w6.heap.size w6 (w6.alloc (.cells #[.int .i64 3, .int .i64 0, .string ⟨#[]⟩] 27)) := (Below.refl _ _).alloc (Nat.le_refl _) _
      replace hT := hT.later hbq
      replace vA := vA.later hbq
      replace vO := vO.later hbq
      replace hB := hB.trans (hbq.mono hB.size)
      clear hbq
      obtain ⟨⟨t0, t1, t2⟩, ⟨t3, t4, t5⟩, ⟨t6, t7, t8⟩⟩ := hT.cells
      go_wp2_with fail
      generalize w6.alloc (.cells #[.int .i64 3, .int .i64 0, .string ⟨#[]⟩] 27) = w7 at *
      generalize w6.heap.size = bX at *
      refine (hY _).mono ?_
      rintro e w8 ⟨rfl, hbq⟩
      replace hT := hT.later hbq
      replace vA := vA.later hbq
      replace vO := vO.later hbq
      replace vX := vX.later hbq
      replace hB := hB.trans (hbq.mono hB.size)
      clear hbq
      have vY : ValAt (w8.alloc (.cells #[.int .i64 3, .int .i64 1, .string ⟨#[]⟩] 27)) w8.heap.size 3 1 ⟨#[]⟩ := heap_alloc_new w8 _
      have hbq : Below w8.heap.size w8 (w8.alloc (.cells #[.int .i64 3, .int .i64 1, .string ⟨#[]⟩] 27)) := (Below.refl _ _).alloc (Nat.le_refl _) _
      replace hT := hT.later hbq
      replace vA := vA.later hbq
      replace vO := vO.later hbq
      replace vX := vX.later hbq
      replace hB := hB.trans (hbq.mono hB.size)
      clear hbq
      obtain ⟨a0, a1, a2⟩ := vA.cells
      go_wp2_with fail
      generalize w8.alloc (.cells #[.int .i64 3, .int .i64 1, .string ⟨#[]⟩] 27) = w9 at *
      generalize w8.heap.size = bY at *
      refine (hN _).mono ?_
      rintro e w10 ⟨rfl, hbq⟩
      replace hT := hT.later hbq
      replace vA := vA.later hbq
      replace vO := vO.later hbq
      replace vX := vX.later hbq
      replace vY := vY.later hbq
      replace hB := hB.trans (hbq.mono hB.size)
      clear hbq
      have vN : ValAt (w10.alloc (.cells #[.int .i64 3, .int .i64 1, .string ⟨#[]⟩] 27)) w10.heap.size 3 1 ⟨#[]⟩ := heap_alloc_new w10 _
      have hbq : Below w10.heap.size w10 (w10.alloc (.cells #[.int .i64 3, .int .i64 1, .string ⟨#[]⟩] 27)) := (Below.refl _ _).alloc (Nat.le_refl _) _
      replace hT := hT.later hbq
      replace vA := vA.later hbq
      replace vO := vO.later hbq
      replace vX := vX.later hbq
      replace vY := vY.later hbq
      replace hB := hB.trans (hbq.mono hB.size)
      clear hbq
      obtain ⟨a0, a1, a2⟩ := vX.cells
      obtain ⟨b0, b1, b2⟩ := vY.cells
      go_wp2_with fail
      generalize w10.alloc (.cells #[.int .i64 3, .int .i64 1, .string ⟨#[]⟩] 27) = w11 at *
      generalize w10.heap.size = bN at *
      refine (hR _).mono ?_
      rintro e w12 ⟨rfl, hbq⟩
      replace hT := hT.later hbq
      replace vA := vA.later hbq
      replace vO := vO.later hbq
      replace vX := vX.later hbq
      replace vY := vY.later hbq
      replace vN := vN.later hbq
      replace hB := hB.trans (hbq.mono hB.size)
      clear hbq
      have vF : ValAt (w12.alloc (.cells #[.int .i64 3, .int .i64 1, .string ⟨#[]⟩] 27)) w12.heap.size 3 1 ⟨#[]⟩ := heap_alloc_new w12 _
      have hbq : Below w12.heap.size w12 (w12.alloc (.cells #[.int .i64 3, .int .i64 1, .string ⟨#[]⟩] 27)) := (Below.refl _ _).alloc (Nat.le_refl _) _
      replace hT := hT.later hbq
      replace vA := vA.later hbq
      replace vO := vO.later hbq
      replace vX := vX.later hbq
      replace vY := vY.later hbq
      replace vN := vN.later hbq
      replace hB := hB.trans (hbq.mono hB.size)
      clear hbq
      go_wp2_with fail
      generalize w12.alloc (.cells #[.int .i64 3, .int .i64 1, .string ⟨#[]⟩] 27) = w13 at *
      generalize w12.heap.size = bF at *
      clear vY
      obtain ⟨⟨t0, t1, t2⟩, ⟨t3, t4, t5⟩, ⟨t6, t7, t8⟩⟩ := hT.cells
      have l0 := lat_cell t0
      have l1 := lat_cell t1
      have l2 := lat_cell t2
      have l3 := lat_cell t3
      have l4 := lat_cell t4
      have l5 := lat_cell t5
      have l6 := lat_cell t6
      have l7 := lat_cell t7
      have l8 := lat_cell t8
      obtain ⟨p0, p1, p2⟩ := vA.cells
      have mp0 := lat_cell p0
      have mp1 := lat_cell p1
      have mp2 := lat_cell p2
      obtain ⟨q0, q1, q2⟩ := vO.cells
      have mq0 := lat_cell q0
      have mq1 := lat_cell q1
      have mq2 := lat_cell q2
      obtain ⟨r0, r1, r2⟩ := vX.cells
      have mr0 := lat_cell r0
      have mr1 := lat_cell r1
      have mr2 := lat_cell r2
      obtain ⟨s0, s1, s2⟩ := vN.cells
      have ms0 := lat_cell s0
      have ms1 := lat_cell s1
      have ms2 := lat_cell s2
      obtain ⟨u0, u1, u2⟩ := vF.cells
      have mu0 := lat_cell u0
      have mu1 := lat_cell u1
      have mu2 := lat_cell u2
      refine region_lat (by kernel_rfl) (by kernel_rfl) ?_
      iterate 55 (first
        | go_big_quiet_step (fail)
        | go_big_quiet_step ((refine (hJ (lat w13 _)).mono ?_; rintro e w'' ⟨rfl, hb''⟩; exact ⟨rfl, lat_to hb''⟩)))
      refine wpQuiet_nil ?_
      rintro _ ⟨nq, rfl⟩
      have hbb := hB.trans ((lat_below w13 nq).mono hB.size)
      go_wp2_with fail
      go_ret
      exact ⟨rfl, hbb⟩
    · clear hF hG hrow hlen hbig
      have hA : ∀ w, Calls Try.prog 17 #[.int .i64 2, .agg #[.int .i64 3, .int .i64 1, .string ⟨#[]⟩], .agg #[.int .i64 0, .int .i64 0, .string ⟨#[]⟩]] w (CalcE ⟨0, 0, ⟨#[]⟩, 0⟩ w) := fun w => by
        have h := calc_impl 2 3 1 ⟨#[]⟩ 0 0 ⟨#[]⟩ w (by decide) (by decide) (by decide) (by decide) (by decide) (by decide)
        rw [and_21] at h
        exact h
      have hO : ∀ w, Calls Try.prog 17 #[.int .i64 1, .agg #[.int .i64 3, .int .i64 1, .string ⟨#[]⟩], .agg #[.int .i64 0, .int .i64 0, .string ⟨#[]⟩]] w (CalcE ⟨3, 1, ⟨#[]⟩, 0⟩ w) := fun w => by
        have h := calc_impl 1 3 1 ⟨#[]⟩ 0 0 ⟨#[]⟩ w (by decide) (by decide) (by decide) (by decide) (by decide) (by decide)
        rw [or_21] at h
        exact h
      have hX : ∀ w, Calls Try.prog 23 #[.int .i64 15, .agg #[.int .i64 3, .int .i64 1, .string ⟨#[]⟩]] w (CalcE ⟨3, 0, ⟨#[]⟩, 0⟩ w) := fun w => by
        have h := unary_impl 15 3 1 ⟨#[]⟩ w (by decide) (by decide) (by decide)
        rw [not_2] at h
        exact h
      have hY : ∀ w, Calls Try.prog 23 #[.int .i64 15, .agg #[.int .i64 0, .int .i64 0, .string ⟨#[]⟩]] w (CalcE ⟨0, 0, ⟨#[]⟩, 0⟩ w) := fun w => by
        have h := unary_impl 15 0 0 ⟨#[]⟩ w (by decide) (by decide) (by decide)
        rw [not_1] at h
        exact h
      have hN : ∀ w, Calls Try.prog 23 #[.int .i64 15, .agg #[.int .i64 0, .int .i64 0, .string ⟨#[]⟩]] w (CalcE ⟨0, 0, ⟨#[]⟩, 0⟩ w) := fun w => by
        have h := unary_impl 15 0 0 ⟨#[]⟩ w (by decide) (by decide) (by decide)
        rw [not_1] at h
        exact h
      have hR : ∀ w, Calls Try.prog 17 #[.int .i64 1, .agg #[.int .i64 3, .int .i64 0, .string ⟨#[]⟩], .agg #[.int .i64 0, .int .i64 0, .string ⟨#[]⟩]] w (CalcE ⟨0, 0, ⟨#[]⟩, 0⟩ w) := fun w => by
        have h := calc_impl 1 3 0 ⟨#[]⟩ 0 0 ⟨#[]⟩ w (by decide) (by decide) (by decide) (by decide) (by decide) (by decide)
        rw [or_01] at h
        exact h
      have hJ : ∀ w, Calls Try.prog 24 #[.bool false] w (CopyV 3 0 ⟨#[]⟩ w) := fun w => boolValue_spec false w
      go_wp2_with fail
      refine' region_float (Qf := fun a' => a' = _) 12 13 10 6 42 rfl rfl (by kernel_rfl) (by kernel_rfl) (by kernel_rfl) (by simp) (fun A w => alloc_val A w _ _ _ _ _) (fun A w b cs hp hg hh => store_val A w b cs _ _ _ _ _ _ _ hp hg hh) ?hG ?hW ?hQ
      case hW =>
        intro X hX
        have hT' := hT.later hX
        obtain ⟨⟨t0, t1, t2⟩, ⟨t3, t4, t5⟩, ⟨t6, t7, t8⟩⟩ := hT'.cells
        have l0 := lat_cell t0
        have l1 := lat_cell t1
        have l2 := lat_cell t2
        have l3 := lat_cell t3
        have l4 := lat_cell t4
        have l5 := lat_cell t5
        have l6 := lat_cell t6
        have l7 := lat_cell t7
        have l8 := lat_cell t8
        clear t0 t1 t2 t3 t4 t5 t6 t7 t8 hT'
        simp only [idle]
        iterate 15 (first
          | go_big_quiet_step (fail)
          | go_big_quiet_step ((refine (hA (lat X _)).mono ?_; rintro e w'' ⟨rfl, hb''⟩; exact ⟨rfl, lat_to hb''⟩)))
        refine wpQuiet_nil ?_
        exact rfl
      case hG =>
        rintro _ rfl
        exact ⟨_, _, _, _, rfl, rfl⟩
      case hQ =>
      rintro _ w4 bA cs rfl hbq hltq ⟨k4, m4, t4, hu4, rfl⟩ hh4
      obtain ⟨rfl, rfl, rfl⟩ : 0 = k4 ∧ 0 = m4 ∧ ⟨#[]⟩ = t4 := by simpa [Act.eval] using hu4
      clear hu4 hltq
      have vA : ValAt w4 bA 0 0 ⟨#[]⟩ := hh4
      clear hh4
      replace hT := hT.later hbq
      replace hB := hB.trans (hbq.mono hB.size)
      clear hbq
      simp only [Act.put, List.setIfInBounds_toArray, List.set_cons_zero, List.set_cons_succ]
      go_wp2_with fail
      refine' region_float (Qf := fun a' => a' = _) 12 13 10 8 54 rfl rfl (by kernel_rfl) (by kernel_rfl) (by kernel_rfl) (by simp) (fun A w => alloc_val A w _ _ _ _ _) (fun A w b cs hp hg hh => store_val A w b cs _ _ _ _ _ _ _ hp hg hh) ?hG ?hW ?hQ
      case hW =>
        intro X hX
        have hT' := hT.later hX
        obtain ⟨⟨t0, t1, t2⟩, ⟨t3, t4, t5⟩, ⟨t6, t7, t8⟩⟩ := hT'.cells
        have l0 := lat_cell t0
        have l1 := lat_cell t1
        have l2 := lat_cell t2
        have l3 := lat_cell t3
        have l4 := lat_cell t4
        have l5 := lat_cell t5
        have l6 := lat_cell t6
        have l7 := lat_cell t7
        have l8 := lat_cell t8
        clear t0 t1 t2 t3 t4 t5 t6 t7 t8 hT'
        simp only [idle]
        iterate 15 (first
          | go_big_quiet_step (fail)
          | go_big_quiet_step ((refine (hO (lat X _)).mono ?_; rintro e w'' ⟨rfl, hb''⟩; exact ⟨rfl, lat_to hb''⟩)))
        refine wpQuiet_nil ?_
        exact rfl
      case hG =>
        rintro _ rfl
        exact ⟨_, _, _, _, rfl, rfl⟩
      case hQ =>
      rintro _ w5 bO cs rfl hbq hltq ⟨k4, m4, t4, hu4, rfl⟩ hh4
      obtain ⟨rfl, rfl, rfl⟩ : 3 = k4 ∧ 1 = m4 ∧ ⟨#[]⟩ = t4 := by simpa [Act.eval] using hu4
      clear hu4 hltq
      have vO : ValAt w5 bO 3 1 ⟨#[]⟩ := hh4
      clear hh4
      replace hT := hT.later hbq
      replace vA := vA.later hbq
      replace hB := hB.trans (hbq.mono hB.size)
      clear hbq
      simp only [Act.put, List.setIfInBounds_toArray, List.set_cons_zero, List.set_cons_succ]
      obtain ⟨⟨t0, t1, t2⟩, ⟨t3, t4, t5⟩, ⟨t6, t7, t8⟩⟩ := hT.cells
      go_wp2_with fail
      refine (hX _).mono ?_
      rintro e w6 ⟨rfl, hbq⟩
      replace hT := hT.later hbq
      replace vA := vA.later hbq
      replace vO := vO.later hbq
      replace hB := hB.trans (hbq.mono hB.size)
      clear hbq
      have vX : ValAt (w6.alloc (.cells #[.int .i64 3, .int .i64 0, .string ⟨#[]⟩] 27)) w6.heap.size 3 0 ⟨#[]⟩ := heap_alloc_new w6 _
      have hbq : Below w6.heap.size w6 (w6.alloc (.cells #[.int .i64 3, .int .i64 0, .string ⟨#[]⟩] 27)) := (Below.refl _ _).alloc (Nat.le_refl _) _
      replace hT := hT.later hbq
      replace vA := vA.later hbq
      replace vO := vO.later hbq
      replace hB := hB.trans (hbq.mono hB.size)
      clear hbq
      obtain ⟨⟨t0, t1, t2⟩, ⟨t3, t4, t5⟩, ⟨t6, t7, t8⟩⟩ := hT.cells
      go_wp2_with fail
      generalize w6.alloc (.cells #[.int .i64 3, .int .i64 0, .string ⟨#[]⟩] 27) = w7 at *
      generalize w6.heap.size = bX at *
      refine (hY _).mono ?_
      rintro e w8 ⟨rfl, hbq⟩
      replace hT := hT.later hbq
      replace vA := vA.later hbq
      replace vO := vO.later hbq
      replace vX := vX.later hbq
      replace hB := hB.trans (hbq.mono hB.size)
      clear hbq
      have vY : ValAt (w8.alloc (.cells #[.int .i64 0, .int .i64 0, .string ⟨#[]⟩] 27)) w8.heap.size 0 0 ⟨#[]⟩ := heap_alloc_new w8 _
      have hbq : Below w8.heap.size w8 (w8.alloc (.cells #[.int .i64 0, .int .i64 0, .string ⟨#[]⟩] 27)) := (Below.refl _ _).alloc (Nat.le_refl _) _
      replace hT := hT.later hbq
      replace vA := vA.later hbq
      replace vO := vO.later hbq
      replace vX := vX.later hbq
      replace hB := hB.trans (hbq.mono hB.size)
      clear hbq
      obtain ⟨a0, a1, a2⟩ := vA.cells
      go_wp2_with fail
      generalize w8.alloc (.cells #[.int .i64 0, .int .i64 0, .string ⟨#[]⟩] 27) = w9 at *
      generalize w8.heap.size = bY at *
      refine (hN _).mono ?_
      rintro e w10 ⟨rfl, hbq⟩
      replace hT := hT.later hbq
      replace vA := vA.later hbq
      replace vO := vO.later hbq
      replace vX := vX.later hbq
      replace vY := vY.later hbq
      replace hB := hB.trans (hbq.mono hB.size)
      clear hbq
      have vN : ValAt (w10.alloc (.cells #[.int .i64 0, .int .i64 0, .string ⟨#[]⟩] 27)) w10.heap.size 0 0 ⟨#[]⟩ := heap_alloc_new w10 _
      have hbq : Below w10.heap.size w10 (w10.alloc (.cells #[.int .i64 0, .int .i64 0, .string ⟨#[]⟩] 27)) := (Below.refl _ _).alloc (Nat.le_refl _) _
      replace hT := hT.later hbq
      replace vA := vA.later hbq
      replace vO := vO.later hbq
      replace vX := vX.later hbq
      replace vY := vY.later hbq
      replace hB := hB.trans (hbq.mono hB.size)
      clear hbq
      obtain ⟨a0, a1, a2⟩ := vX.cells
      obtain ⟨b0, b1, b2⟩ := vY.cells
      go_wp2_with fail
      generalize w10.alloc (.cells #[.int .i64 0, .int .i64 0, .string ⟨#[]⟩] 27) = w11 at *
      generalize w10.heap.size = bN at *
      refine (hR _).mono ?_
      rintro e w12 ⟨rfl, hbq⟩
      replace hT := hT.later hbq
      replace vA := vA.later hbq
      replace vO := vO.later hbq
      replace vX := vX.later hbq
      replace vY := vY.later hbq
      replace vN := vN.later hbq
      replace hB := hB.trans (hbq.mono hB.size)
      clear hbq
      have vF : ValAt (w12.alloc (.cells #[.int .i64 0, .int .i64 0, .string ⟨#[]⟩] 27)) w12.heap.size 0 0 ⟨#[]⟩ := heap_alloc_new w12 _
      have hbq : Below w12.heap.size w12 (w12.alloc (.cells #[.int .i64 0, .int .i64 0, .string ⟨#[]⟩] 27)) := (Below.refl _ _).alloc (Nat.le_refl _) _
      replace hT := hT.later hbq
      replace vA := vA.later hbq
      replace vO := vO.later hbq
      replace vX := vX.later hbq
      replace vY := vY.later hbq
      replace vN := vN.later hbq
      replace hB := hB.trans (hbq.mono hB.size)
      clear hbq
      go_wp2_with fail
      generalize w12.alloc (.cells #[.int .i64 0, .int .i64 0, .string ⟨#[]⟩] 27) = w13 at *
      generalize w12.heap.size = bF at *
      clear vY
      obtain ⟨⟨t0, t1, t2⟩, ⟨t3, t4, t5⟩, ⟨t6, t7, t8⟩⟩ := hT.cells
      have l0 := lat_cell t0
      have l1 := lat_cell t1
      have l2 := lat_cell t2
      have l3 := lat_cell t3
      have l4 := lat_cell t4
      have l5 := lat_cell t5
      have l6 := lat_cell t6
      have l7 := lat_cell t7
      have l8 := lat_cell t8
      obtain ⟨p0, p1, p2⟩ := vA.cells
      have mp0 := lat_cell p0
      have mp1 := lat_cell p1
      have mp2 := lat_cell p2
      obtain ⟨q0, q1, q2⟩ := vO.cells
      have mq0 := lat_cell q0
      have mq1 := lat_cell q1
      have mq2 := lat_cell q2
      obtain ⟨r0, r1, r2⟩ := vX.cells
      have mr0 := lat_cell r0
      have mr1 := lat_cell r1
      have mr2 := lat_cell r2
      obtain ⟨s0, s1, s2⟩ := vN.cells
      have ms0 := lat_cell s0
      have ms1 := lat_cell s1
      have ms2 := lat_cell s2
      obtain ⟨u0, u1, u2⟩ := vF.cells
      have mu0 := lat_cell u0
      have mu1 := lat_cell u1
      have mu2 := lat_cell u2
      refine region_lat (by kernel_rfl) (by kernel_rfl) ?_
      iterate 55 (first
        | go_big_quiet_step (fail)
        | go_big_quiet_step ((refine (hJ (lat w13 _)).mono ?_; rintro e w'' ⟨rfl, hb''⟩; exact ⟨rfl, lat_to hb''⟩)))
      refine wpQuiet_nil ?_
      rintro _ ⟨nq, rfl⟩
      have hbb := hB.trans ((lat_below w13 nq).mono hB.size)
      go_wp2_with fail
      go_ret
      exact ⟨rfl, hbb⟩
    · clear hF hG hrow hlen hbig
      have hA : ∀ w, Calls Try.prog 17 #[.int .i64 2, .agg #[.int .i64 3, .int .i64 1, .string ⟨#[]⟩], .agg #[.int .i64 3, .int .i64 1, .string ⟨#[]⟩]] w (CalcE ⟨3, 1, ⟨#[]⟩, 0⟩ w) := fun w => by
        have h := calc_impl 2 3 1 ⟨#[]⟩ 3 1 ⟨#[]⟩ w (by decide) (by decide) (by decide) (by decide) (by decide) (by decide)
        rw [and_22] at h
        exact h
      have hO : ∀ w, Calls Try.prog 17 #[.int .i64 1, .agg #[.int .i64 3, .int .i64 1, .string ⟨#[]⟩], .agg #[.int .i64 3, .int .i64 1, .string ⟨#[]⟩]] w (CalcE ⟨3, 1, ⟨#[]⟩, 0⟩ w) := fun w => by
        have h := calc_impl 1 3 1 ⟨#[]⟩ 3 1 ⟨#[]⟩ w (by decide) (by decide) (by decide) (by decide) (by decide) (by decide)
        rw [or_22] at h
        exact h
      have hX : ∀ w, Calls Try.prog 23 #[.int .i64 15, .agg #[.int .i64 3, .int .i64 1, .string ⟨#[]⟩]] w (CalcE ⟨3, 0, ⟨#[]⟩, 0⟩ w) := fun w => by
        have h := unary_impl 15 3 1 ⟨#[]⟩ w (by decide) (by decide) (by decide)
        rw [not_2] at h
        exact h
      have hY : ∀ w, Calls Try.prog 23 #[.int .i64 15, .agg #[.int .i64 3, .int .i64 1, .string ⟨#[]⟩]] w (CalcE ⟨3, 0, ⟨#[]⟩, 0⟩ w) := fun w => by
        have h := unary_impl 15 3 1 ⟨#[]⟩ w (by decide) (by decide) (by decide)
        rw [not_2] at h
        exact h
      have hN : ∀ w, Calls Try.prog 23 #[.int .i64 15, .agg #[.int .i64 3, .int .i64 1, .string ⟨#[]⟩]] w (CalcE ⟨3, 0, ⟨#[]⟩, 0⟩ w) := fun w => by
        have h := unary_impl 15 3 1 ⟨#[]⟩ w (by decide) (by decide) (by decide)
        rw [not_2] at h
        exact h
      have hR : ∀ w, Calls Try.prog 17 #[.int .i64 1, .agg #[.int .i64 3, .int .i64 0, .string ⟨#[]⟩], .agg #[.int .i64 3, .int .i64 0, .string ⟨#[]⟩]] w (CalcE ⟨3, 0, ⟨#[]⟩, 0⟩ w) := fun w => by
        have h := calc_impl 1 3 0 ⟨#[]⟩ 3 0 ⟨#[]⟩ w (by decide) (by decide) (by decide) (by decide) (by decide) (by decide)
        rw [or_00] at h
        exact h
      have hJ : ∀ w, Calls Try.prog 24 #[.bool false] w (CopyV 3 0 ⟨#[]⟩ w) := fun w => boolValue_spec false w
      go_wp2_with fail
      refine' region_float (Qf := fun a' => a' = _) 12 13 10 6 42 rfl rfl (by kernel_rfl) (by kernel_rfl) (by kernel_rfl) (by simp) (fun A w => alloc_val A w _ _ _ _ _) (fun A w b cs hp hg hh => store_val A w b cs _ _ _ _ _ _ _ hp hg hh) ?hG ?hW ?hQ
      case hW =>
        intro X hX
        have hT' := hT.later hX
        obtain ⟨⟨t0, t1, t2⟩, ⟨t3, t4, t5⟩, ⟨t6, t7, t8⟩⟩ := hT'.cells
        have l0 := lat_cell t0
        have l1 := lat_cell t1
        have l2 := lat_cell t2
        have l3 := lat_cell t3
        have l4 := lat_cell t4
        have l5 := lat_cell t5
        have l6 := lat_cell t6
        have l7 := lat_cell t7
        have l8 := lat_cell t8
        clear t0 t1 t2 t3 t4 t5 t6 t7 t8 hT'
        simp only [idle]
        iterate 15 (first
          | go_big_quiet_step (fail)
          | go_big_quiet_step ((refine (hA (lat X _)).mono ?_; rintro e w'' ⟨rfl, hb''⟩; exact ⟨rfl, lat_to hb''⟩)))
        refine wpQuiet_nil ?_
        exact rfl
      case hG =>
        rintro _ rfl
        exact ⟨_, _, _, _, rfl, rfl⟩
      case hQ =>
      rintro _ w4 bA cs rfl hbq hltq ⟨k4, m4, t4, hu4, rfl⟩ hh4
      obtain ⟨rfl, rfl, rfl⟩ : 3 = k4 ∧ 1 = m4 ∧ ⟨#[]⟩ = t4 := by simpa [Act.eval] using hu4
      clear hu4 hltq
      have vA : ValAt w4 bA 3 1 ⟨#[]⟩ := hh4
      clear hh4
      replace hT := hT.later hbq
      replace hB := hB.trans (hbq.mono hB.size)
      clear hbq
      simp only [Act.put, List.setIfInBounds_toArray, List.set_cons_zero, List.set_cons_succ]
      go_wp2_with fail
      refine' region_float (Qf := fun a' => a' = _) 12 13 10 8 54 rfl rfl (by kernel_rfl) (by kernel_rfl) (by kernel_rfl) (by simp) (fun A w => alloc_val A w _ _ _ _ _) (fun A w b cs hp hg hh => store_val A w b cs _ _ _ _ _ _ _ hp hg hh) ?hG ?hW ?hQ
      case hW =>
        intro X hX
        have hT' := hT.later hX
        obtain ⟨⟨t0, t1, t2⟩, ⟨t3, t4, t5⟩, ⟨t6, t7, t8⟩⟩ := hT'.cells
        have l0 := lat_cell t0
        have l1 := lat_cell t1
        have l2 := lat_cell t2
        have l3 := lat_cell t3
        have l4 := lat_cell t4
        have l5 := lat_cell t5
        have l6 := lat_cell t6
        have l7 := lat_cell t7
        have l8 := lat_cell t8
        clear t0 t1 t2 t3 t4 t5 t6 t7 t8 hT'
        simp only [idle]
        iterate 15 (first
          | go_big_quiet_step (fail)
          | go_big_quiet_step ((refine (hO (lat X _)).mono ?_; rintro e w'' ⟨rfl, hb''⟩; exact ⟨rfl, lat_to hb''⟩)))
        refine wpQuiet_nil ?_
        exact rfl
      case hG =>
        rintro _ rfl
        exact ⟨_, _, _, _, rfl, rfl⟩
      case hQ =>
      rintro _ w5 bO cs rfl hbq hltq ⟨k4, m4, t4, hu4, rfl⟩ hh4
      obtain ⟨rfl, rfl, rfl⟩ : 3 = k4 ∧ 1 = m4 ∧ ⟨#[]⟩ = t4 := by simpa [Act.eval] using hu4
      clear hu4 hltq
      have vO : ValAt w5 bO 3 1 ⟨#[]⟩ := hh4
      clear hh4
      replace hT := hT.later hbq
      replace vA := vA.later hbq
      replace hB := hB.trans (hbq.mono hB.size)
      clear hbq
      simp only [Act.put, List.setIfInBounds_toArray, List.set_cons_zero, List.set_cons_succ]
      obtain ⟨⟨t0, t1, t2⟩, ⟨t3, t4, t5⟩, ⟨t6, t7, t8⟩⟩ := hT.cells
      go_wp2_with fail
      refine (hX _).mono ?_
      rintro e w6 ⟨rfl, hbq⟩
      replace hT := hT.later hbq
      replace vA := vA.later hbq
      replace vO := vO.later hbq
      replace hB := hB.trans (hbq.mono hB.size)
      clear hbq
      have vX : ValAt (w6.alloc (.cells #[.int .i64 3, .int .i64 0, .string ⟨#[]⟩] 27)) w6.heap.size 3 0 ⟨#[]⟩ := heap_alloc_new w6 _
      have hbq : Below w6.heap.size w6 (w6.alloc (.cells #[.int .i64 3, .int .i64 0, .string ⟨#[]⟩] 27)) := (Below.refl _ _).alloc (Nat.le_refl _) _
      replace hT := hT.later hbq
      replace vA := vA.later hbq
      replace vO := vO.later hbq
      replace hB := hB.trans (hbq.mono hB.size)
      clear hbq
      obtain ⟨⟨t0, t1, t2⟩, ⟨t3, t4, t5⟩, ⟨t6, t7, t8⟩⟩ := hT.cells
      go_wp2_with fail
      generalize w6.alloc (.cells #[.int .i64 3, .int .i64 0, .string ⟨#[]⟩] 27) = w7 at *
      generalize w6.heap.size = bX at *
      refine (hY _).mono ?_
      rintro e w8 ⟨rfl, hbq⟩
      replace hT := hT.later hbq
      replace vA := vA.later hbq
      replace vO := vO.later hbq
      replace vX := vX.later hbq
      replace hB := hB.trans (hbq.mono hB.size)
      clear hbq
      have vY : ValAt (w8.alloc (.cells #[.int .i64 3, .int .i64 0, .string ⟨#[]⟩] 27)) w8.heap.size 3 0 ⟨#[]⟩ := heap_alloc_new w8 _
      have hbq : Below w8.heap.size w8 (w8.alloc (.cells #[.int .i64 3, .int .i64 0, .string ⟨#[]⟩] 27)) := (Below.refl _ _).alloc (Nat.le_refl _) _
      replace hT := hT.later hbq
      replace vA := vA.later hbq
      replace vO := vO.later hbq
      replace vX := vX.later hbq
      replace hB := hB.trans (hbq.mono hB.size)
      clear hbq
      obtain ⟨a0, a1, a2⟩ := vA.cells
      go_wp2_with fail
      generalize w8.alloc (.cells #[.int .i64 3, .int .i64 0, .string ⟨#[]⟩] 27) = w9 at *
      generalize w8.heap.size = bY at *
      refine (hN _).mono ?_
      rintro e w10 ⟨rfl, hbq⟩
      replace hT := hT.later hbq
      replace vA := vA.later hbq
      replace vO := vO.later hbq
      replace vX := vX.later hbq
      replace vY := vY.later hbq
      replace hB := hB.trans (hbq.mono hB.size)
      clear hbq
      have vN : ValAt (w10.alloc (.cells #[.int .i64 3, .int .i64 0, .string ⟨#[]⟩] 27)) w10.heap.size 3 0 ⟨#[]⟩ := heap_alloc_new w10 _
      have hbq : Below w10.heap.size w10 (w10.alloc (.cells #[.int .i64 3, .int .i64 0, .string ⟨#[]⟩] 27)) := (Below.refl _ _).alloc (Nat.le_refl _) _
      replace hT := hT.later hbq
      replace vA := vA.later hbq
      replace vO := vO.later hbq
      replace vX := vX.later hbq
      replace vY := vY.later hbq
      replace hB := hB.trans (hbq.mono hB.size)
      clear hbq
      obtain ⟨a0, a1, a2⟩ := vX.cells
      obtain ⟨b0, b1, b2⟩ := vY.cells
      go_wp2_with fail
      generalize w10.alloc (.cells #[.int .i64 3, .int .i64 0, .string ⟨#[]⟩] 27) = w11 at *
      generalize w10.heap.size = bN at *
      refine (hR _).mono ?_
      rintro e w12 ⟨rfl, hbq⟩
      replace hT := hT.later hbq
      replace vA := vA.later hbq
      replace vO := vO.later hbq
      replace vX := vX.later hbq
      replace vY := vY.later hbq
      replace vN := vN.later hbq
      replace hB := hB.trans (hbq.mono hB.size)
      clear hbq
      have vF : ValAt (w12.alloc (.cells #[.int .i64 3, .int .i64 0, .string ⟨#[]⟩] 27)) w12.heap.size 3 0 ⟨#[]⟩ := heap_alloc_new w12 _
      have hbq : Below w12.heap.size w12 (w12.alloc (.cells #[.int .i64 3, .int .i64 0, .string ⟨#[]⟩] 27)) := (Below.refl _ _).alloc (Nat.le_refl _) _
      replace hT := hT.later hbq
      replace vA := vA.later hbq
      replace vO := vO.later hbq
      replace vX := vX.later hbq
      replace vY := vY.later hbq
      replace vN := vN.later hbq
      replace hB := hB.trans (hbq.mono hB.size)
      clear hbq
      go_wp2_with fail
      generalize w12.alloc (.cells #[.int .i64 3, .int .i64 0, .string ⟨#[]⟩] 27) = w13 at *
      generalize w12.heap.size = bF at *
      clear vY
      obtain ⟨⟨t0, t1, t2⟩, ⟨t3, t4, t5⟩, ⟨t6, t7, t8⟩⟩ := hT.cells
      have l0 := lat_cell t0
      have l1 := lat_cell t1
      have l2 := lat_cell t2
      have l3 := lat_cell t3
      have l4 := lat_cell t4
      have l5 := lat_cell t5
      have l6 := lat_cell t6
      have l7 := lat_cell t7
      have l8 := lat_cell t8
      obtain ⟨p0, p1, p2⟩ := vA.cells
      have mp0 := lat_cell p0
      have mp1 := lat_cell p1
      have mp2 := lat_cell p2
      obtain ⟨q0, q1, q2⟩ := vO.cells
      have mq0 := lat_cell q0
      have mq1 := lat_cell q1
      have mq2 := lat_cell q2
      obtain ⟨r0, r1, r2⟩ := vX.cells
      have mr0 := lat_cell r0
      have mr1 := lat_cell r1
      have mr2 := lat_cell r2
      obtain ⟨s0, s1, s2⟩ := vN.cells
      have ms0 := lat_cell s0
      have ms1 := lat_cell s1
      have ms2 := lat_cell s2
      obtain ⟨u0, u1, u2⟩ := vF.cells
      have mu0 := lat_cell u0
      have mu1 := lat_cell u1
      have mu2 := lat_cell u2
      refine region_lat (by kernel_rfl) (by kernel_rfl) ?_
      iterate 55 (first
        | go_big_quiet_step (fail)
        | go_big_quiet_step ((refine (hJ (lat w13 _)).mono ?_; rintro e w'' ⟨rfl, hb''⟩; exact ⟨rfl, lat_to hb''⟩)))
      refine wpQuiet_nil ?_
      rintro _ ⟨nq, rfl⟩
      have hbb := hB.trans ((lat_below w13 nq).mono hB.size)
      go_wp2_with fail
      go_ret
      exact ⟨rfl, hbb⟩
end Go.Proofs.Ytjekhgekldkopaa
