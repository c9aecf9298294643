/- Joined texts: Big Compare. -/
import Derived.Test.YtjekhgekldkopaaQN
import Derived.Test.YtjekhgekldkopaaQJ
import Derived.Test.YtjekhgekldkopaaQK
import Derived.Test.YtjekhgekldkopaaQM
/- The contract of big; the end of a law. -/
namespace Go.Proofs.Ytjekhgekldkopaa
open Go.RowKit

theorem big_yes (a : Option Addr) (len cap : Nat) (w : World) (hl : len ≤ 9223372036854775807) (h : 1048576 < len) :
    Calls Try.prog 15 #[.slice a len cap] w fun e w' => e = .returned (.bool true) ∧ w = w' := by
  have hd : decide (1048576 < (len : Int)) = true := by simp; omega
  go_enter Try.func15, Try.ntmps15
  go_wp2
  go_ret
  exact ⟨rfl, rfl⟩
theorem big_no (a : Option Addr) (len cap : Nat) (w : World) (h : ¬ 1048576 < len) :
    Calls Try.prog 15 #[.slice a len cap] w fun e w' => e = .returned (.bool false) ∧ w = w' := by
  have hd : decide (1048576 < (len : Int)) = false := by simp; omega
  go_enter Try.func15, Try.ntmps15
  go_wp2
  go_ret
  exact ⟨rfl, rfl⟩

/-- a law's end: true, and nothing that was there has turned -/
def LawE (w : World) (e : Ending) (w' : World) : Prop := e = .returned (.bool true) ∧ Below w.heap.size w w'
end Go.Proofs.Ytjekhgekldkopaa

/- The walk of the law on comparisons. -/
namespace Go.Proofs.Ytjekhgekldkopaa
open Go.RowKit

/-- what the six comparisons give: k, and the numbers by the order -/
def resN (_ : Nat) : Int × Int × ByteArray := (0, 0, ⟨#[]⟩)
def resV (x : Int) (j : Nat) : Int × Int × ByteArray := (3, if holdsB (3 + (j : Int)) x then 1 else 0, ⟨#[]⟩)
def lst (res : Nat → Int × Int × ByteArray) (j : Nat) : List (Int × Int × ByteArray) := (List.range j).map res
theorem lst_succ (res : Nat → Int × Int × ByteArray) (j : Nat) : lst res (j + 1) = lst res j ++ [res j] := by simp [lst, List.range_succ]
theorem lst_len (res : Nat → Int × Int × ByteArray) (j : Nat) : (lst res j).length = j := by simp [lst]
theorem six_cells {w : World} {g cap B : Nat} {res : Nat → Int × Int × ByteArray} (h : OwnVl w B (.slice (some ⟨g, 0, none⟩) 6 cap) (lst res 6)) :
    (w.cell? ⟨g, 0, none⟩ = some (.int .i64 (res 0).1) ∧ w.cell? ⟨g, 1, none⟩ = some (.int .i64 (res 0).2.1) ∧ w.cell? ⟨g, 2, none⟩ = some (.string (res 0).2.2)) ∧
    (w.cell? ⟨g, 3, none⟩ = some (.int .i64 (res 1).1) ∧ w.cell? ⟨g, 4, none⟩ = some (.int .i64 (res 1).2.1) ∧ w.cell? ⟨g, 5, none⟩ = some (.string (res 1).2.2)) ∧
    (w.cell? ⟨g, 6, none⟩ = some (.int .i64 (res 2).1) ∧ w.cell? ⟨g, 7, none⟩ = some (.int .i64 (res 2).2.1) ∧ w.cell? ⟨g, 8, none⟩ = some (.string (res 2).2.2)) ∧
    (w.cell? ⟨g, 9, none⟩ = some (.int .i64 (res 3).1) ∧ w.cell? ⟨g, 10, none⟩ = some (.int .i64 (res 3).2.1) ∧ w.cell? ⟨g, 11, none⟩ = some (.string (res 3).2.2)) ∧
    (w.cell? ⟨g, 12, none⟩ = some (.int .i64 (res 4).1) ∧ w.cell? ⟨g, 13, none⟩ = some (.int .i64 (res 4).2.1) ∧ w.cell? ⟨g, 14, none⟩ = some (.string (res 4).2.2)) ∧
    (w.cell? ⟨g, 15, none⟩ = some (.int .i64 (res 5).1) ∧ w.cell? ⟨g, 16, none⟩ = some (.int .i64 (res 5).2.1) ∧ w.cell? ⟨g, 17, none⟩ = some (.string (res 5).2.2)) := by
  have h6 : (lst res 6).length = 6 := lst_len _ _
  have c := fun j (hj : j < 18) => World.ownsRow.cellAt (w := w) (base := B) (e := 27) (size := 3) (g := g) (n := 6) (cap := cap) (xs := vlsCells (lst res 6)) (by have := h; unfold OwnVl at this; rw [h6] at this; exact this) j (by omega)
  exact ⟨⟨c 0 (by omega), c 1 (by omega), c 2 (by omega)⟩, ⟨c 3 (by omega), c 4 (by omega), c 5 (by omega)⟩, ⟨c 6 (by omega), c 7 (by omega), c 8 (by omega)⟩, ⟨c 9 (by omega), c 10 (by omega), c 11 (by omega)⟩, ⟨c 12 (by omega), c 13 (by omega), c 14 (by omega)⟩, ⟨c 15 (by omega), c 16 (by omega), c 17 (by omega)⟩⟩
theorem OwnVl.below {w w' : World} {B : Nat} {v : Value} {L : List (Int × Int × ByteArray)} (h : OwnVl w B v L) (g : Below w.heap.size w w') : OwnVl w' B v L := by
  refine ⟨h.1, h.2.imp id fun ⟨q, cap, cur, h1, h2, h3, h4⟩ => ⟨q, cap, cur, h1, h2, (g.block q (Array.getElem?_eq_some_iff.1 h3).1).trans h3, h4⟩⟩
/-- two values of one comparison -/
theorem cmp_cases (k n : Int) (t : ByteArray) (k' n' : Int) (t' : ByteArray) :
    (∀ op : Int, 3 ≤ op → op ≤ 8 → calcC op k n t k' n' t' = errC 1) ∨
    ((k = 0 ∨ k' = 0) ∧ ∀ op : Int, 3 ≤ op → op ≤ 8 → calcC op k n t k' n' t' = nullC) ∨
    (¬ k = 0 ∧ ¬ k' = 0 ∧ ∃ x, (x = -1 ∨ x = 0 ∨ x = 1) ∧ ∀ op : Int, 3 ≤ op → op ≤ 8 → calcC op k n t k' n' t' = boolC (holdsB op x)) := by
  have hf : ∀ op : Int, 3 ≤ op → op ≤ 8 → fitsOp op k k' = ((k == k') || ((k == 0) || (k' == 0))) := fun op h3 h8 => by unfold fitsOp; rw [if_neg (by omega), if_pos h8]
  cases hva : valOk k n t.data.toList
  · exact .inl fun op _ _ => calc_bad (.inr (.inl hva))
  cases hvb : valOk k' n' t'.data.toList
  · exact .inl fun op _ _ => calc_bad (.inr (.inr (.inl hvb)))
  cases hk : ((k == k') || ((k == 0) || (k' == 0)))
  · exact .inl fun op h3 h8 => calc_bad (.inr (.inr (.inr (by rw [hf op h3 h8, hk]))))
  cases hz : ((k == 0) || (k' == 0))
  · refine .inr (.inr ?_)
    have hz2 := hz
    rw [Bool.or_eq_false_iff] at hz2
    refine ⟨by simpa using hz2.1, by simpa using hz2.2, _, ordV_range (k, n, t.data.toList) (k', n', t'.data.toList), fun op h3 h8 => ?_⟩
    rw [calc_good (by omega) (by omega) hva hvb (by rw [hf op h3 h8, hk]), if_neg (by omega), hz, if_neg (by decide), if_pos h8]
  · refine .inr (.inl ⟨?_, fun op h3 h8 => ?_⟩)
    · rw [Bool.or_eq_true] at hz
      rcases hz with h | h
      · exact .inl (by simpa using h)
      · exact .inr (by simpa using h)
    · rw [calc_good (by omega) (by omega) hva hvb (by rw [hf op h3 h8, hk]), if_neg (by omega), hz, if_pos rfl]
set_option maxRecDepth 100000 in
set_option maxHeartbeats 16000000 in
theorem compare_law (a : Option Addr) (len cap : Nat) (w : World) (hrow : RowB w.heap.size a len w) :
    Calls Try.prog 5 #[.slice a len cap] w (BoolE true w) := by
  have hlen := hrow.1
  by_cases hbig : 1048576 < len
  · go_enter Try.func5, Try.ntmps5
    go_wp2_with fail
    refine (big_yes a len cap _ hlen hbig).mono ?_
    rintro e w' ⟨rfl, rfl⟩
    go_wp2_with fail
    go_ret
    exact ⟨rfl, Below.refl _ _⟩
  · go_enter Try.func5, Try.ntmps5
    go_wp2_with fail
    refine (big_no a len cap _ hbig).mono ?_
    rintro e w' ⟨rfl, rfl⟩
    go_wp2_with fail
    refine (drawCalc_any w.heap.size a len cap _ hrow (Nat.le_refl _)).mono ?_
    rintro e V ⟨op, k, n, t, k', n', t', hna, hnb, rfl, hb1⟩
    clear hbig hlen hrow
    have hI := fun (op : Int) w => calc_impl op k n t k' n' t' w (by have := hna.1; omega) (by have := hnb.1; omega) hna.2.1 hna.2.2 hnb.2.1 hnb.2.2
    have hS := fun (op : Int) w => calc_spec op k n t k' n' t' w (by have := hna.1; omega) (by have := hnb.1; omega) hna.2.1 hna.2.2 hnb.2.1 hnb.2.2
    clear hna hnb
    have rA : ValAt ((V.alloc (.cells #[.int .i64 k, .int .i64 n, .string t] 27)).alloc (.cells #[.int .i64 k', .int .i64 n', .string t'] 27)) V.heap.size k n t := (Below.heap_alloc _ _ _ (by simp)).trans (heap_alloc_new V _)
    have rB : ValAt ((V.alloc (.cells #[.int .i64 k, .int .i64 n, .string t] 27)).alloc (.cells #[.int .i64 k', .int .i64 n', .string t'] 27)) (V.heap.size + 1) k' n' t' := val_new V _ _ _ _
    have hz2 : ((V.alloc (.cells #[.int .i64 k, .int .i64 n, .string t] 27)).alloc (.cells #[.int .i64 k', .int .i64 n', .string t'] 27)).heap.size = V.heap.size + 2 := by simp
    replace hb1 := (hb1.alloc hb1.size (.cells #[.int .i64 k, .int .i64 n, .string t] 27)).alloc (by have := hb1.size; simp; omega) (.cells #[.int .i64 k', .int .i64 n', .string t'] 27)
    go_wp2_with fail
    generalize (V.alloc (.cells #[.int .i64 k, .int .i64 n, .string t] 27)).alloc (.cells #[.int .i64 k', .int .i64 n', .string t'] 27) = V2 at rA rB hz2 hb1 ⊢
    generalize V.heap.size = PA at rA rB hz2 ⊢
    have hown : OwnVl (V2.alloc (.cells #[] 27)) (PA + 2) (.slice (some ⟨PA + 2, 0, none⟩) 0 0) (lst resN 0) := by
      have h : OwnVl (V2.alloc (.cells #[] 27)) (PA + 2) (.slice (some ⟨V2.heap.size, 0, none⟩) 0 0) (lst resN 0) := World.ownsRow_lit V2 #[] 0 (by omega) (by decide) (by rfl)
      rw [hz2] at h
      exact h
    have hbo : Below (PA + 2) V2 (V2.alloc (.cells #[] 27)) := (Below.refl _ _).alloc (by omega) _
    rcases cmp_cases k n t k' n' t' with hE | ⟨hk0, hN⟩ | ⟨hk0, hk0', x, hx, hV⟩
    · have hq1 : ∀ w, Calls Try.prog 17 #[.int .i64 3, .agg #[.int .i64 k, .int .i64 n, .string t], .agg #[.int .i64 k', .int .i64 n', .string t']] w (CalcE (errC 1) w) := fun w => by have h := hI 3 w; rw [hE 3 (by decide) (by decide)] at h; exact h
      have hq2 : ∀ w, Calls Try.prog 19 #[.int .i64 3, .agg #[.int .i64 k, .int .i64 n, .string t], .agg #[.int .i64 k', .int .i64 n', .string t']] w (CalcE (errC 1) w) := fun w => by have h := hS 3 w; rw [hE 3 (by decide) (by decide)] at h; exact h
      clear hI hS hE
      unfold errC at hq1 hq2
      go_wp2_with fail
      go_loopw [6, 7] (fun c x wr => x = .int .i64 3 ∧ Below (PA + 2) V2 wr) (fun _ x _ => 9 - (intOf x).toNat)
      case atStart => exact ⟨rfl, hbo⟩
      case round =>
        obtain ⟨rfl, hbo⟩ := hrel
        have rA2 : ValAt wr PA k n t := (hbo.block _ (by omega)).trans rA
        have rB2 : ValAt wr (PA + 1) k' n' t' := (hbo.block _ (by omega)).trans rB
        obtain ⟨ca0, ca1, ca2⟩ := rA2.cells
        obtain ⟨cb0, cb1, cb2⟩ := rB2.cells
        have hzr := hbo.size
        go_wp2_with fail
        refine (hq1 _).mono ?_
        rintro e w1 ⟨rfl, hn1⟩
        replace hbo := hbo.trans (hn1.mono (by omega))
        replace rA2 : ValAt w1 PA k n t := (hn1.block _ (Array.getElem?_eq_some_iff.1 rA2).1).trans rA2
        replace rB2 : ValAt w1 (PA + 1) k' n' t' := (hn1.block _ (Array.getElem?_eq_some_iff.1 rB2).1).trans rB2
        clear ca0 ca1 ca2 cb0 cb1 cb2 hn1
        have hn1 : Below w1.heap.size w1 (w1.alloc (.cells #[.int .i64 0, .int .i64 0, .string ⟨#[]⟩] 27)) := (Below.refl _ _).alloc (Nat.le_refl _) _
        replace hbo := hbo.trans (hn1.mono (by have := hbo.size; omega))
        replace rA2 : ValAt (w1.alloc (.cells #[.int .i64 0, .int .i64 0, .string ⟨#[]⟩] 27)) PA k n t := (hn1.block _ (Array.getElem?_eq_some_iff.1 rA2).1).trans rA2
        replace rB2 : ValAt (w1.alloc (.cells #[.int .i64 0, .int .i64 0, .string ⟨#[]⟩] 27)) (PA + 1) k' n' t' := (hn1.block _ (Array.getElem?_eq_some_iff.1 rB2).1).trans rB2
        obtain ⟨ca0, ca1, ca2⟩ := rA2.cells
        obtain ⟨cb0, cb1, cb2⟩ := rB2.cells
        go_wp2_with fail
        generalize w1.alloc (.cells #[.int .i64 0, .int .i64 0, .string ⟨#[]⟩] 27) = w2 at hbo rA2 rB2 ca0 ca1 ca2 cb0 cb1 cb2 ⊢
        clear hn1
        refine (hq2 _).mono ?_
        rintro e w3 ⟨rfl, hn1⟩
        replace hbo := hbo.trans (hn1.mono (by have := hbo.size; omega))
        have hbb := hb1.trans ((hbo.alloc (by have := hbo.size; omega) (.cells #[.int .i64 0, .int .i64 0, .string ⟨#[]⟩] 27)).mono (by have := hb1.size; omega))
        clear ca0 ca1 ca2 cb0 cb1 cb2 hn1 rA2 rB2 hq1 hq2
        go_wp2_with fail
        go_ret
        exact ⟨rfl, hbb⟩
    · have hqI : ∀ j : Nat, j < 6 → ∀ w, Calls Try.prog 17 #[.int .i64 (3 + (j : Int)), .agg #[.int .i64 k, .int .i64 n, .string t], .agg #[.int .i64 k', .int .i64 n', .string t']] w (CalcE ⟨((resN) j).1, ((resN) j).2.1, ((resN) j).2.2, 0⟩ w) := fun j hj w => by have h := hI (3 + (j : Int)) w; rw [hN (3 + (j : Int)) (by omega) (by omega)] at h; exact h
      have hqS : ∀ j : Nat, j < 6 → ∀ w, Calls Try.prog 19 #[.int .i64 (3 + (j : Int)), .agg #[.int .i64 k, .int .i64 n, .string t], .agg #[.int .i64 k', .int .i64 n', .string t']] w (CalcE ⟨((resN) j).1, ((resN) j).2.1, ((resN) j).2.2, 0⟩ w) := fun j hj w => by have h := hS (3 + (j : Int)) w; rw [hN (3 + (j : Int)) (by omega) (by omega)] at h; exact h
      clear hI hS hN
      go_wp2_with fail
      go_loopw [6, 7] (fun c x wr => ∃ j : Nat, j ≤ 6 ∧ x = .int .i64 (3 + (j : Int)) ∧ (∃ (ad : Addr) (cp : Nat), c = .slice (some ad) j cp) ∧ OwnVl wr (PA + 2) c (lst (resN) j) ∧ Below (PA + 2) V2 wr) (fun _ x _ => 9 - (intOf x).toNat)
      case atStart => exact ⟨0, by omega, rfl, ⟨_, _, rfl⟩, hown, hbo⟩
      case round =>
        obtain ⟨j, hj, rfl, ⟨ad, cp, rfl⟩, hown, hbo⟩ := hrel
        have rA2 : ValAt wr PA k n t := (hbo.block _ (by omega)).trans rA
        have rB2 : ValAt wr (PA + 1) k' n' t' := (hbo.block _ (by omega)).trans rB
        obtain ⟨ca0, ca1, ca2⟩ := rA2.cells
        obtain ⟨cb0, cb1, cb2⟩ := rB2.cells
        by_cases hlt : j < 6
        · have d6 : decide (3 + (j : Int) ≤ 8) = true := by simp; omega
          have hq1 := hqI j hlt
          have hq2 := hqS j hlt
          have hzr := hbo.size
          go_wp2_with fail
          refine (hq1 _).mono ?_
          rintro e w1 ⟨rfl, hn1⟩
          replace hbo := hbo.trans (hn1.mono (by omega))
          replace rA2 : ValAt w1 PA k n t := (hn1.block _ (Array.getElem?_eq_some_iff.1 rA2).1).trans rA2
          replace rB2 : ValAt w1 (PA + 1) k' n' t' := (hn1.block _ (Array.getElem?_eq_some_iff.1 rB2).1).trans rB2
          replace hown := OwnVl.below hown hn1
          clear ca0 ca1 ca2 cb0 cb1 cb2 hn1
          have r8 : ValAt (w1.alloc (.cells #[.int .i64 ((resN) j).1, .int .i64 ((resN) j).2.1, .string ((resN) j).2.2] 27)) w1.heap.size ((resN) j).1 ((resN) j).2.1 ((resN) j).2.2 := heap_alloc_new w1 _
          have hn1 : Below w1.heap.size w1 (w1.alloc (.cells #[.int .i64 ((resN) j).1, .int .i64 ((resN) j).2.1, .string ((resN) j).2.2] 27)) := (Below.refl _ _).alloc (Nat.le_refl _) _
          replace hbo := hbo.trans (hn1.mono (by have := hbo.size; omega))
          replace rA2 : ValAt (w1.alloc (.cells #[.int .i64 ((resN) j).1, .int .i64 ((resN) j).2.1, .string ((resN) j).2.2] 27)) PA k n t := (hn1.block _ (Array.getElem?_eq_some_iff.1 rA2).1).trans rA2
          replace rB2 : ValAt (w1.alloc (.cells #[.int .i64 ((resN) j).1, .int .i64 ((resN) j).2.1, .string ((resN) j).2.2] 27)) (PA + 1) k' n' t' := (hn1.block _ (Array.getElem?_eq_some_iff.1 rB2).1).trans rB2
          replace hown := OwnVl.below hown hn1
          obtain ⟨ca0, ca1, ca2⟩ := rA2.cells
          obtain ⟨cb0, cb1, cb2⟩ := rB2.cells
          go_wp2_with fail
          generalize w1.alloc (.cells #[.int .i64 ((resN) j).1, .int .i64 ((resN) j).2.1, .string ((resN) j).2.2] 27) = w2 at r8 hbo rA2 rB2 hown ca0 ca1 ca2 cb0 cb1 cb2 ⊢
          generalize w1.heap.size = R8 at r8 ⊢
          clear hn1
          refine (hq2 _).mono ?_
          rintro e w3 ⟨rfl, hn1⟩
          replace hbo := hbo.trans (hn1.mono (by have := hbo.size; omega))
          replace r8 : ValAt w3 R8 ((resN) j).1 ((resN) j).2.1 ((resN) j).2.2 := (hn1.block _ (Array.getElem?_eq_some_iff.1 r8).1).trans r8
          replace hown := OwnVl.below hown hn1
          clear ca0 ca1 ca2 cb0 cb1 cb2 hn1 rA2 rB2 hq1 hq2
          have hn1 : Below w3.heap.size w3 (w3.alloc (.cells #[.int .i64 ((resN) j).1, .int .i64 ((resN) j).2.1, .string ((resN) j).2.2] 27)) := (Below.refl _ _).alloc (Nat.le_refl _) _
          replace hbo := hbo.trans (hn1.mono (by have := hbo.size; omega))
          replace r8 : ValAt (w3.alloc (.cells #[.int .i64 ((resN) j).1, .int .i64 ((resN) j).2.1, .string ((resN) j).2.2] 27)) R8 ((resN) j).1 ((resN) j).2.1 ((resN) j).2.2 := (hn1.block _ (Array.getElem?_eq_some_iff.1 r8).1).trans r8
          replace hown := OwnVl.below hown hn1
          obtain ⟨c80, c81, c82⟩ := r8.cells
          have hz4 : V2.heap.size ≤ (w3.alloc (.cells #[.int .i64 ((resN) j).1, .int .i64 ((resN) j).2.1, .string ((resN) j).2.2] 27)).heap.size := hbo.size
          clear hn1
          go_wp2_with (at_builtin; refine appVl rfl (.tmp 47) (.tmp 49) rfl (PA + 2) (.slice (some ad) j cp) (lst (resN) j) ((resN) j) (w3.alloc (.cells #[.int .i64 ((resN) j).1, .int .i64 ((resN) j).2.1, .string ((resN) j).2.2] 27)) (w3.heap.size + 1) (by simp) rfl rfl hown (by rw [lst_len]; omega) (by omega) ?_; intro g3 c3 w5 hown5 hbel5 _)
          have hbo5 := hbo.trans hbel5
          rw [lst_len] at hown5 ⊢
          rw [← lst_succ] at hown5
          clear hown hbo hbel5 c80 c81 c82 r8
          go_wp2_with fail
          go_roundw
          case rel => exact ⟨j + 1, by omega, by go_num, ⟨_, _, rfl⟩, hown5, hbo5⟩
          case measure => simp [intOf]; omega
        · obtain rfl : j = 6 := by omega
          clear hlt hj ca0 ca1 ca2 cb0 cb1 cb2
          obtain ⟨g6, rfl⟩ : ∃ g6, ad = ⟨g6, 0, none⟩ := by
            rcases hown.2 with ⟨h1, _⟩ | ⟨g6, cp6, cur, h1, _⟩
            · cases h1
            · exact ⟨g6, by injection h1 with h1; injection h1⟩
          obtain ⟨⟨u0, u1, u2⟩, ⟨u3, u4, u5⟩, ⟨u6, u7, u8⟩, ⟨u9, u10, u11⟩, ⟨u12, u13, u14⟩, ⟨u15, u16, u17⟩⟩ := six_cells hown
          have u0' : wr.cell? ⟨g6, 0, none⟩ = some (.int .i64 0) := u0
          have u1' : wr.cell? ⟨g6, 1, none⟩ = some (.int .i64 (0)) := u1
          have u3' : wr.cell? ⟨g6, 3, none⟩ = some (.int .i64 0) := u3
          have u4' : wr.cell? ⟨g6, 4, none⟩ = some (.int .i64 (0)) := u4
          have u6' : wr.cell? ⟨g6, 6, none⟩ = some (.int .i64 0) := u6
          have u7' : wr.cell? ⟨g6, 7, none⟩ = some (.int .i64 (0)) := u7
          have u9' : wr.cell? ⟨g6, 9, none⟩ = some (.int .i64 0) := u9
          have u10' : wr.cell? ⟨g6, 10, none⟩ = some (.int .i64 (0)) := u10
          have u12' : wr.cell? ⟨g6, 12, none⟩ = some (.int .i64 0) := u12
          have u13' : wr.cell? ⟨g6, 13, none⟩ = some (.int .i64 (0)) := u13
          have u15' : wr.cell? ⟨g6, 15, none⟩ = some (.int .i64 0) := u15
          have u16' : wr.cell? ⟨g6, 16, none⟩ = some (.int .i64 (0)) := u16
          clear u0 u1 u2 u3 u4 u5 u6 u7 u8 u9 u10 u11 u12 u13 u14 u15 u16 u17
          have rA6 : ValAt wr PA k n t := (hbo.block _ (by omega)).trans rA
          have rB6 : ValAt wr (PA + 1) k' n' t' := (hbo.block _ (by omega)).trans rB
          obtain ⟨ca0, ca1, ca2⟩ := rA6.cells
          obtain ⟨cb0, cb1, cb2⟩ := rB6.cells
          clear rA6 rB6 hown
          have hbb := hb1.trans (hbo.mono (by have := hb1.size; omega))
          go_wp2_with fail
          go_loopw [12, 13] (fun q i wr' => ∃ i0 : Nat, i0 ≤ 6 ∧ i = .int .i64 (i0 : Int) ∧ q = .int .i64 ((i0 : Int)) ∧ wr' = wr) (fun _ i _ => 6 - (intOf i).toNat)
          case atStart => exact ⟨0, by omega, rfl, rfl, rfl⟩
          case round =>
            obtain ⟨i0, hi0, rfl, rfl, rfl⟩ := hrel
            rcases (show i0 = 0 ∨ i0 = 1 ∨ i0 = 2 ∨ i0 = 3 ∨ i0 = 4 ∨ i0 = 5 ∨ i0 = 6 by omega) with rfl | rfl | rfl | rfl | rfl | rfl | rfl
            · go_wp2_with fail
              go_roundw
              case rel => exact ⟨1, by omega, by first | rfl | trivial, by first | rfl | trivial, by first | rfl | trivial⟩
              case measure => simp [intOf]
            · go_wp2_with fail
              go_roundw
              case rel => exact ⟨2, by omega, by first | rfl | trivial, by first | rfl | trivial, by first | rfl | trivial⟩
              case measure => simp [intOf]
            · go_wp2_with fail
              go_roundw
              case rel => exact ⟨3, by omega, by first | rfl | trivial, by first | rfl | trivial, by first | rfl | trivial⟩
              case measure => simp [intOf]
            · go_wp2_with fail
              go_roundw
              case rel => exact ⟨4, by omega, by first | rfl | trivial, by first | rfl | trivial, by first | rfl | trivial⟩
              case measure => simp [intOf]
            · go_wp2_with fail
              go_roundw
              case rel => exact ⟨5, by omega, by first | rfl | trivial, by first | rfl | trivial, by first | rfl | trivial⟩
              case measure => simp [intOf]
            · go_wp2_with fail
              go_roundw
              case rel => exact ⟨6, by omega, by first | rfl | trivial, by first | rfl | trivial, by first | rfl | trivial⟩
              case measure => simp [intOf]
            · rcases hk0 with hk0 | hk0
              · go_wp2_with fail
                go_ret
                exact ⟨rfl, hbb⟩
              · by_cases hka : k = 0
                · go_wp2_with fail
                  go_ret
                  exact ⟨rfl, hbb⟩
                · have qka : (k == 0) = false := by simpa using hka
                  clear hka
                  go_wp2_with fail
                  go_ret
                  exact ⟨rfl, hbb⟩
    · replace hown : OwnVl (V2.alloc (.cells #[] 27)) (PA + 2) (.slice (some ⟨PA + 2, 0, none⟩) 0 0) (lst (resV x) 0) := hown
      rcases hx with rfl | rfl | rfl
      · have hqI : ∀ j : Nat, j < 6 → ∀ w, Calls Try.prog 17 #[.int .i64 (3 + (j : Int)), .agg #[.int .i64 k, .int .i64 n, .string t], .agg #[.int .i64 k', .int .i64 n', .string t']] w (CalcE ⟨((resV (-1)) j).1, ((resV (-1)) j).2.1, ((resV (-1)) j).2.2, 0⟩ w) := fun j hj w => by have h := hI (3 + (j : Int)) w; rw [hV (3 + (j : Int)) (by omega) (by omega)] at h; exact h
        have hqS : ∀ j : Nat, j < 6 → ∀ w, Calls Try.prog 19 #[.int .i64 (3 + (j : Int)), .agg #[.int .i64 k, .int .i64 n, .string t], .agg #[.int .i64 k', .int .i64 n', .string t']] w (CalcE ⟨((resV (-1)) j).1, ((resV (-1)) j).2.1, ((resV (-1)) j).2.2, 0⟩ w) := fun j hj w => by have h := hS (3 + (j : Int)) w; rw [hV (3 + (j : Int)) (by omega) (by omega)] at h; exact h
        clear hI hS hV
        go_wp2_with fail
        go_loopw [6, 7] (fun c x wr => ∃ j : Nat, j ≤ 6 ∧ x = .int .i64 (3 + (j : Int)) ∧ (∃ (ad : Addr) (cp : Nat), c = .slice (some ad) j cp) ∧ OwnVl wr (PA + 2) c (lst (resV (-1)) j) ∧ Below (PA + 2) V2 wr) (fun _ x _ => 9 - (intOf x).toNat)
        case atStart => exact ⟨0, by omega, rfl, ⟨_, _, rfl⟩, hown, hbo⟩
        case round =>
          obtain ⟨j, hj, rfl, ⟨ad, cp, rfl⟩, hown, hbo⟩ := hrel
          have rA2 : ValAt wr PA k n t := (hbo.block _ (by omega)).trans rA
          have rB2 : ValAt wr (PA + 1) k' n' t' := (hbo.block _ (by omega)).trans rB
          obtain ⟨ca0, ca1, ca2⟩ := rA2.cells
          obtain ⟨cb0, cb1, cb2⟩ := rB2.cells
          by_cases hlt : j < 6
          · have d6 : decide (3 + (j : Int) ≤ 8) = true := by simp; omega
            have hq1 := hqI j hlt
            have hq2 := hqS j hlt
            have hzr := hbo.size
            go_wp2_with fail
            refine (hq1 _).mono ?_
            rintro e w1 ⟨rfl, hn1⟩
            replace hbo := hbo.trans (hn1.mono (by omega))
            replace rA2 : ValAt w1 PA k n t := (hn1.block _ (Array.getElem?_eq_some_iff.1 rA2).1).trans rA2
            replace rB2 : ValAt w1 (PA + 1) k' n' t' := (hn1.block _ (Array.getElem?_eq_some_iff.1 rB2).1).trans rB2
            replace hown := OwnVl.below hown hn1
            clear ca0 ca1 ca2 cb0 cb1 cb2 hn1
            have r8 : ValAt (w1.alloc (.cells #[.int .i64 ((resV (-1)) j).1, .int .i64 ((resV (-1)) j).2.1, .string ((resV (-1)) j).2.2] 27)) w1.heap.size ((resV (-1)) j).1 ((resV (-1)) j).2.1 ((resV (-1)) j).2.2 := heap_alloc_new w1 _
            have hn1 : Below w1.heap.size w1 (w1.alloc (.cells #[.int .i64 ((resV (-1)) j).1, .int .i64 ((resV (-1)) j).2.1, .string ((resV (-1)) j).2.2] 27)) := (Below.refl _ _).alloc (Nat.le_refl _) _
            replace hbo := hbo.trans (hn1.mono (by have := hbo.size; omega))
            replace rA2 : ValAt (w1.alloc (.cells #[.int .i64 ((resV (-1)) j).1, .int .i64 ((resV (-1)) j).2.1, .string ((resV (-1)) j).2.2] 27)) PA k n t := (hn1.block _ (Array.getElem?_eq_some_iff.1 rA2).1).trans rA2
            replace rB2 : ValAt (w1.alloc (.cells #[.int .i64 ((resV (-1)) j).1, .int .i64 ((resV (-1)) j).2.1, .string ((resV (-1)) j).2.2] 27)) (PA + 1) k' n' t' := (hn1.block _ (Array.getElem?_eq_some_iff.1 rB2).1).trans rB2
            replace hown := OwnVl.below hown hn1
            obtain ⟨ca0, ca1, ca2⟩ := rA2.cells
            obtain ⟨cb0, cb1, cb2⟩ := rB2.cells
            go_wp2_with fail
            generalize w1.alloc (.cells #[.int .i64 ((resV (-1)) j).1, .int .i64 ((resV (-1)) j).2.1, .string ((resV (-1)) j).2.2] 27) = w2 at r8 hbo rA2 rB2 hown ca0 ca1 ca2 cb0 cb1 cb2 ⊢
            generalize w1.heap.size = R8 at r8 ⊢
            clear hn1
            refine (hq2 _).mono ?_
            rintro e w3 ⟨rfl, hn1⟩
            replace hbo := hbo.trans (hn1.mono (by have := hbo.size; omega))
            replace r8 : ValAt w3 R8 ((resV (-1)) j).1 ((resV (-1)) j).2.1 ((resV (-1)) j).2.2 := (hn1.block _ (Array.getElem?_eq_some_iff.1 r8).1).trans r8
            replace hown := OwnVl.below hown hn1
            clear ca0 ca1 ca2 cb0 cb1 cb2 hn1 rA2 rB2 hq1 hq2
            have hn1 : Below w3.heap.size w3 (w3.alloc (.cells #[.int .i64 ((resV (-1)) j).1, .int .i64 ((resV (-1)) j).2.1, .string ((resV (-1)) j).2.2] 27)) := (Below.refl _ _).alloc (Nat.le_refl _) _
            replace hbo := hbo.trans (hn1.mono (by have := hbo.size; omega))
            replace r8 : ValAt (w3.alloc (.cells #[.int .i64 ((resV (-1)) j).1, .int .i64 ((resV (-1)) j).2.1, .string ((resV (-1)) j).2.2] 27)) R8 ((resV (-1)) j).1 ((resV (-1)) j).2.1 ((resV (-1)) j).2.2 := (hn1.block _ (Array.getElem?_eq_some_iff.1 r8).1).trans r8
            replace hown := OwnVl.below hown hn1
            obtain ⟨c80, c81, c82⟩ := r8.cells
            have hz4 : V2.heap.size ≤ (w3.alloc (.cells #[.int .i64 ((resV (-1)) j).1, .int .i64 ((resV (-1)) j).2.1, .string ((resV (-1)) j).2.2] 27)).heap.size := hbo.size
            clear hn1
            go_wp2_with (at_builtin; refine appVl rfl (.tmp 47) (.tmp 49) rfl (PA + 2) (.slice (some ad) j cp) (lst (resV (-1)) j) ((resV (-1)) j) (w3.alloc (.cells #[.int .i64 ((resV (-1)) j).1, .int .i64 ((resV (-1)) j).2.1, .string ((resV (-1)) j).2.2] 27)) (w3.heap.size + 1) (by simp) rfl rfl hown (by rw [lst_len]; omega) (by omega) ?_; intro g3 c3 w5 hown5 hbel5 _)
            have hbo5 := hbo.trans hbel5
            rw [lst_len] at hown5 ⊢
            rw [← lst_succ] at hown5
            clear hown hbo hbel5 c80 c81 c82 r8
            go_wp2_with fail
            go_roundw
            case rel => exact ⟨j + 1, by omega, by go_num, ⟨_, _, rfl⟩, hown5, hbo5⟩
            case measure => simp [intOf]; omega
          · obtain rfl : j = 6 := by omega
            clear hlt hj ca0 ca1 ca2 cb0 cb1 cb2
            obtain ⟨g6, rfl⟩ : ∃ g6, ad = ⟨g6, 0, none⟩ := by
              rcases hown.2 with ⟨h1, _⟩ | ⟨g6, cp6, cur, h1, _⟩
              · cases h1
              · exact ⟨g6, by injection h1 with h1; injection h1⟩
            obtain ⟨⟨u0, u1, u2⟩, ⟨u3, u4, u5⟩, ⟨u6, u7, u8⟩, ⟨u9, u10, u11⟩, ⟨u12, u13, u14⟩, ⟨u15, u16, u17⟩⟩ := six_cells hown
            have u0' : wr.cell? ⟨g6, 0, none⟩ = some (.int .i64 3) := u0
            have u1' : wr.cell? ⟨g6, 1, none⟩ = some (.int .i64 (0)) := u1
            have u3' : wr.cell? ⟨g6, 3, none⟩ = some (.int .i64 3) := u3
            have u4' : wr.cell? ⟨g6, 4, none⟩ = some (.int .i64 (1)) := u4
            have u6' : wr.cell? ⟨g6, 6, none⟩ = some (.int .i64 3) := u6
            have u7' : wr.cell? ⟨g6, 7, none⟩ = some (.int .i64 (1)) := u7
            have u9' : wr.cell? ⟨g6, 9, none⟩ = some (.int .i64 3) := u9
            have u10' : wr.cell? ⟨g6, 10, none⟩ = some (.int .i64 (1)) := u10
            have u12' : wr.cell? ⟨g6, 12, none⟩ = some (.int .i64 3) := u12
            have u13' : wr.cell? ⟨g6, 13, none⟩ = some (.int .i64 (0)) := u13
            have u15' : wr.cell? ⟨g6, 15, none⟩ = some (.int .i64 3) := u15
            have u16' : wr.cell? ⟨g6, 16, none⟩ = some (.int .i64 (0)) := u16
            clear u0 u1 u2 u3 u4 u5 u6 u7 u8 u9 u10 u11 u12 u13 u14 u15 u16 u17
            have rA6 : ValAt wr PA k n t := (hbo.block _ (by omega)).trans rA
            have rB6 : ValAt wr (PA + 1) k' n' t' := (hbo.block _ (by omega)).trans rB
            obtain ⟨ca0, ca1, ca2⟩ := rA6.cells
            obtain ⟨cb0, cb1, cb2⟩ := rB6.cells
            clear rA6 rB6 hown
            have hbb := hb1.trans (hbo.mono (by have := hb1.size; omega))
            go_wp2_with fail
            go_loopw [12, 13] (fun q i wr' => ∃ i0 : Nat, i0 ≤ 6 ∧ i = .int .i64 (i0 : Int) ∧ q = .int .i64 (0) ∧ wr' = wr) (fun _ i _ => 6 - (intOf i).toNat)
            case atStart => exact ⟨0, by omega, rfl, rfl, rfl⟩
            case round =>
              obtain ⟨i0, hi0, rfl, rfl, rfl⟩ := hrel
              rcases (show i0 = 0 ∨ i0 = 1 ∨ i0 = 2 ∨ i0 = 3 ∨ i0 = 4 ∨ i0 = 5 ∨ i0 = 6 by omega) with rfl | rfl | rfl | rfl | rfl | rfl | rfl
              · go_wp2_with fail
                go_roundw
                case rel => exact ⟨1, by omega, by first | rfl | trivial, by first | rfl | trivial, by first | rfl | trivial⟩
                case measure => simp [intOf]
              · go_wp2_with fail
                go_roundw
                case rel => exact ⟨2, by omega, by first | rfl | trivial, by first | rfl | trivial, by first | rfl | trivial⟩
                case measure => simp [intOf]
              · go_wp2_with fail
                go_roundw
                case rel => exact ⟨3, by omega, by first | rfl | trivial, by first | rfl | trivial, by first | rfl | trivial⟩
                case measure => simp [intOf]
              · go_wp2_with fail
                go_roundw
                case rel => exact ⟨4, by omega, by first | rfl | trivial, by first | rfl | trivial, by first | rfl | trivial⟩
                case measure => simp [intOf]
              · go_wp2_with fail
                go_roundw
                case rel => exact ⟨5, by omega, by first | rfl | trivial, by first | rfl | trivial, by first | rfl | trivial⟩
                case measure => simp [intOf]
              · go_wp2_with fail
                go_roundw
                case rel => exact ⟨6, by omega, by first | rfl | trivial, by first | rfl | trivial, by first | rfl | trivial⟩
                case measure => simp [intOf]
              · have qka : (k == 0) = false := by simpa using hk0
                have qkb : (k' == 0) = false := by simpa using hk0'
                go_wp2_with fail
                have l0 := lat_cell u0'
                have l1 := lat_cell u1'
                have l3 := lat_cell u3'
                have l4 := lat_cell u4'
                have l6 := lat_cell u6'
                have l7 := lat_cell u7'
                have l9 := lat_cell u9'
                have l10 := lat_cell u10'
                have l12 := lat_cell u12'
                have l13 := lat_cell u13'
                have l15 := lat_cell u15'
                have l16 := lat_cell u16'
                refine region_lat (by kernel_rfl) (by kernel_rfl) ?_
                iterate 15 go_big_quiet_step (fail)
                refine wpQuiet_nil ?_
                rintro _ ⟨nq, rfl⟩
                have hbb2 := hbb.trans ((lat_below wr nq).mono hbb.size)
                replace u0' := l0 nq
                replace u1' := l1 nq
                replace u3' := l3 nq
                replace u4' := l4 nq
                replace u6' := l6 nq
                replace u7' := l7 nq
                replace u9' := l9 nq
                replace u10' := l10 nq
                replace u12' := l12 nq
                replace u13' := l13 nq
                replace u15' := l15 nq
                replace u16' := l16 nq
                clear l0 l1 l3 l4 l6 l7 l9 l10 l12 l13 l15 l16 ca0 ca1 ca2 cb0 cb1 cb2
                generalize lat wr nq = wz at *
                go_wp2_with fail
                have l0 := lat_cell u0'
                have l1 := lat_cell u1'
                have l3 := lat_cell u3'
                have l4 := lat_cell u4'
                have l6 := lat_cell u6'
                have l7 := lat_cell u7'
                have l9 := lat_cell u9'
                have l10 := lat_cell u10'
                have l12 := lat_cell u12'
                have l13 := lat_cell u13'
                have l15 := lat_cell u15'
                have l16 := lat_cell u16'
                refine region_lat (by kernel_rfl) (by kernel_rfl) ?_
                iterate 43 go_big_quiet_step (fail)
                refine wpQuiet_nil ?_
                rintro _ ⟨nq2, rfl⟩
                have hbb3 := hbb2.trans ((lat_below wz nq2).mono hbb2.size)
                go_wp2_with fail
                go_ret
                exact ⟨rfl, hbb3⟩
      · have hqI : ∀ j : Nat, j < 6 → ∀ w, Calls Try.prog 17 #[.int .i64 (3 + (j : Int)), .agg #[.int .i64 k, .int .i64 n, .string t], .agg #[.int .i64 k', .int .i64 n', .string t']] w (CalcE ⟨((resV (0)) j).1, ((resV (0)) j).2.1, ((resV (0)) j).2.2, 0⟩ w) := fun j hj w => by have h := hI (3 + (j : Int)) w; rw [hV (3 + (j : Int)) (by omega) (by omega)] at h; exact h
        have hqS : ∀ j : Nat, j < 6 → ∀ w, Calls Try.prog 19 #[.int .i64 (3 + (j : Int)), .agg #[.int .i64 k, .int .i64 n, .string t], .agg #[.int .i64 k', .int .i64 n', .string t']] w (CalcE ⟨((resV (0)) j).1, ((resV (0)) j).2.1, ((resV (0)) j).2.2, 0⟩ w) := fun j hj w => by have h := hS (3 + (j : Int)) w; rw [hV (3 + (j : Int)) (by omega) (by omega)] at h; exact h
        clear hI hS hV
        go_wp2_with fail
        go_loopw [6, 7] (fun c x wr => ∃ j : Nat, j ≤ 6 ∧ x = .int .i64 (3 + (j : Int)) ∧ (∃ (ad : Addr) (cp : Nat), c = .slice (some ad) j cp) ∧ OwnVl wr (PA + 2) c (lst (resV (0)) j) ∧ Below (PA + 2) V2 wr) (fun _ x _ => 9 - (intOf x).toNat)
        case atStart => exact ⟨0, by omega, rfl, ⟨_, _, rfl⟩, hown, hbo⟩
        case round =>
          obtain ⟨j, hj, rfl, ⟨ad, cp, rfl⟩, hown, hbo⟩ := hrel
          have rA2 : ValAt wr PA k n t := (hbo.block _ (by omega)).trans rA
          have rB2 : ValAt wr (PA + 1) k' n' t' := (hbo.block _ (by omega)).trans rB
          obtain ⟨ca0, ca1, ca2⟩ := rA2.cells
          obtain ⟨cb0, cb1, cb2⟩ := rB2.cells
          by_cases hlt : j < 6
          · have d6 : decide (3 + (j : Int) ≤ 8) = true := by simp; omega
            have hq1 := hqI j hlt
            have hq2 := hqS j hlt
            have hzr := hbo.size
            go_wp2_with fail
            refine (hq1 _).mono ?_
            rintro e w1 ⟨rfl, hn1⟩
            replace hbo := hbo.trans (hn1.mono (by omega))
            replace rA2 : ValAt w1 PA k n t := (hn1.block _ (Array.getElem?_eq_some_iff.1 rA2).1).trans rA2
            replace rB2 : ValAt w1 (PA + 1) k' n' t' := (hn1.block _ (Array.getElem?_eq_some_iff.1 rB2).1).trans rB2
            replace hown := OwnVl.below hown hn1
            clear ca0 ca1 ca2 cb0 cb1 cb2 hn1
            have r8 : ValAt (w1.alloc (.cells #[.int .i64 ((resV (0)) j).1, .int .i64 ((resV (0)) j).2.1, .string ((resV (0)) j).2.2] 27)) w1.heap.size ((resV (0)) j).1 ((resV (0)) j).2.1 ((resV (0)) j).2.2 := heap_alloc_new w1 _
            have hn1 : Below w1.heap.size w1 (w1.alloc (.cells #[.int .i64 ((resV (0)) j).1, .int .i64 ((resV (0)) j).2.1, .string ((resV (0)) j).2.2] 27)) := (Below.refl _ _).alloc (Nat.le_refl _) _
            replace hbo := hbo.trans (hn1.mono (by have := hbo.size; omega))
            replace rA2 : ValAt (w1.alloc (.cells #[.int .i64 ((resV (0)) j).1, .int .i64 ((resV (0)) j).2.1, .string ((resV (0)) j).2.2] 27)) PA k n t := (hn1.block _ (Array.getElem?_eq_some_iff.1 rA2).1).trans rA2
            replace rB2 : ValAt (w1.alloc (.cells #[.int .i64 ((resV (0)) j).1, .int .i64 ((resV (0)) j).2.1, .string ((resV (0)) j).2.2] 27)) (PA + 1) k' n' t' := (hn1.block _ (Array.getElem?_eq_some_iff.1 rB2).1).trans rB2
            replace hown := OwnVl.below hown hn1
            obtain ⟨ca0, ca1, ca2⟩ := rA2.cells
            obtain ⟨cb0, cb1, cb2⟩ := rB2.cells
            go_wp2_with fail
            generalize w1.alloc (.cells #[.int .i64 ((resV (0)) j).1, .int .i64 ((resV (0)) j).2.1, .string ((resV (0)) j).2.2] 27) = w2 at r8 hbo rA2 rB2 hown ca0 ca1 ca2 cb0 cb1 cb2 ⊢
            generalize w1.heap.size = R8 at r8 ⊢
            clear hn1
            refine (hq2 _).mono ?_
            rintro e w3 ⟨rfl, hn1⟩
            replace hbo := hbo.trans (hn1.mono (by have := hbo.size; omega))
            replace r8 : ValAt w3 R8 ((resV (0)) j).1 ((resV (0)) j).2.1 ((resV (0)) j).2.2 := (hn1.block _ (Array.getElem?_eq_some_iff.1 r8).1).trans r8
            replace hown := OwnVl.below hown hn1
            clear ca0 ca1 ca2 cb0 cb1 cb2 hn1 rA2 rB2 hq1 hq2
            have hn1 : Below w3.heap.size w3 (w3.alloc (.cells #[.int .i64 ((resV (0)) j).1, .int .i64 ((resV (0)) j).2.1, .string ((resV (0)) j).2.2] 27)) := (Below.refl _ _).alloc (Nat.le_refl _) _
            replace hbo := hbo.trans (hn1.mono (by have := hbo.size; omega))
            replace r8 : ValAt (w3.alloc (.cells #[.int .i64 ((resV (0)) j).1, .int .i64 ((resV (0)) j).2.1, .string ((resV (0)) j).2.2] 27)) R8 ((resV (0)) j).1 ((resV (0)) j).2.1 ((resV (0)) j).2.2 := (hn1.block _ (Array.getElem?_eq_some_iff.1 r8).1).trans r8
            replace hown := OwnVl.below hown hn1
            obtain ⟨c80, c81, c82⟩ := r8.cells
            have hz4 : V2.heap.size ≤ (w3.alloc (.cells #[.int .i64 ((resV (0)) j).1, .int .i64 ((resV (0)) j).2.1, .string ((resV (0)) j).2.2] 27)).heap.size := hbo.size
            clear hn1
            go_wp2_with (at_builtin; refine appVl rfl (.tmp 47) (.tmp 49) rfl (PA + 2) (.slice (some ad) j cp) (lst (resV (0)) j) ((resV (0)) j) (w3.alloc (.cells #[.int .i64 ((resV (0)) j).1, .int .i64 ((resV (0)) j).2.1, .string ((resV (0)) j).2.2] 27)) (w3.heap.size + 1) (by simp) rfl rfl hown (by rw [lst_len]; omega) (by omega) ?_; intro g3 c3 w5 hown5 hbel5 _)
            have hbo5 := hbo.trans hbel5
            rw [lst_len] at hown5 ⊢
            rw [← lst_succ] at hown5
            clear hown hbo hbel5 c80 c81 c82 r8
            go_wp2_with fail
            go_roundw
            case rel => exact ⟨j + 1, by omega, by go_num, ⟨_, _, rfl⟩, hown5, hbo5⟩
            case measure => simp [intOf]; omega
          · obtain rfl : j = 6 := by omega
            clear hlt hj ca0 ca1 ca2 cb0 cb1 cb2
            obtain ⟨g6, rfl⟩ : ∃ g6, ad = ⟨g6, 0, none⟩ := by
              rcases hown.2 with ⟨h1, _⟩ | ⟨g6, cp6, cur, h1, _⟩
              · cases h1
              · exact ⟨g6, by injection h1 with h1; injection h1⟩
            obtain ⟨⟨u0, u1, u2⟩, ⟨u3, u4, u5⟩, ⟨u6, u7, u8⟩, ⟨u9, u10, u11⟩, ⟨u12, u13, u14⟩, ⟨u15, u16, u17⟩⟩ := six_cells hown
            have u0' : wr.cell? ⟨g6, 0, none⟩ = some (.int .i64 3) := u0
            have u1' : wr.cell? ⟨g6, 1, none⟩ = some (.int .i64 (1)) := u1
            have u3' : wr.cell? ⟨g6, 3, none⟩ = some (.int .i64 3) := u3
            have u4' : wr.cell? ⟨g6, 4, none⟩ = some (.int .i64 (0)) := u4
            have u6' : wr.cell? ⟨g6, 6, none⟩ = some (.int .i64 3) := u6
            have u7' : wr.cell? ⟨g6, 7, none⟩ = some (.int .i64 (0)) := u7
            have u9' : wr.cell? ⟨g6, 9, none⟩ = some (.int .i64 3) := u9
            have u10' : wr.cell? ⟨g6, 10, none⟩ = some (.int .i64 (1)) := u10
            have u12' : wr.cell? ⟨g6, 12, none⟩ = some (.int .i64 3) := u12
            have u13' : wr.cell? ⟨g6, 13, none⟩ = some (.int .i64 (0)) := u13
            have u15' : wr.cell? ⟨g6, 15, none⟩ = some (.int .i64 3) := u15
            have u16' : wr.cell? ⟨g6, 16, none⟩ = some (.int .i64 (1)) := u16
            clear u0 u1 u2 u3 u4 u5 u6 u7 u8 u9 u10 u11 u12 u13 u14 u15 u16 u17
            have rA6 : ValAt wr PA k n t := (hbo.block _ (by omega)).trans rA
            have rB6 : ValAt wr (PA + 1) k' n' t' := (hbo.block _ (by omega)).trans rB
            obtain ⟨ca0, ca1, ca2⟩ := rA6.cells
            obtain ⟨cb0, cb1, cb2⟩ := rB6.cells
            clear rA6 rB6 hown
            have hbb := hb1.trans (hbo.mono (by have := hb1.size; omega))
            go_wp2_with fail
            go_loopw [12, 13] (fun q i wr' => ∃ i0 : Nat, i0 ≤ 6 ∧ i = .int .i64 (i0 : Int) ∧ q = .int .i64 (0) ∧ wr' = wr) (fun _ i _ => 6 - (intOf i).toNat)
            case atStart => exact ⟨0, by omega, rfl, rfl, rfl⟩
            case round =>
              obtain ⟨i0, hi0, rfl, rfl, rfl⟩ := hrel
              rcases (show i0 = 0 ∨ i0 = 1 ∨ i0 = 2 ∨ i0 = 3 ∨ i0 = 4 ∨ i0 = 5 ∨ i0 = 6 by omega) with rfl | rfl | rfl | rfl | rfl | rfl | rfl
              · go_wp2_with fail
                go_roundw
                case rel => exact ⟨1, by omega, by first | rfl | trivial, by first | rfl | trivial, by first | rfl | trivial⟩
                case measure => simp [intOf]
              · go_wp2_with fail
                go_roundw
                case rel => exact ⟨2, by omega, by first | rfl | trivial, by first | rfl | trivial, by first | rfl | trivial⟩
                case measure => simp [intOf]
              · go_wp2_with fail
                go_roundw
                case rel => exact ⟨3, by omega, by first | rfl | trivial, by first | rfl | trivial, by first | rfl | trivial⟩
                case measure => simp [intOf]
              · go_wp2_with fail
                go_roundw
                case rel => exact ⟨4, by omega, by first | rfl | trivial, by first | rfl | trivial, by first | rfl | trivial⟩
                case measure => simp [intOf]
              · go_wp2_with fail
                go_roundw
                case rel => exact ⟨5, by omega, by first | rfl | trivial, by first | rfl | trivial, by first | rfl | trivial⟩
                case measure => simp [intOf]
              · go_wp2_with fail
                go_roundw
                case rel => exact ⟨6, by omega, by first | rfl | trivial, by first | rfl | trivial, by first | rfl | trivial⟩
                case measure => simp [intOf]
              · have qka : (k == 0) = false := by simpa using hk0
                have qkb : (k' == 0) = false := by simpa using hk0'
                go_wp2_with fail
                have l0 := lat_cell u0'
                have l1 := lat_cell u1'
                have l3 := lat_cell u3'
                have l4 := lat_cell u4'
                have l6 := lat_cell u6'
                have l7 := lat_cell u7'
                have l9 := lat_cell u9'
                have l10 := lat_cell u10'
                have l12 := lat_cell u12'
                have l13 := lat_cell u13'
                have l15 := lat_cell u15'
                have l16 := lat_cell u16'
                refine region_lat (by kernel_rfl) (by kernel_rfl) ?_
                iterate 15 go_big_quiet_step (fail)
                refine wpQuiet_nil ?_
                rintro _ ⟨nq, rfl⟩
                have hbb2 := hbb.trans ((lat_below wr nq).mono hbb.size)
                replace u0' := l0 nq
                replace u1' := l1 nq
                replace u3' := l3 nq
                replace u4' := l4 nq
                replace u6' := l6 nq
                replace u7' := l7 nq
                replace u9' := l9 nq
                replace u10' := l10 nq
                replace u12' := l12 nq
                replace u13' := l13 nq
                replace u15' := l15 nq
                replace u16' := l16 nq
                clear l0 l1 l3 l4 l6 l7 l9 l10 l12 l13 l15 l16 ca0 ca1 ca2 cb0 cb1 cb2
                generalize lat wr nq = wz at *
                go_wp2_with fail
                have l0 := lat_cell u0'
                have l1 := lat_cell u1'
                have l3 := lat_cell u3'
                have l4 := lat_cell u4'
                have l6 := lat_cell u6'
                have l7 := lat_cell u7'
                have l9 := lat_cell u9'
                have l10 := lat_cell u10'
                have l12 := lat_cell u12'
                have l13 := lat_cell u13'
                have l15 := lat_cell u15'
                have l16 := lat_cell u16'
                refine region_lat (by kernel_rfl) (by kernel_rfl) ?_
                iterate 43 go_big_quiet_step (fail)
                refine wpQuiet_nil ?_
                rintro _ ⟨nq2, rfl⟩
                have hbb3 := hbb2.trans ((lat_below wz nq2).mono hbb2.size)
                go_wp2_with fail
                go_ret
                exact ⟨rfl, hbb3⟩
      · have hqI : ∀ j : Nat, j < 6 → ∀ w, Calls Try.prog 17 #[.int .i64 (3 + (j : Int)), .agg #[.int .i64 k, .int .i64 n, .string t], .agg #[.int .i64 k', .int .i64 n', .string t']] w (CalcE ⟨((resV (1)) j).1, ((resV (1)) j).2.1, ((resV (1)) j).2.2, 0⟩ w) := fun j hj w => by have h := hI (3 + (j : Int)) w; rw [hV (3 + (j : Int)) (by omega) (by omega)] at h; exact h
        have hqS : ∀ j : Nat, j < 6 → ∀ w, Calls Try.prog 19 #[.int .i64 (3 + (j : Int)), .agg #[.int .i64 k, .int .i64 n, .string t], .agg #[.int .i64 k', .int .i64 n', .string t']] w (CalcE ⟨((resV (1)) j).1, ((resV (1)) j).2.1, ((resV (1)) j).2.2, 0⟩ w) := fun j hj w => by have h := hS (3 + (j : Int)) w; rw [hV (3 + (j : Int)) (by omega) (by omega)] at h; exact h
        clear hI hS hV
        go_wp2_with fail
        go_loopw [6, 7] (fun c x wr => ∃ j : Nat, j ≤ 6 ∧ x = .int .i64 (3 + (j : Int)) ∧ (∃ (ad : Addr) (cp : Nat), c = .slice (some ad) j cp) ∧ OwnVl wr (PA + 2) c (lst (resV (1)) j) ∧ Below (PA + 2) V2 wr) (fun _ x _ => 9 - (intOf x).toNat)
        case atStart => exact ⟨0, by omega, rfl, ⟨_, _, rfl⟩, hown, hbo⟩
        case round =>
          obtain ⟨j, hj, rfl, ⟨ad, cp, rfl⟩, hown, hbo⟩ := hrel
          have rA2 : ValAt wr PA k n t := (hbo.block _ (by omega)).trans rA
          have rB2 : ValAt wr (PA + 1) k' n' t' := (hbo.block _ (by omega)).trans rB
          obtain ⟨ca0, ca1, ca2⟩ := rA2.cells
          obtain ⟨cb0, cb1, cb2⟩ := rB2.cells
          by_cases hlt : j < 6
          · have d6 : decide (3 + (j : Int) ≤ 8) = true := by simp; omega
            have hq1 := hqI j hlt
            have hq2 := hqS j hlt
            have hzr := hbo.size
            go_wp2_with fail
            refine (hq1 _).mono ?_
            rintro e w1 ⟨rfl, hn1⟩
            replace hbo := hbo.trans (hn1.mono (by omega))
            replace rA2 : ValAt w1 PA k n t := (hn1.block _ (Array.getElem?_eq_some_iff.1 rA2).1).trans rA2
            replace rB2 : ValAt w1 (PA + 1) k' n' t' := (hn1.block _ (Array.getElem?_eq_some_iff.1 rB2).1).trans rB2
            replace hown := OwnVl.below hown hn1
            clear ca0 ca1 ca2 cb0 cb1 cb2 hn1
            have r8 : ValAt (w1.alloc (.cells #[.int .i64 ((resV (1)) j).1, .int .i64 ((resV (1)) j).2.1, .string ((resV (1)) j).2.2] 27)) w1.heap.size ((resV (1)) j).1 ((resV (1)) j).2.1 ((resV (1)) j).2.2 := heap_alloc_new w1 _
            have hn1 : Below w1.heap.size w1 (w1.alloc (.cells #[.int .i64 ((resV (1)) j).1, .int .i64 ((resV (1)) j).2.1, .string ((resV (1)) j).2.2] 27)) := (Below.refl _ _).alloc (Nat.le_refl _) _
            replace hbo := hbo.trans (hn1.mono (by have := hbo.size; omega))
            replace rA2 : ValAt (w1.alloc (.cells #[.int .i64 ((resV (1)) j).1, .int .i64 ((resV (1)) j).2.1, .string ((resV (1)) j).2.2] 27)) PA k n t := (hn1.block _ (Array.getElem?_eq_some_iff.1 rA2).1).trans rA2
            replace rB2 : ValAt (w1.alloc (.cells #[.int .i64 ((resV (1)) j).1, .int .i64 ((resV (1)) j).2.1, .string ((resV (1)) j).2.2] 27)) (PA + 1) k' n' t' := (hn1.block _ (Array.getElem?_eq_some_iff.1 rB2).1).trans rB2
            replace hown := OwnVl.below hown hn1
            obtain ⟨ca0, ca1, ca2⟩ := rA2.cells
            obtain ⟨cb0, cb1, cb2⟩ := rB2.cells
            go_wp2_with fail
            generalize w1.alloc (.cells #[.int .i64 ((resV (1)) j).1, .int .i64 ((resV (1)) j).2.1, .string ((resV (1)) j).2.2] 27) = w2 at r8 hbo rA2 rB2 hown ca0 ca1 ca2 cb0 cb1 cb2 ⊢
            generalize w1.heap.size = R8 at r8 ⊢
            clear hn1
            refine (hq2 _).mono ?_
            rintro e w3 ⟨rfl, hn1⟩
            replace hbo := hbo.trans (hn1.mono (by have := hbo.size; omega))
            replace r8 : ValAt w3 R8 ((resV (1)) j).1 ((resV (1)) j).2.1 ((resV (1)) j).2.2 := (hn1.block _ (Array.getElem?_eq_some_iff.1 r8).1).trans r8
            replace hown := OwnVl.below hown hn1
            clear ca0 ca1 ca2 cb0 cb1 cb2 hn1 rA2 rB2 hq1 hq2
            have hn1 : Below w3.heap.size w3 (w3.alloc (.cells #[.int .i64 ((resV (1)) j).1, .int .i64 ((resV (1)) j).2.1, .string ((resV (1)) j).2.2] 27)) := (Below.refl _ _).alloc (Nat.le_refl _) _
            replace hbo := hbo.trans (hn1.mono (by have := hbo.size; omega))
            replace r8 : ValAt (w3.alloc (.cells #[.int .i64 ((resV (1)) j).1, .int .i64 ((resV (1)) j).2.1, .string ((resV (1)) j).2.2] 27)) R8 ((resV (1)) j).1 ((resV (1)) j).2.1 ((resV (1)) j).2.2 := (hn1.block _ (Array.getElem?_eq_some_iff.1 r8).1).trans r8
            replace hown := OwnVl.below hown hn1
            obtain ⟨c80, c81, c82⟩ := r8.cells
            have hz4 : V2.heap.size ≤ (w3.alloc (.cells #[.int .i64 ((resV (1)) j).1, .int .i64 ((resV (1)) j).2.1, .string ((resV (1)) j).2.2] 27)).heap.size := hbo.size
            clear hn1
            go_wp2_with (at_builtin; refine appVl rfl (.tmp 47) (.tmp 49) rfl (PA + 2) (.slice (some ad) j cp) (lst (resV (1)) j) ((resV (1)) j) (w3.alloc (.cells #[.int .i64 ((resV (1)) j).1, .int .i64 ((resV (1)) j).2.1, .string ((resV (1)) j).2.2] 27)) (w3.heap.size + 1) (by simp) rfl rfl hown (by rw [lst_len]; omega) (by omega) ?_; intro g3 c3 w5 hown5 hbel5 _)
            have hbo5 := hbo.trans hbel5
            rw [lst_len] at hown5 ⊢
            rw [← lst_succ] at hown5
            clear hown hbo hbel5 c80 c81 c82 r8
            go_wp2_with fail
            go_roundw
            case rel => exact ⟨j + 1, by omega, by go_num, ⟨_, _, rfl⟩, hown5, hbo5⟩
            case measure => simp [intOf]; omega
          · obtain rfl : j = 6 := by omega
            clear hlt hj ca0 ca1 ca2 cb0 cb1 cb2
            obtain ⟨g6, rfl⟩ : ∃ g6, ad = ⟨g6, 0, none⟩ := by
              rcases hown.2 with ⟨h1, _⟩ | ⟨g6, cp6, cur, h1, _⟩
              · cases h1
              · exact ⟨g6, by injection h1 with h1; injection h1⟩
            obtain ⟨⟨u0, u1, u2⟩, ⟨u3, u4, u5⟩, ⟨u6, u7, u8⟩, ⟨u9, u10, u11⟩, ⟨u12, u13, u14⟩, ⟨u15, u16, u17⟩⟩ := six_cells hown
            have u0' : wr.cell? ⟨g6, 0, none⟩ = some (.int .i64 3) := u0
            have u1' : wr.cell? ⟨g6, 1, none⟩ = some (.int .i64 (0)) := u1
            have u3' : wr.cell? ⟨g6, 3, none⟩ = some (.int .i64 3) := u3
            have u4' : wr.cell? ⟨g6, 4, none⟩ = some (.int .i64 (1)) := u4
            have u6' : wr.cell? ⟨g6, 6, none⟩ = some (.int .i64 3) := u6
            have u7' : wr.cell? ⟨g6, 7, none⟩ = some (.int .i64 (0)) := u7
            have u9' : wr.cell? ⟨g6, 9, none⟩ = some (.int .i64 3) := u9
            have u10' : wr.cell? ⟨g6, 10, none⟩ = some (.int .i64 (0)) := u10
            have u12' : wr.cell? ⟨g6, 12, none⟩ = some (.int .i64 3) := u12
            have u13' : wr.cell? ⟨g6, 13, none⟩ = some (.int .i64 (1)) := u13
            have u15' : wr.cell? ⟨g6, 15, none⟩ = some (.int .i64 3) := u15
            have u16' : wr.cell? ⟨g6, 16, none⟩ = some (.int .i64 (1)) := u16
            clear u0 u1 u2 u3 u4 u5 u6 u7 u8 u9 u10 u11 u12 u13 u14 u15 u16 u17
            have rA6 : ValAt wr PA k n t := (hbo.block _ (by omega)).trans rA
            have rB6 : ValAt wr (PA + 1) k' n' t' := (hbo.block _ (by omega)).trans rB
            obtain ⟨ca0, ca1, ca2⟩ := rA6.cells
            obtain ⟨cb0, cb1, cb2⟩ := rB6.cells
            clear rA6 rB6 hown
            have hbb := hb1.trans (hbo.mono (by have := hb1.size; omega))
            go_wp2_with fail
            go_loopw [12, 13] (fun q i wr' => ∃ i0 : Nat, i0 ≤ 6 ∧ i = .int .i64 (i0 : Int) ∧ q = .int .i64 (0) ∧ wr' = wr) (fun _ i _ => 6 - (intOf i).toNat)
            case atStart => exact ⟨0, by omega, rfl, rfl, rfl⟩
            case round =>
              obtain ⟨i0, hi0, rfl, rfl, rfl⟩ := hrel
              rcases (show i0 = 0 ∨ i0 = 1 ∨ i0 = 2 ∨ i0 = 3 ∨ i0 = 4 ∨ i0 = 5 ∨ i0 = 6 by omega) with rfl | rfl | rfl | rfl | rfl | rfl | rfl
              · go_wp2_with fail
                go_roundw
                case rel => exact ⟨1, by omega, by first | rfl | trivial, by first | rfl | trivial, by first | rfl | trivial⟩
                case measure => simp [intOf]
              · go_wp2_with fail
                go_roundw
                case rel => exact ⟨2, by omega, by first | rfl | trivial, by first | rfl | trivial, by first | rfl | trivial⟩
                case measure => simp [intOf]
              · go_wp2_with fail
                go_roundw
                case rel => exact ⟨3, by omega, by first | rfl | trivial, by first | rfl | trivial, by first | rfl | trivial⟩
                case measure => simp [intOf]
              · go_wp2_with fail
                go_roundw
                case rel => exact ⟨4, by omega, by first | rfl | trivial, by first | rfl | trivial, by first | rfl | trivial⟩
                case measure => simp [intOf]
              · go_wp2_with fail
                go_roundw
                case rel => exact ⟨5, by omega, by first | rfl | trivial, by first | rfl | trivial, by first | rfl | trivial⟩
                case measure => simp [intOf]
              · go_wp2_with fail
                go_roundw
                case rel => exact ⟨6, by omega, by first | rfl | trivial, by first | rfl | trivial, by first | rfl | trivial⟩
                case measure => simp [intOf]
              · have qka : (k == 0) = false := by simpa using hk0
                have qkb : (k' == 0) = false := by simpa using hk0'
                go_wp2_with fail
                have l0 := lat_cell u0'
                have l1 := lat_cell u1'
                have l3 := lat_cell u3'
                have l4 := lat_cell u4'
                have l6 := lat_cell u6'
                have l7 := lat_cell u7'
                have l9 := lat_cell u9'
                have l10 := lat_cell u10'
                have l12 := lat_cell u12'
                have l13 := lat_cell u13'
                have l15 := lat_cell u15'
                have l16 := lat_cell u16'
                refine region_lat (by kernel_rfl) (by kernel_rfl) ?_
                iterate 15 go_big_quiet_step (fail)
                refine wpQuiet_nil ?_
                rintro _ ⟨nq, rfl⟩
                have hbb2 := hbb.trans ((lat_below wr nq).mono hbb.size)
                replace u0' := l0 nq
                replace u1' := l1 nq
                replace u3' := l3 nq
                replace u4' := l4 nq
                replace u6' := l6 nq
                replace u7' := l7 nq
                replace u9' := l9 nq
                replace u10' := l10 nq
                replace u12' := l12 nq
                replace u13' := l13 nq
                replace u15' := l15 nq
                replace u16' := l16 nq
                clear l0 l1 l3 l4 l6 l7 l9 l10 l12 l13 l15 l16 ca0 ca1 ca2 cb0 cb1 cb2
                generalize lat wr nq = wz at *
                go_wp2_with fail
                have l0 := lat_cell u0'
                have l1 := lat_cell u1'
                have l3 := lat_cell u3'
                have l4 := lat_cell u4'
                have l6 := lat_cell u6'
                have l7 := lat_cell u7'
                have l9 := lat_cell u9'
                have l10 := lat_cell u10'
                have l12 := lat_cell u12'
                have l13 := lat_cell u13'
                have l15 := lat_cell u15'
                have l16 := lat_cell u16'
                refine region_lat (by kernel_rfl) (by kernel_rfl) ?_
                iterate 43 go_big_quiet_step (fail)
                refine wpQuiet_nil ?_
                rintro _ ⟨nq2, rfl⟩
                have hbb3 := hbb2.trans ((lat_below wz nq2).mono hbb2.size)
                go_wp2_with fail
                go_ret
                exact ⟨rfl, hbb3⟩
end Go.Proofs.Ytjekhgekldkopaa
