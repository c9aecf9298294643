
/- The contract of the program's comparison of tokens. -/
import Derived.Test.YtodgigdcdgdfdaaSame
import Derived.Test.YtodgigdcdgdfdaaTokAt
namespace Go.Proofs.Ytodgigdcdgdfdaa
open Go.RowKit

set_option maxRecDepth 100000 in
set_option maxHeartbeats 800000 in
theorem sameToken_impl (k k' : Int) (t t' : ByteArray) (a a' : Int) (w : World) :
    Calls Try.prog 26 #[.agg #[.int .i64 k, .string t, .int .i64 a], .agg #[.int .i64 k', .string t', .int .i64 a']] w (BoolE (decide (k = k') && decide (t = t')) w) := by
  have hB : Below w.heap.size w ((w.alloc (.cells #[.int .i64 k, .string t, .int .i64 a] 27)).alloc (.cells #[.int .i64 k', .string t', .int .i64 a'] 27)) := ((Below.refl _ _).alloc (Nat.le_refl _) _).alloc (by simp) _
  by_cases hK : k = k'
  · have q1 : (k == k') = true := by simpa using hK
    rw [decide_eq_true hK]
    clear hK
    by_cases hT : t = t'
    · have q2 : (t.toList == t'.toList) = true := (Lib.bytes_beq_iff t t').2 hT
      rw [decide_eq_true hT]
      clear hT
      go_enter Try.func26, Try.ntmps26
      go_wp2_with fail
      go_ret
      exact ⟨rfl, hB⟩
    · have q2 : (t.toList == t'.toList) = false := (Lib.bytes_beq_false_iff t t').2 hT
      rw [decide_eq_false hT]
      clear hT
      go_enter Try.func26, Try.ntmps26
      go_wp2_with fail
      go_ret
      exact ⟨rfl, hB⟩
  · have q1 : (k == k') = false := by simpa using hK
    rw [decide_eq_false hK]
    clear hK
    go_enter Try.func26, Try.ntmps26
    go_wp2_with fail
    go_ret
    exact ⟨rfl, hB⟩

set_option maxRecDepth 100000 in
set_option maxHeartbeats 1600000 in
theorem equalFunc_impl (B1 B2 : Nat) (a b : Option Addr) (n n' ca cb : Nat) (f f' : Nat → Int × ByteArray × Int) (w : World) (ha : TokSl w B1 a n f) (hb : TokSl w B2 b n' f') (hn : n ≤ 4000000) (hn' : n' ≤ 4000000) :
    Calls Try.prog 25 #[.slice a n ca, .slice b n' cb, .func (.func 26) #[] #[]] w (BoolE (sameB n n' f f') w) := by
  by_cases hnn : n = n'
  · subst hnn
    have d0 : ((n : Int) != (n : Int)) = false := by simp
    go_enter Try.func25, Try.ntmps25
    go_wp2_with fail
    go_loopw [17] (fun i wr => ∃ k : Nat, k ≤ n ∧ i = .int .i64 (k : Int) ∧ Hid (∀ j, j < k → sameF f f' j = true) ∧ Below w.heap.size w wr) (fun i _ => n - (intOf i).toNat)
    case atStart => exact ⟨0, by omega, rfl, fun j hj => by omega, Below.refl _ _⟩
    case round =>
      obtain ⟨k, hk, rfl, HS, hbel⟩ := hrel
      have hsz := hbel.size
      by_cases hlt : k < n
      · have hlt2 : (k : Int) < (n : Int) := by omega
        obtain ⟨g, rfl, _, hg, c0, c1, c2, _⟩ := ha k hlt
        obtain ⟨g', rfl, _, hg', e0, e1, e2, _⟩ := hb k hlt
        rw [← hbel.cell (p := ⟨g, k * 3, none⟩) hg] at c0
        rw [← hbel.cell (p := ⟨g, k * 3 + 1, none⟩) hg] at c1
        rw [← hbel.cell (p := ⟨g, k * 3 + 2, none⟩) hg] at c2
        rw [← hbel.cell (p := ⟨g', k * 3, none⟩) hg'] at e0
        rw [← hbel.cell (p := ⟨g', k * 3 + 1, none⟩) hg'] at e1
        rw [← hbel.cell (p := ⟨g', k * 3 + 2, none⟩) hg'] at e2
        have HF := Lib.hid (show sameF f f' k = (decide ((f k).1 = (f' k).1) && decide ((f k).2.1 = (f' k).2.1)) from rfl)
        have hnx := fun (h : sameF f f' k = true) => (fun j (hj : j < k + 1) => by
          by_cases e : j = k
          · subst e; exact h
          · exact HS.out j (by omega) : ∀ j, j < k + 1 → sameF f f' j = true)
        generalize (f k).1 = K1 at c0 HF
        generalize (f' k).1 = K2 at e0 HF
        generalize (f k).2.1 = T1 at c1 HF
        generalize (f' k).2.1 = T2 at e1 HF
        generalize (f k).2.2 = A1 at c2
        generalize (f' k).2.2 = A2 at e2
        have hC := fun w => sameToken_impl K1 K2 T1 T2 A1 A2 w
        have hal : Below wr.heap.size wr (wr.alloc (.cells #[.int .i64 K1, .string T1, .int .i64 A1] 27)) := (Below.refl _ _).alloc (Nat.le_refl _) _
        have h0 := (hal.cell (p := ⟨g', k * 3, none⟩) (Nat.lt_of_lt_of_le hg' hsz)).trans e0
        have h1 := (hal.cell (p := ⟨g', k * 3 + 1, none⟩) (Nat.lt_of_lt_of_le hg' hsz)).trans e1
        have h2 := (hal.cell (p := ⟨g', k * 3 + 2, none⟩) (Nat.lt_of_lt_of_le hg' hsz)).trans e2
        clear hal e0 e1 e2
        have hno := fun h => sameB_no hlt (HF.out.trans h)
        have hys := fun h => hnx (HF.out.trans h)
        clear HF hnx
        have hsz2 : ∀ o1 o2 : Obj, w.heap.size ≤ ((wr.alloc o1).alloc o2).heap.size := fun o1 o2 => by simp; omega
        have hB2 : ∀ o1 o2 : Obj, Below w.heap.size w ((wr.alloc o1).alloc o2) := fun o1 o2 => (hbel.alloc hsz _).alloc (by simp; omega) _
        generalize (decide (K1 = K2) && decide (T1 = T2)) = bb at hC hno hys
        cases bb
        · have HX := Lib.hid (hno rfl)
          clear hno hys
          go_wp2_with fail
          refine (hC _).mono ?_
          rintro e w1 ⟨rfl, hb1⟩
          have hbb := (hB2 _ _).trans (hb1.mono (hsz2 _ _))
          go_wp2_with fail
          go_ret
          exact ⟨by rw [HX.out]; rfl, hbb⟩
        · have HX := Lib.hid (hys rfl)
          clear hno hys
          go_wp2_with fail
          refine (hC _).mono ?_
          rintro e w1 ⟨rfl, hb1⟩
          have hbb := (hB2 _ _).trans (hb1.mono (hsz2 _ _))
          go_wp2_with fail
          go_roundw
          case rel => exact ⟨k + 1, by omega, by go_num, HX, hbb⟩
          case measure => simp [intOf]; omega
      · have e : k = n := by omega
        subst e
        go_wp2_with fail
        go_ret
        exact ⟨by rw [sameB_yes HS.out]; rfl, hbel⟩
  · have q : ((n : Int) != (n' : Int)) = true := by simp; omega
    have HX := Lib.hid (sameB_len (f := f) (f' := f') hnn)
    clear hnn
    go_enter Try.func25, Try.ntmps25
    go_wp2_with fail
    go_ret
    exact ⟨by rw [HX.out]; rfl, Below.refl _ _⟩

set_option maxRecDepth 100000 in
set_option maxHeartbeats 400000 in
theorem same_impl (B1 B2 : Nat) (a b : Option Addr) (n n' ca cb : Nat) (f f' : Nat → Int × ByteArray × Int) (w : World) (ha : TokSl w B1 a n f) (hb : TokSl w B2 b n' f') (hn : n ≤ 4000000) (hn' : n' ≤ 4000000) :
    Calls Try.prog 15 #[.slice a n ca, .slice b n' cb] w (BoolE (sameB n n' f f') w) := by
  have hE := equalFunc_impl B1 B2 a b n n' ca cb f f' w ha hb hn hn'
  go_enter Try.func15, Try.ntmps15
  go_wp2_with fail
  refine hE.mono ?_
  rintro e w1 ⟨rfl, hb1⟩
  go_wp2_with fail
  go_ret
  exact ⟨rfl, hb1⟩
end Go.Proofs.Ytodgigdcdgdfdaa
