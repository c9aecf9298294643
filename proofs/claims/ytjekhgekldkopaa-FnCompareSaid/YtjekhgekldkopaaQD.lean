/- Joined texts: ValArg ValS Cur Draw0. -/
import Derived.Test.YtjekhgekldkopaaQC
import Derived.Test.YtjekhgekldkopaaQA
import Derived.Test.YtjekhgekldkopaaQB
import Derived.Deep.QuietTactic
import Derived.BigQuiet
import Derived.Below
/- Contracts of what the laws do with a value that came in: its size, and a copy of it. -/
namespace Go.Proofs.Ytjekhgekldkopaa
open Go.RowKit

set_option maxRecDepth 100000 in
set_option maxHeartbeats 800000 in
theorem szValue_any (k a : Int) (t : ByteArray) (n : Int) (w : World) (ht : t.size ≤ 9223372036854775807) (h0 : 0 ≤ n) (h1 : n ≤ 1048576) :
    Calls Try.prog 33 #[.agg #[.int .i64 k, .int .i64 a, .string t], .int .i64 n] w (IntE (leftOf n t.size) w) := by
  unfold leftOf
  by_cases h : n - (t.size : Int) < 0
  · have d : decide (n - (t.size : Int) < 0) = true := by simpa using h
    rw [if_pos h]
    clear h
    go_enter Try.func33, Try.ntmps33
    go_wp2_with fail
    go_ret
    exact ⟨rfl, (Below.refl _ _).alloc (Nat.le_refl _) _⟩
  · have d : decide (n - (t.size : Int) < 0) = false := by simpa using h
    rw [if_neg h]
    clear h
    go_enter Try.func33, Try.ntmps33
    go_wp2_with fail
    go_ret
    exact ⟨by go_num, (Below.refl _ _).alloc (Nat.le_refl _) _⟩

/-- a value comes back -/
def CopyV (k a : Int) (t : ByteArray) (w : World) (e : Ending) (w' : World) : Prop := e = .returned (.agg #[.int .i64 k, .int .i64 a, .string t]) ∧ Below w.heap.size w w'

set_option maxRecDepth 100000 in
set_option maxHeartbeats 1600000 in
theorem toValue_any (k a : Int) (t : ByteArray) (w : World) :
    Calls Try.prog 34 #[.agg #[.int .i64 k, .int .i64 a, .string t]] w (CopyV k a t w) := by
  go_enter Try.func34, Try.ntmps34
  go_wp2_with fail
  have hF : ValAt (((w.alloc (.cells #[.int .i64 k, .int .i64 a, .string t] 40)).alloc (.cells #[.int .i64 k, .int .i64 a, .string t] 27)).alloc (.cells #[.int .i64 k, .int .i64 a, .string t] 27)) (w.heap.size + 1) k a t :=
    (Below.heap_alloc _ _ (w.heap.size + 1) (by simp)).trans (val_new w _ k a t)
  have f0 := cell_of_row _ (w.heap.size + 1) 0 _ 27 (0, 0) hF
  have f1 := cell_of_row _ (w.heap.size + 1) 1 _ 27 (0, 0) hF
  have f2 := cell_of_row _ (w.heap.size + 1) 2 _ 27 (0, 0) hF
  have hBf : Below w.heap.size w (((w.alloc (.cells #[.int .i64 k, .int .i64 a, .string t] 40)).alloc (.cells #[.int .i64 k, .int .i64 a, .string t] 27)).alloc (.cells #[.int .i64 k, .int .i64 a, .string t] 27)) := (((Below.refl _ _).alloc (Nat.le_refl _) _).alloc (by simp) _).alloc (by simp; omega) _
  clear hF
  generalize ((w.alloc (.cells #[.int .i64 k, .int .i64 a, .string t] 40)).alloc (.cells #[.int .i64 k, .int .i64 a, .string t] 27)).alloc (.cells #[.int .i64 k, .int .i64 a, .string t] 27) = wf at f0 f1 f2 hBf ⊢
  refine bodyPost_ret (v := .agg #[.int .i64 k, .int .i64 a, .string t]) (by simp [results, Try.results34, go_sem, f0, f1, f2]) rfl ?_
  exact ⟨rfl, hBf⟩
end Go.Proofs.Ytjekhgekldkopaa

/- Contracts of the model's test on values and of the makers of values. -/
namespace Go.Proofs.Ytjekhgekldkopaa
open Go.RowKit

/-- the document's condition on a value -/
def valOk (k n : Int) (t : List UInt8) : Bool :=
  if k = 0 then decide (n = 0) && decide (t = [])
  else if k = 1 then decide (t = [])
  else if k = 2 then decide (n = 0) && decide ((t.length : Int) ≤ 200)
  else if k = 3 then (decide (0 ≤ n) && decide (n ≤ 1)) && decide (t = [])
  else false
theorem beq_nil (s : ByteArray) : (s.toList == []) = decide (s.data.toList = []) := beq_lit s []

set_option maxRecDepth 100000 in
set_option maxHeartbeats 2000000 in
theorem valueOk_spec (k n : Int) (t : ByteArray) (w : World) (ht : t.size ≤ 9223372036854775807) :
    Calls Try.prog 53 #[.agg #[.int .i64 k, .int .i64 n, .string t]] w (BoolE (valOk k n t.data.toList) w) := by
  have hbb := (Below.refl w.heap.size w).alloc (Nat.le_refl _) (.cells #[.int .i64 k, .int .i64 n, .string t] 27)
  have hsz : ((t.data.toList.length : Nat) : Int) = (t.size : Int) := rfl
  have hN : (n == 0) = decide (n = 0) := by by_cases h : n = 0 <;> simp [h]
  have hT := beq_nil t
  have hL : decide ((t.size : Int) ≤ 200) = decide (t.size ≤ 200) := by rw [decide_eq_decide]; omega
  have hI := fun w => in_any n 0 1 (decide (0 ≤ n) && decide (n ≤ 1)) w (by rw [Bool.decide_and])
  have hV : valOk k n t.data.toList = (if k = 0 then decide (n = 0) && decide (t.data.toList = []) else if k = 1 then decide (t.data.toList = []) else if k = 2 then decide (n = 0) && decide ((t.size : Int) ≤ 200) else if k = 3 then (decide (0 ≤ n) && decide (n ≤ 1)) && decide (t.data.toList = []) else false) := rfl
  generalize valOk k n t.data.toList = V at hV ⊢
  generalize decide (n = 0) = b0 at hN hV
  generalize decide (t.data.toList = []) = b1 at hT hV
  generalize (decide (0 ≤ n) && decide (n ≤ 1)) = b2 at hI hV
  by_cases h0 : k = 0
  · subst h0
    have HV := Lib.hid (hV.trans (if_pos rfl)); clear hV hI
    cases b0 <;> cases b1
    all_goals
      go_enter Try.func53, Try.ntmps53
      go_wp2_with fail
      go_ret
      exact ⟨by rw [HV.out]; rfl, hbb⟩
  rw [if_neg h0] at hV
  have q0 : (k == 0) = false := by simpa using h0
  by_cases h1 : k = 1
  · subst h1
    have HV := Lib.hid (hV.trans (if_pos rfl)); clear hV hI
    cases b1
    all_goals
      go_enter Try.func53, Try.ntmps53
      go_wp2_with fail
      go_ret
      exact ⟨by rw [HV.out]; rfl, hbb⟩
  rw [if_neg h1] at hV
  have q1 : (k == 1) = false := by simpa using h1
  by_cases h2 : k = 2
  · subst h2
    replace hV := hV.trans (if_pos rfl); clear hI hL
    by_cases hz : t.size ≤ 200
    · have d1 : decide ((t.size : Int) ≤ 200) = true := by simp; omega
      have d2 : decide (t.size ≤ 200) = true := by simp; omega
      rw [d1] at hV
      have HV := Lib.hid hV; clear hV hz
      cases b0
      all_goals
        go_enter Try.func53, Try.ntmps53
        go_wp2_with fail
        go_ret
        exact ⟨by rw [HV.out]; rfl, hbb⟩
    · have d1 : decide ((t.size : Int) ≤ 200) = false := by simp; omega
      have d2 : decide (t.size ≤ 200) = false := by simp; omega
      rw [d1] at hV
      have HV := Lib.hid hV; clear hV hz
      cases b0
      all_goals
        go_enter Try.func53, Try.ntmps53
        go_wp2_with fail
        go_ret
        exact ⟨by rw [HV.out]; rfl, hbb⟩
  rw [if_neg h2] at hV
  have q2 : (k == 2) = false := by simpa using h2
  by_cases h3 : k = 3
  · subst h3
    have HV := Lib.hid (hV.trans (if_pos rfl)); clear hV
    cases b2 <;> cases b1
    all_goals
      go_enter Try.func53, Try.ntmps53
      go_wp2_with fail
      refine (hI _).mono ?_
      rintro e w1 ⟨rfl, rfl⟩
      go_wp2_with fail
      go_ret
      exact ⟨by rw [HV.out]; rfl, hbb⟩
  rw [if_neg h3] at hV
  have q3 : (k == 3) = false := by simpa using h3
  have HV := Lib.hid hV; clear hV hI
  go_enter Try.func53, Try.ntmps53
  go_wp2_with fail
  go_ret
  exact ⟨by rw [HV.out]; rfl, hbb⟩

set_option maxRecDepth 100000 in
set_option maxHeartbeats 800000 in
theorem intValue_spec (n : Int) (w : World) : Calls Try.prog 20 #[.int .i64 n] w (CopyV 1 n ⟨#[]⟩ w) := by
  have hR := heap_alloc_new w (.cells #[.int .i64 1, .int .i64 n, .string ⟨#[]⟩] 27)
  have f0 := cell_of_row _ w.heap.size 0 _ 27 (0, 0) hR
  have f1 := cell_of_row _ w.heap.size 1 _ 27 (0, 0) hR
  have f2 := cell_of_row _ w.heap.size 2 _ 27 (0, 0) hR
  have hb := (Below.refl w.heap.size w).alloc (Nat.le_refl _) (.cells #[.int .i64 1, .int .i64 n, .string ⟨#[]⟩] 27)
  go_enter Try.func20, Try.ntmps20
  go_wp2_with fail
  generalize w.alloc (.cells #[.int .i64 1, .int .i64 n, .string ⟨#[]⟩] 27) = wf at f0 f1 f2 hb ⊢
  refine bodyPost_ret (v := .agg #[.int .i64 1, .int .i64 n, .string ⟨#[]⟩]) (by simp [results, Try.results20, go_sem, f0, f1, f2]) rfl ?_
  exact ⟨rfl, hb⟩
set_option maxRecDepth 100000 in
set_option maxHeartbeats 800000 in
theorem textValue_spec (s : ByteArray) (w : World) : Calls Try.prog 57 #[.string s] w (CopyV 2 0 s w) := by
  have hR := heap_alloc_new w (.cells #[.int .i64 2, .int .i64 0, .string s] 27)
  have f0 := cell_of_row _ w.heap.size 0 _ 27 (0, 0) hR
  have f1 := cell_of_row _ w.heap.size 1 _ 27 (0, 0) hR
  have f2 := cell_of_row _ w.heap.size 2 _ 27 (0, 0) hR
  have hb := (Below.refl w.heap.size w).alloc (Nat.le_refl _) (.cells #[.int .i64 2, .int .i64 0, .string s] 27)
  go_enter Try.func57, Try.ntmps57
  go_wp2_with fail
  generalize w.alloc (.cells #[.int .i64 2, .int .i64 0, .string s] 27) = wf at f0 f1 f2 hb ⊢
  refine bodyPost_ret (v := .agg #[.int .i64 2, .int .i64 0, .string s]) (by simp [results, Try.results57, go_sem, f0, f1, f2]) rfl ?_
  exact ⟨rfl, hb⟩
set_option maxRecDepth 100000 in
set_option maxHeartbeats 800000 in
theorem boolValue_spec (b : Bool) (w : World) : Calls Try.prog 24 #[.bool b] w (CopyV 3 (if b then 1 else 0) ⟨#[]⟩ w) := by
  cases b
  · have hR := heap_alloc_new w (.cells #[.int .i64 3, .int .i64 0, .string ⟨#[]⟩] 27)
    have f0 := cell_of_row _ w.heap.size 0 _ 27 (0, 0) hR
    have f1 := cell_of_row _ w.heap.size 1 _ 27 (0, 0) hR
    have f2 := cell_of_row _ w.heap.size 2 _ 27 (0, 0) hR
    have hb := (Below.refl w.heap.size w).alloc (Nat.le_refl _) (.cells #[.int .i64 3, .int .i64 0, .string ⟨#[]⟩] 27)
    go_enter Try.func24, Try.ntmps24
    go_wp2_with fail
    generalize w.alloc (.cells #[.int .i64 3, .int .i64 0, .string ⟨#[]⟩] 27) = wf at f0 f1 f2 hb ⊢
    refine bodyPost_ret (v := .agg #[.int .i64 3, .int .i64 0, .string ⟨#[]⟩]) (by simp [results, Try.results24, go_sem, f0, f1, f2]) rfl ?_
    exact ⟨rfl, hb⟩
  · have hR := heap_alloc_new w (.cells #[.int .i64 3, .int .i64 1, .string ⟨#[]⟩] 27)
    have f0 := cell_of_row _ w.heap.size 0 _ 27 (0, 0) hR
    have f1 := cell_of_row _ w.heap.size 1 _ 27 (0, 0) hR
    have f2 := cell_of_row _ w.heap.size 2 _ 27 (0, 0) hR
    have hb := (Below.refl w.heap.size w).alloc (Nat.le_refl _) (.cells #[.int .i64 3, .int .i64 1, .string ⟨#[]⟩] 27)
    go_enter Try.func24, Try.ntmps24
    go_wp2_with fail
    generalize w.alloc (.cells #[.int .i64 3, .int .i64 1, .string ⟨#[]⟩] 27) = wf at f0 f1 f2 hb ⊢
    refine bodyPost_ret (v := .agg #[.int .i64 3, .int .i64 1, .string ⟨#[]⟩]) (by simp [results, Try.results24, go_sem, f0, f1, f2]) rfl ?_
    exact ⟨rfl, hb⟩
end Go.Proofs.Ytjekhgekldkopaa

/- Contracts of the cursor of the drawing functions. -/
namespace Go.Proofs.Ytjekhgekldkopaa
open Go.RowKit

theorem and255 (x : Int) : 0 ≤ bits .and .i64 x 255 ∧ bits .and .i64 x 255 ≤ 255 := by
  unfold bits
  have h : (BitVec.ofInt 64 x &&& BitVec.ofInt 64 255).toNat ≤ 255 := by
    rw [BitVec.toNat_and]
    exact Nat.le_trans Nat.and_le_right (by decide)
  generalize hq : (BitVec.ofInt 64 x &&& BitVec.ofInt 64 255).toNat = q at h
  show 0 ≤ IntKind.i64.wrap ((BitVec.ofInt 64 x &&& BitVec.ofInt 64 255).toNat : Int) ∧ IntKind.i64.wrap ((BitVec.ofInt 64 x &&& BitVec.ofInt 64 255).toNat : Int) ≤ 255
  rw [hq, IntKind.wrap_i64]
  omega

/-- the cursor in block C, with i and h in it -/
def CurAt (C : Nat) (a : Option Addr) (len cap i : Nat) (h : Int) (W : World) : Prop := W.heap[C]? = some (.cells #[.slice a len cap, .int .i64 (i : Int), .int .i64 h] 75 (0, 0))
theorem CurAt.set2 {C : Nat} {a : Option Addr} {len cap i : Nat} {h : Int} {W : World} (H : CurAt C a len cap i h W) (h' : Int) : CurAt C a len cap i h' (W.setCell ⟨C, 2, none⟩ (.int .i64 h')) :=
  heap_setCell_same W C 2 _ 75 (.int .i64 h') H
theorem CurAt.set1 {C : Nat} {a : Option Addr} {len cap i : Nat} {h : Int} {W : World} (H : CurAt C a len cap i h W) (i' : Nat) : CurAt C a len cap i' h (W.setCell ⟨C, 1, none⟩ (.int .i64 (i' : Int))) :=
  heap_setCell_same W C 1 _ 75 (.int .i64 (i' : Int)) H
theorem grown_set (W : World) (C o : Nat) (v : Value) : W.grownBy (W.setCell ⟨C, o, none⟩ v) (some C) :=
  ⟨rfl, rfl, rfl, by simp, fun k _ hk => heap_setCell_other W ⟨C, o, none⟩ k v (fun e => hk (by simp [e]))⟩
theorem grown_tr {a b c : World} {r : Option Nat} (h : a.grownBy b r) (k : b.grownBy c r) : a.grownBy c r :=
  ⟨k.os.trans h.os, k.tape.trans h.tape, k.output.trans h.output, Nat.le_trans h.size k.size, fun n hn hr => (k.block n (Nat.lt_of_lt_of_le hn h.size) hr).trans (h.block n hn hr)⟩
theorem grown_dr {a b : World} {r : Option Nat} (h : a.grownBy b r) (n : Nat) : a.grownBy (b.drewN n) r := ⟨h.os, h.tape, h.output, h.size, h.block⟩

/-- the cursor in block C over the slice a, len, cap of bytes that lie below block B -/
def Cur (B C : Nat) (a : Option Addr) (len cap : Nat) (W : World) : Prop :=
  B ≤ C ∧ (∃ (i : Nat) (h : Int), i ≤ len ∧ CurAt C a len cap i h W) ∧ len ≤ 9223372036854775807 ∧
    (∀ j, j < len → ∃ (b off : Nat) (n : Int), a = some ⟨b, off, none⟩ ∧ b < B ∧ 0 ≤ n ∧ n ≤ 255 ∧ W.cell? ⟨b, off + j, none⟩ = some (.int .u8 n))

/-- a number within bounds comes back, the cursor goes on, nothing else is written -/
def DrawE (lo hi : Int) (B C : Nat) (a : Option Addr) (len cap : Nat) (W : World) (e : Ending) (W' : World) : Prop :=
  ∃ x : Int, lo ≤ x ∧ x ≤ hi ∧ e = .returned (.int .i64 x) ∧ Cur B C a len cap W' ∧ W.grownBy W' (some C)

theorem Cur.kept {B C : Nat} {a : Option Addr} {len cap : Nat} {W W' : World} (H : Cur B C a len cap W) (g : W.grownBy W' (some C)) (h : ∃ (i : Nat) (h : Int), i ≤ len ∧ CurAt C a len cap i h W') : Cur B C a len cap W' := by
  obtain ⟨h1, h2, h3, h4⟩ := H
  refine ⟨h1, h, h3, fun j hj => ?_⟩
  obtain ⟨b, off, n, e1, e2, e3, e4, e5⟩ := h4 j hj
  obtain ⟨i, hh, _, hc⟩ := h2
  have hC : C < W.heap.size := (Array.getElem?_eq_some_iff.1 hc).1
  refine ⟨b, off, n, e1, e2, e3, e4, ?_⟩
  rw [World.cell?_of_block (w := W) (w' := W') (a := ⟨b, off + j, none⟩) (g.block b (by omega) (fun e => by simp at e; omega))]
  exact e5

/-- what l1Byte leaves: the byte, and the two stores into the cursor -/
def ByteE (C i : Nat) (W : World) (e : Ending) (W' : World) : Prop :=
  ∃ (x h' : Int) (n : Nat), 0 ≤ x ∧ x ≤ 255 ∧ e = .returned (.int .i64 x) ∧ W' = ((W.setCell ⟨C, 2, none⟩ (.int .i64 h')).drewN n).setCell ⟨C, 1, none⟩ (.int .i64 ((i + 1 : Nat) : Int))
def ByteE0 (C : Nat) (W : World) (e : Ending) (W' : World) : Prop :=
  ∃ (x h' : Int) (n : Nat), 0 ≤ x ∧ x ≤ 255 ∧ e = .returned (.int .i64 x) ∧ W' = (W.setCell ⟨C, 2, none⟩ (.int .i64 h')).drewN n

set_option maxRecDepth 100000 in
set_option maxHeartbeats 800000 in
theorem byte_walk (C i len cap : Nat) (h : Int) (b off : Nat) (n : Int) (W : World) (hi : i < len) (hl : len ≤ 9223372036854775807) (hbC : b ≠ C) (hn0 : 0 ≤ n) (hn1 : n ≤ 255)
    (hc0 : W.cell? ⟨C, 0, none⟩ = some (.slice (some ⟨b, off, none⟩) len cap)) (hc1 : W.cell? ⟨C, 1, none⟩ = some (.int .i64 (i : Int))) (hc2 : W.cell? ⟨C, 2, none⟩ = some (.int .i64 h))
    (hz1 : W.frozen? ⟨C, 1, none⟩ = false) (hz2 : W.frozen? ⟨C, 2, none⟩ = false) (hcb : W.cell? ⟨b, off + i, none⟩ = some (.int .u8 n)) :
    Calls Try.prog 77 #[.pointer (some ⟨C, 0, none⟩)] W (ByteE C i W) := by
  go_enter Try.func77, Try.ntmps77
  go_wp2
  generalize wrap64 (wrap64 (h * 6364136223846793005) + 1442695040888963407) = h'
  go_quiet (fail)
  have hb1 := and255 (bits BinOp.xor IntKind.i64 (h' / 8589934592) (h' / 35184372088832))
  generalize bits BinOp.and IntKind.i64 (bits BinOp.xor IntKind.i64 (h' / 8589934592) (h' / 35184372088832)) 255 = x at hb1 ⊢
  obtain ⟨hx0, hx1⟩ := hb1
  go_wp2
  go_quiet (fail)
  go_wp2
  go_quiet (fail)
  go_wp2
  go_ret
  exact ⟨_, h', _, (and255 _).1, (and255 _).2, rfl, rfl⟩

set_option maxRecDepth 100000 in
set_option maxHeartbeats 800000 in
theorem byte_walk0 (C i len cap : Nat) (h : Int) (a : Option Addr) (W : World) (hi : len ≤ i) (_hi2 : i ≤ 9223372036854775807)
    (hc0 : W.cell? ⟨C, 0, none⟩ = some (.slice a len cap)) (hc1 : W.cell? ⟨C, 1, none⟩ = some (.int .i64 (i : Int))) (hc2 : W.cell? ⟨C, 2, none⟩ = some (.int .i64 h))
    (_hz1 : W.frozen? ⟨C, 1, none⟩ = false) (hz2 : W.frozen? ⟨C, 2, none⟩ = false) :
    Calls Try.prog 77 #[.pointer (some ⟨C, 0, none⟩)] W (ByteE0 C W) := by
  go_enter Try.func77, Try.ntmps77
  go_wp2
  generalize wrap64 (wrap64 (h * 6364136223846793005) + 1442695040888963407) = h'
  go_quiet (fail)
  have hb1 := and255 (bits BinOp.xor IntKind.i64 (h' / 8589934592) (h' / 35184372088832))
  generalize bits BinOp.and IntKind.i64 (bits BinOp.xor IntKind.i64 (h' / 8589934592) (h' / 35184372088832)) 255 = x at hb1 ⊢
  obtain ⟨hx0, hx1⟩ := hb1
  go_wp2
  go_quiet (fail)
  go_wp2
  go_ret
  exact ⟨x, h', _, hx0, hx1, rfl, World.drewN_drewN _ _ _⟩

theorem byte_any (B C : Nat) (a : Option Addr) (len cap : Nat) (W : World) (H : Cur B C a len cap W) : Calls Try.prog 77 #[.pointer (some ⟨C, 0, none⟩)] W (DrawE 0 255 B C a len cap W) := by
  have H0 := H
  obtain ⟨hB, ⟨i, h, hi, hc⟩, hl, hrow⟩ := H
  have hc0 := cell_of_row W C 0 _ 75 (0, 0) hc
  have hc1 := cell_of_row W C 1 _ 75 (0, 0) hc
  have hc2 := cell_of_row W C 2 _ 75 (0, 0) hc
  have hz1 := frozen_of_row W C 1 _ 75 hc
  have hz2 := frozen_of_row W C 2 _ 75 hc
  by_cases hlt : i < len
  · obtain ⟨b, off, n, rfl, e2, e3, e4, e5⟩ := hrow i hlt
    refine (byte_walk C i len cap h b off n W hlt hl (by omega) e3 e4 hc0 hc1 hc2 hz1 hz2 e5).mono ?_
    rintro e W' ⟨x, h', m, hx0, hx1, rfl, rfl⟩
    have hg : W.grownBy (((W.setCell ⟨C, 2, none⟩ (.int .i64 h')).drewN m).setCell ⟨C, 1, none⟩ (.int .i64 ((i + 1 : Nat) : Int))) (some C) :=
      grown_tr (grown_dr (grown_set W C 2 _) m) (grown_set _ C 1 _)
    have hcur : CurAt C (some ⟨b, off, none⟩) len cap i h' ((W.setCell ⟨C, 2, none⟩ (.int .i64 h')).drewN m) := CurAt.set2 hc h'
    exact ⟨x, hx0, hx1, rfl, H0.kept hg ⟨i + 1, h', by omega, CurAt.set1 hcur (i + 1)⟩, hg⟩
  · refine (byte_walk0 C i len cap h a W (by omega) (by omega) hc0 hc1 hc2 hz1 hz2).mono ?_
    rintro e W' ⟨x, h', m, hx0, hx1, rfl, rfl⟩
    have hg : W.grownBy ((W.setCell ⟨C, 2, none⟩ (.int .i64 h')).drewN m) (some C) := grown_dr (grown_set W C 2 _) m
    exact ⟨x, hx0, hx1, rfl, H0.kept hg ⟨i, h', hi, CurAt.set2 hc h'⟩, hg⟩

set_option maxRecDepth 100000 in
set_option maxHeartbeats 800000 in
theorem below_any (n : Int) (B C : Nat) (a : Option Addr) (len cap : Nat) (W : World) (H : Cur B C a len cap W) (hn : 1 ≤ n) (hn2 : n ≤ 1000000) :
    Calls Try.prog 63 #[.pointer (some ⟨C, 0, none⟩), .int .i64 n] W (DrawE 0 (n - 1) B C a len cap W) := by
  by_cases hs : n ≤ 256
  · have hd : decide (n ≤ 256) = true := by simpa using hs
    go_enter Try.func63, Try.ntmps63
    go_wp2_with fail
    refine (byte_any B C a len cap _ H).mono ?_
    rintro e W1 ⟨x, hx0, hx1, rfl, hc, hg⟩
    go_wp2_with fail
    go_ret
    exact ⟨_, Int.emod_nonneg _ (by omega), by have := Int.emod_lt_of_pos x (show 0 < n by omega); omega, rfl, hc, hg⟩
  · have hd : decide (n ≤ 256) = false := by simpa using hs
    go_enter Try.func63, Try.ntmps63
    go_wp2_with fail
    refine (byte_any B C a len cap _ H).mono ?_
    rintro e W1 ⟨x, hx0, hx1, rfl, hc1, hg1⟩
    go_wp2_with fail
    refine (byte_any B C a len cap _ hc1).mono ?_
    rintro e W2 ⟨y, hy0, hy1, rfl, hc2, hg2⟩
    go_wp2_with fail
    refine (byte_any B C a len cap _ hc2).mono ?_
    rintro e W3 ⟨z, hz0, hz1, rfl, hc3, hg3⟩
    go_wp2_with fail
    refine (byte_any B C a len cap _ hc3).mono ?_
    rintro e W4 ⟨v, hv0, hv1, rfl, hc4, hg4⟩
    go_wp2_with fail
    go_ret
    exact ⟨_, Int.emod_nonneg _ (by omega), by have := Int.emod_lt_of_pos (x * 16777216 + y * 65536 + z * 256 + v) (show 0 < n by omega); omega, rfl, hc4, grown_tr hg1 (grown_tr hg2 (grown_tr hg3 hg4))⟩
end Go.Proofs.Ytjekhgekldkopaa

/- The contract of the maker of the cursor; what is drawn lies within bounds. -/
namespace Go.Proofs.Ytjekhgekldkopaa
open Go.RowKit

theorem grown_alloc (W : World) (o : Obj) (r : Option Nat) : W.grownBy (W.alloc o) r := ⟨rfl, rfl, rfl, by simp, fun k hk _ => Below.heap_alloc _ _ _ hk⟩
theorem Cur.lt {B C : Nat} {a : Option Addr} {len cap : Nat} {W : World} (H : Cur B C a len cap W) : C < W.heap.size := by
  obtain ⟨_, ⟨_, _, _, hc⟩, _⟩ := H
  exact (Array.getElem?_eq_some_iff.1 hc).1
theorem Cur.alloc {B C : Nat} {a : Option Addr} {len cap : Nat} {W : World} (H : Cur B C a len cap W) (o : Obj) : Cur B C a len cap (W.alloc o) := by
  have hC := H.lt
  have H0 := H
  obtain ⟨_, ⟨i, h, hi, hc⟩, _⟩ := H
  exact H0.kept (grown_alloc W o _) ⟨i, h, hi, (Below.heap_alloc W o C hC).trans hc⟩
theorem DrawE.weaken {lo hi lo' hi' : Int} {B C : Nat} {a : Option Addr} {len cap : Nat} {W W0 : World} {e : Ending} {W' : World} (H : DrawE lo hi B C a len cap W e W') (h1 : lo' ≤ lo) (h2 : hi ≤ hi') (g : W0.grownBy W (some C)) : DrawE lo' hi' B C a len cap W0 e W' := by
  obtain ⟨x, a1, a2, a3, a4, a5⟩ := H
  exact ⟨x, by omega, by omega, a3, a4, grown_tr g a5⟩

/-- the bytes that came in: a nil slice, or one whose cells lie below block B -/
def RowB (B : Nat) (a : Option Addr) (len : Nat) (W : World) : Prop :=
  len ≤ 9223372036854775807 ∧ (∀ j, j < len → ∃ (b off : Nat) (n : Int), a = some ⟨b, off, none⟩ ∧ b < B ∧ 0 ≤ n ∧ n ≤ 255 ∧ W.cell? ⟨b, off + j, none⟩ = some (.int .u8 n))

def NewE (B : Nat) (a : Option Addr) (len cap : Nat) (W : World) (e : Ending) (W' : World) : Prop :=
  e = .returned (.pointer (some ⟨W.heap.size, 0, none⟩)) ∧ Cur B W.heap.size a len cap W' ∧ Below B W W'

theorem new_end {B : Nat} {a : Option Addr} {len cap : Nat} {W : World} (H : RowB B a len W) (hB : B ≤ W.heap.size) (x : Int) :
    NewE B a len cap W (.returned (.pointer (some ⟨W.heap.size, 0, none⟩))) (W.alloc (.cells #[.slice a len cap, .int .i64 0, .int .i64 x] 75)) := by
  refine ⟨rfl, ⟨hB, ⟨0, x, by omega, heap_alloc_new W _⟩, H.1, fun j hj => ?_⟩, (Below.refl _ _).alloc hB _⟩
  obtain ⟨b, off, n, e1, e2, e3, e4, e5⟩ := H.2 j hj
  refine ⟨b, off, n, e1, e2, e3, e4, ?_⟩
  rw [World.cell?_of_block (w := W) (a := ⟨b, off + j, none⟩) (Below.heap_alloc W _ b (by omega))]
  exact e5

set_option maxRecDepth 100000 in
set_option maxHeartbeats 400000 in
theorem new_any (B : Nat) (a : Option Addr) (len cap : Nat) (W : World) (H : RowB B a len W) (hB : B ≤ W.heap.size) :
    Calls Try.prog 62 #[.slice a len cap] W (NewE B a len cap W) := by
  have hl := H.1
  have hl2 : (len : Int) ≤ 9223372036854775807 := by omega
  go_enter Try.func62, Try.ntmps62
  go_wp2
  go_loop [3, 4] (fun h i => ∃ (k : Nat) (x : Int), k ≤ len ∧ i = .int .i64 (k : Int) ∧ h = .int .i64 x) (fun _ i => len - (intOf i).toNat)
  case atStart => exact ⟨0, _, by omega, rfl, rfl⟩
  case round =>
    obtain ⟨k, x, hk, rfl, rfl⟩ := hrel
    by_cases hlt : k < len
    · by_cases h4 : k < 4000
      · have hd : decide ((k : Int) < (len : Int)) = true := by simpa using hlt
        have hd2 : decide ((k : Int) < 4000) = true := by simp; omega
        obtain ⟨b, off, n, rfl, e2, e3, e4, e5⟩ := H.2 k hlt
        go_wp2_with fail
        go_round
        case rel => exact ⟨k + 1, _, by omega, by go_num, rfl⟩
        case measure => simp [intOf]; omega
      · have hd2 : decide ((k : Int) < 4000) = false := by simp; omega
        go_wp2_with fail
        go_ret
        exact new_end H hB x
    · go_wp2_with fail
      go_ret
      exact new_end H hB x

theorem RowB.later {B : Nat} {a : Option Addr} {len : Nat} {W W' : World} (H : RowB B a len W) (g : Below B W W') : RowB B a len W' := by
  refine ⟨H.1, fun j hj => ?_⟩
  obtain ⟨b, off, n, e1, e2, e3, e4, e5⟩ := H.2 j hj
  exact ⟨b, off, n, e1, e2, e3, e4, (World.cell?_of_block (w := W) (w' := W') (a := ⟨b, off + j, none⟩) (g.block b e2)).trans e5⟩

/-- a number within bounds comes back; nothing below B is written -/
def GiveE (k : IntKind) (lo hi : Int) (B : Nat) (W : World) (e : Ending) (W' : World) : Prop := ∃ x : Int, lo ≤ x ∧ x ≤ hi ∧ e = .returned (.int k x) ∧ Below B W W'

theorem below_of_grown {B C : Nat} {W0 W W' : World} (h : Below B W0 W) (g : W.grownBy W' (some C)) (hBC : B ≤ C) (hBW : B ≤ W.heap.size) : Below B W0 W' := h.grown g hBW (fun k e => by simp at e; omega)

/-- what turns nothing that was there turns at most the cursor -/
theorem grown_of_new {W W' : World} (h : Below W.heap.size W W') (r : Option Nat) : W.grownBy W' r := ⟨h.os, h.tape, h.output, h.size, fun k hk _ => h.block k hk⟩
theorem grown_below {W W1 W2 : World} {r : Option Nat} (h : W.grownBy W1 r) (g : Below W.heap.size W1 W2) : W.grownBy W2 r :=
  ⟨g.os.trans h.os, g.tape.trans h.tape, g.output.trans h.output, Nat.le_trans h.size g.size, fun k hk hr => (g.block k hk).trans (h.block k hk hr)⟩
theorem Cur.later {B C : Nat} {a : Option Addr} {len cap : Nat} {W W' : World} (H : Cur B C a len cap W) (g : Below W.heap.size W W') : Cur B C a len cap W' := by
  have hC := H.lt
  have H0 := H
  obtain ⟨_, ⟨i, h, hi, hc⟩, _⟩ := H
  exact H0.kept (grown_of_new g _) ⟨i, h, hi, (g.block C hC).trans hc⟩
end Go.Proofs.Ytjekhgekldkopaa
