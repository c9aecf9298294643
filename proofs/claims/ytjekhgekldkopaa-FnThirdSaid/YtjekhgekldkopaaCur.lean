
/- Contracts of the cursor of the drawing functions. -/
import Derived.Test.YtjekhgekldkopaaBase
import Derived.Test.YtjekhgekldkopaaMath
import Derived.Below
import Derived.Deep.QuietTactic
import Derived.BigQuiet
namespace Go.Proofs.Ytjekhgekldkopaa
open Go.RowKit

theorem and255 (x : Int) : 0 ≤ bits .and .i64 x 255 ∧ bits .and .i64 x 255 ≤ 255 := by
  unfold bits
  have h : (BitVec.ofInt 64 x &&& BitVec.ofInt 64 255).toNat ≤ 255 := by
    rw [BitVec.toNat_and]
    exact Nat.le_trans Nat.and_le_right (by decide)
  generalize hq : (BitVec.ofInt 64 x &&& BitVec.ofInt 64 255).toNat = q at h
  show 0 ≤ IntKind.i64.wrap ((BitVec.ofInt 64 x &&& BitVec.ofInt 64 255).toNat : Int) ∧ IntKind.i64.wrap ((BitVec.ofInt 64 x &&& BitVec.ofInt 64 255).toNat : Int) ≤ 255
  rw [hq, IntKind.wrap_i64]
  omega

/-- the cursor in block C, with i and h in it -/
def CurAt (C : Nat) (a : Option Addr) (len cap i : Nat) (h : Int) (W : World) : Prop := W.heap[C]? = some (.cells #[.slice a len cap, .int .i64 (i : Int), .int .i64 h] 75 (0, 0))
theorem CurAt.set2 {C : Nat} {a : Option Addr} {len cap i : Nat} {h : Int} {W : World} (H : CurAt C a len cap i h W) (h' : Int) : CurAt C a len cap i h' (W.setCell ⟨C, 2, none⟩ (.int .i64 h')) :=
  heap_setCell_same W C 2 _ 75 (.int .i64 h') H
theorem CurAt.set1 {C : Nat} {a : Option Addr} {len cap i : Nat} {h : Int} {W : World} (H : CurAt C a len cap i h W) (i' : Nat) : CurAt C a len cap i' h (W.setCell ⟨C, 1, none⟩ (.int .i64 (i' : Int))) :=
  heap_setCell_same W C 1 _ 75 (.int .i64 (i' : Int)) H
theorem grown_set (W : World) (C o : Nat) (v : Value) : W.grownBy (W.setCell ⟨C, o, none⟩ v) (some C) :=
  ⟨rfl, rfl, rfl, by simp, fun k _ hk => heap_setCell_other W ⟨C, o, none⟩ k v (fun e => hk (by simp [e]))⟩
theorem grown_tr {a b c : World} {r : Option Nat} (h : a.grownBy b r) (k : b.grownBy c r) : a.grownBy c r :=
  ⟨k.os.trans h.os, k.tape.trans h.tape, k.output.trans h.output, Nat.le_trans h.size k.size, fun n hn hr => (k.block n (Nat.lt_of_lt_of_le hn h.size) hr).trans (h.block n hn hr)⟩
theorem grown_dr {a b : World} {r : Option Nat} (h : a.grownBy b r) (n : Nat) : a.grownBy (b.drewN n) r := ⟨h.os, h.tape, h.output, h.size, h.block⟩

/-- the cursor in block C over the slice a, len, cap of bytes that lie below block B -/
def Cur (B C : Nat) (a : Option Addr) (len cap : Nat) (W : World) : Prop :=
  B ≤ C ∧ (∃ (i : Nat) (h : Int), i ≤ len ∧ CurAt C a len cap i h W) ∧ len ≤ 9223372036854775807 ∧
    (∀ j, j < len → ∃ (b off : Nat) (n : Int), a = some ⟨b, off, none⟩ ∧ b < B ∧ 0 ≤ n ∧ n ≤ 255 ∧ W.cell? ⟨b, off + j, none⟩ = some (.int .u8 n))

/-- a number within bounds comes back, the cursor goes on, nothing else is written -/
def DrawE (lo hi : Int) (B C : Nat) (a : Option Addr) (len cap : Nat) (W : World) (e : Ending) (W' : World) : Prop :=
  ∃ x : Int, lo ≤ x ∧ x ≤ hi ∧ e = .returned (.int .i64 x) ∧ Cur B C a len cap W' ∧ W.grownBy W' (some C)

theorem Cur.kept {B C : Nat} {a : Option Addr} {len cap : Nat} {W W' : World} (H : Cur B C a len cap W) (g : W.grownBy W' (some C)) (h : ∃ (i : Nat) (h : Int), i ≤ len ∧ CurAt C a len cap i h W') : Cur B C a len cap W' := by
  obtain ⟨h1, h2, h3, h4⟩ := H
  refine ⟨h1, h, h3, fun j hj => ?_⟩
  obtain ⟨b, off, n, e1, e2, e3, e4, e5⟩ := h4 j hj
  obtain ⟨i, hh, _, hc⟩ := h2
  have hC : C < W.heap.size := (Array.getElem?_eq_some_iff.1 hc).1
  refine ⟨b, off, n, e1, e2, e3, e4, ?_⟩
  rw [World.cell?_of_block (w := W) (w' := W') (a := ⟨b, off + j, none⟩) (g.block b (by omega) (fun e => by simp at e; omega))]
  exact e5

/-- what l1Byte leaves: the byte, and the two stores into the cursor -/
def ByteE (C i : Nat) (W : World) (e : Ending) (W' : World) : Prop :=
  ∃ (x h' : Int) (n : Nat), 0 ≤ x ∧ x ≤ 255 ∧ e = .returned (.int .i64 x) ∧ W' = ((W.setCell ⟨C, 2, none⟩ (.int .i64 h')).drewN n).setCell ⟨C, 1, none⟩ (.int .i64 ((i + 1 : Nat) : Int))
def ByteE0 (C : Nat) (W : World) (e : Ending) (W' : World) : Prop :=
  ∃ (x h' : Int) (n : Nat), 0 ≤ x ∧ x ≤ 255 ∧ e = .returned (.int .i64 x) ∧ W' = (W.setCell ⟨C, 2, none⟩ (.int .i64 h')).drewN n

set_option maxRecDepth 100000 in
set_option maxHeartbeats 800000 in
theorem byte_walk (C i len cap : Nat) (h : Int) (b off : Nat) (n : Int) (W : World) (hi : i < len) (hl : len ≤ 9223372036854775807) (hbC : b ≠ C) (hn0 : 0 ≤ n) (hn1 : n ≤ 255)
    (hc0 : W.cell? ⟨C, 0, none⟩ = some (.slice (some ⟨b, off, none⟩) len cap)) (hc1 : W.cell? ⟨C, 1, none⟩ = some (.int .i64 (i : Int))) (hc2 : W.cell? ⟨C, 2, none⟩ = some (.int .i64 h))
    (hz1 : W.frozen? ⟨C, 1, none⟩ = false) (hz2 : W.frozen? ⟨C, 2, none⟩ = false) (hcb : W.cell? ⟨b, off + i, none⟩ = some (.int .u8 n)) :
    Calls Try.prog 77 #[.pointer (some ⟨C, 0, none⟩)] W (ByteE C i W) := by
  go_enter Try.func77, Try.ntmps77
  go_wp2
  generalize wrap64 (wrap64 (h * 6364136223846793005) + 1442695040888963407) = h'
  go_quiet (fail)
  have hb1 := and255 (bits BinOp.xor IntKind.i64 (h' / 8589934592) (h' / 35184372088832))
  generalize bits BinOp.and IntKind.i64 (bits BinOp.xor IntKind.i64 (h' / 8589934592) (h' / 35184372088832)) 255 = x at hb1 ⊢
  obtain ⟨hx0, hx1⟩ := hb1
  go_wp2
  go_quiet (fail)
  go_wp2
  go_quiet (fail)
  go_wp2
  go_ret
  exact ⟨_, h', _, (and255 _).1, (and255 _).2, rfl, rfl⟩

set_option maxRecDepth 100000 in
set_option maxHeartbeats 800000 in
theorem byte_walk0 (C i len cap : Nat) (h : Int) (a : Option Addr) (W : World) (hi : len ≤ i) (_hi2 : i ≤ 9223372036854775807)
    (hc0 : W.cell? ⟨C, 0, none⟩ = some (.slice a len cap)) (hc1 : W.cell? ⟨C, 1, none⟩ = some (.int .i64 (i : Int))) (hc2 : W.cell? ⟨C, 2, none⟩ = some (.int .i64 h))
    (_hz1 : W.frozen? ⟨C, 1, none⟩ = false) (hz2 : W.frozen? ⟨C, 2, none⟩ = false) :
    Calls Try.prog 77 #[.pointer (some ⟨C, 0, none⟩)] W (ByteE0 C W) := by
  go_enter Try.func77, Try.ntmps77
  go_wp2
  generalize wrap64 (wrap64 (h * 6364136223846793005) + 1442695040888963407) = h'
  go_quiet (fail)
  have hb1 := and255 (bits BinOp.xor IntKind.i64 (h' / 8589934592) (h' / 35184372088832))
  generalize bits BinOp.and IntKind.i64 (bits BinOp.xor IntKind.i64 (h' / 8589934592) (h' / 35184372088832)) 255 = x at hb1 ⊢
  obtain ⟨hx0, hx1⟩ := hb1
  go_wp2
  go_quiet (fail)
  go_wp2
  go_ret
  exact ⟨x, h', _, hx0, hx1, rfl, World.drewN_drewN _ _ _⟩

theorem byte_any (B C : Nat) (a : Option Addr) (len cap : Nat) (W : World) (H : Cur B C a len cap W) : Calls Try.prog 77 #[.pointer (some ⟨C, 0, none⟩)] W (DrawE 0 255 B C a len cap W) := by
  have H0 := H
  obtain ⟨hB, ⟨i, h, hi, hc⟩, hl, hrow⟩ := H
  have hc0 := cell_of_row W C 0 _ 75 (0, 0) hc
  have hc1 := cell_of_row W C 1 _ 75 (0, 0) hc
  have hc2 := cell_of_row W C 2 _ 75 (0, 0) hc
  have hz1 := frozen_of_row W C 1 _ 75 hc
  have hz2 := frozen_of_row W C 2 _ 75 hc
  by_cases hlt : i < len
  · obtain ⟨b, off, n, rfl, e2, e3, e4, e5⟩ := hrow i hlt
    refine (byte_walk C i len cap h b off n W hlt hl (by omega) e3 e4 hc0 hc1 hc2 hz1 hz2 e5).mono ?_
    rintro e W' ⟨x, h', m, hx0, hx1, rfl, rfl⟩
    have hg : W.grownBy (((W.setCell ⟨C, 2, none⟩ (.int .i64 h')).drewN m).setCell ⟨C, 1, none⟩ (.int .i64 ((i + 1 : Nat) : Int))) (some C) :=
      grown_tr (grown_dr (grown_set W C 2 _) m) (grown_set _ C 1 _)
    have hcur : CurAt C (some ⟨b, off, none⟩) len cap i h' ((W.setCell ⟨C, 2, none⟩ (.int .i64 h')).drewN m) := CurAt.set2 hc h'
    exact ⟨x, hx0, hx1, rfl, H0.kept hg ⟨i + 1, h', by omega, CurAt.set1 hcur (i + 1)⟩, hg⟩
  · refine (byte_walk0 C i len cap h a W (by omega) (by omega) hc0 hc1 hc2 hz1 hz2).mono ?_
    rintro e W' ⟨x, h', m, hx0, hx1, rfl, rfl⟩
    have hg : W.grownBy ((W.setCell ⟨C, 2, none⟩ (.int .i64 h')).drewN m) (some C) := grown_dr (grown_set W C 2 _) m
    exact ⟨x, hx0, hx1, rfl, H0.kept hg ⟨i, h', hi, CurAt.set2 hc h'⟩, hg⟩

set_option maxRecDepth 100000 in
set_option maxHeartbeats 800000 in
theorem below_any (n : Int) (B C : Nat) (a : Option Addr) (len cap : Nat) (W : World) (H : Cur B C a len cap W) (hn : 1 ≤ n) (hn2 : n ≤ 1000000) :
    Calls Try.prog 63 #[.pointer (some ⟨C, 0, none⟩), .int .i64 n] W (DrawE 0 (n - 1) B C a len cap W) := by
  by_cases hs : n ≤ 256
  · have hd : decide (n ≤ 256) = true := by simpa using hs
    go_enter Try.func63, Try.ntmps63
    go_wp2_with fail
    refine (byte_any B C a len cap _ H).mono ?_
    rintro e W1 ⟨x, hx0, hx1, rfl, hc, hg⟩
    go_wp2_with fail
    go_ret
    exact ⟨_, Int.emod_nonneg _ (by omega), by have := Int.emod_lt_of_pos x (show 0 < n by omega); omega, rfl, hc, hg⟩
  · have hd : decide (n ≤ 256) = false := by simpa using hs
    go_enter Try.func63, Try.ntmps63
    go_wp2_with fail
    refine (byte_any B C a len cap _ H).mono ?_
    rintro e W1 ⟨x, hx0, hx1, rfl, hc1, hg1⟩
    go_wp2_with fail
    refine (byte_any B C a len cap _ hc1).mono ?_
    rintro e W2 ⟨y, hy0, hy1, rfl, hc2, hg2⟩
    go_wp2_with fail
    refine (byte_any B C a len cap _ hc2).mono ?_
    rintro e W3 ⟨z, hz0, hz1, rfl, hc3, hg3⟩
    go_wp2_with fail
    refine (byte_any B C a len cap _ hc3).mono ?_
    rintro e W4 ⟨v, hv0, hv1, rfl, hc4, hg4⟩
    go_wp2_with fail
    go_ret
    exact ⟨_, Int.emod_nonneg _ (by omega), by have := Int.emod_lt_of_pos (x * 16777216 + y * 65536 + z * 256 + v) (show 0 < n by omega); omega, rfl, hc4, grown_tr hg1 (grown_tr hg2 (grown_tr hg3 hg4))⟩
end Go.Proofs.Ytjekhgekldkopaa
