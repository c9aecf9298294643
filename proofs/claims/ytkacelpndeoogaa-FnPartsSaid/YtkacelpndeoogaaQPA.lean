/- Joined texts: Base Math Cur Draw0 RowB Big. -/
import Derived.Test.YtkacelpndeoogaaProg
import Derived.WalkKit
import Derived.ProofKit
import Derived.Lib.Hide
import Derived.Laws.BitsLemmas
import Derived.Laws.Bits64
import Derived.Laws.Bits64b
import Derived.Below
import Derived.Deep.QuietTactic
import Derived.BigQuiet
/- Small facts: bounds of integers, endings that are equal, the panic of the readers. -/
namespace Go.Proofs.Ytkacelpndeoogaa
open Go.RowKit
theorem ret_u64 {a b : Int} (h : a = b) : Ending.returned (.int .u64 a) = .returned (.int .u64 b) := by rw [h]
theorem ret_i64 {a b : Int} (h : a = b) : Ending.returned (.int .i64 a) = .returned (.int .i64 b) := by rw [h]

theorem i64_bds {n : Int} (h : (Lit.int .i64 n).wf = true) : -9223372036854775808 ≤ n ∧ n ≤ 9223372036854775807 := by
  simp [Lit.wf, IntKind.min, IntKind.max, IntKind.signed, IntKind.bits] at h; omega
theorem u64_bds {n : Int} (h : (Lit.int .u64 n).wf = true) : 0 ≤ n ∧ n ≤ 18446744073709551615 := by
  simp [Lit.wf, IntKind.min, IntKind.max, IntKind.signed, IntKind.bits] at h; omega
theorem u8_bds {n : Int} (h : (Lit.int .u8 n).wf = true) : 0 ≤ n ∧ n ≤ 255 := by
  simp [Lit.wf, IntKind.min, IntKind.max, IntKind.signed, IntKind.bits] at h; omega

theorem ret_u32 {a b : Int} (h : a = b) : Ending.returned (.int .u32 a) = .returned (.int .u32 b) := by rw [h]
theorem ret_str {a b : List UInt8} (h : a = b) : Ending.returned (.string ⟨a.toArray⟩) = .returned (.string ⟨b.toArray⟩) := by rw [h]
/-- what the readers panic with -/
def badText : ByteArray := ⟨#[110, 111, 116, 32, 97, 32, 110, 117, 109, 98, 101, 114]⟩
def badChain : List PanicEntry := [{ v := .iface 9 (.string badText), recovered := false }]
def badPanic : Ending := .panicked badChain
end Go.Proofs.Ytkacelpndeoogaa

/- Plain arithmetic: the check sum step and the bit operations as operations on natural numbers. -/
namespace Go.Proofs.Ytkacelpndeoogaa

theorem bits_xor_nat (k : IntKind) (j : Nat) (hj : j ≤ k.bits) (hk : ∀ n : Int, 0 ≤ n → n < 2 ^ j → k.wrap n = n) (a b : Nat) (ha : a < 2 ^ j) (hb : b < 2 ^ j) :
    bits .xor k a b = ((a ^^^ b : Nat) : Int) := by
  have hp : 2 ^ j ≤ 2 ^ k.bits := Nat.pow_le_pow_right (by decide) hj
  have ha' : a % 2 ^ k.bits = a := Nat.mod_eq_of_lt (Nat.lt_of_lt_of_le ha hp)
  have hb' : b % 2 ^ k.bits = b := Nat.mod_eq_of_lt (Nat.lt_of_lt_of_le hb hp)
  simp only [bits, BitVec.ofInt_natCast, BitVec.toNat_xor, BitVec.toNat_ofNat, ha', hb']
  exact hk _ (Int.natCast_nonneg _) (by exact_mod_cast Nat.xor_lt_two_pow ha hb)

theorem wraps_u32 (n : Int) (h₀ : 0 ≤ n) (h₁ : n < 2 ^ 32) : IntKind.u32.wrap n = n := by rw [IntKind.wrap_u32]; omega
theorem wraps_i64 (n : Int) (h₀ : 0 ≤ n) (h₁ : n < 2 ^ 63) : IntKind.i64.wrap n = n := by rw [IntKind.wrap_i64]; omega

theorem xor_u32 (a b : Nat) (ha : a < 4294967296) (hb : b < 4294967296) : bits .xor .u32 (a : Int) (b : Int) = ((a ^^^ b : Nat) : Int) :=
  bits_xor_nat .u32 32 (by decide) wraps_u32 a b ha hb
theorem xor_i64 (a b : Nat) (ha : a < 4294967296) (hb : b < 4294967296) : bits .xor .i64 (a : Int) (b : Int) = ((a ^^^ b : Nat) : Int) :=
  bits_xor_nat .i64 63 (by decide) wraps_i64 a b (by omega) (by omega)
theorem and1_u32 (a : Nat) (ha : a < 4294967296) : bits .and .u32 (a : Int) 1 = (a : Int) % 2 := by
  have := (bits_nat .u32 32 (by decide) wraps_u32 a 1 ha (by decide)).1
  rw [Nat.and_one_is_mod] at this
  exact this.trans (by omega)

/-- one turn of the check sum's register -/
def crcStep (x : Nat) : Nat := if x % 2 = 1 then (x / 2) ^^^ 3988292384 else x / 2
/-- n turns -/
def crcTurn : Nat → Nat → Nat
  | 0, x => x
  | n + 1, x => crcStep (crcTurn n x)
/-- a byte goes in -/
def crcByte (x b : Nat) : Nat := crcTurn 8 (x ^^^ b)
/-- the bytes of a list go in -/
def crcFold (x : Nat) (l : List UInt8) : Nat := l.foldl (fun x b => crcByte x b.toNat) x
/-- the check sum of the bytes of a list -/
def crcOf (l : List UInt8) : Nat := crcFold 4294967295 l ^^^ 4294967295

theorem crcStep_odd (x : Nat) (h : x % 2 = 1) : crcStep x = (x / 2) ^^^ 3988292384 := by rw [crcStep, if_pos h]
theorem crcStep_even (x : Nat) (h : ¬ x % 2 = 1) : crcStep x = x / 2 := by rw [crcStep, if_neg h]
theorem xor_lt32 {a b : Nat} (ha : a < 4294967296) (hb : b < 4294967296) : a ^^^ b < 4294967296 := by
  have := Nat.xor_lt_two_pow (n := 32) (x := a) (y := b) (by omega) (by omega); omega
theorem crcStep_lt {x : Nat} (h : x < 4294967296) : crcStep x < 4294967296 := by
  unfold crcStep
  split
  · exact xor_lt32 (by omega) (by omega)
  · omega
theorem crcTurn_lt {x : Nat} (h : x < 4294967296) : ∀ n, crcTurn n x < 4294967296
  | 0 => h
  | n + 1 => crcStep_lt (crcTurn_lt h n)
theorem crcByte_lt {x b : Nat} (h : x < 4294967296) (hb : b < 256) : crcByte x b < 4294967296 := crcTurn_lt (xor_lt32 h (by omega)) 8
theorem crcFold_lt {x : Nat} (h : x < 4294967296) (l : List UInt8) : crcFold x l < 4294967296 := by
  unfold crcFold
  induction l generalizing x with
  | nil => exact h
  | cons b l ih => exact ih (crcByte_lt h (by have := b.toNat_lt; omega))
theorem crcFold_snoc (x : Nat) (l : List UInt8) (b : UInt8) : crcFold x (l ++ [b]) = crcByte (crcFold x l) b.toNat := by
  simp [crcFold]
theorem crcOf_lt (l : List UInt8) : crcOf l < 4294967296 := xor_lt32 (crcFold_lt (by omega) l) (by omega)
theorem take_snoc (s : ByteArray) (k : Nat) (h : k < s.size) : s.data.toList.take (k + 1) = s.data.toList.take k ++ [s[k]] := by
  rw [List.take_succ_eq_append_getElem (by simpa using h)]; rfl
end Go.Proofs.Ytkacelpndeoogaa

/- Contracts of the cursor of the drawing functions. -/
namespace Go.Proofs.Ytkacelpndeoogaa
open Go.RowKit

theorem and255 (x : Int) : 0 ≤ bits .and .i64 x 255 ∧ bits .and .i64 x 255 ≤ 255 := by
  unfold bits
  have h : (BitVec.ofInt 64 x &&& BitVec.ofInt 64 255).toNat ≤ 255 := by
    rw [BitVec.toNat_and]
    exact Nat.le_trans Nat.and_le_right (by decide)
  generalize hq : (BitVec.ofInt 64 x &&& BitVec.ofInt 64 255).toNat = q at h
  show 0 ≤ IntKind.i64.wrap ((BitVec.ofInt 64 x &&& BitVec.ofInt 64 255).toNat : Int) ∧ IntKind.i64.wrap ((BitVec.ofInt 64 x &&& BitVec.ofInt 64 255).toNat : Int) ≤ 255
  rw [hq, IntKind.wrap_i64]
  omega

/-- the cursor in block C, with i and h in it -/
def CurAt (C : Nat) (a : Option Addr) (len cap i : Nat) (h : Int) (W : World) : Prop := W.heap[C]? = some (.cells #[.slice a len cap, .int .i64 (i : Int), .int .i64 h] 183 (0, 0))
theorem CurAt.set2 {C : Nat} {a : Option Addr} {len cap i : Nat} {h : Int} {W : World} (H : CurAt C a len cap i h W) (h' : Int) : CurAt C a len cap i h' (W.setCell ⟨C, 2, none⟩ (.int .i64 h')) :=
  heap_setCell_same W C 2 _ 183 (.int .i64 h') H
theorem CurAt.set1 {C : Nat} {a : Option Addr} {len cap i : Nat} {h : Int} {W : World} (H : CurAt C a len cap i h W) (i' : Nat) : CurAt C a len cap i' h (W.setCell ⟨C, 1, none⟩ (.int .i64 (i' : Int))) :=
  heap_setCell_same W C 1 _ 183 (.int .i64 (i' : Int)) H
theorem grown_set (W : World) (C o : Nat) (v : Value) : W.grownBy (W.setCell ⟨C, o, none⟩ v) (some C) :=
  ⟨rfl, rfl, rfl, by simp, fun k _ hk => heap_setCell_other W ⟨C, o, none⟩ k v (fun e => hk (by simp [e]))⟩
theorem grown_tr {a b c : World} {r : Option Nat} (h : a.grownBy b r) (k : b.grownBy c r) : a.grownBy c r :=
  ⟨k.os.trans h.os, k.tape.trans h.tape, k.output.trans h.output, Nat.le_trans h.size k.size, fun n hn hr => (k.block n (Nat.lt_of_lt_of_le hn h.size) hr).trans (h.block n hn hr)⟩
theorem grown_dr {a b : World} {r : Option Nat} (h : a.grownBy b r) (n : Nat) : a.grownBy (b.drewN n) r := ⟨h.os, h.tape, h.output, h.size, h.block⟩

/-- the cursor in block C over the slice a, len, cap of bytes that lie below block B -/
def Cur (B C : Nat) (a : Option Addr) (len cap : Nat) (W : World) : Prop :=
  B ≤ C ∧ (∃ (i : Nat) (h : Int), i ≤ len ∧ CurAt C a len cap i h W) ∧ len ≤ 9223372036854775807 ∧
    (∀ j, j < len → ∃ (b off : Nat) (n : Int), a = some ⟨b, off, none⟩ ∧ b < B ∧ 0 ≤ n ∧ n ≤ 255 ∧ W.cell? ⟨b, off + j, none⟩ = some (.int .u8 n))

/-- a number within bounds comes back, the cursor goes on, nothing else is written -/
def DrawE (lo hi : Int) (B C : Nat) (a : Option Addr) (len cap : Nat) (W : World) (e : Ending) (W' : World) : Prop :=
  ∃ x : Int, lo ≤ x ∧ x ≤ hi ∧ e = .returned (.int .i64 x) ∧ Cur B C a len cap W' ∧ W.grownBy W' (some C)

theorem Cur.kept {B C : Nat} {a : Option Addr} {len cap : Nat} {W W' : World} (H : Cur B C a len cap W) (g : W.grownBy W' (some C)) (h : ∃ (i : Nat) (h : Int), i ≤ len ∧ CurAt C a len cap i h W') : Cur B C a len cap W' := by
  obtain ⟨h1, h2, h3, h4⟩ := H
  refine ⟨h1, h, h3, fun j hj => ?_⟩
  obtain ⟨b, off, n, e1, e2, e3, e4, e5⟩ := h4 j hj
  obtain ⟨i, hh, _, hc⟩ := h2
  have hC : C < W.heap.size := (Array.getElem?_eq_some_iff.1 hc).1
  refine ⟨b, off, n, e1, e2, e3, e4, ?_⟩
  rw [World.cell?_of_block (w := W) (w' := W') (a := ⟨b, off + j, none⟩) (g.block b (by omega) (fun e => by simp at e; omega))]
  exact e5

/-- what l1Byte leaves: the byte, and the two stores into the cursor -/
def ByteE (C i : Nat) (W : World) (e : Ending) (W' : World) : Prop :=
  ∃ (x h' : Int) (n : Nat), 0 ≤ x ∧ x ≤ 255 ∧ e = .returned (.int .i64 x) ∧ W' = ((W.setCell ⟨C, 2, none⟩ (.int .i64 h')).drewN n).setCell ⟨C, 1, none⟩ (.int .i64 ((i + 1 : Nat) : Int))
def ByteE0 (C : Nat) (W : World) (e : Ending) (W' : World) : Prop :=
  ∃ (x h' : Int) (n : Nat), 0 ≤ x ∧ x ≤ 255 ∧ e = .returned (.int .i64 x) ∧ W' = (W.setCell ⟨C, 2, none⟩ (.int .i64 h')).drewN n

set_option maxRecDepth 100000 in
set_option maxHeartbeats 800000 in
theorem byte_walk (C i len cap : Nat) (h : Int) (b off : Nat) (n : Int) (W : World) (hi : i < len) (hl : len ≤ 9223372036854775807) (hbC : b ≠ C) (hn0 : 0 ≤ n) (hn1 : n ≤ 255)
    (hc0 : W.cell? ⟨C, 0, none⟩ = some (.slice (some ⟨b, off, none⟩) len cap)) (hc1 : W.cell? ⟨C, 1, none⟩ = some (.int .i64 (i : Int))) (hc2 : W.cell? ⟨C, 2, none⟩ = some (.int .i64 h))
    (hz1 : W.frozen? ⟨C, 1, none⟩ = false) (hz2 : W.frozen? ⟨C, 2, none⟩ = false) (hcb : W.cell? ⟨b, off + i, none⟩ = some (.int .u8 n)) :
    Calls Try.prog 153 #[.pointer (some ⟨C, 0, none⟩)] W (ByteE C i W) := by
  go_enter Try.func153, Try.ntmps153
  go_wp2
  generalize wrap64 (wrap64 (h * 6364136223846793005) + 1442695040888963407) = h'
  go_quiet (fail)
  have hb1 := and255 (bits BinOp.xor IntKind.i64 (h' / 8589934592) (h' / 35184372088832))
  generalize bits BinOp.and IntKind.i64 (bits BinOp.xor IntKind.i64 (h' / 8589934592) (h' / 35184372088832)) 255 = x at hb1 ⊢
  obtain ⟨hx0, hx1⟩ := hb1
  go_wp2
  go_quiet (fail)
  go_wp2
  go_quiet (fail)
  go_wp2
  go_ret
  exact ⟨_, h', _, (and255 _).1, (and255 _).2, rfl, rfl⟩

set_option maxRecDepth 100000 in
set_option maxHeartbeats 800000 in
theorem byte_walk0 (C i len cap : Nat) (h : Int) (a : Option Addr) (W : World) (hi : len ≤ i) (_hi2 : i ≤ 9223372036854775807)
    (hc0 : W.cell? ⟨C, 0, none⟩ = some (.slice a len cap)) (hc1 : W.cell? ⟨C, 1, none⟩ = some (.int .i64 (i : Int))) (hc2 : W.cell? ⟨C, 2, none⟩ = some (.int .i64 h))
    (_hz1 : W.frozen? ⟨C, 1, none⟩ = false) (hz2 : W.frozen? ⟨C, 2, none⟩ = false) :
    Calls Try.prog 153 #[.pointer (some ⟨C, 0, none⟩)] W (ByteE0 C W) := by
  go_enter Try.func153, Try.ntmps153
  go_wp2
  generalize wrap64 (wrap64 (h * 6364136223846793005) + 1442695040888963407) = h'
  go_quiet (fail)
  have hb1 := and255 (bits BinOp.xor IntKind.i64 (h' / 8589934592) (h' / 35184372088832))
  generalize bits BinOp.and IntKind.i64 (bits BinOp.xor IntKind.i64 (h' / 8589934592) (h' / 35184372088832)) 255 = x at hb1 ⊢
  obtain ⟨hx0, hx1⟩ := hb1
  go_wp2
  go_quiet (fail)
  go_wp2
  go_ret
  exact ⟨x, h', _, hx0, hx1, rfl, World.drewN_drewN _ _ _⟩

theorem byte_any (B C : Nat) (a : Option Addr) (len cap : Nat) (W : World) (H : Cur B C a len cap W) : Calls Try.prog 153 #[.pointer (some ⟨C, 0, none⟩)] W (DrawE 0 255 B C a len cap W) := by
  have H0 := H
  obtain ⟨hB, ⟨i, h, hi, hc⟩, hl, hrow⟩ := H
  have hc0 := cell_of_row W C 0 _ 183 (0, 0) hc
  have hc1 := cell_of_row W C 1 _ 183 (0, 0) hc
  have hc2 := cell_of_row W C 2 _ 183 (0, 0) hc
  have hz1 := frozen_of_row W C 1 _ 183 hc
  have hz2 := frozen_of_row W C 2 _ 183 hc
  by_cases hlt : i < len
  · obtain ⟨b, off, n, rfl, e2, e3, e4, e5⟩ := hrow i hlt
    refine (byte_walk C i len cap h b off n W hlt hl (by omega) e3 e4 hc0 hc1 hc2 hz1 hz2 e5).mono ?_
    rintro e W' ⟨x, h', m, hx0, hx1, rfl, rfl⟩
    have hg : W.grownBy (((W.setCell ⟨C, 2, none⟩ (.int .i64 h')).drewN m).setCell ⟨C, 1, none⟩ (.int .i64 ((i + 1 : Nat) : Int))) (some C) :=
      grown_tr (grown_dr (grown_set W C 2 _) m) (grown_set _ C 1 _)
    have hcur : CurAt C (some ⟨b, off, none⟩) len cap i h' ((W.setCell ⟨C, 2, none⟩ (.int .i64 h')).drewN m) := CurAt.set2 hc h'
    exact ⟨x, hx0, hx1, rfl, H0.kept hg ⟨i + 1, h', by omega, CurAt.set1 hcur (i + 1)⟩, hg⟩
  · refine (byte_walk0 C i len cap h a W (by omega) (by omega) hc0 hc1 hc2 hz1 hz2).mono ?_
    rintro e W' ⟨x, h', m, hx0, hx1, rfl, rfl⟩
    have hg : W.grownBy ((W.setCell ⟨C, 2, none⟩ (.int .i64 h')).drewN m) (some C) := grown_dr (grown_set W C 2 _) m
    exact ⟨x, hx0, hx1, rfl, H0.kept hg ⟨i, h', hi, CurAt.set2 hc h'⟩, hg⟩

set_option maxRecDepth 100000 in
set_option maxHeartbeats 800000 in
theorem below_any (n : Int) (B C : Nat) (a : Option Addr) (len cap : Nat) (W : World) (H : Cur B C a len cap W) (hn : 1 ≤ n) (hn2 : n ≤ 1000000) :
    Calls Try.prog 86 #[.pointer (some ⟨C, 0, none⟩), .int .i64 n] W (DrawE 0 (n - 1) B C a len cap W) := by
  by_cases hs : n ≤ 256
  · have hd : decide (n ≤ 256) = true := by simpa using hs
    go_enter Try.func86, Try.ntmps86
    go_wp2_with fail
    refine (byte_any B C a len cap _ H).mono ?_
    rintro e W1 ⟨x, hx0, hx1, rfl, hc, hg⟩
    go_wp2_with fail
    go_ret
    exact ⟨_, Int.emod_nonneg _ (by omega), by have := Int.emod_lt_of_pos x (show 0 < n by omega); omega, rfl, hc, hg⟩
  · have hd : decide (n ≤ 256) = false := by simpa using hs
    go_enter Try.func86, Try.ntmps86
    go_wp2_with fail
    refine (byte_any B C a len cap _ H).mono ?_
    rintro e W1 ⟨x, hx0, hx1, rfl, hc1, hg1⟩
    go_wp2_with fail
    refine (byte_any B C a len cap _ hc1).mono ?_
    rintro e W2 ⟨y, hy0, hy1, rfl, hc2, hg2⟩
    go_wp2_with fail
    refine (byte_any B C a len cap _ hc2).mono ?_
    rintro e W3 ⟨z, hz0, hz1, rfl, hc3, hg3⟩
    go_wp2_with fail
    refine (byte_any B C a len cap _ hc3).mono ?_
    rintro e W4 ⟨v, hv0, hv1, rfl, hc4, hg4⟩
    go_wp2_with fail
    go_ret
    exact ⟨_, Int.emod_nonneg _ (by omega), by have := Int.emod_lt_of_pos (x * 16777216 + y * 65536 + z * 256 + v) (show 0 < n by omega); omega, rfl, hc4, grown_tr hg1 (grown_tr hg2 (grown_tr hg3 hg4))⟩
end Go.Proofs.Ytkacelpndeoogaa

/- The contract of the maker of the cursor; what is drawn lies within bounds. -/
namespace Go.Proofs.Ytkacelpndeoogaa
open Go.RowKit

theorem grown_alloc (W : World) (o : Obj) (r : Option Nat) : W.grownBy (W.alloc o) r := ⟨rfl, rfl, rfl, by simp, fun k hk _ => Below.heap_alloc _ _ _ hk⟩
theorem Cur.lt {B C : Nat} {a : Option Addr} {len cap : Nat} {W : World} (H : Cur B C a len cap W) : C < W.heap.size := by
  obtain ⟨_, ⟨_, _, _, hc⟩, _⟩ := H
  exact (Array.getElem?_eq_some_iff.1 hc).1
theorem Cur.alloc {B C : Nat} {a : Option Addr} {len cap : Nat} {W : World} (H : Cur B C a len cap W) (o : Obj) : Cur B C a len cap (W.alloc o) := by
  have hC := H.lt
  have H0 := H
  obtain ⟨_, ⟨i, h, hi, hc⟩, _⟩ := H
  exact H0.kept (grown_alloc W o _) ⟨i, h, hi, (Below.heap_alloc W o C hC).trans hc⟩
theorem DrawE.weaken {lo hi lo' hi' : Int} {B C : Nat} {a : Option Addr} {len cap : Nat} {W W0 : World} {e : Ending} {W' : World} (H : DrawE lo hi B C a len cap W e W') (h1 : lo' ≤ lo) (h2 : hi ≤ hi') (g : W0.grownBy W (some C)) : DrawE lo' hi' B C a len cap W0 e W' := by
  obtain ⟨x, a1, a2, a3, a4, a5⟩ := H
  exact ⟨x, by omega, by omega, a3, a4, grown_tr g a5⟩

/-- the bytes that came in: a nil slice, or one whose cells lie below block B -/
def RowB (B : Nat) (a : Option Addr) (len : Nat) (W : World) : Prop :=
  len ≤ 9223372036854775807 ∧ (∀ j, j < len → ∃ (b off : Nat) (n : Int), a = some ⟨b, off, none⟩ ∧ b < B ∧ 0 ≤ n ∧ n ≤ 255 ∧ W.cell? ⟨b, off + j, none⟩ = some (.int .u8 n))

def NewE (B : Nat) (a : Option Addr) (len cap : Nat) (W : World) (e : Ending) (W' : World) : Prop :=
  e = .returned (.pointer (some ⟨W.heap.size, 0, none⟩)) ∧ Cur B W.heap.size a len cap W' ∧ Below B W W'

theorem new_end {B : Nat} {a : Option Addr} {len cap : Nat} {W : World} (H : RowB B a len W) (hB : B ≤ W.heap.size) (x : Int) :
    NewE B a len cap W (.returned (.pointer (some ⟨W.heap.size, 0, none⟩))) (W.alloc (.cells #[.slice a len cap, .int .i64 0, .int .i64 x] 183)) := by
  refine ⟨rfl, ⟨hB, ⟨0, x, by omega, heap_alloc_new W _⟩, H.1, fun j hj => ?_⟩, (Below.refl _ _).alloc hB _⟩
  obtain ⟨b, off, n, e1, e2, e3, e4, e5⟩ := H.2 j hj
  refine ⟨b, off, n, e1, e2, e3, e4, ?_⟩
  rw [World.cell?_of_block (w := W) (a := ⟨b, off + j, none⟩) (Below.heap_alloc W _ b (by omega))]
  exact e5

set_option maxRecDepth 100000 in
set_option maxHeartbeats 400000 in
theorem new_any (B : Nat) (a : Option Addr) (len cap : Nat) (W : World) (H : RowB B a len W) (hB : B ≤ W.heap.size) :
    Calls Try.prog 82 #[.slice a len cap] W (NewE B a len cap W) := by
  have hl := H.1
  have hl2 : (len : Int) ≤ 9223372036854775807 := by omega
  go_enter Try.func82, Try.ntmps82
  go_wp2
  go_loop [3, 4] (fun h i => ∃ (k : Nat) (x : Int), k ≤ len ∧ i = .int .i64 (k : Int) ∧ h = .int .i64 x) (fun _ i => len - (intOf i).toNat)
  case atStart => exact ⟨0, _, by omega, rfl, rfl⟩
  case round =>
    obtain ⟨k, x, hk, rfl, rfl⟩ := hrel
    by_cases hlt : k < len
    · by_cases h4 : k < 4000
      · have hd : decide ((k : Int) < (len : Int)) = true := by simpa using hlt
        have hd2 : decide ((k : Int) < 4000) = true := by simp; omega
        obtain ⟨b, off, n, rfl, e2, e3, e4, e5⟩ := H.2 k hlt
        go_wp2_with fail
        go_round
        case rel => exact ⟨k + 1, _, by omega, by go_num, rfl⟩
        case measure => simp [intOf]; omega
      · have hd2 : decide ((k : Int) < 4000) = false := by simp; omega
        go_wp2_with fail
        go_ret
        exact new_end H hB x
    · go_wp2_with fail
      go_ret
      exact new_end H hB x

theorem RowB.later {B : Nat} {a : Option Addr} {len : Nat} {W W' : World} (H : RowB B a len W) (g : Below B W W') : RowB B a len W' := by
  refine ⟨H.1, fun j hj => ?_⟩
  obtain ⟨b, off, n, e1, e2, e3, e4, e5⟩ := H.2 j hj
  exact ⟨b, off, n, e1, e2, e3, e4, (World.cell?_of_block (w := W) (w' := W') (a := ⟨b, off + j, none⟩) (g.block b e2)).trans e5⟩

/-- a number within bounds comes back; nothing below B is written -/
def GiveE (k : IntKind) (lo hi : Int) (B : Nat) (W : World) (e : Ending) (W' : World) : Prop := ∃ x : Int, lo ≤ x ∧ x ≤ hi ∧ e = .returned (.int k x) ∧ Below B W W'

theorem below_of_grown {B C : Nat} {W0 W W' : World} (h : Below B W0 W) (g : W.grownBy W' (some C)) (hBC : B ≤ C) (hBW : B ≤ W.heap.size) : Below B W0 W' := h.grown g hBW (fun k e => by simp at e; omega)

/-- what turns nothing that was there turns at most the cursor -/
theorem grown_of_new {W W' : World} (h : Below W.heap.size W W') (r : Option Nat) : W.grownBy W' r := ⟨h.os, h.tape, h.output, h.size, fun k hk _ => h.block k hk⟩
theorem grown_below {W W1 W2 : World} {r : Option Nat} (h : W.grownBy W1 r) (g : Below W.heap.size W1 W2) : W.grownBy W2 r :=
  ⟨g.os.trans h.os, g.tape.trans h.tape, g.output.trans h.output, Nat.le_trans h.size g.size, fun k hk hr => (g.block k hk).trans (h.block k hk hr)⟩
theorem Cur.later {B C : Nat} {a : Option Addr} {len cap : Nat} {W W' : World} (H : Cur B C a len cap W) (g : Below W.heap.size W W') : Cur B C a len cap W' := by
  have hC := H.lt
  have H0 := H
  obtain ⟨_, ⟨i, h, hi, hc⟩, _⟩ := H
  exact H0.kept (grown_of_new g _) ⟨i, h, hi, (g.block C hC).trans hc⟩
end Go.Proofs.Ytkacelpndeoogaa

/- The bytes that came in, as the drawing functions want them. -/
namespace Go.Proofs.Ytkacelpndeoogaa
theorem rowB_of {w : World} {a : Option Addr} {len cap : Nat} {zs : List Int}
    (h : (a = none ∧ len = 0 ∧ cap = 0 ∧ zs = []) ∨ ∃ x, a = some x ∧ len ≤ cap ∧ cap ≤ maxLen ∧ zs.length = cap ∧ (∀ i, i < zs.length → w.cell? (x.add i) = some (.int .u8 (zs.getD i 0))) ∧ ∀ n ∈ zs, (Lit.int .u8 n).wf = true) : RowB w.heap.size a len w := by
  rcases h with ⟨rfl, rfl, rfl, rfl⟩ | ⟨x, rfl, h1, h2, h3, h4, h5⟩
  · exact ⟨by omega, fun j hj => by omega⟩
  · refine ⟨by unfold maxLen at h2; omega, fun j hj => ?_⟩
    have hc := h4 j (by omega)
    obtain ⟨b, off, spot⟩ := x
    have hc0 := h4 0 (by omega)
    have hsp : spot = none := by simpa [Addr.add] using World.cell?_spot hc0
    subst hsp
    have e : (⟨b, off, none⟩ : Addr).add j = ⟨b, off + j, none⟩ := by unfold Addr.add; split <;> simp_all
    rw [e] at hc
    have hm : zs.getD j 0 ∈ zs := by
      have hj2 : j < zs.length := by omega
      rw [List.getD_eq_getElem?_getD, List.getElem?_eq_getElem hj2]; exact List.getElem_mem _
    obtain ⟨g0, g1⟩ := u8_bds (h5 _ hm)
    refine ⟨b, off, zs.getD j 0, rfl, ?_, g0, g1, hc⟩
    rcases Nat.lt_or_ge b w.heap.size with hb | hb
    · exact hb
    · exfalso
      have : w.heap[b]? = none := by simp; omega
      simp [World.cell?, this] at hc
end Go.Proofs.Ytkacelpndeoogaa

/- The contract of big; the end of a law. -/
namespace Go.Proofs.Ytkacelpndeoogaa
open Go.RowKit

theorem big_yes (a : Option Addr) (len cap : Nat) (w : World) (hl : len ≤ 9223372036854775807) (h : 1048576 < len) :
    Calls Try.prog 9 #[.slice a len cap] w fun e w' => e = .returned (.bool true) ∧ w = w' := by
  have hd : decide (1048576 < (len : Int)) = true := by simp; omega
  go_enter Try.func9, Try.ntmps9
  go_wp2
  go_ret
  exact ⟨rfl, rfl⟩
theorem big_no (a : Option Addr) (len cap : Nat) (w : World) (h : ¬ 1048576 < len) :
    Calls Try.prog 9 #[.slice a len cap] w fun e w' => e = .returned (.bool false) ∧ w = w' := by
  have hd : decide (1048576 < (len : Int)) = false := by simp; omega
  go_enter Try.func9, Try.ntmps9
  go_wp2
  go_ret
  exact ⟨rfl, rfl⟩

/-- a law's end: true, and nothing that was there has turned -/
def LawE (w : World) (e : Ending) (w' : World) : Prop := e = .returned (.bool true) ∧ Below w.heap.size w w'
end Go.Proofs.Ytkacelpndeoogaa
