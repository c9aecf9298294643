/- The contract of the function that draws bytes. -/
import Derived.Test.YtpehplmkhmpgmaaDraw0
import Derived.Test.YtpehplmkhmpgmaaOwn
namespace Go.Proofs.Ytpehplmkhmpgmaa
open Go.RowKit

theorem Try.info5b : (Try.prog.info? 5).map (fun i => (i.zero, i.size, i.bytes)) = some (some (.int .u8 0), 1, 1) := by kernel_rfl

theorem Cur.below {B C B' : Nat} {a : Option Addr} {len cap : Nat} {W W' : World} (H : Cur B C a len cap W) (g : Below B' W W') (hC : C < B') : Cur B C a len cap W' := by
  obtain ⟨h1, ⟨i, h, hi, hc⟩, h3, h4⟩ := H
  refine ⟨h1, ⟨i, h, hi, (g.block C hC).trans hc⟩, h3, fun j hj => ?_⟩
  obtain ⟨b, off, n, e1, e2, e3, e4, e5⟩ := h4 j hj
  exact ⟨b, off, n, e1, e2, e3, e4, (World.cell?_of_block (w := W) (w' := W') (a := ⟨b, off + j, none⟩) (g.block b (by omega))).trans e5⟩
theorem OwnB.turn {e : TypeId} {Bo C : Nat} {v : Value} {l : List UInt8} {W W' : World} (H : OwnB e W Bo v l) (g : W.grownBy W' (some C)) (hC : C < Bo) : OwnB e W' Bo v l :=
  World.ownsRow.kept H g (by
    rcases h : v.ownBlock with _ | k
    · exact .inl rfl
    · refine .inr fun e => ?_
      have := (World.ownsRow.lt H k h).1
      simp at e; omega)

def BytesE (B C : Nat) (a : Option Addr) (len cap n : Nat) (W : World) (e : Ending) (W' : World) : Prop :=
  ∃ (l : List UInt8) (g c : Nat), l.length = n ∧ e = .returned (.slice (some ⟨g, 0, none⟩) n c) ∧ OwnB 5 W' W.heap.size (.slice (some ⟨g, 0, none⟩) n c) l ∧ Cur B C a len cap W' ∧ W.grownBy W' (some C)

set_option maxRecDepth 100000 in
set_option maxHeartbeats 800000 in
theorem bytes_any (n B C : Nat) (a : Option Addr) (len cap : Nat) (W : World) (H : Cur B C a len cap W) (hn : n ≤ 1000) :
    Calls Try.prog 35 #[.pointer (some ⟨C, 0, none⟩), .int .i64 (n : Int)] W (BytesE B C a len cap n W) := by
  obtain ⟨i0, hi, hz0, hz1, hz2⟩ := info_parts Try.info5b
  have hC := H.lt
  have hBC := H.1
  go_enter Try.func35, Try.ntmps35
  go_wp2
  go_loopw [5, 6] (fun v i wr => ∃ (k g c : Nat) (l : List UInt8), k ≤ n ∧ i = .int .i64 (k : Int) ∧ v = .slice (some ⟨g, 0, none⟩) k c ∧ Hid (l.length = k) ∧ OwnB 5 wr W.heap.size (.slice (some ⟨g, 0, none⟩) k c) l ∧ Cur B C a len cap wr ∧ W.grownBy wr (some C)) (fun _ i _ => n - (intOf i).toNat)
  case atStart => exact ⟨0, W.heap.size, 0, [], by omega, rfl, rfl, rfl, World.ownsRow_lit W #[] 0 (Nat.le_refl _) (by unfold maxLen; omega) rfl, H.alloc _, grown_alloc _ _ _⟩
  case round =>
    obtain ⟨k, g, c, l, hk, rfl, rfl, HL, hown, hcur, hbel⟩ := hrel
    have hsz := hbel.size
    by_cases hlt : k < n
    · go_wp2_with fail
      refine (byte_any B C a len cap _ hcur).mono ?_
      rintro e W1 ⟨x, hx0, hx1, rfl, hc1, hg1⟩
      have hown1 := hown.turn hg1 (by omega)
      have hbel1 := grown_tr hbel hg1
      have hsz1 := hbel1.size
      have hl1 := hg1.size
      have hb : x = ((UInt8.ofNat x.toNat).toNat : Int) := by simp; omega
      have HB := Lib.hid hb; clear hb hown hcur hg1
      go_wp2_with (at_builtin; refine appB Try.underlying22 hi hz0 hz1 hz2 rfl (.tmp 13) (.tmp 17) rfl W.heap.size (.slice (some ⟨g, 0, none⟩) k c) l (UInt8.ofNat x.toNat) _ W1 rfl rfl hown1 HB.out (by have := HL.out; omega) (by omega) ?_; intro g2 c2 W2 hown2 hbel2)
      go_roundw
      case rel => exact ⟨k + 1, g2, c2, l ++ [UInt8.ofNat x.toNat], by omega, by go_num, by rw [HL.out], by unfold Hid; rw [List.length_append, HL.out]; rfl, by rw [← HL.out]; exact hown2, hc1.below hbel2 (by omega), grown_below hbel1 hbel2⟩
      case measure => simp [intOf]; omega
    · have e : k = n := by omega
      subst e
      go_wp2_with fail
      go_ret
      exact ⟨l, g, c, HL.out, rfl, hown, hcur, hbel⟩

theorem bytes_anyI (x : Int) (B C : Nat) (a : Option Addr) (len cap : Nat) (W : World) (H : Cur B C a len cap W) (h0 : 0 ≤ x) (h1 : x ≤ 1000) :
    Calls Try.prog 35 #[.pointer (some ⟨C, 0, none⟩), .int .i64 x] W (BytesE B C a len cap x.toNat W) := by
  obtain ⟨n, rfl⟩ := Int.eq_ofNat_of_zero_le h0
  exact bytes_any n B C a len cap W H (by omega)

def StringE (m : Nat) (B : Nat) (W : World) (e : Ending) (W' : World) : Prop := ∃ S : ByteArray, S.size ≤ m ∧ e = .returned (.string S) ∧ Below B W W'
end Go.Proofs.Ytpehplmkhmpgmaa
