/- The walk of the law FnCrcTurn. -/
import Derived.Test.YtojafonpfcpmjaaLaws
import Derived.Test.YtojafonpfcpmjaaDrawB
import Derived.Test.YtojafonpfcpmjaaCrc
import Derived.Test.YtojafonpfcpmjaaCrcMath
import Derived.Deep.RegionWith
import Derived.Lib.Strings
namespace Go.Proofs.Ytojafonpfcpmjaa
open Go.RowKit

theorem at0_any (i : Nat) (B : Nat) (a : Option Addr) (len cap : Nat) (W : World) (H : RowB B a len W) (hi : i ≤ 10) (hlen : len ≤ 1048576) :
    Calls Try.prog 21 #[.slice a len cap, .int .i64 (i : Int)] W fun e W' => ∃ x : Nat, x ≤ 255 ∧ e = .returned (.int .i64 (x : Int)) ∧ W = W' := by
  by_cases hlt : i < len
  · obtain ⟨b, off, n, rfl, e2, e3, e4, e5⟩ := H.2 i hlt
    go_enter Try.func21, Try.ntmps21
    go_wp2_with fail
    go_ret
    exact ⟨n.toNat, by omega, ret_i64 (by omega), rfl⟩
  · go_enter Try.func21, Try.ntmps21
    go_wp2_with fail
    go_ret
    exact ⟨(i * 7 + len) % 256, by omega, ret_i64 (by omega), rfl⟩

theorem xor_u8 (a b : Nat) (ha : a < 256) (hb : b < 256) : bits .xor .u8 (a : Int) (b : Int) = ((a ^^^ b : Nat) : Int) :=
  bits_xor_nat .u8 8 (by decide) wraps_u8 a b (by omega) (by omega)

theorem of_small (n : Nat) (h : n < 256) : (UInt8.ofNat n).toNat = n := by simp; omega

theorem turned (W2 : World) (K J cp y : Nat) (R : Array Value) (T : ByteArray) (hK : W2.heap[K]? = some (.cells R 5 (R.size, R.size + 1))) (hJ : J < T.data.size)
    (hR : ∀ j (hj : j < T.data.size), R[j]? = some (.int .u8 (T.data[j].toNat : Int))) :
    ∃ c : UInt8, c ≠ T.data[J] ∧ (convert 22 9 (.slice (some ⟨K, 0, none⟩) T.size cp)).run Try.prog (W2.setCell ⟨K, J, none⟩ (.int .u8 (bits .xor .u8 (T.data[J].toNat : Int) (1 + (y : Int) % 255)))).drew
      = .ok (.string ⟨(T.data.toList.set J c).toArray⟩) (W2.setCell ⟨K, J, none⟩ (.int .u8 (bits .xor .u8 (T.data[J].toNat : Int) (1 + (y : Int) % 255)))).drew := by
  have hb := T.data[J].toNat_lt
  have hx : bits .xor .u8 (T.data[J].toNat : Int) (1 + (y : Int) % 255) = ((T.data[J].toNat ^^^ (1 + y % 255) : Nat) : Int) := by
    rw [← xor_u8 _ _ (by omega) (by omega)]; congr 1
  have hlt : T.data[J].toNat ^^^ (1 + y % 255) < 256 := by
    have := Nat.xor_lt_two_pow (n := 8) (x := T.data[J].toNat) (y := 1 + y % 255) (by omega) (by omega); omega
  have hc : (UInt8.ofNat (T.data[J].toNat ^^^ (1 + y % 255))).toNat = T.data[J].toNat ^^^ (1 + y % 255) := of_small _ hlt
  refine ⟨UInt8.ofNat (T.data[J].toNat ^^^ (1 + y % 255)), fun e => ?_, ?_⟩
  · rw [e] at hc
    have h0 : T.data[J].toNat ^^^ 0 = T.data[J].toNat ^^^ (1 + y % 255) := by rw [Nat.xor_zero]; exact hc
    have := xor_cancel_left h0
    omega
  · rw [hx]
    generalize UInt8.ofNat (T.data[J].toNat ^^^ (1 + y % 255)) = c at hc
    rw [← hc]
    have hl : (T.data.toList.set J c).length = T.size := by simp
    have h := run_convert_bytes_back (P := Try.prog) (W2.setCell ⟨K, J, none⟩ (.int .u8 (c.toNat : Int))).drew 22 9 5 ⟨K, 0, none⟩ cp (T.data.toList.set J c) Try.underlying22 Try.underlying5 Try.underlying9 (fun j hj => by
      have hj2 : j < T.data.size := by simpa using hj
      have hp : (⟨K, 0, none⟩ : Addr).add j = ⟨K, j, none⟩ := by unfold Addr.add; split <;> simp_all
      have hcell : W2.cell? ⟨K, j, none⟩ = some (.int .u8 (T.data[j].toNat : Int)) := (cell_of_row W2 K _ R 5 _ hK).trans (hR _ hj2)
      rw [hp]
      show (W2.setCell ⟨K, J, none⟩ (.int .u8 (c.toNat : Int))).cell? ⟨K, j, none⟩ = _
      by_cases e : J = j
      · subst e
        rw [World.cell?_setCell_same _ _ _ hcell]; simp
      · rw [World.cell?_setCell_other _ _ _ _ (fun h => e (Addr.mk.inj h).2.1), hcell]
        simp [e])
    rw [hl] at h
    exact h
theorem crc_other {T : ByteArray} {J : Nat} {c : UInt8} (hJ : J < T.data.size) (h : c ≠ T.data[J]) : (((crcOf (T.data.toList.set J c) : Nat) : Int) != ((crcOf T.data.toList : Nat) : Int)) = true := by
  have hJ2 : J < T.data.toList.length := by simpa using hJ
  have e1 : T.data.toList.set J c = T.data.toList.take J ++ c :: T.data.toList.drop (J + 1) := by
    rw [List.set_eq_take_append_cons_drop, if_pos hJ2]
  have e2 : T.data.toList = T.data.toList.take J ++ T.data[J] :: T.data.toList.drop (J + 1) := by
    have := List.take_append_drop J T.data.toList
    rw [List.drop_eq_getElem_cons hJ2] at this
    exact this.symm
  have h3 := crcOf_turn (T.data.toList.take J) (T.data.toList.drop (J + 1)) c T.data[J] h
  rw [← e1, ← e2] at h3
  simp only [bne_iff_ne, ne_eq]
  omega

set_option maxRecDepth 100000 in
set_option maxHeartbeats 800000 in
theorem crc_law (a : Option Addr) (len cap : Nat) (w : World) (hrow : RowB w.heap.size a len w) : Calls Try.prog 5 #[.slice a len cap] w (LawE w) := by
  have hlen := hrow.1
  by_cases hbig : 1048576 < len
  · go_enter Try.func5, Try.ntmps5
    go_wp2_with fail
    refine (big_yes a len cap _ hlen hbig).mono ?_
    rintro e w' ⟨rfl, rfl⟩
    go_wp2_with fail
    go_ret
    exact ⟨rfl, Below.refl _ _⟩
  · go_enter Try.func5, Try.ntmps5
    go_wp2_with fail
    refine (big_no a len cap _ hbig).mono ?_
    rintro e w' ⟨rfl, rfl⟩
    go_wp2_with fail
    refine (drawCrc_any w.heap.size a len cap _ hrow (Nat.le_refl _)).mono ?_
    rintro e w1 ⟨S0, hS0, rfl, hb⟩
    have hrow1 := hrow.later hb
    have hT0 : 1 ≤ ((⟨#[120]⟩ : ByteArray) ++ S0).size ∧ ((⟨#[120]⟩ : ByteArray) ++ S0).size ≤ 41 := by
      rw [ByteArray.size_append, show (⟨#[120]⟩ : ByteArray).size = 1 from rfl]; omega
    generalize hT : (⟨#[120]⟩ : ByteArray) ++ S0 = T at hT0
    obtain ⟨hT1, hT41⟩ := hT0
    have hbs := run_bytes_of_string (P := Try.prog) w1 9 22 5 T Try.underlying9 Try.underlying22 Try.underlying5
    have hR : ∀ j (hj : j < T.data.size), (bytesRow T (grownCap w1 T.size 0 5))[j]? = some (.int .u8 (T.data[j].toNat : Int)) := fun j hj => bytesRow_at T _ j hj
    have hRs : T.size ≤ (bytesRow T (grownCap w1 T.size 0 5)).size := by unfold bytesRow; simp
    generalize grownCap w1 T.size 0 5 = cp at hbs hR hRs
    generalize bytesRow T cp = R at hbs hR hRs
    go_wp2_with fail
    have hK : (w1.alloc (.cells R 5 (R.size, R.size + 1))).drew.heap[w1.heap.size]? = some (.cells R 5 (R.size, R.size + 1)) := heap_alloc_new w1 _
    have hb2 : Below w.heap.size w (w1.alloc (.cells R 5 (R.size, R.size + 1))).drew := (hb.alloc hb.size _).drew
    have hrow2 := hrow.later hb2
    have hK1 := hb.size
    clear hbs
    generalize (w1.alloc (.cells R 5 (R.size, R.size + 1))).drew = W2 at *
    refine (at0_any 0 w.heap.size a len cap _ hrow2 (by omega) (by omega)).mono ?_
    rintro e w' ⟨x, hx, rfl, rfl⟩
    generalize hk : w1.heap.size = K at *
    clear hrow1 hb hk
    have hj : x % T.size < T.size := Nat.mod_lt _ (by omega)
    have hcell : W2.cell? ⟨K, x % T.size, none⟩ = some (.int .u8 ((T.data[x % T.size]'hj).toNat : Int)) := (cell_of_row W2 K _ R 5 _ hK).trans (hR _ hj)
    have hfz : W2.frozen? ⟨K, x % T.size, none⟩ = false := by simp [World.frozen?, hK]; omega
    go_wp2_with fail
    rw [show ((x : Int) % (T.size : Int)) = ((x % T.size : Nat) : Int) from (Int.natCast_emod x T.size).symm]
    generalize x % T.size = J at *
    have hJ : (J : Int) < (T.size : Int) := by omega
    have hrow3 : RowB w.heap.size a len W2.drew := hrow2
    go_region_with (go_at_call 21; refine (at0_any 1 w.heap.size a len cap _ hrow3 (by omega) (by omega)).mono ?_; rintro e w' ⟨y, hy, rfl, rfl⟩)
    all_goals
      obtain ⟨c, hc, hcv⟩ := turned W2 K J cp y R T hK hj hR
      have hne := crc_other hj hc
      have hbb : Below w.heap.size w (W2.setCell ⟨K, J, none⟩ (.int .u8 (bits .xor .u8 (T.data[J].toNat : Int) (1 + (y : Int) % 255)))).drew := (hb2.setCell hK1 _).drew
      have hS2 : (⟨(T.data.toList.set J c).toArray⟩ : ByteArray).size ≤ maxLen := by
        show (T.data.toList.set J c).length ≤ maxLen
        have : T.data.toList.length = T.size := rfl
        rw [List.length_set]; unfold maxLen; omega
      have hS1 : T.size ≤ maxLen := by unfold maxLen; omega
      have hd2 : (⟨(T.data.toList.set J c).toArray⟩ : ByteArray).data.toList = T.data.toList.set J c := rfl
      rw [← hd2] at hne
      clear hd2 hcell hfz hT hK hR hRs hrow2 hrow3
      generalize (⟨(T.data.toList.set J c).toArray⟩ : ByteArray) = S2 at *
      go_wp2_with fail
      generalize (W2.setCell ⟨K, J, none⟩ (.int .u8 (bits .xor .u8 (T.data[J].toNat : Int) (1 + (y : Int) % 255)))).drew = W3 at *
      refine (crc_impl T _ hS1).mono ?_
      rintro e w' ⟨rfl, rfl⟩
      go_wp2_with fail
      refine (crc_spec T _ hS1).mono ?_
      rintro e w' ⟨rfl, rfl⟩
      go_wp2_with fail
      refine (crc_impl S2 _ hS2).mono ?_
      rintro e w' ⟨rfl, rfl⟩
      go_wp2_with fail
      refine (crc_impl T _ hS1).mono ?_
      rintro e w' ⟨rfl, rfl⟩
      go_wp2
      go_ret
      exact ⟨rfl, hbb⟩
end Go.Proofs.Ytojafonpfcpmjaa
