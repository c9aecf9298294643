/- The walk of the law FnVar. -/
import Derived.Test.YtojafonpfcpmjaaLaws
import Derived.Test.YtojafonpfcpmjaaGetD
namespace Go.Proofs.Ytojafonpfcpmjaa
open Go.RowKit

theorem var_in (u : Nat) (hu : u < 18446744073709551616) (l t : List UInt8) : Got (l ++ varL u ++ t) (l.length : Nat) u := by
  refine ⟨by omega, hu, ?_⟩
  simp
theorem var_long {p : List UInt8} {b : UInt8} (hp : highs p) (hb : 128 ≤ b.toNat) : ∀ v, ¬ Got (p ++ [b, 0]) 0 v := by
  intro v h
  have hh : highs (p ++ [b]) := highs_snoc hp (by omega)
  obtain ⟨_, _, h3, _⟩ := h.head (p ++ [b]) 0 hh (by decide) (by simp)
  exact h3 (by simp) (by decide)
theorem var_cut {p : List UInt8} (hp : highs p) : ∀ v, ¬ Got p 0 v := by
  intro v h
  have h1 := h.longer p hp (by simp)
  have h2 := h.len
  simp at h2
  omega

set_option maxRecDepth 100000 in
set_option maxHeartbeats 800000 in
theorem var_law (a : Option Addr) (len cap : Nat) (w : World) (hrow : RowB w.heap.size a len w) : Calls Try.prog 4 #[.slice a len cap] w (LawE w) := by
  have hlen := hrow.1
  by_cases hbig : 1048576 < len
  · go_enter Try.func4, Try.ntmps4
    go_wp2_with fail
    refine (big_yes a len cap _ hlen hbig).mono ?_
    rintro e w' ⟨rfl, rfl⟩
    go_wp2_with fail
    go_ret
    exact ⟨rfl, Below.refl _ _⟩
  · go_enter Try.func4, Try.ntmps4
    go_wp2_with fail
    refine (big_no a len cap _ hbig).mono ?_
    rintro e w' ⟨rfl, rfl⟩
    go_wp2_with fail
    refine (drawPutVar_any w.heap.size a len cap _ hrow (Nat.le_refl _)).mono ?_
    rintro e w1 ⟨x, hx0, hx1, rfl, hb⟩
    obtain ⟨u, rfl⟩ := Int.eq_ofNat_of_zero_le hx0
    have hu : u < 18446744073709551616 := by omega
    go_wp2_with fail
    refine (putVar_impl u _ hu).mono ?_
    rintro e w2 ⟨rfl, hb2⟩
    have hz := hb.size
    have hbb := hb.trans (hb2.mono hz)
    obtain ⟨p, b, hsh, hph, hb128, _⟩ := varL_shape u
    have hl10 := varL_ten u hu
    have hG := var_in u hu [97, 98] [99]
    generalize hS : (⟨(varL u).toArray⟩ : ByteArray) = S
    have hSd : S.data.toList = varL u := by rw [← hS]
    have hSz : S.size = (varL u).length := by rw [← hS]; rfl
    have hSp : S.size = p.length + 1 := by rw [hSz, hsh]; simp
    have h1 : decide ((S.size : Int) < 1) = false := by simp; omega
    have h2 : decide (10 < (S.size : Int)) = false := by simp; omega
    have HSD := Lib.hid hSd
    have HSZ := Lib.hid hSz
    have HSP := Lib.hid hSp
    have HSH := Lib.hid hsh
    have HS10 : S.size ≤ 10 := by omega
    have HS1 : 1 ≤ S.size := by omega
    clear hS hSd hSz hSp hsh hl10
    have HG := Lib.hid hG
    have HPH := Lib.hid hph
    have HB := Lib.hid hb128
    clear hG hph hb128 hb hb2
    go_wp2_with fail
    refine (getVar_impl _ 2 _ (by have e1 : (⟨#[97, 98]⟩ : ByteArray).size = 2 := rfl; have e2 : (⟨#[99]⟩ : ByteArray).size = 1 := rfl; unfold maxLen; simp only [ByteArray.size_append, e1, e2]; omega) (by omega) (by omega)).mono ?_
    have hd3 : ((⟨#[97, 98]⟩ : ByteArray) ++ S ++ ⟨#[99]⟩).data.toList = [97, 98] ++ varL u ++ [99] := by rw [ByteArray.data_append, ByteArray.data_append]; simp [HSD.out]
    rw [hd3]
    rintro e w3 ⟨⟨v, hg, rfl⟩ | ⟨hno, rfl⟩, hb3⟩
    · obtain rfl : v = u := hg.uniq HG.out
      clear hg hd3
      have hz2 := hbb.size
      have hbb3 := hbb.trans (hb3.mono hz2)
      have hc : 128 ≤ (UInt8.ofNat ((S[S.size - 1]).toNat % 128 + 128)).toNat := by simp; omega
      have hor : bits .or .u8 ((S[S.size - 1]).toNat : Int) 128 = ((UInt8.ofNat ((S[S.size - 1]).toNat % 128 + 128)).toNat : Int) := by
        have := (S[S.size - 1]).toNat_lt
        rw [or128 _ (by omega) (by omega)]; simp; omega
      have hcv : (convert 22 9 (.slice (some ⟨w3.heap.size, 0, none⟩) 2 2)).run Try.prog (w3.alloc (.cells #[.int .u8 (bits .or .u8 ((S[S.size - 1]).toNat : Int) 128), .int .u8 0] 5)).drew
          = .ok (.string ⟨#[UInt8.ofNat ((S[S.size - 1]).toNat % 128 + 128), 0]⟩) (w3.alloc (.cells #[.int .u8 (bits .or .u8 ((S[S.size - 1]).toNat : Int) 128), .int .u8 0] 5)).drew :=
        conv_two (P := Try.prog) w3.drew (UInt8.ofNat ((S[S.size - 1]).toNat % 128 + 128)) 0 _ 0 hor rfl Try.underlying22 Try.underlying5 Try.underlying9
      clear hor
      generalize UInt8.ofNat ((S[S.size - 1]).toNat % 128 + 128) = c at hcv hc
      have k1 : IntKind.i64.wrap ((S.size : Int) - 1) = (S.size : Int) - 1 := IntWalk.i64_in _ (by omega)
      have k2 : 0 ≤ (S.size : Int) - 1 := by omega
      have k6 : (1 : Int) ≤ (S.size : Int) := by omega
      have k3 : (S.size : Int) - 1 ≤ (S.size : Int) := by omega
      have k4 : (S.size : Int) - 1 < (S.size : Int) := by omega
      have k5 : ((S.size : Int) - 1).toNat = S.size - 1 := by omega
      go_wp2_with fail
      go_region
      have hex : (S.extract 0 (S.size - 1)).data.toList = p := by
        rw [Lib.extract_data, HSD.out, HSH.out, HSP.out]; simp
      have hex2 : (S.extract 0 (S.size - 1) ++ (⟨#[c, 0]⟩ : ByteArray)).data.toList = p ++ [c, 0] := by rw [ByteArray.data_append, Array.toList_append, hex]
      have hez : (S.extract 0 (S.size - 1)).size ≤ 10 := by have : (S.extract 0 (S.size - 1)).data.toList.length = (S.extract 0 (S.size - 1)).size := rfl; rw [hex] at this; have := HSP.out; omega
      have HEX := Lib.hid hex
      have HEX2 := Lib.hid hex2
      have HEZ := Lib.hid hez
      have HC := Lib.hid hc
      clear hex hex2 hez hcv hc
      go_wp2_with fail
      refine (getVar_impl _ 0 _ (by have e2 : (⟨#[c, 0]⟩ : ByteArray).size = 2 := rfl; have := HEZ.out; unfold maxLen; rw [ByteArray.size_append, e2]; omega) (by omega) (by omega)).mono ?_
      rw [HEX2.out]
      rintro e w4 ⟨⟨y, hg, rfl⟩ | ⟨hno, rfl⟩, hb4⟩
      · exact absurd hg (var_long HPH.out HC.out y)
      · clear hno
        have hbb4 := (((hbb3.trans (((Below.refl _ _).alloc (Nat.le_trans hz2 hb3.size) _).drew)).trans (hb4.mono (by show _ ≤ (w3.alloc _).heap.size; simp; have := hb3.size; omega))))
        go_wp2_with fail
        refine (getVar_impl _ 0 _ (by have := HEZ.out; unfold maxLen; omega) (by omega) (by omega)).mono ?_
        rw [HEX.out]
        rintro e w5 ⟨⟨y, hg, rfl⟩ | ⟨hno, rfl⟩, hb5⟩
        · exact absurd hg (var_cut HPH.out y)
        · clear hno
          have hbb5 := hbb4.trans (hb5.mono hbb4.size)
          have hq : ((2 : Int) + ((varL v).length : Int) == 2 + (S.size : Int)) = true := by rw [HSZ.out]; simp
          go_wp2
          go_ret
          exact ⟨rfl, hbb5⟩
    · exact absurd HG.out (hno u)
end Go.Proofs.Ytojafonpfcpmjaa
