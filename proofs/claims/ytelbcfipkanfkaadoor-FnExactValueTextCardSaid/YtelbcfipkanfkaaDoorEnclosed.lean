
/- The contract of the program's quoting, by strings.ReplaceAll. -/
import Derived.Test.YtelbcfipkanfkaaDoorMaxI
import Derived.Test.YtelbcfipkanfkaaDoorQuoteMath
import Derived.Test.YtelbcfipkanfkaaDoorShelf
namespace Go.Proofs.YtelbcfipkanfkaaDoor
open Go.RowKit

set_option maxRecDepth 100000 in
set_option maxHeartbeats 1200000 in
theorem enclosed_impl (c : UInt8) (s : ByteArray) (w : World) (hs : s.size ≤ 1048576) (hm : MaxI w) :
    Calls Tryd.prog 20 #[.string s, .string ⟨#[c]⟩] w (StrE (quoted c s.data.toList) w) := by
  obtain ⟨m, hm1⟩ := hm
  have hcb := Lib.countB_mul_le ⟨#[c]⟩ (by show 1 ≤ 1; omega) s.size s (Nat.le_refl _)
  have h1 : (⟨#[c]⟩ : ByteArray).size = 1 := rfl
  rw [h1] at hcb
  have hR : ∀ new : ByteArray, new.data.toList = [c, c] → Calls Tryd.prog 22 #[.string s, .string ⟨#[c]⟩, .string new] w (StrE (dbl c s.data.toList) w) := fun new hn => by
    have hn2 : new.size = 2 := by show new.data.toList.length = 2; rw [hn]; rfl
    have h := Tryd.strings_ReplaceAll s ⟨#[c]⟩ new m w (by omega) hm1 (by rw [h1]; exact Nat.le_refl _) (by rw [hn2]; omega)
    rw [hn, show (⟨#[c]⟩ : ByteArray).data.toList = [c] from rfl, replaceAll_dbl] at h
    exact h
  have hl := dbl_len c s.data.toList
  have hl2 : s.data.toList.length = s.size := rfl
  obtain ⟨R, hRe⟩ : ∃ R : ByteArray, R = ⟨(dbl c s.data.toList).toArray⟩ := ⟨_, rfl⟩
  have hsz : R.size ≤ 4000000 := by rw [hRe]; show (dbl c s.data.toList).length ≤ _; omega
  have HQ : Hid (quoted c s.data.toList = (⟨#[c]⟩ ++ R ++ ⟨#[c]⟩ : ByteArray).data.toList) := by
    unfold Hid; rw [hRe]; simp [quoted]
  unfold StrE at hR
  rw [← hRe] at hR
  clear hRe hl hl2 hm1
  have e1 : ((⟨#[c]⟩ : ByteArray) ++ R).size = 1 + R.size := by rw [ByteArray.size_append]; rfl
  go_enter Tryd.func20, Tryd.ntmps20
  go_wp2_with fail
  refine (hR _ (by simp)).mono ?_
  rintro e w1 ⟨rfl, hb⟩
  go_wp2_with fail
  go_ret
  exact ⟨ret_ba' HQ.out, hb⟩
end Go.Proofs.YtelbcfipkanfkaaDoor
