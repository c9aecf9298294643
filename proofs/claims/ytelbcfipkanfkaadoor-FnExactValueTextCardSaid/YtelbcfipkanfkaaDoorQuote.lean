
/- Contracts of the model's quoting. -/
import Derived.Test.YtelbcfipkanfkaaDoorNameDef
import Derived.Test.YtelbcfipkanfkaaDoorOwn
import Derived.Test.YtelbcfipkanfkaaDoorQuoteMath
import Derived.Deep.DeepMust
namespace Go.Proofs.YtelbcfipkanfkaaDoor
open Go.RowKit

theorem Tryd.info8q : (Tryd.prog.info? 5).map (fun i => (i.zero, i.size, i.bytes)) = some (some (.int .u8 0), 1, 1) := by kernel_rfl
theorem qtake_snoc (l : List UInt8) (k : Nat) (h : k < l.length) : l.take (k + 1) = l.take k ++ [l.getD k 0] := by
  rw [List.take_succ_eq_append_getElem h, List.getD_eq_getElem?_getD, List.getElem?_eq_getElem h]; rfl

set_option maxRecDepth 100000 in
set_option maxHeartbeats 1200000 in
theorem quote_spec (c : UInt8) (s : ByteArray) (w : World) (hs : s.size ≤ 1048576) :
    Calls Tryd.prog 16 #[.string s, .int .u8 (c.toNat : Int)] w (StrE (quoted c s.data.toList) w) := by
  obtain ⟨i0, hi, hz0, hz1, hz2⟩ := info_parts Tryd.info8q
  have hlen : s.data.toList.length = s.size := rfl
  go_enter Tryd.func16, Tryd.ntmps16
  go_wp2
  go_loopw [5, 6] (fun v i wr => ∃ (k g cap : Nat) (l : List UInt8), k ≤ s.size ∧ i = .int .i64 (k : Int) ∧ v = .slice (some ⟨g, 0, none⟩) l.length cap ∧ Hid (l = c :: dbl c (s.data.toList.take k)) ∧ OwnB 5 wr w.heap.size (.slice (some ⟨g, 0, none⟩) l.length cap) l ∧ Below w.heap.size w wr) (fun _ i _ => s.size - (intOf i).toNat)
  case atStart => exact ⟨0, w.heap.size, 1, [c], by omega, rfl, rfl, by unfold Hid; simp [dbl], World.ownsRow_lit w #[.int .u8 (c.toNat : Int)] 1 (Nat.le_refl _) (by unfold maxLen; omega) rfl, (Below.refl _ _).alloc (Nat.le_refl _) _⟩
  case round =>
    obtain ⟨k, g, cap, l, hk, rfl, rfl, HL, hown, hbel⟩ := hrel
    have hsz := hbel.size
    have hll : l.length ≤ 4000000 := by
      rw [HL.out, List.length_cons]
      have h1 := dbl_len c (s.data.toList.take k)
      have h2 : (s.data.toList.take k).length ≤ s.data.toList.length := List.length_take_le' _ _
      omega
    by_cases hlt : k < s.size
    · have hlt2 : (k : Int) < (s.size : Int) := by omega
      have HB := Lib.hid (str_at hlt)
      have HT := Lib.hid (qtake_snoc s.data.toList k (by omega))
      by_cases he : s[k] = c
      · have hq : (((s[k]).toNat : Int) == (c.toNat : Int)) = true := by rw [he]; simp
        have HE := Lib.hid he; clear he
        go_wp2_with (first | (at_builtin; refine appB Tryd.underlying34 hi hz0 hz1 hz2 rfl (.tmp 24) (.tmp 28) rfl w.heap.size (.slice (some ⟨g2, 0, none⟩) (l.length + 1) c2) (l ++ [c]) s[k] _ w2 rfl rfl hown2 rfl (by simp; omega) (by have := hbel2.size; omega) ?_; intro g3 c3 w3 hown3 hbel3) | (at_builtin; refine appB Tryd.underlying34 hi hz0 hz1 hz2 rfl (.tmp 20) (.tmp 22) rfl w.heap.size (.slice (some ⟨g, 0, none⟩) l.length cap) l c _ wr rfl rfl hown rfl (by omega) (by omega) ?_; intro g2 c2 w2 hown2 hbel2))
        go_roundw
        case rel => exact ⟨k + 1, g3, c3, l ++ [c] ++ [s[k]], by omega, by go_num, by simp, by unfold Hid; rw [HT.out, ← HB.out, HE.out, dbl_snoc_eq, HL.out]; simp, by have h := hown3; simpa using h, (hbel.trans hbel2).trans hbel3⟩
        case measure => simp [intOf]; omega
      · have hq : (((s[k]).toNat : Int) == (c.toNat : Int)) = false := by
          simp only [beq_eq_false_iff_ne, ne_eq]
          intro e
          exact he (UInt8.toNat_inj.1 (by omega))
        have HE := Lib.hid he; clear he
        go_wp2_with (at_builtin; refine appB Tryd.underlying34 hi hz0 hz1 hz2 rfl (.tmp 24) (.tmp 28) rfl w.heap.size (.slice (some ⟨g, 0, none⟩) l.length cap) l s[k] _ wr rfl rfl hown rfl (by omega) (by omega) ?_; intro g3 c3 w3 hown3 hbel3)
        go_roundw
        case rel => exact ⟨k + 1, g3, c3, l ++ [s[k]], by omega, by go_num, by simp, by unfold Hid; rw [HT.out, ← HB.out, dbl_snoc_ne HE.out, HL.out]; simp, by have h := hown3; simpa using h, hbel.trans hbel3⟩
        case measure => simp [intOf]; omega
    · have e : k = s.size := by omega
      subst e
      have ht : s.data.toList.take s.size = s.data.toList := List.take_of_length_le (by omega)
      go_wp2_with (at_builtin; refine appB Tryd.underlying34 hi hz0 hz1 hz2 rfl (.tmp 30) (.tmp 32) rfl w.heap.size (.slice (some ⟨g, 0, none⟩) l.length cap) l c _ wr rfl rfl hown rfl (by omega) (by omega) ?_; intro g3 c3 w3 hown3 hbel3; have hcv := OwnB.string (src := 34) (dst := 9) hown3 (by simp) Tryd.underlying34 Tryd.underlying5 Tryd.underlying9)
      go_ret
      exact ⟨ret_str (by rw [HL.out, ht]; rfl), hbel.trans hbel3⟩
end Go.Proofs.YtelbcfipkanfkaaDoor
