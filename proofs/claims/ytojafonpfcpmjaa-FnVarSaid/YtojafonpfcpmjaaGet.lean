/- The contract of the model's GetVar. -/
import Derived.Test.YtojafonpfcpmjaaVar
import Derived.Test.YtojafonpfcpmjaaGotMath
import Derived.Deep.RegionWith
import Derived.IntWalk
import Derived.Lib.Strings
namespace Go.Proofs.Ytojafonpfcpmjaa
open Go.RowKit

def GotE (l : List UInt8) (k : Int) (w : World) (e : Ending) (w' : World) : Prop :=
  ((∃ u : Nat, Got l k u ∧ e = .returned (.tuple #[.int .u64 (u : Int), .int .i64 (k + ((varL u).length : Int)), .bool true])) ∨
    ((∀ u, ¬ Got l k u) ∧ e = .returned (.tuple #[.int .u64 0, .int .i64 0, .bool false]))) ∧ Below w.heap.size w w'

theorem GotE.no {l : List UInt8} {k : Int} {w w' : World} {e : Ending} (h : ∀ u, ¬ Got l k u) (he : e = .returned (.tuple #[.int .u64 0, .int .i64 0, .bool false])) (hb : Below w.heap.size w w') : GotE l k w e w' :=
  ⟨.inr ⟨h, he⟩, hb⟩

def cutU (x : Nat) : Nat := x % 18446744073709551616
theorem cutU_lt (x : Nat) : cutU x < 18446744073709551616 := Nat.mod_lt _ (by omega)
theorem cutU_of {x : Nat} (h : x < 18446744073709551616) : cutU x = x := Nat.mod_eq_of_lt h
theorem cutU_step (l : List UInt8) (b : UInt8) (n : Nat) (hn : l.length = n) : IntKind.u64.wrap ((cutU (valL l) : Nat) + IntKind.u64.wrap ((b.toNat : Int) % 128 * 2 ^ (7 * n))) = (cutU (valL (l ++ [b])) : Nat) := by
  subst hn
  rw [valL_snoc, IntKind.wrap_u64, IntKind.wrap_u64]
  have h2 : (2 : Int) ^ (7 * l.length) = ((128 ^ l.length : Nat) : Int) := by rw [Int.pow_mul]; norm_cast
  rw [h2]
  unfold cutU
  generalize 128 ^ l.length = q
  have h3 : (b.toNat : Int) % 128 * (q : Int) = ((b.toNat % 128 * q : Nat) : Int) := by norm_cast
  rw [h3]
  omega

theorem l1In_true (x lo hi : Int) (w : World) (h0 : lo ≤ x) (h1 : x ≤ hi) : Calls Try.prog 38 #[.int .i64 x, .int .i64 lo, .int .i64 hi] w fun e w' => e = .returned (.bool true) ∧ w = w' := by
  have d0 : decide (lo ≤ x) = true := by simpa using h0
  have d1 : decide (x ≤ hi) = true := by simpa using h1
  go_enter Try.func38, Try.ntmps38
  go_wp2
  go_ret
  exact ⟨rfl, rfl⟩

theorem take_at {l : List UInt8} {a k : Nat} (h : a + k < l.length) : (l.drop a).take (k + 1) = (l.drop a).take k ++ [l[a + k]] := by
  rw [List.take_succ_eq_append_getElem (by simp; omega), List.getElem_drop]
theorem take_len {l : List UInt8} {a k : Nat} (h : a + k ≤ l.length) : ((l.drop a).take k).length = k := by simp; omega

theorem slice_ne {s : ByteArray} {a n : Nat} {l : List UInt8} (h : (!l == (s.extract a (a + n + 1)).toList) = true) : l ≠ (s.data.toList.drop a).take (n + 1) := by
  rw [Lib.toList_data, Lib.extract_data, show a + n + 1 - a = n + 1 by omega] at h
  intro e
  simp [e] at h
theorem slice_eq {s : ByteArray} {a n : Nat} {l : List UInt8} (h : (!l == (s.extract a (a + n + 1)).toList) = false) : l = (s.data.toList.drop a).take (n + 1) := by
  rw [Lib.toList_data, Lib.extract_data, show a + n + 1 - a = n + 1 by omega] at h
  simpa using h
theorem highs_snoc {p : List UInt8} {b : UInt8} (hp : highs p) (hb : ¬ b.toNat < 128) : highs (p ++ [b]) := by
  intro c hc
  rcases List.mem_append.1 hc with h | h
  · exact hp c h
  · have : c = b := by simpa using h
    rw [this]; omega
theorem ret_got {u : Int} {x y : Int} (h : x = y) : Ending.returned (.tuple #[.int .u64 u, .int .i64 x, .bool true]) = .returned (.tuple #[.int .u64 u, .int .i64 y, .bool true]) := by rw [h]
theorem spec_good {l : List UInt8} {a n U : Nat} (hU : U < 18446744073709551616) (h : varL U = (l.drop a).take (n + 1)) : Got l (a : Int) U :=
  ⟨by omega, hU, by rw [h]; simpa using List.take_prefix (n + 1) (l.drop a)⟩
theorem spec_bad {l : List UInt8} {a n U : Nat} {b : UInt8} (hta : (l.drop a).take (n + 1) = (l.drop a).take n ++ [b]) (hh : highs ((l.drop a).take n)) (hb : b.toNat < 128)
    (hU : cutU (valL ((l.drop a).take (n + 1))) = U) (hne : varL U ≠ (l.drop a).take (n + 1)) : ∀ u, ¬ Got l (a : Int) u := by
  intro u h
  obtain ⟨e1, e2, _, e4⟩ := h.head _ b hh hb (by rw [← hta]; simpa using List.take_prefix (n + 1) (l.drop a))
  rw [← hta] at e1 e2
  apply hne
  rw [← hU, ← e2, cutU_of e4, e1]

theorem head_at {l : List UInt8} {a k : Nat} (h : a + k < l.length) : (l.drop a).take k ++ [l[a + k]] <+: l.drop a := by
  have : (l.drop a).take (k + 1) = (l.drop a).take k ++ [l[a + k]] := by
    rw [List.take_succ_eq_append_getElem (by simp; omega), List.getElem_drop]
  rw [← this]; exact List.take_prefix _ _

set_option maxRecDepth 100000 in
set_option maxHeartbeats 800000 in
theorem getVar_spec (s : ByteArray) (k : Int) (w : World) (hs : s.size ≤ maxLen) (k0 : -9223372036854775808 ≤ k) (k1 : k ≤ 9223372036854775807) :
    Calls Try.prog 28 #[.string s, .int .i64 k] w (GotE s.data.toList k w) := by
  unfold maxLen at hs
  by_cases hneg : k < 0
  · go_enter Try.func28, Try.ntmps28
    go_wp2
    go_ret3
    exact GotE.no (fun u h => by have := h.1; omega) rfl (Below.refl _ _)
  · by_cases hgt : (s.size : Int) < k
    · have hd : decide (k ≤ (s.size : Int)) = false := by simpa using hgt
      go_enter Try.func28, Try.ntmps28
      go_wp2
      go_ret3
      exact GotE.no (fun u h => by
        have := h.len; have := varL_pos u; simp at *; omega) rfl (Below.refl _ _)
    · obtain ⟨a, rfl⟩ := Int.eq_ofNat_of_zero_le (show 0 ≤ k by omega)
      have ha : a ≤ s.size := by omega
      have hd : decide ((a : Int) ≤ (s.size : Int)) = true := by simpa using ha
      clear hneg hgt
      go_enter Try.func28, Try.ntmps28
      go_wp2_with (go_at_call 38; refine (l1In_true _ _ _ _ (by omega) (by omega)).mono ?_; rintro e w' ⟨rfl, rfl⟩)
      clear hd
      go_loop [7, 8, 9] (fun u i _ => ∃ (n : Nat), n ≤ 10 ∧ a + n ≤ s.size ∧ i = .int .i64 (n : Int) ∧ u = .int .u64 (cutU (valL ((s.data.toList.drop a).take n)) : Nat) ∧ highs ((s.data.toList.drop a).take n)) (fun _ i _ => 10 - (intOf i).toNat)
      case atStart => exact ⟨0, by omega, by omega, rfl, rfl, by simp [highs]⟩
      case round =>
        obtain ⟨n, hn, hns, rfl, rfl, hh⟩ := hrel
        have HH := Lib.hid hh; clear hh
        by_cases hlt : n < 10
        · have hdl : decide ((n : Int) < 10) = true := by simp; omega
          by_cases hlt2 : a + n < s.size
          · have hdl2 : decide ((a : Int) + (n : Int) < (s.size : Int)) = true := by simp; omega
            have hb := (s[a + n]).toNat_lt
            have hel : s.data.toList[a + n]'(by simpa using hlt2) = s[a + n] := rfl
            have hta := take_at (l := s.data.toList) (a := a) (k := n) (by simpa using hlt2)
            rw [hel] at hta
            have hst := cutU_step ((s.data.toList.drop a).take n) (s[a + n]) n (take_len (by simpa using hns))
            rw [← hta] at hst
            have HTA := Lib.hid hta; clear hta hel
            by_cases h128 : (s[a + n]).toNat < 128
            · generalize hU : cutU (valL ((s.data.toList.drop a).take (n + 1))) = U at hst
              have hUlt : U < 18446744073709551616 := by rw [← hU]; exact cutU_lt _
              have HU := Lib.hid hU; clear hU
              have hw1 : IntKind.i64.wrap ((a : Int) + (n : Int)) = (a : Int) + (n : Int) := IntWalk.i64_in _ (by omega)
              have hw2 : IntKind.i64.wrap ((a : Int) + (n : Int) + 1) = (a : Int) + (n : Int) + 1 := IntWalk.i64_in _ (by omega)
              have hw3 : ((a : Int) + (n : Int) + 1).toNat = a + n + 1 := by omega
              have hw4 : (a : Int) + (n : Int) + 1 ≤ (s.size : Int) := by omega
              have hw5 : (a : Int) ≤ (a : Int) + (n : Int) + 1 := by omega
              have hw6 : 0 ≤ (a : Int) + (n : Int) + 1 := by omega
              go_wp2_with fail
              go_region_with (go_at_call 27; refine (putVar_spec U _ hUlt).mono ?_; rintro e w1 ⟨rfl, hb1⟩)
              clear hw1 hw2 hw3 hw4 hw5 hw6 hst
              go_wp2
              · have hq : (!varL U == (s.extract a (a + n + 1)).toList) = true := by assumption
                go_ret3
                exact GotE.no (spec_bad HTA.out HH.out h128 HU.out (slice_ne hq)) rfl ((Below.refl _ _).drew.trans hb1)
              · have hq : (!varL U == (s.extract a (a + n + 1)).toList) = false := by assumption
                go_ret3
                exact ⟨.inl ⟨U, spec_good hUlt (slice_eq hq), ret_got (by rw [slice_eq hq, take_len (by simp; omega)]; omega)⟩, (Below.refl _ _).drew.trans hb1⟩
            · go_wp2_with fail
              go_round
              case rel => exact ⟨n + 1, by omega, by omega, by go_num, rfl, by rw [HTA.out]; exact highs_snoc HH.out h128⟩
              case measure => simp [intOf]; omega
          · have hdl2 : decide ((a : Int) + (n : Int) < (s.size : Int)) = false := by simp; omega
            go_wp2
            go_ret3
            exact GotE.no (fun u h => by
              have h1 := h.longer _ HH.out (List.take_prefix _ _)
              have h2 := h.len
              simp at h1 h2; omega) rfl (Below.refl _ _)
        · have hdl : decide ((n : Int) < 10) = false := by simp; omega
          go_wp2
          go_ret3
          exact GotE.no (fun u h => by
              have h1 := h.longer _ HH.out (List.take_prefix _ _)
              have h2 := varL_ten u h.2.1
              simp at h1; omega) rfl (Below.refl _ _)
end Go.Proofs.Ytojafonpfcpmjaa
