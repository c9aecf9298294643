/- The contract of the program's readVar: the reader of a variable-length number. -/
import Derived.Test.YtojafonpfcpmjaaGet
import Derived.WalkLawsBesides
namespace Go.Proofs.Ytojafonpfcpmjaa
open Go.RowKit

/-- what the readers panic with -/
def badText : ByteArray := ⟨#[110, 111, 116, 32, 97, 32, 110, 117, 109, 98, 101, 114]⟩
def badChain : List PanicEntry := [{ v := .iface 9 (.string badText), recovered := false }]
def badPanic : Ending := .panicked badChain

theorem pow_cast (n : Nat) : (2 : Int) ^ (7 * n) = ((128 ^ n : Nat) : Int) := by rw [Int.pow_mul]; norm_cast
theorem shift_in (g n : Nat) (h : g * 128 ^ n < 18446744073709551616) : IntKind.u64.wrap ((g : Int) * 2 ^ (7 * n)) = ((g * 128 ^ n : Nat) : Int) := by
  rw [pow_cast, IntKind.wrap_u64, ← Int.natCast_mul]; omega
theorem shift_back (g n : Nat) (h : g * 128 ^ n < 18446744073709551616) : (IntKind.u64.wrap ((g : Int) * 2 ^ (7 * n)) / 2 ^ (7 * n) != (g : Int)) = false := by
  rw [shift_in g n h, pow_cast, ← Int.natCast_ediv, Nat.mul_div_cancel _ (Nat.pow_pos (by omega))]; exact bne_self_eq_false _
theorem shift_lost (g n : Nat) (h : ¬ g * 128 ^ n < 18446744073709551616) : (IntKind.u64.wrap ((g : Int) * 2 ^ (7 * n)) / 2 ^ (7 * n) != (g : Int)) = true := by
  rw [pow_cast, IntKind.wrap_u64, ← Int.natCast_mul]
  have hp : 0 < 128 ^ n := Nat.pow_pos (by omega)
  have hlt : (g * 128 ^ n) % 18446744073709551616 / 128 ^ n < g := by
    rw [Nat.div_lt_iff_lt_mul hp]
    have := Nat.mod_lt (g * 128 ^ n) (show 18446744073709551616 > 0 by omega)
    omega
  have e : ((g * 128 ^ n : Nat) : Int) % 18446744073709551616 / ((128 ^ n : Nat) : Int) = (((g * 128 ^ n) % 18446744073709551616 / 128 ^ n : Nat) : Int) := by
    rw [Int.natCast_ediv, Int.natCast_emod]; rfl
  rw [e]
  simp only [bne_iff_ne, ne_eq]; omega

theorem shifted_ok (g n : Nat) (w : World) (hn : n ≤ 9) (h : g * 128 ^ n < 18446744073709551616) :
    Calls Try.prog 41 #[.int .u64 (g : Int), .int .i64 (7 * (n : Int))] w fun e w' => e = .returned (.int .u64 ((g * 128 ^ n : Nat) : Int)) ∧ w = w' := by
  have hq := shift_back g n h
  have H := Lib.hid h; clear h
  go_enter Try.func41, Try.ntmps41
  go_wp2
  go_ret
  exact ⟨ret_u64 (shift_in g n H.out), rfl⟩
theorem shifted_bad (g n : Nat) (w : World) (hn : n ≤ 9) (h : ¬ g * 128 ^ n < 18446744073709551616) :
    Calls Try.prog 41 #[.int .u64 (g : Int), .int .i64 (7 * (n : Int))] w fun e w' => e = .panicked badChain ∧ w = w' := by
  have hq := shift_lost g n h
  clear h
  go_enter Try.func41, Try.ntmps41
  go_wp2
  exact ⟨rfl, rfl, rfl⟩

def ReadE (l : List UInt8) (k : Int) (w : World) (e : Ending) (w' : World) : Prop :=
  w = w' ∧ ((∃ u : Nat, Got l k u ∧ e = .returned (.tuple #[.int .u64 (u : Int), .int .i64 (k + ((varL u).length : Int))])) ∨ ((∀ u, ¬ Got l k u) ∧ e = badPanic))
theorem ReadE.no {l : List UInt8} {k : Int} {w : World} {e : Ending} (h : ∀ u, ¬ Got l k u) (he : e = badPanic) : ReadE l k w e w := ⟨rfl, .inr ⟨h, he⟩⟩

/-- the seven bits of a byte -/
theorem and127 (x : Int) (h0 : 0 ≤ x) (h1 : x < 256) : bits .and .u8 x 127 = x % 128 := bits_mask .u8 8 (by decide) wraps_u8 7 (by decide) x h0 h1
theorem room (g n v : Nat) (hn : n ≤ 9) (hv : v < 128 ^ n) (h : g * 128 ^ n < 18446744073709551616) : v + g * 128 ^ n < 18446744073709551616 := by
  rcases (show n = 0 ∨ n = 1 ∨ n = 2 ∨ n = 3 ∨ n = 4 ∨ n = 5 ∨ n = 6 ∨ n = 7 ∨ n = 8 ∨ n = 9 by omega) with rfl | rfl | rfl | rfl | rfl | rfl | rfl | rfl | rfl | rfl <;> simp only [Nat.reducePow] at * <;> omega
theorem or_join (g n v : Nat) (hn : n ≤ 9) (hv : v < 128 ^ n) (h : g * 128 ^ n < 18446744073709551616) : bits .or .u64 (v : Int) ((g * 128 ^ n : Nat) : Int) = ((v + g * 128 ^ n : Nat) : Int) := by
  have hr := room g n v hn hv h
  have := bits_or_u64_nat v (g * 128 ^ n) (by omega) h
  rw [this]
  have h2 : (128 : Nat) ^ n = 2 ^ (7 * n) := by rw [Nat.pow_mul]
  rw [h2] at hv ⊢
  have h3 := Nat.two_pow_add_eq_or_of_lt hv g
  rw [Nat.or_comm, Nat.mul_comm g, ← h3, Nat.add_comm]
theorem lost_high {l : List UInt8} {a n : Nat} {b : UInt8} (hta : (l.drop a).take (n + 1) = (l.drop a).take n ++ [b]) (hlen : ((l.drop a).take n).length = n) (hh : highs ((l.drop a).take n)) (hn : n ≤ 9) (h : ¬ b.toNat % 128 * 128 ^ n < 18446744073709551616) : ∀ u, ¬ Got l (a : Int) u := by
  intro u hu
  have hpre : (l.drop a).take n ++ [b] <+: l.drop ((a : Int)).toNat := by rw [← hta]; simpa using List.take_prefix (n + 1) (l.drop a)
  by_cases hb : b.toNat < 128
  · obtain ⟨_, e2, _, e4⟩ := hu.head _ b hh hb hpre
    rw [valL_snoc, hlen] at e2
    omega
  · have h1 := hu.longer _ (highs_snoc hh hb) hpre
    have h2 := varL_ten u hu.2.1
    have h9 : n = 9 := by
      have hb2 := Nat.mod_lt b.toNat (show 128 > 0 by omega)
      rcases (show n = 0 ∨ n = 1 ∨ n = 2 ∨ n = 3 ∨ n = 4 ∨ n = 5 ∨ n = 6 ∨ n = 7 ∨ n = 8 ∨ n = 9 by omega) with rfl | rfl | rfl | rfl | rfl | rfl | rfl | rfl | rfl | rfl <;> simp only [Nat.reducePow] at h <;> omega
    rw [List.length_append, hlen] at h1
    simp at h1
    omega
theorem zero_end {l : List UInt8} {a n : Nat} {b : UInt8} (hta : (l.drop a).take (n + 1) = (l.drop a).take n ++ [b]) (hlen : ((l.drop a).take n).length = n) (hh : highs ((l.drop a).take n)) (hb : b.toNat = 0) (hn : 0 < n) : ∀ u, ¬ Got l (a : Int) u := by
  intro u hu
  obtain ⟨_, _, e3, _⟩ := hu.head _ b hh (by omega) (by rw [← hta]; simpa using List.take_prefix (n + 1) (l.drop a))
  exact e3 (by intro e; rw [e] at hlen; simp at hlen; omega) hb
theorem good_end {l : List UInt8} {a n : Nat} {b : UInt8} (hta : (l.drop a).take (n + 1) = (l.drop a).take n ++ [b]) (hlen : ((l.drop a).take n).length = n) (hh : highs ((l.drop a).take n)) (hb : b.toNat < 128) (h0 : 0 < n → b.toNat ≠ 0) (hn : n ≤ 9)
    (h : b.toNat % 128 * 128 ^ n < 18446744073709551616) : Got l (a : Int) (valL ((l.drop a).take n) + b.toNat % 128 * 128 ^ n) ∧ (varL (valL ((l.drop a).take n) + b.toNat % 128 * 128 ^ n)).length = n + 1 := by
  have hv := valL_snoc ((l.drop a).take n) b
  rw [hlen] at hv
  have hr := room _ n _ hn (by have := valL_lt ((l.drop a).take n); rwa [hlen] at this) h
  rw [← hv] at hr ⊢
  have h0' : (l.drop a).take n ≠ [] → b.toNat ≠ 0 := fun hne => h0 (by rcases Nat.eq_zero_or_pos n with rfl | h; · simp at hne
                                                                       · exact h)
  refine ⟨got_of hh hb h0' hr (by rw [← hta]; exact List.take_prefix _ _), ?_⟩
  rw [varL_valL _ b hh hb h0', List.length_append, hlen]; rfl
theorem ret_read {u x y : Int} (h : x = y) : Ending.returned (.tuple #[.int .u64 u, .int .i64 x]) = .returned (.tuple #[.int .u64 u, .int .i64 y]) := by rw [h]
theorem read_fin {l : List UInt8} {a n V : Nat} {b : UInt8} {w : World} {X : Int} (hta : (l.drop a).take (n + 1) = (l.drop a).take n ++ [b]) (hlen : ((l.drop a).take n).length = n)
    (hG : Got l (a : Int) V ∧ (varL V).length = n + 1) (hV : V = valL ((l.drop a).take n) + b.toNat % 128 * 128 ^ n) (hX : X = (valL ((l.drop a).take (n + 1)) : Nat)) :
    ReadE l (a : Int) w (.returned (.tuple #[.int .u64 X, .int .i64 ((a : Int) + (n : Int) + 1)])) w := by
  refine ⟨rfl, .inl ⟨V, hG.1, ?_⟩⟩
  rw [hX, hta, valL_snoc, hlen, ← hV]
  exact ret_read (by rw [hG.2]; omega)

theorem read_out {s : ByteArray} {a n : Nat} (hh : highs ((s.data.toList.drop a).take n)) (hns : a + n ≤ s.size) (hN : n = 10 ∨ a + n = s.size) : ∀ u, ¬ Got s.data.toList (a : Int) u := by
  intro u h
  have h1 := h.longer _ hh (by simpa using List.take_prefix n (s.data.toList.drop a))
  have h2 := varL_ten u h.2.1
  have h3 := h.len
  rw [take_len (by simpa using hns)] at h1
  simp at h3
  omega

set_option maxRecDepth 100000 in
set_option maxHeartbeats 800000 in
theorem readVar_any (s : ByteArray) (k : Int) (w : World) (hs : s.size ≤ maxLen) (k0 : -9223372036854775808 ≤ k) (k1 : k ≤ 9223372036854775807) :
    Calls Try.prog 32 #[.string s, .int .i64 k] w (ReadE s.data.toList k w) := by
  unfold maxLen at hs
  by_cases hneg : k < 0
  · have hd : decide (k < 0) = true := by simpa using hneg
    go_enter Try.func32, Try.ntmps32
    go_wp2
    exact ⟨rfl, ReadE.no (fun u h => by have := h.1; omega) rfl⟩
  · by_cases hgt : (s.size : Int) ≤ k
    · have hd0 : decide (k < 0) = false := by simpa using hneg
      have hd : decide ((s.size : Int) ≤ k) = true := by simpa using hgt
      go_enter Try.func32, Try.ntmps32
      go_wp2
      exact ⟨rfl, ReadE.no (fun u h => by
        have := h.len; have := varL_pos u; simp at *; omega) rfl⟩
    · obtain ⟨a, rfl⟩ := Int.eq_ofNat_of_zero_le (show 0 ≤ k by omega)
      have ha : a < s.size := by omega
      have hd0 : decide ((a : Int) < 0) = false := by simp
      have hd : decide ((s.size : Int) ≤ (a : Int)) = false := by simp; omega
      clear hneg hgt
      go_enter Try.func32, Try.ntmps32
      go_wp2
      all_goals
        go_loop [6, 7, 8, 23] (fun u _ _ i => ∃ (n : Nat), n ≤ 10 ∧ a + n ≤ s.size ∧ i = .int .i64 (n : Int) ∧ u = .int .u64 (valL ((s.data.toList.drop a).take n) : Nat) ∧ highs ((s.data.toList.drop a).take n)) (fun _ _ _ i => 10 - (intOf i).toNat)
        case atStart => exact ⟨0, by omega, by omega, rfl, rfl, by simp [highs]⟩
        case round =>
          obtain ⟨n, hn, hns, rfl, rfl, hh⟩ := hrel
          have HH := Lib.hid hh; clear hh
          by_cases hlt : n < 10 ∧ a + n < s.size
          · obtain ⟨hlt1, hlt2⟩ := hlt
            have hlt3 : (n : Int) < (s.size : Int) - (a : Int) := by omega
            have hb := (s[a + n]).toNat_lt
            have hel : s.data.toList[a + n]'(by simpa using hlt2) = s[a + n] := rfl
            have hta := take_at (l := s.data.toList) (a := a) (k := n) (by simpa using hlt2)
            rw [hel] at hta
            have HTA := Lib.hid hta; clear hta hel
            have HL := Lib.hid (take_len (l := s.data.toList) (a := a) (k := n) (by simp; omega))
            have hbi := and127 (s[a + n]).toNat (by omega) (by omega)
            have hcc : ((s[a + n]).toNat : Int) % 128 = (((s[a + n]).toNat % 128 : Nat) : Int) := by omega
            rw [hcc] at hbi
            clear hcc
            by_cases hfit : (s[a + n]).toNat % 128 * 128 ^ n < 18446744073709551616
            · have hvl : valL ((s.data.toList.drop a).take n) < 128 ^ n := by have := valL_lt ((s.data.toList.drop a).take n); rwa [HL.out] at this
              have hor : bits .or .u64 (valL ((s.data.toList.drop a).take n) : Nat) (((s[a + n]).toNat : Int) % 128 * 128 ^ n) = (valL ((s.data.toList.drop a).take (n + 1)) : Nat) := by
                rw [HTA.out, valL_snoc, HL.out, ← or_join ((s[a + n]).toNat % 128) n _ (by omega) hvl hfit]
                simp
              have HO := Lib.hid hor; clear hor
              have hrm := room ((s[a + n]).toNat % 128) n _ (by omega) hvl hfit
              have HF := Lib.hid hfit; clear hfit
              have HV := Lib.hid hvl; clear hvl
              have HR := Lib.hid hrm; clear hrm
              by_cases h128 : (s[a + n]).toNat < 128
              · by_cases h0 : 0 < n ∧ (s[a + n]).toNat = 0
                · obtain ⟨hn0, hz⟩ := h0
                  have hq1 : (((s[a + n]).toNat : Int) == 0) = true := by rw [hz]; rfl
                  have hq2 : decide (0 < (n : Int)) = true := by simpa using hn0
                  have HZ := Lib.hid hz; clear hz
                  go_wp2_with (go_at_call 41; refine (shifted_ok ((s[a + n]).toNat % 128) n _ (by omega) HF.out).mono ?_; rintro e w' ⟨rfl, rfl⟩)
                  exact ⟨rfl, ReadE.no (zero_end HTA.out HL.out HH.out HZ.out hn0) rfl⟩
                · have HZ : Hid (0 < n → (s[a + n]).toNat ≠ 0) := fun h1 h2 => h0 ⟨h1, h2⟩
                  have hg := good_end HTA.out HL.out HH.out h128 HZ.out (by omega) HF.out
                  have HG := Lib.hid hg; clear hg h0
                  by_cases hn0 : 0 < n
                  · have hq1 : (((s[a + n]).toNat : Int) == 0) = false := by have := HZ.out hn0; simp; omega
                    go_wp2_with (go_at_call 41; refine (shifted_ok ((s[a + n]).toNat % 128) n _ (by omega) HF.out).mono ?_; rintro e w' ⟨rfl, rfl⟩)
                    go_ret2
                    exact read_fin HTA.out HL.out HG.out rfl HO.out
                  · have hq2 : decide (0 < (n : Int)) = false := by simp; omega
                    by_cases hz : (s[a + n]).toNat = 0
                    · have hq1 : (((s[a + n]).toNat : Int) == 0) = true := by rw [hz]; rfl
                      have HZZ := Lib.hid hz; clear hz
                      go_wp2_with (go_at_call 41; refine (shifted_ok ((s[a + n]).toNat % 128) n _ (by omega) HF.out).mono ?_; rintro e w' ⟨rfl, rfl⟩)
                      go_ret2
                      exact read_fin HTA.out HL.out HG.out rfl HO.out
                    · have hq1 : (((s[a + n]).toNat : Int) == 0) = false := by simp; omega
                      go_wp2_with (go_at_call 41; refine (shifted_ok ((s[a + n]).toNat % 128) n _ (by omega) HF.out).mono ?_; rintro e w' ⟨rfl, rfl⟩)
                      go_ret2
                      exact read_fin HTA.out HL.out HG.out rfl HO.out
              · have hdb : (128 : Int) ≤ ((s[a + n]).toNat : Int) := by omega
                clear h128
                go_wp2_with (go_at_call 41; refine (shifted_ok ((s[a + n]).toNat % 128) n _ (by omega) HF.out).mono ?_; rintro e w' ⟨rfl, rfl⟩)
                go_round
                case rel => exact ⟨n + 1, by omega, by omega, by go_num, by rw [HO.out], by rw [HTA.out]; exact highs_snoc HH.out (by omega)⟩
                case measure => simp [intOf]; omega
            · have HF := Lib.hid hfit; clear hfit
              go_wp2_with (go_at_call 41; refine (shifted_bad ((s[a + n]).toNat % 128) n _ (by omega) HF.out).mono ?_; rintro e w' ⟨rfl, rfl⟩)
              exact ⟨rfl, ReadE.no (lost_high HTA.out HL.out HH.out (by omega) HF.out) rfl⟩
          · have HN : Hid (n = 10 ∨ a + n = s.size) := by unfold Hid; omega
            have hlt3 : ¬ (n : Int) < 10 ∨ ¬ (n : Int) < (s.size : Int) - (a : Int) := by omega
            first
              | (have hlt4 : 10 ≤ n := by omega
                 clear hlt hlt3
                 go_wp2
                 exact ⟨rfl, ReadE.no (read_out HH.out hns HN.out) rfl⟩)
              | (have hlt4 : (s.size : Int) - (a : Int) ≤ (n : Int) := by omega
                 clear hlt hlt3
                 go_wp2
                 exact ⟨rfl, ReadE.no (read_out HH.out hns HN.out) rfl⟩)
end Go.Proofs.Ytojafonpfcpmjaa
