
/- The contract of the program's OrderRow. -/
import Derived.Test.YtelbcfipkanfkaaOrdI
import Derived.Test.YtelbcfipkanfkaaOrdRowLaw
namespace Go.Proofs.Ytelbcfipkanfkaa
open Go.RowKit

theorem twoB {B : Nat} (w : World) (o o' : Obj) (h : B ≤ w.heap.size) : Below B w ((w.alloc o).alloc o') := ((Below.refl B w).alloc h o).alloc (by simp; omega) o'
set_option maxRecDepth 100000 in
set_option maxHeartbeats 4000000 in
theorem cmpFunc_any (B1 B2 : Nat) (a b : Option Addr) (n m ca cb : Nat) (f f' : Nat → Int × Int × ByteArray) (w : World) (ha : ValSl w B1 a n f) (hb : ValSl w B2 b m f') (hn : n ≤ 4000000) (hm : m ≤ 4000000) :
    Calls Try.prog 50 #[.slice a n ca, .slice b m cb, .func (.func 15) #[] #[]] w (IntE (ordR (rowF n f) (rowF m f')) w) := by
  go_enter Try.func50, Try.ntmps50
  go_wp2_with fail
  go_loopw [13] (fun i wr => ∃ k : Nat, k ≤ n ∧ k ≤ m ∧ i = .int .i64 (k : Int) ∧ Hid (ordR (rowF n f) (rowF m f') = ordR ((rowF n f).drop k) ((rowF m f').drop k)) ∧ Below w.heap.size w wr) (fun i _ => n - (intOf i).toNat)
  case atStart => exact ⟨0, by omega, by omega, rfl, rfl, Below.refl _ _⟩
  case round =>
    obtain ⟨k, hk, hk2, rfl, HO, hbel⟩ := hrel
    by_cases hlt : k < n
    · have hlt2 : (k : Int) < (n : Int) := by omega
      by_cases hlm : k < m
      · have hlm2 : decide ((m : Int) ≤ (k : Int)) = false := by simp; omega
        have hlm3 : decide (m ≤ k) = false := by simp; omega
        have hO2 := HO.out
        rw [rowF_drop hlt, rowF_drop hlm, ordR] at hO2
        obtain ⟨g, rfl, _, hg, _⟩ := ha k hlt
        obtain ⟨g', rfl, _, hg', _⟩ := hb k hlm
        have hS := fun w => order_impl0 (f k).1 (f k).2.1 (f k).2.2 (f' k).1 (f' k).2.1 (f' k).2.2 w
        obtain ⟨c0, c1, c2⟩ := ValSl.at_k ha hbel hlt
        obtain ⟨e0, e1, e2⟩ := ValSl.at_k hb hbel hlm
        have hgw := Nat.lt_of_lt_of_le hg hbel.size
        have hgw' := Nat.lt_of_lt_of_le hg' hbel.size
        have hv : ordV ((f k).1, (f k).2.1, (f k).2.2.data.toList) ((f' k).1, (f' k).2.1, (f' k).2.2.data.toList) = ordV (vl (f k)) (vl (f' k)) := rfl
        rw [hv] at hS
        generalize ordV (vl (f k)) (vl (f' k)) = x at hS hO2
        clear hv
        by_cases hx : x = 0
        · rw [if_pos hx] at hO2
          have dx : (x != 0) = false := by simpa using hx
          clear hx
          have HO2 := Lib.hid hO2
          clear hO2
          go_wp2_with fail
          refine (hS _).mono ?_
          rintro e w1 ⟨rfl, hb1⟩
          have hbq := (hbel.trans (twoB wr _ _ hbel.size)).trans (hb1.mono (by have := hbel.size; simp; omega))
          clear c0 c1 c2 e0 e1 e2 hS hb1
          go_wp2_with fail
          go_roundw
          case rel => exact ⟨k + 1, by omega, by omega, by go_num, HO2.out, hbq⟩
          case measure => simp [intOf]; omega
        · rw [if_neg hx] at hO2
          have dx : (x != 0) = true := by simpa using hx
          clear hx
          have HO2 := Lib.hid hO2
          clear hO2
          go_wp2_with fail
          refine (hS _).mono ?_
          rintro e w1 ⟨rfl, hb1⟩
          have hbq := (hbel.trans (twoB wr _ _ hbel.size)).trans (hb1.mono (by have := hbel.size; simp; omega))
          clear c0 c1 c2 e0 e1 e2 hS hb1
          go_wp2_with fail
          go_ret
          exact ⟨by rw [HO2.out]; rfl, hbq⟩
      · have hlm2 : decide ((m : Int) ≤ (k : Int)) = true := by simp; omega
        have hlm3 : decide (m ≤ k) = true := by simp; omega
        have hO2 := HO.out
        rw [rowF_drop hlt, rowF_end hlm, ordR_cons_nil] at hO2
        have HO2 := Lib.hid hO2
        obtain ⟨g, rfl, _, hg, _⟩ := ha k hlt
        obtain ⟨c0, c1, c2⟩ := ValSl.at_k ha hbel hlt
        have hbq : Below w.heap.size w (wr.alloc (.cells #[.int .i64 (f k).1, .int .i64 (f k).2.1, .string (f k).2.2] 25)) := hbel.alloc hbel.size _
        clear hO2
        go_wp2_with fail
        go_ret
        exact ⟨by rw [HO2.out]; rfl, hbq⟩
    · have hlt2 : ¬ (k : Int) < (n : Int) := by omega
      have en : n = k := by omega
      have hO2 := HO.out
      by_cases hlm : k < m
      · rw [rowF_end hlt, rowF_drop hlm, ordR_nil_cons] at hO2
        have HO2 := Lib.hid hO2
        have d1 : decide ((n : Int) < (m : Int)) = true := by simp; omega
        have d3 : decide (n < m) = true := by simp; omega
        clear hO2 en
        go_wp2_with fail
        go_ret
        exact ⟨by rw [HO2.out]; rfl, hbel⟩
      · rw [rowF_end hlt, rowF_end hlm] at hO2
        have HO2 := Lib.hid (hO2.trans (show ordR [] [] = 0 from rfl))
        have d1 : decide ((n : Int) < (m : Int)) = false := by simp; omega
        have d3 : decide (n < m) = false := by simp; omega
        clear hO2 en
        go_wp2_with fail
        go_ret
        exact ⟨by rw [HO2.out]; rfl, hbel⟩

theorem orderRow_impl : OrdRowI := fun B1 B2 a b n m ca cb f f' w ha hb hn hm => by
  have hC := fun w h1 h2 => cmpFunc_any B1 B2 a b n m ca cb f f' w h1 h2 hn hm
  generalize ordR (rowF n f) (rowF m f') = x at hC ⊢
  go_enter Try.func19, Try.ntmps19
  go_wp2_with fail
  refine (hC _ ha hb).mono ?_
  rintro e w1 ⟨rfl, hb1⟩
  go_wp2_with fail
  go_ret
  exact ⟨rfl, hb1⟩
end Go.Proofs.Ytelbcfipkanfkaa
