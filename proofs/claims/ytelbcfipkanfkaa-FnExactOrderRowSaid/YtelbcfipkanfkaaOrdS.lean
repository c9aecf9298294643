
/- Contracts of the model's order of values and of rows. -/
import Derived.Test.YtelbcfipkanfkaaValMath
import Derived.Test.YtelbcfipkanfkaaValSlDef
import Derived.Test.YtelbcfipkanfkaaLat
import Derived.Test.YtelbcfipkanfkaaLexMath2
import Derived.Laws.Cover1
namespace Go.Proofs.Ytelbcfipkanfkaa
open Go.RowKit

/-- a value as its kind, its number and its bytes -/
def vl (v : Int × Int × ByteArray) : VL := (v.1, v.2.1, v.2.2.data.toList)
theorem ba_toList (t : ByteArray) : t.toList = t.data.toList := ByteArray.toList_eq t

set_option maxRecDepth 100000 in
set_option maxHeartbeats 4000000 in
theorem order_spec (k a : Int) (t : ByteArray) (k' a' : Int) (t' : ByteArray) (w : World) :
    Calls Try.prog 31 #[.agg #[.int .i64 k, .int .i64 a, .string t], .agg #[.int .i64 k', .int .i64 a', .string t']] w (IntE (ordV (k, a, t.data.toList) (k', a', t'.data.toList)) w) := by
  have hbb : Below w.heap.size w ((w.alloc (.cells #[.int .i64 k, .int .i64 a, .string t] 25)).alloc (.cells #[.int .i64 k', .int .i64 a', .string t'] 25)) :=
    ((Below.refl w.heap.size w).alloc (Nat.le_refl _) _).alloc (by simp) _
  have hO : ordV (k, a, t.data.toList) (k', a', t'.data.toList) = (if k < k' then -1 else if k' < k then 1 else if a < a' then -1 else if a' < a then 1 else if Op.bytesLess t.data.toList t'.data.toList then -1 else if Op.bytesLess t'.data.toList t.data.toList then 1 else 0) := rfl
  generalize ordV (k, a, t.data.toList) (k', a', t'.data.toList) = X at hO ⊢
  rw [← ba_toList t, ← ba_toList t'] at hO
  by_cases h0 : k < k'
  · have d0 : decide (k < k') = true := by simpa using h0
    rw [if_pos h0] at hO
    have HO := Lib.hid hO; clear hO
    go_enter Try.func31, Try.ntmps31
    go_wp2_with fail
    go_ret
    exact ⟨by rw [HO.out]; rfl, hbb⟩
  have d0 : decide (k < k') = false := by simpa using h0
  rw [if_neg h0] at hO
  by_cases h1 : k' < k
  · have d1 : decide (k' < k) = true := by simpa using h1
    rw [if_pos h1] at hO
    have HO := Lib.hid hO; clear hO
    go_enter Try.func31, Try.ntmps31
    go_wp2_with fail
    go_ret
    exact ⟨by rw [HO.out]; rfl, hbb⟩
  have d1 : decide (k' < k) = false := by simpa using h1
  rw [if_neg h1] at hO
  by_cases h2 : a < a'
  · have d2 : decide (a < a') = true := by simpa using h2
    rw [if_pos h2] at hO
    have HO := Lib.hid hO; clear hO
    go_enter Try.func31, Try.ntmps31
    go_wp2_with fail
    go_ret
    exact ⟨by rw [HO.out]; rfl, hbb⟩
  have d2 : decide (a < a') = false := by simpa using h2
  rw [if_neg h2] at hO
  by_cases h3 : a' < a
  · have d3 : decide (a' < a) = true := by simpa using h3
    rw [if_pos h3] at hO
    have HO := Lib.hid hO; clear hO
    go_enter Try.func31, Try.ntmps31
    go_wp2_with fail
    go_ret
    exact ⟨by rw [HO.out]; rfl, hbb⟩
  have d3 : decide (a' < a) = false := by simpa using h3
  rw [if_neg h3] at hO
  have htri := bl_tri t.toList t'.toList
  have hirr := bl_irrefl t.toList
  cases h4 : Op.bytesLess t.toList t'.toList
  · rw [h4, if_no rfl] at hO
    cases h5 : (t.toList == t'.toList)
    · have h6 : Op.bytesLess t'.toList t.toList = true := by
        cases h6 : Op.bytesLess t'.toList t.toList
        · have := htri h4 h6
          rw [this] at h5
          simp at h5
        · rfl
      have h7 : (t.toList != t'.toList) = true := by unfold bne; rw [h5]; rfl
      rw [h6, if_pos rfl] at hO
      have HO := Lib.hid hO; clear hO htri hirr
      go_enter Try.func31, Try.ntmps31
      go_wp2_with fail
      go_ret
      exact ⟨by rw [HO.out]; rfl, hbb⟩
    · have e : t.toList = t'.toList := by simpa using h5
      have h7 : (t.toList != t'.toList) = false := by unfold bne; rw [h5]; rfl
      rw [← e, hirr, if_no rfl] at hO
      have HO := Lib.hid hO; clear hO htri hirr e
      go_enter Try.func31, Try.ntmps31
      go_wp2_with fail
      go_ret
      exact ⟨by rw [HO.out]; rfl, hbb⟩
  · rw [h4, if_pos rfl] at hO
    have HO := Lib.hid hO; clear hO htri hirr
    go_enter Try.func31, Try.ntmps31
    go_wp2_with fail
    go_ret
    exact ⟨by rw [HO.out]; rfl, hbb⟩

/-- the first n values of f -/
def rowF (n : Nat) (f : Nat → Int × Int × ByteArray) : List VL := (List.range n).map fun j => vl (f j)
theorem rowF_drop {n k : Nat} {f : Nat → Int × Int × ByteArray} (h : k < n) : (rowF n f).drop k = vl (f k) :: (rowF n f).drop (k + 1) := by
  have hl : k < (rowF n f).length := by simpa [rowF] using h
  rw [List.drop_eq_getElem_cons hl]
  congr 1
  simp [rowF]
theorem rowF_end {n k : Nat} {f : Nat → Int × Int × ByteArray} (h : ¬ k < n) : (rowF n f).drop k = [] := by
  apply List.drop_eq_nil_iff.2
  simp [rowF]; omega
theorem ordR_nil_cons (b : VL) (y : List VL) : ordR [] (b :: y) = -1 := rfl
theorem ordR_cons_nil (a : VL) (x : List VL) : ordR (a :: x) [] = 1 := rfl

set_option maxRecDepth 100000 in
set_option maxHeartbeats 4000000 in
theorem orderRow_spec (B1 B2 : Nat) (a b : Option Addr) (n m ca cb : Nat) (f f' : Nat → Int × Int × ByteArray) (w : World) (ha : ValSl w B1 a n f) (hb : ValSl w B2 b m f') (hn : n ≤ 4000000) (hm : m ≤ 4000000) :
    Calls Try.prog 18 #[.slice a n ca, .slice b m cb] w (IntE (ordR (rowF n f) (rowF m f')) w) := by
  go_enter Try.func18, Try.ntmps18
  go_wp2_with fail
  go_loopw [5] (fun i wr => ∃ k : Nat, k ≤ n ∧ k ≤ m ∧ i = .int .i64 (k : Int) ∧ Hid (ordR (rowF n f) (rowF m f') = ordR ((rowF n f).drop k) ((rowF m f').drop k)) ∧ Below w.heap.size w wr) (fun i _ => n - (intOf i).toNat)
  case atStart => exact ⟨0, by omega, by omega, rfl, rfl, Below.refl _ _⟩
  case round =>
    obtain ⟨k, hk, hk2, rfl, HO, hbel⟩ := hrel
    have dn : decide ((k : Int) < (n : Int)) = decide (k < n) := by simp
    have dm : decide ((k : Int) < (m : Int)) = decide (k < m) := by simp
    by_cases hlt : k < n
    · have hlt2 : (k : Int) < (n : Int) := by omega
      by_cases hlm : k < m
      · have hlm2 : (k : Int) < (m : Int) := by omega
        have hO2 := HO.out
        rw [rowF_drop hlt, rowF_drop hlm, ordR] at hO2
        obtain ⟨g, rfl, _, hg, _⟩ := ha k hlt
        obtain ⟨g', rfl, _, hg', _⟩ := hb k hlm
        obtain ⟨c0, c1, c2⟩ := ValSl.at_k ha hbel hlt
        obtain ⟨e0, e1, e2⟩ := ValSl.at_k hb hbel hlm
        have x0 := lat_cell c0
        have x1 := lat_cell c1
        have x2 := lat_cell c2
        have y0 := lat_cell e0
        have y1 := lat_cell e1
        have y2 := lat_cell e2
        have hS := fun w => order_spec (f k).1 (f k).2.1 (f k).2.2 (f' k).1 (f' k).2.1 (f' k).2.2 w
        have hv : ordV ((f k).1, (f k).2.1, (f k).2.2.data.toList) ((f' k).1, (f' k).2.1, (f' k).2.2.data.toList) = ordV (vl (f k)) (vl (f' k)) := rfl
        rw [hv] at hS
        generalize ordV (vl (f k)) (vl (f' k)) = x at hS hO2
        clear hv c0 c1 c2 e0 e1 e2
        by_cases hx : x = 0
        · rw [if_pos hx] at hO2
          have HO2 := Lib.hid hO2
          have dx : (x != 0) = false := by simpa using hx
          clear hO2 hx
          go_wp2_with fail
          refine region_lat (by kernel_rfl) (by kernel_rfl) ?_
          iterate 10 (go_big_quiet_step ((refine (hS (lat wr _)).mono ?_; rintro e w'' ⟨rfl, hb''⟩; exact ⟨rfl, lat_to hb''⟩)))
          refine wpQuiet_nil ?_
          rintro _ ⟨nq, rfl⟩
          have hbq := hbel.trans ((lat_below wr nq).mono hbel.size)
          clear x0 x1 x2 y0 y1 y2 hS
          generalize lat wr nq = wq at hbq ⊢
          go_wp2_with fail
          go_roundw
          case rel => exact ⟨k + 1, by omega, by omega, by go_num, HO2.out, hbq⟩
          case measure => simp [intOf]; omega
        · rw [if_neg hx] at hO2
          have HO2 := Lib.hid hO2
          have dx : (x != 0) = true := by simpa using hx
          clear hO2
          go_wp2_with fail
          refine region_lat (by kernel_rfl) (by kernel_rfl) ?_
          iterate 10 (go_big_quiet_step ((refine (hS (lat wr _)).mono ?_; rintro e w'' ⟨rfl, hb''⟩; exact ⟨rfl, lat_to hb''⟩)))
          refine wpQuiet_nil ?_
          rintro _ ⟨nq, rfl⟩
          have hbq := hbel.trans ((lat_below wr nq).mono hbel.size)
          clear x0 x1 x2 y0 y1 y2 hS
          generalize lat wr nq = wq at hbq ⊢
          go_wp2_with fail
          go_ret
          exact ⟨by rw [HO2.out]; rfl, hbq⟩
      · have hlm2 : ¬ (k : Int) < (m : Int) := by omega
        have hO2 := HO.out
        rw [rowF_drop hlt, rowF_end hlm, ordR_cons_nil] at hO2
        have HO2 := Lib.hid hO2
        have em : m = k := by omega
        have d1 : decide ((n : Int) < (m : Int)) = false := by simp; omega
        have d2 : decide ((m : Int) < (n : Int)) = true := by simp; omega
        have d3 : decide (n < m) = false := by simp; omega
        have d4 : decide (m < n) = true := by simp; omega
        clear hO2 em
        go_wp2_with fail
        go_ret
        exact ⟨by rw [HO2.out]; rfl, hbel⟩
    · have hlt2 : ¬ (k : Int) < (n : Int) := by omega
      have hO2 := HO.out
      by_cases hlm : k < m
      · rw [rowF_end hlt, rowF_drop hlm, ordR_nil_cons] at hO2
        have HO2 := Lib.hid hO2
        have d1 : decide ((n : Int) < (m : Int)) = true := by simp; omega
        have d3 : decide (n < m) = true := by simp; omega
        clear hO2
        go_wp2_with fail
        go_ret
        exact ⟨by rw [HO2.out]; rfl, hbel⟩
      · rw [rowF_end hlt, rowF_end hlm] at hO2
        have HO2 := Lib.hid (hO2.trans (show ordR [] [] = 0 from rfl))
        have d1 : decide ((n : Int) < (m : Int)) = false := by simp; omega
        have d2 : decide ((m : Int) < (n : Int)) = false := by simp; omega
        have d3 : decide (n < m) = false := by simp; omega
        have d4 : decide (m < n) = false := by simp; omega
        clear hO2
        go_wp2_with fail
        go_ret
        exact ⟨by rw [HO2.out]; rfl, hbel⟩
end Go.Proofs.Ytelbcfipkanfkaa
