/- The walk of the law FnPartsBack. -/
import Derived.Test.YtojafonpfcpmjaaDoorPartLaw
import Derived.Test.YtojafonpfcpmjaaDoorBig
import Derived.RegionTactic
namespace Go.Proofs.YtojafonpfcpmjaaDoor
open Go.RowKit

/-- a short string comes back, the cursor goes on -/
def DrawS (m : Nat) (B C : Nat) (a : Option Addr) (len cap : Nat) (W : World) (e : Ending) (W' : World) : Prop :=
  ∃ S : ByteArray, S.size ≤ m ∧ e = .returned (.string S) ∧ Cur B C a len cap W' ∧ W.grownBy W' (some C)

set_option maxRecDepth 100000 in
set_option maxHeartbeats 400000 in
theorem pick_any (L m q : Nat) (B C : Nat) (a : Option Addr) (len cap : Nat) (W : World) (H : Cur B C a len cap W) (hm : 1 ≤ m) (hm2 : m ≤ 1000) (hL : L < W.heap.size) (hLC : L ≠ C)
    (hv : ∀ j, j < m → ∃ v : ByteArray, v.size ≤ q ∧ W.cell? ⟨L, j, none⟩ = some (.string v)) :
    Calls Tryd.prog 23 #[.pointer (some ⟨C, 0, none⟩), .slice (some ⟨L, 0, none⟩) m m] W (DrawS q B C a len cap W) := by
  go_enter Tryd.func23, Tryd.ntmps23
  go_wp2_with fail
  refine (below_any (m : Int) B C a len cap _ H (by omega) (by omega)).mono ?_
  rintro e W1 ⟨x, hx0, hx1, rfl, hc, hg⟩
  obtain ⟨j, rfl⟩ := Int.eq_ofNat_of_zero_le hx0
  obtain ⟨v, hv0, hvc⟩ := hv j (by omega)
  have hjm : j < m := by omega
  have hcell : W1.cell? ⟨L, j, none⟩ = some (.string v) := by
    rw [World.cell?_of_block (w := W) (w' := W1) (a := ⟨L, j, none⟩) (hg.block L hL (fun e => hLC (by simpa using e)))]
    exact hvc
  go_wp2_with fail
  go_ret
  exact ⟨v, hv0, rfl, hc, hg⟩

def DrawPE (B : Nat) (W : World) (e : Ending) (W' : World) : Prop := ∃ (S : ByteArray) (x : Nat), S.size ≤ 10 ∧ x < 256 ∧ e = .returned (.tuple #[.string S, .int .u8 (x : Int)]) ∧ Below B W W'

set_option maxRecDepth 100000 in
set_option maxHeartbeats 400000 in
theorem drawParts_any (B : Nat) (a : Option Addr) (len cap : Nat) (W : World) (H : RowB B a len W) (hB : B ≤ W.heap.size) :
    Calls Tryd.prog 12 #[.slice a len cap] W (DrawPE B W) := by
  go_enter Tryd.func12, Tryd.ntmps12
  go_wp2_with fail
  refine (new_any B a len cap _ H hB).mono ?_
  rintro e W1 ⟨rfl, hc, hb⟩
  have hlt := hc.lt
  have hz := hb.size
  go_wp2_with fail
  refine (pick_any W1.heap.size 6 10 B W.heap.size a len cap _ (hc.alloc _) (by omega) (by omega) (by simp) (by omega) ?_).mono ?_
  · intro j hj
    rw [cell_of_row _ W1.heap.size j _ 9 (0, 0) (heap_alloc_new W1 _)]
    rcases (show j = 0 ∨ j = 1 ∨ j = 2 ∨ j = 3 ∨ j = 4 ∨ j = 5 by omega) with rfl | rfl | rfl | rfl | rfl | rfl <;> exact ⟨_, by decide, rfl⟩
  · rintro e W2 ⟨S, hS, rfl, hc2, hg2⟩
    have hg3 := grown_tr (grown_alloc W1 (.cells #[.string ⟨#[]⟩, .string ⟨#[97]⟩, .string ⟨#[97, 44, 98]⟩, .string ⟨#[44]⟩, .string ⟨#[97, 44, 44, 98, 44]⟩, .string ⟨#[97, 10, 98, 10]⟩] 9) (some W.heap.size)) hg2
    have hb2 := below_of_grown hb hg3 hB (by omega)
    have hz2 := hb2.size
    have hlt2 := hc2.lt
    clear hg2 hg3
    go_wp2_with fail
    refine (pickInt_any W2.heap.size 2 0 255 B W.heap.size a len cap _ (hc2.alloc _) (by omega) (by omega) (by simp) (by omega) ?_).mono ?_
    · intro j hj
      rw [cell_of_row _ W2.heap.size j _ 3 (0, 0) (heap_alloc_new W2 _)]
      rcases (show j = 0 ∨ j = 1 by omega) with rfl | rfl <;> exact ⟨_, by decide, by decide, rfl⟩
    · rintro e W3 ⟨x, hx0, hx1, rfl, hc3, hg3⟩
      obtain ⟨y, rfl⟩ := Int.eq_ofNat_of_zero_le hx0
      have hg4 := grown_tr (grown_alloc W2 (.cells #[.int .i64 44, .int .i64 10] 3) (some W.heap.size)) hg3
      have hb3 := below_of_grown hb2 hg4 hB (by omega)
      clear hg3 hg4
      have hy : y < 256 := by omega
      go_wp2_with fail
      go_ret2
      exact ⟨S, y, hS, hy, rfl, hb3⟩

/-- string j of the parts -/
def prt (c : UInt8) (s : ByteArray) (j : Nat) : ByteArray := ⟨((pieces c s.data.toList).getD j []).toArray⟩
theorem prt_data (c : UInt8) (s : ByteArray) (j : Nat) : (prt c s j).data.toList = (pieces c s.data.toList).getD j [] := rfl
theorem prt_free {c : UInt8} {s : ByteArray} {j m : Nat} (hj : j < (pieces c s.data.toList).length) (hm : m < (prt c s j).size) : (prt c s j)[m] ≠ c := by
  intro e
  have hmem : (pieces c s.data.toList).getD j [] ∈ pieces c s.data.toList := by
    rw [List.getD_eq_getElem?_getD, List.getElem?_eq_getElem hj]; exact List.getElem_mem _
  have h := pieces_none c s.data.toList _ hmem
  apply h
  have h3 : (prt c s j)[m] ∈ (prt c s j).data.toList := List.getElem_mem (l := (prt c s j).data.toList) (n := m) (by simpa using hm)
  rw [e] at h3
  exact h3
theorem pieces_short (c : UInt8) : ∀ (l : List UInt8), ∀ p ∈ pieces c l, p.length ≤ l.length
  | [], p, hp => by simp [pieces] at hp; simp [hp]
  | b :: l, p, hp => by
    have ih := pieces_short c l
    by_cases h : b = c
    · subst h
      rw [pieces_sep] at hp
      rcases List.mem_cons.1 hp with rfl | hp
      · simp
      · have := ih p hp; simp; omega
    · rw [pieces_other h] at hp
      have hne := pieces_ne c l
      cases hpl : pieces c l with
      | nil => exact absurd hpl hne
      | cons q r =>
        rw [hpl] at hp ih
        rcases List.mem_cons.1 hp with rfl | hp
        · have := ih q (by simp); simp; omega
        · have := ih p (by simp [hp]); simp; omega
theorem prt_size {c : UInt8} {s : ByteArray} {j : Nat} (hj : j < (pieces c s.data.toList).length) : (prt c s j).size ≤ s.size := by
  have hmem : (pieces c s.data.toList).getD j [] ∈ pieces c s.data.toList := by
    rw [List.getD_eq_getElem?_getD, List.getElem?_eq_getElem hj]; exact List.getElem_mem _
  exact pieces_short c s.data.toList _ hmem
theorem join_first {c : UInt8} {s : ByteArray} (h : 1 ≤ (pieces c s.data.toList).length) : (prt c s 0).data.toList = joinP c ((pieces c s.data.toList).take 1) := by
  rw [prt_data]
  cases hp : pieces c s.data.toList with
  | nil => rw [hp] at h; simp at h
  | cons p r => rfl
theorem join_next {c : UInt8} {s : ByteArray} {bk : ByteArray} {k : Nat} (h1 : 1 ≤ k) (hk : k < (pieces c s.data.toList).length) (hb : bk.data.toList = joinP c ((pieces c s.data.toList).take k)) :
    (bk ++ ⟨#[c]⟩ ++ prt c s k).data.toList = joinP c ((pieces c s.data.toList).take (k + 1)) := by
  have e : (pieces c s.data.toList).take (k + 1) = (pieces c s.data.toList).take k ++ [(pieces c s.data.toList).getD k []] := by
    rw [List.take_succ_eq_append_getElem hk, List.getD_eq_getElem?_getD, List.getElem?_eq_getElem hk]; rfl
  rw [e, joinP_snoc c _ (by intro h0; have := congrArg List.length h0; rw [List.length_take, List.length_nil] at this; omega), ← hb, ← prt_data]
  rw [ByteArray.data_append, ByteArray.data_append]
  simp

theorem join_le (c : UInt8) (P : List (List UInt8)) : ∀ d k : Nat, 1 ≤ k → k + d = P.length → (joinP c (P.take k)).length ≤ (joinP c P).length
  | 0, k, _, h => by rw [show k = P.length by omega, List.take_length]; exact Nat.le_refl _
  | d + 1, k, h1, h => by
    have ih := join_le c P d (k + 1) (by omega) (by omega)
    have e : P.take (k + 1) = P.take k ++ [P[k]'(by omega)] := by rw [List.take_succ_eq_append_getElem (by omega)]
    rw [e, joinP_snoc c _ (by intro h0; have := congrArg List.length h0; rw [List.length_take, List.length_nil] at this; omega)] at ih
    simp at ih
    omega
theorem join_size {c : UInt8} {s bk : ByteArray} {k : Nat} (h1 : 1 ≤ k) (hk : k ≤ (pieces c s.data.toList).length) (hs : s.size ≤ 10) (hb : bk.data.toList = joinP c ((pieces c s.data.toList).take k)) : bk.size ≤ 10 := by
  have h := join_le c (pieces c s.data.toList) ((pieces c s.data.toList).length - k) k h1 (by omega)
  rw [← hb, joinP_pieces] at h
  have e1 : bk.data.toList.length = bk.size := rfl
  have e2 : s.data.toList.length = s.size := rfl
  omega

set_option maxRecDepth 100000 in
set_option maxHeartbeats 1200000 in
theorem back_law (a : Option Addr) (len cap : Nat) (w : World) (hrow : RowB w.heap.size a len w) (hm : MaxI w) : Calls Tryd.prog 4 #[.slice a len cap] w (LawE w) := by
  have hlen := hrow.1
  have h2 := hm.two
  by_cases hbig : 1048576 < len
  · go_enter Tryd.func4, Tryd.ntmps4
    go_wp2_with fail
    refine (big_yes a len cap _ hlen hbig).mono ?_
    rintro e w' ⟨rfl, rfl⟩
    go_wp2_with fail
    go_ret
    exact ⟨rfl, Below.refl _ _⟩
  · go_enter Tryd.func4, Tryd.ntmps4
    go_wp2_with fail
    refine (big_no a len cap _ hbig).mono ?_
    rintro e w' ⟨rfl, rfl⟩
    go_wp2_with fail
    refine (drawParts_any w.heap.size a len cap _ hrow (Nat.le_refl _)).mono ?_
    rintro e w1 ⟨s, x, hs, hx, rfl, hb1⟩
    have m1 := hm.later hb1 h2
    have hz1 := hb1.size
    have hxc : (x : Int) = ((UInt8.ofNat x).toNat : Int) := by simp; omega
    have HX := Lib.hid hxc; clear hxc
    go_wp2_with fail
    rw [HX.out]
    generalize UInt8.ofNat x = c at *
    have HPI := parts_impl s c w1 (by omega) m1
    refine HPI.mono ?_
    intro e w2 hp2
    obtain ⟨g, cp, rfl, hg, row, b2⟩ := hp2.row
    clear hp2 HPI HX
    have hn1 : 1 ≤ (pieces c s.data.toList).length := List.length_pos_iff.2 (pieces_ne c _)
    have hnm : (pieces c s.data.toList).length ≤ 11 := by have := pieces_le c s.data.toList; have e : s.data.toList.length = s.size := rfl; omega
    have row' : StrRow w2 g (pieces c s.data.toList).length (prt c s) := row
    clear row
    have HJ1 := Lib.hid (join_first hn1)
    have HJN := Lib.hid (fun (bk : ByteArray) (k : Nat) (h1 : 1 ≤ k) (hk : k < (pieces c s.data.toList).length) hb => join_next (bk := bk) h1 hk hb)
    have HSZ := Lib.hid (fun (bk : ByteArray) (k : Nat) (h1 : 1 ≤ k) (hk : k ≤ (pieces c s.data.toList).length) hb => join_size (bk := bk) h1 hk hs hb)
    have HPS := Lib.hid (fun (j : Nat) (hj : j < (pieces c s.data.toList).length) => prt_size hj)
    have HFR := Lib.hid (fun (j m : Nat) (hj : j < (pieces c s.data.toList).length) hm' => prt_free (m := m) hj hm')
    have HAL := Lib.hid (show joinP c ((pieces c s.data.toList).take (pieces c s.data.toList).length) = s.data.toList by rw [List.take_length]; exact joinP_pieces c _)
    generalize (pieces c s.data.toList).length = n at *
    have bb2 := hb1.trans (b2.mono hz1)
    have hne : ((n : Int) == 0) = false := by simp; omega
    obtain ⟨hc0, _⟩ := row'.2 0 hn1
    have hn1' : (0 : Int) < (n : Int) := by omega
    go_wp2_with fail
    clear hc0 hne
    go_loopw [6, 7] (fun b i wr => ∃ (k : Nat) (bk : ByteArray), 1 ≤ k ∧ k ≤ n ∧ i = .int .i64 (k : Int) ∧ b = .string bk ∧ Hid (bk.data.toList = joinP c ((pieces c s.data.toList).take k)) ∧ Below w2.heap.size w2 wr) (fun _ i _ => n - (intOf i).toNat)
    case atStart => exact ⟨1, prt c s 0, by omega, hn1, rfl, rfl, HJ1.out, Below.refl _ _⟩
    case round =>
      obtain ⟨k, bk, hk1, hk, rfl, rfl, HB, hbel⟩ := hrel
      have hsz := hbel.size
      have rowr := row'.below hbel row'.1
      have bbr := bb2.trans (hbel.mono bb2.size)
      by_cases hlt : k < n
      · have hlt2 : (k : Int) < (n : Int) := by omega
        obtain ⟨hck, _⟩ := rowr.2 k hlt
        have HN := Lib.hid (HJN.out bk k hk1 hlt HB.out)
        have hsz1 := HSZ.out bk k hk1 hk HB.out
        have hsz2 := HSZ.out _ (k + 1) (by omega) (by omega) HN.out
        have hsz3 : (prt c s k).size ≤ 10 := by
          have e1 : (bk ++ (⟨#[c]⟩ : ByteArray) ++ prt c s k).size = bk.size + 1 + (prt c s k).size := by rw [ByteArray.size_append, ByteArray.size_append]; rfl
          omega
        clear hsz2
        have hcv : (convert 22 9 (.slice (some ⟨wr.heap.size, 0, none⟩) 1 1)).run Tryd.prog (wr.alloc (.cells #[.int .u8 (c.toNat : Int)] 5)).drew = .ok (.string ⟨#[c]⟩) (wr.alloc (.cells #[.int .u8 (c.toNat : Int)] 5)).drew :=
          conv_one (P := Tryd.prog) wr.drew c (c.toNat : Int) rfl Tryd.underlying22 Tryd.underlying5 Tryd.underlying9
        have hck2 : (wr.alloc (.cells #[.int .u8 (c.toNat : Int)] 5)).drew.cell? ⟨g, k, none⟩ = some (.string (prt c s k)) :=
          (World.cell?_of_block (w := wr) (a := ⟨g, k, none⟩) (Below.heap_alloc wr _ g rowr.1)).trans hck
        go_wp2_with fail
        go_region
        all_goals
          go_wp2_with fail
          go_roundw
          case rel => exact ⟨k + 1, _, by omega, by omega, by go_num, rfl, HN.out, (hbel.alloc hsz _).drew⟩
          case measure => simp [intOf]; omega
      · have e : k = n := by omega
        subst e
        obtain rfl : s = bk := (WideShapes.bytes_inj (HB.out.trans HAL.out)).symm
        clear HB
        go_wp2_with fail
        go_loop [8, 9] (fun i _ => ∃ j : Nat, j ≤ k ∧ i = .int .i64 (j : Int)) (fun i _ => k - (intOf i).toNat)
        case atStart => exact ⟨0, by omega, rfl⟩
        case round =>
          obtain ⟨j, hj, rfl⟩ := hrel
          by_cases hlt : j < k
          · have hlt2 : (j : Int) < (k : Int) := by omega
            obtain ⟨hcj, _⟩ := rowr.2 j hlt
            have hps := HPS.out j hlt
            go_wp2_with fail
            go_loop [9] (fun i => ∃ m : Nat, m ≤ (prt c s j).size ∧ i = .int .i64 (m : Int)) (fun i => (prt c s j).size - (intOf i).toNat)
            case atStart => exact ⟨0, by omega, rfl⟩
            case round =>
              obtain ⟨m, hm2, rfl⟩ := hrel
              by_cases hm3 : m < (prt c s j).size
              · have hm4 : (m : Int) < ((prt c s j).size : Int) := by omega
                have hfr := HFR.out j m hlt hm3
                have hq : ((((prt c s j)[m]).toNat : Int) == (c.toNat : Int)) = false := by
                  simp only [beq_eq_false_iff_ne, ne_eq]
                  intro e
                  exact hfr (UInt8.toNat_inj.1 (by omega))
                clear hfr
                go_wp2_with fail
                go_round
                case rel => exact ⟨m + 1, by omega, by go_num⟩
                case measure => simp [intOf]; omega
              · go_wp2_with fail
                go_round
                case rel => exact ⟨j + 1, by omega, by go_num⟩
                case measure => simp [intOf]; omega
          · go_wp2_with fail
            go_ret
            exact ⟨rfl, bbr⟩
end Go.Proofs.YtojafonpfcpmjaaDoor
