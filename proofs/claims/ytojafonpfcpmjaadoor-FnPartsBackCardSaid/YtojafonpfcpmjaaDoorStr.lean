/- Contracts of the functions that compare, mark and look at a slice of strings. -/
import Derived.Test.YtojafonpfcpmjaaDoorParts
import Derived.Test.YtojafonpfcpmjaaDoorDig
import Derived.Deep.QuietTactic
import Derived.BigQuiet
import Derived.Deep.RegionWith
namespace Go.Proofs.YtojafonpfcpmjaaDoor
open Go.RowKit
open Go.Lib (decDigits)

/-- block g holds the strings f 0, f 1, .. up to n -/
def StrRow (w : World) (g n : Nat) (f : Nat → ByteArray) : Prop := g < w.heap.size ∧ ∀ j, j < n → w.cell? ⟨g, j, none⟩ = some (.string (f j)) ∧ w.frozen? ⟨g, j, none⟩ = false
theorem StrRow.keep {w w' : World} {g n : Nat} {f : Nat → ByteArray} (h : StrRow w g n f) (hb : w'.heap[g]? = w.heap[g]?) (hs : w.heap.size ≤ w'.heap.size) : StrRow w' g n f :=
  ⟨by have := h.1; omega, fun j hj => ⟨(World.cell?_of_block (w := w) (w' := w') (a := ⟨g, j, none⟩) hb).trans (h.2 j hj).1, (World.frozen?_of_block (w := w) (w' := w') (a := ⟨g, j, none⟩) hb).trans (h.2 j hj).2⟩⟩
theorem StrRow.below {w w' : World} {g n B : Nat} {f : Nat → ByteArray} (h : StrRow w g n f) (hb : Below B w w') (hg : g < B) : StrRow w' g n f := h.keep (hb.block g hg) hb.size
theorem OwnS.row {w : World} {B g cap : Nat} {P : List (List UInt8)} (h : OwnS w B (.slice (some ⟨g, 0, none⟩) P.length cap) (strs P)) : B ≤ g ∧ StrRow w g P.length (fun j => ⟨(P.getD j []).toArray⟩) := by
  have hl := World.ownsRow.lt h g rfl
  unfold OwnS at h
  rw [strs_len] at h
  refine ⟨hl.1, hl.2, fun j hj => ⟨?_, World.ownsRow.frozenAt h j⟩⟩
  rw [World.ownsRow.cellAt h j (by omega)]
  simp [strs, hj, List.getD_eq_getElem?_getD]

/-- nothing has turned but the count of draws -/
def Kept (w w' : World) : Prop := w'.heap = w.heap ∧ Below w.heap.size w w'
theorem Kept.refl (w : World) : Kept w w := ⟨rfl, Below.refl _ _⟩
theorem Kept.drewN {w w' : World} (h : Kept w w') (n : Nat) : Kept w (w'.drewN n) := ⟨h.1, ⟨h.2.os, h.2.tape, h.2.output, h.2.size, h.2.block⟩⟩

set_option maxRecDepth 100000 in
set_option maxHeartbeats 400000 in
theorem eq_any (ga gb n ca cb : Nat) (f : Nat → ByteArray) (w : World) (ha : StrRow w ga n f) (hb : StrRow w gb n f) (hn : n ≤ 1048577) :
    Calls Tryd.prog 15 #[.slice (some ⟨ga, 0, none⟩) n ca, .slice (some ⟨gb, 0, none⟩) n cb] w fun e w' => e = .returned (.bool true) ∧ Kept w w' := by
  go_enter Tryd.func15, Tryd.ntmps15
  go_wp2
  go_loopw [5] (fun i wr => ∃ k : Nat, k ≤ n ∧ i = .int .i64 (k : Int) ∧ Kept w wr) (fun i _ => n - (intOf i).toNat)
  case atStart => exact ⟨0, by omega, rfl, Kept.refl _⟩
  case round =>
    obtain ⟨k, hk, rfl, hkept⟩ := hrel
    by_cases hlt : k < n
    · have h1 := (ha.keep (w' := wr) (by rw [hkept.1]) (by rw [hkept.1]; exact Nat.le_refl _)).2 k hlt
      have h2 := (hb.keep (w' := wr) (by rw [hkept.1]) (by rw [hkept.1]; exact Nat.le_refl _)).2 k hlt
      obtain ⟨h1, _⟩ := h1
      obtain ⟨h2, _⟩ := h2
      have hlt2 : (k : Int) < (n : Int) := by omega
      go_wp2_with fail
      go_quiet (fail)
      go_wp2_with fail
      go_roundw
      case rel => exact ⟨k + 1, by omega, by go_num, hkept.drewN _⟩
      case measure => simp [intOf]; omega
    · go_wp2_with fail
      go_ret
      exact ⟨rfl, hkept⟩

/-- the mark of a number -/
def mk (k : Nat) : ByteArray := ⟨(109 :: decDigits k).toArray⟩
theorem mk_ret {m : Nat} {out : ByteArray} (h : decDigits m = out.data.toList) : Ending.returned (.string (⟨#[109]⟩ ++ out)) = .returned (.string (mk m)) := by
  have : (⟨#[109]⟩ : ByteArray) ++ out = mk m := by
    apply WideShapes.bytes_inj
    rw [ByteArray.data_append]
    simp [mk, h]
  rw [this]

set_option maxRecDepth 100000 in
set_option maxHeartbeats 400000 in
theorem markText_any (m : Nat) (w : World) (h0 : 0 < m) (h1 : m ≤ 9223372036854775807) :
    Calls Tryd.prog 26 #[.int .i64 (m : Int)] w fun e w' => e = .returned (.string (mk m)) ∧ Below w.heap.size w w' := by
  have hq : ¬ (m : Int) ≤ 0 := by omega
  go_enter Tryd.func26, Tryd.ntmps26
  go_wp2
  go_loopw [0, 3] (fun x o wr => ∃ (y : Nat) (out : ByteArray), y ≤ m ∧ x = .int .i64 (y : Int) ∧ o = .string out ∧ out.size ≤ 19 ∧ Hid (decDigits m = decR y ++ out.data.toList) ∧ Below w.heap.size w wr) (fun x _ _ => (intOf x).toNat)
  case atStart => exact ⟨m, ⟨#[]⟩, Nat.le_refl _, rfl, rfl, by decide, by unfold Hid decR; rw [if_neg (by omega)]; simp, Below.refl _ _⟩
  case round =>
    obtain ⟨y, out, hy, rfl, rfl, hos, HD, hbel⟩ := hrel
    by_cases hy0 : 0 < y
    · have hne : (0 : Int) < (y : Int) := by omega
      have hcv := conv_one (P := Tryd.prog) wr (dgB (y % 10)) (48 + (y : Int) % 10) (by rw [dgB_nat (by omega)]; omega) Tryd.underlying22 Tryd.underlying5 Tryd.underlying9
      have hsz := hbel.size
      go_wp2_with fail
      go_roundw
      case rel => exact ⟨y / 10, _, by omega, by go_num, rfl, dig_len (m := m) (by omega) (dig_step hy0 HD.out), dig_step hy0 HD.out, hbel.alloc hsz _⟩
      case measure => simp [intOf]; omega
    · go_wp2_with fail
      go_ret
      exact ⟨mk_ret (by rw [HD.out, decR, if_pos (by omega)]; rfl), hbel⟩

/-- the first i are h's, the others f's -/
def mixF (i : Nat) (h f : Nat → ByteArray) (j : Nat) : ByteArray := if j < i then h j else f j
theorem mixF_lt {i j : Nat} {h f : Nat → ByteArray} (hj : j < i) : mixF i h f j = h j := if_pos hj
theorem mixF_ge {i j : Nat} {h f : Nat → ByteArray} (hj : ¬ j < i) : mixF i h f j = f j := if_neg hj
/-- one more string is stored -/
theorem StrRow.put {w : World} {g n i : Nat} {f h : Nat → ByteArray} (H : StrRow w g n (mixF i h f)) : StrRow (w.setCell ⟨g, i, none⟩ (.string (h i))) g n (mixF (i + 1) h f) := by
  refine ⟨by have := H.1; simpa using this, fun j hj => ?_⟩
  obtain ⟨h1, h2⟩ := H.2 j hj
  refine ⟨?_, by rw [World.frozen?_setCell]; exact h2⟩
  by_cases e : i = j
  · subst e
    rw [World.cell?_setCell_same _ _ _ h1, mixF_lt (by omega)]
  · rw [World.cell?_setCell_other _ _ _ _ (fun x => e (Addr.mk.inj x).2.1), h1]
    by_cases hl : j < i
    · rw [mixF_lt hl, mixF_lt (by omega)]
    · rw [mixF_ge hl, mixF_ge (by omega)]
theorem grown_of_below {C : Nat} {W W1 W' : World} (h : W.grownBy W1 (some C)) (g : Below W1.heap.size W1 W') : W.grownBy W' (some C) :=
  ⟨g.os.trans h.os, g.tape.trans h.tape, g.output.trans h.output, Nat.le_trans h.size g.size, fun k hk hr => (g.block k (by have := h.size; omega)).trans (h.block k hk hr)⟩
theorem grown_st {W W1 : World} {C o : Nat} {v : Value} (h : W.grownBy W1 (some C)) : W.grownBy (W1.setCell ⟨C, o, none⟩ v) (some C) :=
  ⟨h.os, h.tape, h.output, by simpa using h.size, fun k hk hr => (heap_setCell_other W1 ⟨C, o, none⟩ k v (fun e => hr (by simp [e]))).trans (h.block k hk hr)⟩
theorem below_draw1 {w w1 : World} (h : Below w.drew.heap.size w.drew w1) : Below w.heap.size w w1 := (Below.refl _ _).drew.trans h
theorem grown_id (w : World) (r : Option Nat) : w.grownBy w r := ⟨rfl, rfl, rfl, Nat.le_refl _, fun _ _ _ => rfl⟩

set_option maxRecDepth 100000 in
set_option maxHeartbeats 400000 in
theorem mark_any (g n ca : Nat) (f : Nat → ByteArray) (w : World) (ha : StrRow w g n f) (hn : n ≤ 1048577) :
    Calls Tryd.prog 16 #[.slice (some ⟨g, 0, none⟩) n ca, .int .i64 1] w fun e w' => e = .returned (.int .i64 ((n + 1 : Nat) : Int)) ∧ StrRow w' g n (fun j => mk (j + 1)) ∧ w.grownBy w' (some g) := by
  go_enter Tryd.func16, Tryd.ntmps16
  go_wp2
  go_loopw [1, 5] (fun k i wr => ∃ j : Nat, j ≤ n ∧ i = .int .i64 (j : Int) ∧ k = .int .i64 ((j : Int) + 1) ∧ StrRow wr g n (mixF j (fun x => mk (x + 1)) f) ∧ w.grownBy wr (some g)) (fun _ i _ => n - (intOf i).toNat)
  case atStart => exact ⟨0, by omega, rfl, rfl, ⟨ha.1, fun j hj => by rw [mixF_ge (by omega)]; exact ha.2 j hj⟩, grown_id _ _⟩
  case round =>
    obtain ⟨j, hj, rfl, rfl, hrow, hgr⟩ := hrel
    by_cases hlt : j < n
    · have hlt2 : (j : Int) < (n : Int) := by omega
      go_wp2_with fail
      rw [show (j : Int) + 1 = ((j + 1 : Nat) : Int) from by omega]
      refine (markText_any (j + 1) _ (by omega) (by omega)).mono ?_
      rintro e w1 ⟨rfl, hb1⟩
      have hrow1 := hrow.below hb1 hrow.1
      have hgr1 := grown_of_below hgr hb1
      obtain ⟨hc, hf⟩ := hrow1.2 j hlt
      have hput := hrow1.put
      have hgr2 := grown_st (o := j) (v := .string (mk (j + 1))) hgr1
      go_wp2_with fail
      go_roundw
      case rel => exact ⟨j + 1, by omega, by go_num, by go_num, hput, hgr2⟩
      case measure => simp [intOf]; omega
    · have e : j = n := by omega
      subst e
      go_wp2_with fail
      go_ret
      refine ⟨ret_i64 (by omega), ⟨hrow.1, fun x hx => ?_⟩, hgr⟩
      have := hrow.2 x hx
      rw [mixF_lt hx] at this
      exact this

set_option maxRecDepth 100000 in
set_option maxHeartbeats 800000 in
theorem held_any (g n ca : Nat) (w : World) (ha : StrRow w g n (fun j => mk (j + 1))) (hn : n ≤ 1048577) :
    Calls Tryd.prog 17 #[.slice (some ⟨g, 0, none⟩) n ca, .int .i64 1] w fun e w' => e = .returned (.int .i64 ((n + 1 : Nat) : Int)) ∧ Below w.heap.size w w' := by
  go_enter Tryd.func17, Tryd.ntmps17
  go_wp2
  go_loopw [1, 5] (fun k i wr => ∃ j : Nat, j ≤ n ∧ i = .int .i64 (j : Int) ∧ k = .int .i64 ((j : Int) + 1) ∧ Below w.heap.size w wr) (fun _ i _ => n - (intOf i).toNat)
  case atStart => exact ⟨0, by omega, rfl, rfl, Below.refl _ _⟩
  case round =>
    obtain ⟨j, hj, rfl, rfl, hbel⟩ := hrel
    by_cases hlt : j < n
    · have hlt2 : (j : Int) < (n : Int) := by omega
      have hrow := ha.below hbel ha.1
      obtain ⟨hc, _⟩ := hrow.2 j hlt
      go_wp2_with fail
      rw [show (j : Int) + 1 = ((j + 1 : Nat) : Int) from by omega]
      go_region_with (go_at_call 26; refine (markText_any (j + 1) _ (by omega) (by omega)).mono ?_; rintro e w1 ⟨rfl, hb1⟩; have hc1 := ((hrow.keep (w' := wr.drew) rfl (Nat.le_refl _)).below hb1 hrow.1).2 j hlt; obtain ⟨hc1, _⟩ := hc1)
      all_goals
        have hbb : Below w.heap.size w w1 := hbel.trans ((below_draw1 hb1).mono hbel.size)
        go_wp2_with fail
        go_roundw
        case rel => exact ⟨j + 1, by omega, by go_num, by go_num, hbb⟩
        case measure => simp [intOf]; omega
    · have e : j = n := by omega
      subst e
      go_wp2_with fail
      go_ret
      exact ⟨ret_i64 (by omega), hbel⟩
end Go.Proofs.YtojafonpfcpmjaaDoor
