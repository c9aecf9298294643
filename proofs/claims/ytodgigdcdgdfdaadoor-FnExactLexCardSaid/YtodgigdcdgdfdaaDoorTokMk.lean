/- The laws' marking of a slice of tokens, and their look at the marks. -/
import Derived.Test.YtodgigdcdgdfdaaDoorTokSl
namespace Go.Proofs.YtodgigdcdgdfdaaDoor
open Go.RowKit

/-- the marks of token j -/
def mkT (j : Nat) : Int × ByteArray × Int := (3 * (j : Int) + 1, mk (3 * j + 2), 3 * (j : Int) + 3)
def mixT (i : Nat) (f : Nat → Int × ByteArray × Int) (j : Nat) : Int × ByteArray × Int := if j < i then mkT j else f j

set_option maxRecDepth 100000 in
set_option maxHeartbeats 1200000 in
theorem markToks_any (B : Nat) (a : Option Addr) (n ca : Nat) (f : Nat → Int × ByteArray × Int) (w : World) (ha : TokSl w B a n f) (hn : n ≤ 1048577) :
    Calls Tryd.prog 30 #[.slice a n ca, .int .i64 1] w fun e w' => e = .returned (.int .i64 (3 * (n : Int) + 1)) ∧ TokSl w' B a n mkT ∧ Turns a w w' ∧ (n = 0 → w' = w) := by
  go_enter Tryd.func30, Tryd.ntmps30
  go_wp2_with fail
  go_loopw [1, 5] (fun k i wr => ∃ j : Nat, j ≤ n ∧ i = .int .i64 (j : Int) ∧ k = .int .i64 (3 * (j : Int) + 1) ∧ TokSl wr B a n (mixT j f) ∧ Turns a w wr ∧ Hid (n = 0 → wr = w)) (fun _ i _ => n - (intOf i).toNat)
  case atStart => exact ⟨0, by omega, rfl, rfl, ha.congr (fun j _ => by unfold mixT; rw [if_neg (by omega)]), turns_refl _ _, fun _ => rfl⟩
  case round =>
    obtain ⟨j, hj, rfl, rfl, hrow, htr, HZ⟩ := hrel
    by_cases hlt : j < n
    · have hlt2 : (j : Int) < (n : Int) := by omega
      obtain ⟨g, e, h1, h2, c0, c1, c2, z0, z1, z2⟩ := hrow j hlt
      have p0 := hrow.put0 (k := j) (3 * (j : Int) + 1) e
      have t0 := turns_set (o := j * 3) (v := .int .i64 (3 * (j : Int) + 1)) htr e
      have ei : a = some ⟨g, 0, none⟩ := e
      subst e
      go_wp2_with fail
      rw [show 3 * (j : Int) + 1 + 1 = ((3 * j + 2 : Nat) : Int) from by omega]
      refine (markText_any (3 * j + 2) _ (by omega) (by omega)).mono ?_
      rintro e w1 ⟨rfl, hb1⟩
      have p1 := p0.below hb1
      have t1 := turns_below t0 hb1
      clear p0 t0 c0 c1 c2 z0 z1 z2 hrow htr hb1
      obtain ⟨g', e', _, _, c0, c1, c2, z0, z1, z2⟩ := p1 j hlt
      obtain rfl : g' = g := by simpa using e'.symm
      have p2 := p1.put1 (k := j) (mk (3 * j + 2)) e'
      have p3 := p2.put2 (k := j) (3 * (j : Int) + 2 + 1) e'
      have t3 := turns_set (o := j * 3 + 2) (v := .int .i64 (3 * (j : Int) + 2 + 1)) (turns_set (o := j * 3 + 1) (v := .string (mk (3 * j + 2))) t1 e') e'
      have p4 := p3.congr (f' := mixT (j + 1) f) (fun x hx => by
        by_cases ex : x = j
        · subst ex
          rw [show mixT (x + 1) f x = mkT x from if_pos (by omega)]
          simp only [upd_same]
          rw [show 3 * (x : Int) + 2 + 1 = 3 * (x : Int) + 3 from by omega]
          rfl
        · rw [upd_other ex, upd_other ex, upd_other ex]
          unfold mixT
          by_cases hx2 : x < j
          · rw [if_pos hx2, if_pos (by omega)]
          · rw [if_neg hx2, if_neg (by omega)])
      clear p1 p2 p3 t1 e'
      go_wp2_with fail
      go_roundw
      case rel => exact ⟨j + 1, by omega, by go_num, by go_num, p4, t3, fun h => by omega⟩
      case measure => simp [intOf]; omega
    · have e : j = n := by omega
      subst e
      go_wp2_with fail
      go_ret
      exact ⟨rfl, hrow.congr (fun x hx => by unfold mixT; rw [if_pos hx]), htr, HZ.out⟩
set_option maxRecDepth 100000 in
set_option maxHeartbeats 1200000 in
theorem heldToks_any (B : Nat) (a : Option Addr) (n ca : Nat) (w : World) (ha : TokSl w B a n mkT) (hn : n ≤ 1048577) :
    Calls Tryd.prog 31 #[.slice a n ca, .int .i64 1] w fun e w' => e = .returned (.int .i64 (3 * (n : Int) + 1)) ∧ Below w.heap.size w w' := by
  go_enter Tryd.func31, Tryd.ntmps31
  go_wp2_with fail
  go_loopw [1, 5] (fun k i wr => ∃ j : Nat, j ≤ n ∧ i = .int .i64 (j : Int) ∧ k = .int .i64 (3 * (j : Int) + 1) ∧ Below w.heap.size w wr) (fun _ i _ => n - (intOf i).toNat)
  case atStart => exact ⟨0, by omega, rfl, rfl, Below.refl _ _⟩
  case round =>
    obtain ⟨j, hj, rfl, rfl, hbel⟩ := hrel
    by_cases hlt : j < n
    · have hlt2 : (j : Int) < (n : Int) := by omega
      have hrow := ha.below hbel
      obtain ⟨g, rfl, _, hg, c0, c1, c2, _⟩ := hrow j hlt
      have c0' : wr.cell? ⟨g, j * 3, none⟩ = some (.int .i64 (3 * (j : Int) + 1)) := c0
      have c1' : wr.cell? ⟨g, j * 3 + 1, none⟩ = some (.string (mk (3 * j + 2))) := c1
      have c2' : wr.cell? ⟨g, j * 3 + 2, none⟩ = some (.int .i64 (3 * (j : Int) + 3)) := c2
      clear c0 c1 c2
      go_wp2_with fail
      rw [show 3 * (j : Int) + 1 + 1 = ((3 * j + 2 : Nat) : Int) from by omega]
      go_region_with (go_at_call 54; refine (markText_any (3 * j + 2) _ (by omega) (by omega)).mono ?_; rintro e w1 ⟨rfl, hb1⟩; have d1 : w1.cell? ⟨g, j * 3 + 1, none⟩ = some (.string (mk (3 * j + 2))) := by rw [hb1.cell (p := ⟨g, j * 3 + 1, none⟩) hg]; exact c1')
      all_goals
        have hb2 : Below wr.heap.size wr w1 := (Below.refl wr.heap.size wr).drew.trans hb1
        have d2 : w1.cell? ⟨g, j * 3 + 2, none⟩ = some (.int .i64 (3 * (j : Int) + 3)) := by rw [hb2.cell (p := ⟨g, j * 3 + 2, none⟩) hg]; exact c2'
        have hbb : Below w.heap.size w w1 := hbel.trans (hb2.mono hbel.size)
        have e5 : (3 * (j : Int) + 3 == 3 * (j : Int) + 2 + 1) = true := by simp; omega
        go_wp2_with fail
        go_roundw
        case rel => exact ⟨j + 1, by omega, by go_num, by go_num, hbb⟩
        case measure => simp [intOf]; omega
    · have e : j = n := by omega
      subst e
      go_wp2_with fail
      go_ret
      exact ⟨rfl, hbel⟩
end Go.Proofs.YtodgigdcdgdfdaaDoor
