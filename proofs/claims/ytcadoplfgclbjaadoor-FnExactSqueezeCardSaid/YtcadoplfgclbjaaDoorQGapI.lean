/- Joined texts: GapI. -/
import Derived.Test.YtcadoplfgclbjaaDoorQGapLaw
import Derived.Test.YtcadoplfgclbjaaDoorQK
import Derived.Test.YtcadoplfgclbjaaDoorQB
import Derived.ChangeKeysEq
import Derived.Laws.StructEq
/- The contract of the program's test on the gap between two tokens. -/
namespace Go.Proofs.YtcadoplfgclbjaaDoor
open Go.RowKit

/-- the kind of a token that decides on gaps -/
def edgeN (k : Int) (t : List UInt8) : Int := if tokOk k t then (if k = 4 then 3 else if k = 5 then 4 else if quotB k t then 2 else 1) else 0
def EdgeE (n : Int) (w : World) (e : Ending) (w' : World) : Prop := e = .returned (.int .i64 n) ∧ Below w.heap.size w w'
theorem edge_no {k : Int} {t : List UInt8} (h : tokOk k t = false) : edgeN k t = 0 := by unfold edgeN; rw [h]; rfl
theorem edge_yes {k : Int} {t : List UInt8} (h : tokOk k t = true) : edgeN k t = if k = 4 then 3 else if k = 5 then 4 else if quotB k t then 2 else 1 := by unfold edgeN; rw [h]; rfl

set_option maxRecDepth 100000 in
set_option maxHeartbeats 1600000 in
theorem edgeKind_impl (k : Int) (t : ByteArray) (a : Int) (w : World) (ht : t.size ≤ 9223372036854775807) :
    Calls Tryd.prog 28 #[.agg #[.int .i64 k, .string t, .int .i64 a]] w (EdgeE (edgeN k t.data.toList) w) := by
  have hO := fun w => tokenOk_impl k t a w ht
  have hP := fun w => plain_impl t w ht
  have hB0 := (Below.refl w.heap.size w).alloc (Nat.le_refl _) (.cells #[.int .i64 k, .string t, .int .i64 a] 25)
  cases ho : tokOk k t.data.toList
  · have HE := Lib.hid (edge_no ho)
    rw [ho] at hO
    clear ho hP
    go_enter Tryd.func28, Tryd.ntmps28
    go_wp2_with fail
    refine (hO _).mono ?_
    rintro e w1 ⟨rfl, hb1⟩
    have hbb := hB0.trans (hb1.mono (by simp))
    go_wp2_with fail
    go_ret
    exact ⟨by rw [HE.out]; rfl, hbb⟩
  · have hE := edge_yes ho
    rw [ho] at hO
    clear ho
    by_cases h4 : k = 4
    · subst h4
      have HE := Lib.hid (show edgeN 4 t.data.toList = 3 from hE)
      clear hE hP
      go_enter Tryd.func28, Tryd.ntmps28
      go_wp2_with fail
      refine (hO _).mono ?_
      rintro e w1 ⟨rfl, hb1⟩
      have hbb := hB0.trans (hb1.mono (by simp))
      have c0 := (hb1.cell (p := ⟨w.heap.size, 0, none⟩) (by simp)).trans (cell_of_row _ w.heap.size 0 _ 25 (0, 0) (heap_alloc_new w _))
      go_wp2_with fail
      go_ret
      exact ⟨by rw [HE.out]; rfl, hbb⟩
    · rw [if_neg h4] at hE
      have q4 : (k == 4) = false := by simpa using h4
      by_cases h5 : k = 5
      · subst h5
        have HE := Lib.hid (show edgeN 5 t.data.toList = 4 from hE)
        clear hE hP
        go_enter Tryd.func28, Tryd.ntmps28
        go_wp2_with fail
        refine (hO _).mono ?_
        rintro e w1 ⟨rfl, hb1⟩
        have hbb := hB0.trans (hb1.mono (by simp))
        have c0 := (hb1.cell (p := ⟨w.heap.size, 0, none⟩) (by simp)).trans (cell_of_row _ w.heap.size 0 _ 25 (0, 0) (heap_alloc_new w _))
        go_wp2_with fail
        go_ret
        exact ⟨by rw [HE.out]; rfl, hbb⟩
      · rw [if_neg h5] at hE
        have q5 : (k == 5) = false := by simpa using h5
        by_cases h2 : k = 2
        · subst h2
          have hQ : quotB 2 t.data.toList = !plainB t.data.toList := by unfold quotB; simp
          rw [hQ] at hE
          clear hQ h4 h5
          cases hp : plainB t.data.toList
          all_goals
            rw [hp] at hP hE
            have HE := Lib.hid (hE.trans (by rfl)); clear hE hp
            go_enter Tryd.func28, Tryd.ntmps28
            go_wp2_with fail
            refine (hO _).mono ?_
            rintro e w1 ⟨rfl, hb1⟩
            have hbb := hB0.trans (hb1.mono (by simp))
            have c0 := (hb1.cell (p := ⟨w.heap.size, 0, none⟩) (by simp)).trans (cell_of_row _ w.heap.size 0 _ 25 (0, 0) (heap_alloc_new w _))
            have c1 := (hb1.cell (p := ⟨w.heap.size, 1, none⟩) (by simp)).trans (cell_of_row _ w.heap.size 1 _ 25 (0, 0) (heap_alloc_new w _))
            go_wp2_with fail
            refine (hP _).mono ?_
            rintro e w2 ⟨rfl, hb2⟩
            have hbb2 := hbb.trans (hb2.mono hbb.size)
            go_wp2_with fail
            go_ret
            exact ⟨by rw [HE.out]; rfl, hbb2⟩
        · have q2 : (k == 2) = false := by simpa using h2
          have hQ : quotB k t.data.toList = false := by unfold quotB; simp [h2]
          rw [hQ] at hE
          have HE := Lib.hid (show edgeN k t.data.toList = 1 from hE)
          clear hE hP hQ h4 h5 h2
          go_enter Tryd.func28, Tryd.ntmps28
          go_wp2_with fail
          refine (hO _).mono ?_
          rintro e w1 ⟨rfl, hb1⟩
          have hbb := hB0.trans (hb1.mono (by simp))
          have c0 := (hb1.cell (p := ⟨w.heap.size, 0, none⟩) (by simp)).trans (cell_of_row _ w.heap.size 0 _ 25 (0, 0) (heap_alloc_new w _))
          go_wp2_with fail
          go_ret
          exact ⟨by rw [HE.out]; rfl, hbb⟩

def gapE (e e' : Int) (s : Bool) : Bool := if e = e' then (if e = 4 then s else decide (e ≠ 0)) else false
theorem edge_range (k : Int) (t : List UInt8) : edgeN k t = 0 ∨ edgeN k t = 1 ∨ edgeN k t = 2 ∨ edgeN k t = 3 ∨ edgeN k t = 4 := by
  unfold edgeN
  split
  · split
    · exact .inr (.inr (.inr (.inl rfl)))
    · split
      · exact .inr (.inr (.inr (.inr rfl)))
      · split
        · exact .inr (.inr (.inl rfl))
        · exact .inr (.inl rfl)
  · exact .inl rfl
theorem edge_forms {k : Int} {t : List UInt8} (h : tokOk k t = true) : (edgeN k t = 1 ∧ wrdB k t = true ∧ quotB k t = false ∧ k ≠ 4 ∧ k ≠ 5) ∨ (edgeN k t = 2 ∧ wrdB k t = false ∧ quotB k t = true ∧ k = 2) ∨ (edgeN k t = 3 ∧ k = 4) ∨ (edgeN k t = 4 ∧ k = 5) := by
  have he := edge_yes h
  rcases tok_forms h with ⟨a1, a2, a4, a5, -⟩ | ⟨rfl, a1, a2, -⟩ | ⟨rfl, -⟩ | ⟨rfl, -⟩
  · exact .inl ⟨by rw [he, if_neg a4, if_neg a5, a2]; rfl, a1, a2, a4, a5⟩
  · exact .inr (.inl ⟨by rw [he, a2]; rfl, a1, a2, rfl⟩)
  · exact .inr (.inr (.inl ⟨he, rfl⟩))
  · exact .inr (.inr (.inr ⟨he, rfl⟩))
theorem gap_edges (k : Int) (t : List UInt8) (k' : Int) (t' : List UInt8) : gapB k t k' t' = gapE (edgeN k t) (edgeN k' t') (signGap t t') := by
  cases h : tokOk k t
  · have h1 := edge_no h
    have h2 : gapB k t k' t' = false := by unfold gapB; rw [h]; rfl
    rw [h1, h2]
    rcases edge_range k' t' with e | e | e | e | e <;> (rw [e]; rfl)
  cases h' : tokOk k' t'
  · have h1 := edge_no h'
    have h2 : gapB k t k' t' = false := by unfold gapB; rw [h, h']; rfl
    rw [h1, h2]
    rcases edge_range k t with e | e | e | e | e <;> (rw [e]; rfl)
  have hG : gapB k t k' t' = (if (wrdB k t && wrdB k' t') || (decide (k = 4) && decide (k' = 4)) || (quotB k t && quotB k' t') then true else if decide (k = 5) && decide (k' = 5) then signGap t t' else false) := by
    unfold gapB; rw [h, h']; rfl
  rw [hG]
  rcases edge_forms h with ⟨e, a1, a2, a4, a5⟩ | ⟨e, a1, a2, rfl⟩ | ⟨e, rfl⟩ | ⟨e, rfl⟩
  · rcases edge_forms h' with ⟨e', b1, b2, b4, b5⟩ | ⟨e', b1, b2, rfl⟩ | ⟨e', rfl⟩ | ⟨e', rfl⟩
    · rw [e, e', a1, b1]; rfl
    · rw [e, e', a1, a2, b1, b2, decide_eq_false a4, decide_eq_false a5]; rfl
    · rw [e, e', a1, a2, decide_eq_false a4, decide_eq_false a5]; rfl
    · rw [e, e', a1, a2, decide_eq_false a4, decide_eq_false a5]; rfl
  · rcases edge_forms h' with ⟨e', b1, b2, b4, b5⟩ | ⟨e', b1, b2, rfl⟩ | ⟨e', rfl⟩ | ⟨e', rfl⟩
    · rw [e, e', a1, a2, b1, b2, decide_eq_false b4, decide_eq_false b5]; rfl
    · rw [e, e', a1, a2, b1, b2]; rfl
    · rw [e, e', a1, a2]; rfl
    · rw [e, e', a1, a2]; rfl
  · rcases edge_forms h' with ⟨e', b1, b2, b4, b5⟩ | ⟨e', b1, b2, rfl⟩ | ⟨e', rfl⟩ | ⟨e', rfl⟩
    · rw [e, e', b1, b2, decide_eq_false b4, decide_eq_false b5]; rfl
    · rw [e, e', b1, b2]; rfl
    · rw [e, e']; rfl
    · rw [e, e']; rfl
  · rcases edge_forms h' with ⟨e', b1, b2, b4, b5⟩ | ⟨e', b1, b2, rfl⟩ | ⟨e', rfl⟩ | ⟨e', rfl⟩
    · rw [e, e', b1, b2, decide_eq_false b4, decide_eq_false b5]; rfl
    · rw [e, e', b1, b2]; rfl
    · rw [e, e']; rfl
    · rw [e, e']; rfl
theorem edge_sign {k : Int} {t : ByteArray} (h : edgeN k t.data.toList = 4) : 0 < t.size := by
  cases ho : tokOk k t.data.toList
  · rw [edge_no ho] at h; omega
  · rcases edge_forms ho with ⟨e, _⟩ | ⟨e, _⟩ | ⟨e, _⟩ | ⟨e, rfl⟩
    · omega
    · omega
    · omega
    · show 0 < t.data.toList.length
      rcases signB_cases (show signB t.data.toList = true from ho) with h | h | h | h | h | h | h | h | h | h | h | h | h | h | h | h <;> (rw [h]; decide)

set_option maxRecDepth 100000 in
set_option maxHeartbeats 1600000 in
theorem signsMerge_impl (t t' : ByteArray) (w : World) (p0 : 0 < t'.size) : Calls Tryd.prog 29 #[.string t, .string t'] w (PureE (.bool (signGap t.data.toList t'.data.toList)) w) := by
  have p0i : (0 : Int) < (t'.size : Int) := by omega
  have g61 : (((t'[0]'p0).toNat : Int) == 61) = decide (t'.data.toList.getD 0 0 = 61) := by rw [str_at p0]; exact u8_dec _ 61
  have g62 : (((t'[0]'p0).toNat : Int) == 62) = decide (t'.data.toList.getD 0 0 = 62) := by rw [str_at p0]; exact u8_dec _ 62
  by_cases c45 : t.data.toList = [45]
  · have HE := Lib.hid (show (t'.toList == [45]) = signGap t.data.toList t'.data.toList by rw [c45, beq_lit]; rfl)
    obtain rfl := ba_of c45
    clear g61 g62 c45
    go_enter Tryd.func29, Tryd.ntmps29
    go_wp2_with fail
    go_ret
    exact pure_bool HE.out
  by_cases c47 : t.data.toList = [47]
  · have HE := Lib.hid (show (t'.toList == [42]) = signGap t.data.toList t'.data.toList by rw [c47, beq_lit]; rfl)
    obtain rfl := ba_of c47
    clear g61 g62 c45 c47
    go_enter Tryd.func29, Tryd.ntmps29
    go_wp2_with fail
    go_ret
    exact pure_bool HE.out
  by_cases c60 : t.data.toList = [60]
  · have hE : signGap t.data.toList t'.data.toList = (decide (t'.data.toList.getD 0 0 = 61) || decide (t'.data.toList.getD 0 0 = 62)) := by rw [c60]; rfl
    rw [← g61, ← g62] at hE
    cases h61 : (((t'[0]'p0).toNat : Int) == 61)
    · rw [h61] at hE
      have HE := Lib.hid (show (((t'[0]'p0).toNat : Int) == 62) = signGap t.data.toList t'.data.toList by rw [hE]; rfl)
      obtain rfl := ba_of c60
      clear g61 g62 c45 c47 c60 hE
      go_enter Tryd.func29, Tryd.ntmps29
      go_wp2_with fail
      go_ret
      exact pure_bool HE.out
    · rw [h61] at hE
      have HE := Lib.hid (show true = signGap t.data.toList t'.data.toList by rw [hE]; rfl)
      obtain rfl := ba_of c60
      clear g61 g62 c45 c47 c60 hE
      go_enter Tryd.func29, Tryd.ntmps29
      go_wp2_with fail
      go_ret
      exact pure_bool HE.out
  by_cases c62 : t.data.toList = [62]
  · have HE := Lib.hid (show (((t'[0]'p0).toNat : Int) == 61) = signGap t.data.toList t'.data.toList by rw [c62, g61]; rfl)
    obtain rfl := ba_of c62
    clear g61 g62 c45 c47 c60 c62
    go_enter Tryd.func29, Tryd.ntmps29
    go_wp2_with fail
    go_ret
    exact pure_bool HE.out
  have HE := Lib.hid (show false = signGap t.data.toList t'.data.toList by unfold signGap; rw [if_neg c45, if_neg c47, if_neg c60, if_neg c62])
  have r45 : (t.toList == [45]) = false := by rw [beq_lit, decide_eq_false c45]
  have r47 : (t.toList == [47]) = false := by rw [beq_lit, decide_eq_false c47]
  have r60 : (t.toList == [60]) = false := by rw [beq_lit, decide_eq_false c60]
  have r62 : (t.toList == [62]) = false := by rw [beq_lit, decide_eq_false c62]
  clear c45 c47 c60 c62 g61 g62
  go_enter Tryd.func29, Tryd.ntmps29
  go_wp2_with fail
  go_ret
  exact pure_bool HE.out

theorem Tryd.infoInt : (Tryd.prog.info? 3).map (fun i => (i.zero, i.size, i.bytes)) = some (some (.int .i64 0), 1, 8) := by kernel_rfl
theorem Tryd.underTwo : Tryd.prog.underlying 49 = some (.array 2 3) := by kernel_rfl
/-- two arrays of two are compared place by place -/
theorem eq_two (a b c d : Int) (r : Bool) (hr : ((a == c) && (b == d)) = r) (w : World) : (Op.equalIn 10000 49 (.agg #[.int .i64 a, .int .i64 b]) (.agg #[.int .i64 c, .int .i64 d])).run Tryd.prog w = .ok r w := by
  subst hr
  obtain ⟨i0, hi, hz0, hz1, hz2⟩ := info_parts Tryd.infoInt
  rw [run_equalIn_array w 9999 _ _ Tryd.underTwo hi]
  have hc : Tryd.prog.cellsOf 3 = 1 := by kernel_rfl
  rw [hc]
  have hu : Tryd.prog.underlying 3 = some (.int .i64) := by kernel_rfl
  have hp : ∀ (xs : Array Value) (j : Nat) (v : Value), xs[j]? = some v → (part 3 xs (j * 1)).run Tryd.prog w = .ok v w := by
    intro xs j v h
    simp [part, go_sem, h]
  show (Op.eqItems 9999 3 1 #[.int .i64 a, .int .i64 b] #[.int .i64 c, .int .i64 d] [0, 1]).run Tryd.prog w = _
  simp only [Op.eqItems, Sem.run_bind]
  rw [hp _ 0 (.int .i64 a) rfl, Result.andThen_ok, hp _ 0 (.int .i64 c) rfl, Result.andThen_ok, run_equalIn_int w 9998 _ .i64 .i64 a c hu, Result.andThen_ok]
  cases h1 : (a == c)
  · simp
  · simp only [Bool.not_true, Bool.false_eq_true, if_false, Sem.run_bind]
    rw [hp _ 1 (.int .i64 b) rfl, Result.andThen_ok, hp _ 1 (.int .i64 d) rfl, Result.andThen_ok, run_equalIn_int w 9998 _ .i64 .i64 b d hu, Result.andThen_ok]
    cases h2 : (b == d) <;> simp

set_option maxRecDepth 100000 in
set_option maxHeartbeats 8000000 in
theorem gap_impl : GapI := by
  intro k t a k' t' a' w ht ht'
  have ht0 : True := trivial
  obtain ⟨W, hW⟩ : ∃ W, W = twoBox k t a k' t' a' w := ⟨_, rfl⟩
  have n0 : Below (w.heap.size + 2) (twoBox k t a k' t' a' w) W := by rw [hW]; exact Below.refl _ _
  have hsz : w.heap.size + 2 ≤ W.heap.size := by have := n0.size; rw [twoBox_size] at this; exact this
  have hWe : (w.alloc (.cells #[.int .i64 k, .string t, .int .i64 a] 25)).alloc (.cells #[.int .i64 k', .string t', .int .i64 a'] 25) = W := hW.symm
  clear hW
  obtain ⟨u0, u1, u2, v0, v1, v2⟩ := twoBox_cells n0
  have x0 := lat_cell u0
  have x1 := lat_cell u1
  have x2 := lat_cell u2
  have y0 := lat_cell v0
  have y1 := lat_cell v1
  have y2 := lat_cell v2
  clear u0 u1 u2 v0 v1 v2
  have hE := fun w => edgeKind_impl k t a w ht
  have hE' := fun w => edgeKind_impl k' t' a' w ht'
  have hG := gap_edges k t.data.toList k' t'.data.toList
  have hp := @edge_sign k' t'
  have hS := fun w p => signsMerge_impl t t' w p
  have hr := edge_range k t.data.toList
  have hr' := edge_range k' t'.data.toList
  generalize edgeN k t.data.toList = e at hE hG hr
  generalize edgeN k' t'.data.toList = e' at hE' hG hr' hp
  by_cases h44 : e = 4 ∧ e' = 4
  · obtain ⟨rfl, rfl⟩ := h44
    have hS := fun w => hS w (hp rfl)
    clear hr hr' hp
    have HG := Lib.hid (show gapB k t.data.toList k' t'.data.toList = signGap t.data.toList t'.data.toList from hG)
    clear hG
    generalize signGap t.data.toList t'.data.toList = g at hS HG
    have q1 := eq_two 4 4 1 1 false rfl
    have q2 := eq_two 4 4 2 2 false rfl
    have q3 := eq_two 4 4 3 3 false rfl
    have q4 := eq_two 4 4 4 4 true rfl
    go_enter Tryd.func9, Tryd.ntmps9
    go_wp2_with fail
    refine region_lat (by kernel_rfl) (by kernel_rfl) ?_
    go_big_quiet_step (fail)
    go_big_quiet_step ((refine (hE (lat W _)).mono ?_; rintro e w'' ⟨rfl, hb''⟩; exact ⟨rfl, lat_to hb''⟩))
    go_big_quiet_step (fail)
    go_big_quiet_step ((refine (hE' (lat W _)).mono ?_; rintro e w'' ⟨rfl, hb''⟩; exact ⟨rfl, lat_to hb''⟩))
    go_big_quiet_step (fail)
    refine wpQuiet_nil ?_
    rintro _ ⟨nq, rfl⟩
    have n1 : Below (w.heap.size + 2) (twoBox k t a k' t' a' w) (lat W nq) := n0.trans ((lat_below W nq).mono hsz)
    clear x0 x1 x2 y0 y1 y2
    obtain ⟨u0, u1, u2, v0, v1, v2⟩ := twoBox_cells n1
    have b1 := (twoBox_below k t a k' t' a' w).trans (n1.mono (by omega))
    go_wp2_with fail
    refine (hS _).mono ?_
    rintro e w2 ⟨rfl, rfl⟩
    go_wp2_with fail
    go_ret
    exact ⟨by rw [HG.out]; rfl, b1⟩
  · clear hS hp
    have hq : ∀ j : Int, ∃ r : Bool, ((e == j) && (e' == j)) = r := fun j => ⟨_, rfl⟩
    have hgo : ∀ (g r1 r2 r3 r4 : Bool), gapB k t.data.toList k' t'.data.toList = g → ((e == 1) && (e' == 1)) = r1 → ((e == 2) && (e' == 2)) = r2 → ((e == 3) && (e' == 3)) = r3 → ((e == 4) && (e' == 4)) = r4 → r4 = false → (r1 || (r2 || r3)) = g →
        Calls Tryd.prog 9 #[.agg #[.int .i64 k, .string t, .int .i64 a], .agg #[.int .i64 k', .string t', .int .i64 a']] w (BoolE (gapB k t.data.toList k' t'.data.toList) w) := by
      intro g r1 r2 r3 r4 hg h1 h2 h3 h4 z4 hor
      have q1 := eq_two e e' 1 1 r1 h1
      have q2 := eq_two e e' 2 2 r2 h2
      have q3 := eq_two e e' 3 3 r3 h3
      have q4 := eq_two e e' 4 4 r4 h4
      have HG := Lib.hid (hg.trans hor.symm)
      clear hg hor h1 h2 h3 h4 hG hr hr' h44 hq
      subst z4
      cases r1 <;> cases r2 <;> cases r3
      all_goals
        go_enter Tryd.func9, Tryd.ntmps9
        go_wp2_with fail
        refine region_lat (by kernel_rfl) (by kernel_rfl) ?_
        go_big_quiet_step (fail)
        go_big_quiet_step ((refine (hE (lat W _)).mono ?_; rintro e w'' ⟨rfl, hb''⟩; exact ⟨rfl, lat_to hb''⟩))
        go_big_quiet_step (fail)
        go_big_quiet_step ((refine (hE' (lat W _)).mono ?_; rintro e w'' ⟨rfl, hb''⟩; exact ⟨rfl, lat_to hb''⟩))
        go_big_quiet_step (fail)
        refine wpQuiet_nil ?_
        rintro _ ⟨nq, rfl⟩
        have n1 : Below (w.heap.size + 2) (twoBox k t a k' t' a' w) (lat W nq) := n0.trans ((lat_below W nq).mono hsz)
        clear x0 x1 x2 y0 y1 y2
        have b1 := (twoBox_below k t a k' t' a' w).trans (n1.mono (by omega))
        go_wp2_with fail
        go_ret
        exact ⟨by rw [HG.out]; rfl, b1⟩
    rcases hr with rfl | rfl | rfl | rfl | rfl <;> rcases hr' with rfl | rfl | rfl | rfl | rfl <;> first
      | exact absurd ⟨rfl, rfl⟩ h44
      | exact hgo _ _ _ _ _ hG rfl rfl rfl rfl rfl rfl
end Go.Proofs.YtcadoplfgclbjaaDoor
