/- Joined texts: LexLaw LexBad Lat SameI LexPlaces. -/
import Derived.Test.YtodgigdcdgdfdaaDoorQF
import Derived.Test.YtodgigdcdgdfdaaDoorQG
import Derived.Test.YtodgigdcdgdfdaaDoorQL
import Derived.Test.YtodgigdcdgdfdaaDoorQM
import Derived.Test.YtodgigdcdgdfdaaDoorQD
import Derived.WalkKit
import Derived.Below
import Derived.BigQuiet
/- The walk of the law FnExactLex, from the contract of the program's lexer. -/
namespace Go.Proofs.YtodgigdcdgdfdaaDoor
open Go.RowKit

set_option maxRecDepth 100000 in
set_option maxHeartbeats 1600000 in
theorem exactLex_walk (hI : ∀ (s : ByteArray) (w : World), s.size ≤ 9223372036854775807 → MaxI w → Calls Tryd.prog 12 #[.string s] w (LexE (lexR s.data.toList) w))
    (s : ByteArray) (w : World) (hs : s.size ≤ maxLen) (hm : MaxI w) : Calls Tryd.prog 8 #[.string s] w (BoolE true w) := by
  have hs2 : s.size ≤ 9223372036854775807 := hs
  by_cases hbig : 1048576 < s.size
  · have hd : decide (1048576 < (s.size : Int)) = true := by simp; omega
    go_enter Tryd.func8, Tryd.ntmps8
    go_wp2
    go_ret
    exact ⟨rfl, Below.refl _ _⟩
  · have hd : decide (1048576 < (s.size : Int)) = false := by simp; omega
    have hn := rn_le s.data.toList
    have HS := Lib.hid (fun (w : World) => lex_spec s w hs2)
    have HI := Lib.hid (fun (w : World) (h : MaxI w) => hI s w hs2 h)
    have HM := Lib.hid (fun (w' : World) (h : Below w.heap.size w w') => hm.later h hm.two)
    clear hm
    have HR := Lib.hid (fun (w w' : World) (e : Ending) (h : LexE (lexR s.data.toList) w e w') => h.row)
    clear hI
    generalize lexR s.data.toList = r at *
    generalize rn r = n at *
    generalize rx r = x at *
    generalize rf r = f at *
    have hnn : decide (3 * (n : Int) + 1 < 0) = false := by simp; omega
    go_enter Tryd.func8, Tryd.ntmps8
    go_wp2_with fail
    refine (HS.out _).mono ?_
    intro e w1 h1
    obtain ⟨a1, c1, rfl, r1, b1⟩ := HR.out _ _ _ h1
    clear h1
    go_wp2_with fail
    refine (HI.out _ (HM.out _ b1)).mono ?_
    intro e w2 h2
    obtain ⟨a2, c2, rfl, r2, b2⟩ := HR.out _ _ _ h2
    clear h2
    have r1' := r1.below b2
    have bb2 := b1.trans (b2.mono b1.size)
    have b1s := b1.size
    -- the block of the first slice lies below that of the second
    have hap : ∀ g, a1 = some ⟨g, 0, none⟩ → 0 < n → g < w1.heap.size := fun g e hn0 => by
      obtain ⟨g', e', _, hl, _⟩ := r1 0 hn0
      rw [e] at e'
      have : g = g' := by simpa using e'
      omega
    go_wp2_with fail
    refine (eqToks_any _ _ a2 a1 n c2 c1 f _ r2 r1' (by omega)).mono ?_
    rintro e w3 ⟨rfl, b3⟩
    have r1a := r1'.below b3
    have r2a := r2.below b3
    have bb3 := bb2.trans (b3.mono bb2.size)
    clear r1 r2 r1' b1
    go_wp2_with fail
    refine (markToks_any _ a2 n c2 f _ r2a (by omega)).mono ?_
    rintro e w4 ⟨rfl, r2b, tr4, hz4⟩
    have hg2 : ∀ g, a2 = some ⟨g, 0, none⟩ → 0 < n → w1.heap.size ≤ g := fun g e hn0 => by
      obtain ⟨g', e', hB, _⟩ := r2a 0 hn0
      rw [e] at e'
      have : g = g' := by simpa using e'
      omega
    have hrow4 : ∀ k, 0 < n → a2.map (·.block) = some k → w1.heap.size ≤ k := fun k hn0 hk => by
      obtain ⟨g', e', hB, _⟩ := r2a 0 hn0
      rw [e'] at hk
      have : g' = k := by simpa using hk
      omega
    have r1b : TokSl w4 w.heap.size a1 n f := by
      rcases Nat.eq_zero_or_pos n with h0 | h0
      · intro j hj; omega
      · exact r1a.keep tr4.size fun g e _ hlt => tr4.block g hlt (fun eq => by
          have h1 := hap g e h0
          have h2 := hrow4 g h0 eq.symm
          omega)
    have bb4 : Below w.heap.size w w4 := by
      rcases Nat.eq_zero_or_pos n with h0 | h0
      · rw [hz4 h0]; exact bb3
      · exact bb3.grown tr4 bb3.size (fun k hk => by
          have h2 := hrow4 k h0 hk
          have h3 := b1s
          omega)
    clear hz4 tr4 hrow4 hg2 hap r1a r2a b3 b2
    go_wp2_with fail
    refine (heldToks_any _ a2 n c2 _ r2b (by omega)).mono ?_
    rintro e w5 ⟨rfl, b5⟩
    have r1c := r1b.below b5
    have r2c := r2b.below b5
    have bb5 := bb4.trans (b5.mono bb4.size)
    clear r1b r2b b5
    go_wp2_with fail
    refine (HI.out _ (HM.out _ bb5)).mono ?_
    intro e w6 h6
    obtain ⟨a3, c3, rfl, r3, b6⟩ := HR.out _ _ _ h6
    clear h6
    have r1d := r1c.below b6
    have r2d := r2c.below b6
    have bb6 := bb5.trans (b6.mono bb5.size)
    clear r1c r2c b6
    go_wp2_with fail
    refine (eqToks_any _ _ a3 a1 n c3 c1 f _ r3 r1d (by omega)).mono ?_
    rintro e w7 ⟨rfl, b7⟩
    have r2e := r2d.below b7
    have bb7 := bb6.trans (b7.mono bb6.size)
    clear r1d r2d r3 b7
    go_wp2_with fail
    refine (heldToks_any _ a2 n c2 _ r2e (by omega)).mono ?_
    rintro e w8 ⟨rfl, b8⟩
    have bb8 := bb7.trans (b8.mono bb7.size)
    go_wp2_with fail
    go_ret
    exact ⟨rfl, bb8⟩
end Go.Proofs.YtodgigdcdgdfdaaDoor

/- The walk of the law FnLexBad, from the contract of the program's lexer. -/
namespace Go.Proofs.YtodgigdcdgdfdaaDoor
open Go.RowKit

set_option maxRecDepth 100000 in
set_option maxHeartbeats 400000 in
theorem drawLex_any (B : Nat) (a : Option Addr) (len cap : Nat) (W : World) (H : RowB B a len W) (hB : B ≤ W.heap.size) :
    Calls Tryd.prog 19 #[.slice a len cap] W (StringE 4000 B W) := by
  go_enter Tryd.func19, Tryd.ntmps19
  go_wp2_with fail
  refine (new_any B a len cap _ H hB).mono ?_
  rintro e W1 ⟨rfl, hc, hb⟩
  have hz := hb.size
  go_wp2_with fail
  refine (source_any B W.heap.size a len cap _ hc).mono ?_
  rintro e W2 ⟨S, hS, rfl, hc2, hg2⟩
  have hbb := below_of_grown hb hg2 hB (by omega)
  go_wp2_with fail
  go_ret
  exact ⟨S, hS, rfl, hbb⟩

/-- what the program's lexer is known to do -/
def LexI : Prop := ∀ (s : ByteArray) (w : World), s.size ≤ 9223372036854775807 → MaxI w → Calls Tryd.prog 12 #[.string s] w (LexE (lexR s.data.toList) w)
theorem lexR_small {l : List UInt8} (h : l.length ≤ 2000) : lexR l = lexF l 0 := by unfold lexR; rw [if_neg (by omega)]
theorem ext_take (s : ByteArray) (p : Nat) : (s.extract 0 p).data.toList = s.data.toList.take p := by rw [Lib.extract_data]; simp

set_option maxRecDepth 100000 in
set_option maxHeartbeats 1600000 in
theorem lexBad_law (hI : LexI) (a : Option Addr) (len cap : Nat) (w : World) (hrow : RowB w.heap.size a len w) (hm : MaxI w) :
    Calls Tryd.prog 6 #[.slice a len cap] w (BoolE true w) := by
  have hlen := hrow.1
  by_cases hbig : 1048576 < len
  · go_enter Tryd.func6, Tryd.ntmps6
    go_wp2_with fail
    refine (big_yes a len cap _ hlen hbig).mono ?_
    rintro e w' ⟨rfl, rfl⟩
    go_wp2_with fail
    go_ret
    exact ⟨rfl, Below.refl _ _⟩
  · go_enter Tryd.func6, Tryd.ntmps6
    go_wp2_with fail
    refine (big_no a len cap _ hbig).mono ?_
    rintro e w' ⟨rfl, rfl⟩
    go_wp2_with fail
    refine (drawLex_any w.heap.size a len cap _ hrow (Nat.le_refl _)).mono ?_
    rintro e w1 ⟨S, hS, rfl, hb1⟩
    go_wp2_with fail
    refine (hI S _ (by omega) (hm.later hb1 hm.two)).mono ?_
    intro e w2 h2
    obtain ⟨a2, c2, rfl, _, hb2'⟩ := h2.row
    have hb2 := hb1.trans (hb2'.mono hb1.size)
    clear h2 hb2' hb1
    go_wp2_with fail
    refine (lex_spec S _ (by omega)).mono ?_
    intro e w3 h3
    obtain ⟨a3, c3, rfl, _, hb3'⟩ := h3.row
    have hb3 := hb2.trans (hb3'.mono hb2.size)
    clear h3 hb3' hb2
    have hn := rn_le S.data.toList
    rcases hr : lexR S.data.toList with p | L
    · rw [hr] at hn
      have hx : rx (.error p : Except Nat (List Tk)) = (p : Int) := rfl
      have hx0 : decide ((p : Int) < 0) = false := by simp
      rw [hx]
      generalize rn (.error p : Except Nat (List Tk)) = n2 at hn ⊢
      by_cases h2000 : 2000 < S.size
      · have d : decide (2000 < (S.size : Int)) = true := by simp; omega
        clear hr
        go_wp2_with fail
        go_ret
        exact ⟨rfl, hb3⟩
      · have d : decide (2000 < (S.size : Int)) = false := by simp; omega
        rw [lexR_small (show S.data.toList.length ≤ 2000 from by show S.size ≤ 2000; omega)] at hr
        obtain ⟨_, hp, L, hL⟩ := lexF_error _ _ 0 p (Nat.le_refl _) (Nat.zero_le _) hr
        have hps : p ≤ S.size := hp
        have hpi : (p : Int) ≤ (S.size : Int) := by omega
        obtain ⟨P, hP⟩ : ∃ P, S.extract 0 p = P := ⟨_, rfl⟩
        have hPd : P.data.toList = S.data.toList.take p := by rw [← hP]; exact ext_take S p
        have hPz : P.size ≤ 2000 := by
          show P.data.toList.length ≤ 2000
          rw [hPd, cut_len hp]
          show p ≤ 2000
          omega
        have hPr : lexR P.data.toList = .ok L := by rw [lexR_small hPz, hPd]; exact hL
        have HPR := Lib.hid hPr
        clear hr hp hL hPd hPr
        go_wp2_with fail
        refine (hI P _ (by omega) (hm.later hb3 hm.two)).mono ?_
        intro e w4 h4
        rw [HPR.out] at h4
        obtain ⟨a4, c4, rfl, _, hb4'⟩ := h4.row
        have hb4 := hb3.trans (hb4'.mono hb3.size)
        clear h4 hb4'
        have hx4 : rx (.ok L : Except Nat (List Tk)) = -1 := rfl
        rw [hx4]
        generalize rn (.ok L : Except Nat (List Tk)) = n4
        go_wp2_with fail
        go_ret
        exact ⟨rfl, hb4⟩
    · have hx : rx (.ok L : Except Nat (List Tk)) = -1 := rfl
      rw [hx]
      rw [hr] at hn
      generalize rn (.ok L : Except Nat (List Tk)) = n2 at hn ⊢
      clear hr
      go_wp2_with fail
      go_ret
      exact ⟨rfl, hb3⟩
end Go.Proofs.YtodgigdcdgdfdaaDoor

/- A region that draws its order and in which a callee makes memory: one walk, in the order of the text, over all worlds in which what was there stands as it was. -/
namespace Go.Proofs.YtodgigdcdgdfdaaDoor
open Go.RowKit

open Classical in
/-- w where all that lay in wr stands as it was; wr else -/
noncomputable def lat (wr w : World) : World := if Below wr.heap.size wr w then w else wr
theorem lat_below (wr v : World) : Below wr.heap.size wr (lat wr v) := by
  unfold lat
  split
  · assumption
  · exact Below.refl _ _
theorem lat_of {wr w : World} (h : Below wr.heap.size wr w) : lat wr w = w := if_pos h
theorem lat_to {wr v w : World} (h : Below (lat wr v).heap.size (lat wr v) w) : ∃ m, w = lat wr m :=
  ⟨w, (lat_of ((lat_below wr v).trans (h.mono (lat_below wr v).size))).symm⟩
theorem cell_block {w : World} {p : Addr} {x : Value} (h : w.cell? p = some x) : p.block < w.heap.size := by
  rcases Nat.lt_or_ge p.block w.heap.size with h1 | h1
  · exact h1
  · have h2 : w.heap[p.block]? = none := Array.getElem?_eq_none h1
    simp [World.cell?, h2] at h
theorem lat_cell {wr : World} {p : Addr} {x : Value} (h : wr.cell? p = some x) (v : World) : (lat wr v).cell? p = some x :=
  ((lat_below wr v).cell (cell_block h)).trans h
theorem region_lat {P : Program} {id : Nat} {Q : Exit → Act → World → Prop} {a : Act} {w : World} {l : List Oper} (hm : P.follows .mixedOrders = true) (hB : Region.lexB .any l.toArray = true)
    (h : wpQuiet P l.toArray (fun w' => ∃ n, w' = lat w n) (fun a' => ∀ w', (∃ n, w' = lat w n) → Q .normal a' w') l a) : (Code.region id l.toArray true).wp P Q a w :=
  wp_region_quiet (C := fun w' => ∃ n, w' = lat w n) hm hB ⟨{ w with drawn := w.drawn + 1 }, (lat_of (wr := w) (w := { w with drawn := w.drawn + 1 }) ⟨rfl, rfl, rfl, Nat.le_refl _, fun _ _ => rfl⟩).symm⟩ (by simpa using h)
end Go.Proofs.YtodgigdcdgdfdaaDoor

/- The contract of the program's comparison of tokens. -/
namespace Go.Proofs.YtodgigdcdgdfdaaDoor
open Go.RowKit

set_option maxRecDepth 100000 in
set_option maxHeartbeats 800000 in
theorem sameToken_impl (k k' : Int) (t t' : ByteArray) (a a' : Int) (w : World) :
    Calls Tryd.prog 51 #[.agg #[.int .i64 k, .string t, .int .i64 a], .agg #[.int .i64 k', .string t', .int .i64 a']] w (BoolE (decide (k = k') && decide (t = t')) w) := by
  have hB : Below w.heap.size w ((w.alloc (.cells #[.int .i64 k, .string t, .int .i64 a] 31)).alloc (.cells #[.int .i64 k', .string t', .int .i64 a'] 31)) := ((Below.refl _ _).alloc (Nat.le_refl _) _).alloc (by simp) _
  by_cases hK : k = k'
  · have q1 : (k == k') = true := by simpa using hK
    rw [decide_eq_true hK]
    clear hK
    by_cases hT : t = t'
    · have q2 : (t.toList == t'.toList) = true := (Lib.bytes_beq_iff t t').2 hT
      rw [decide_eq_true hT]
      clear hT
      go_enter Tryd.func51, Tryd.ntmps51
      go_wp2_with fail
      go_ret
      exact ⟨rfl, hB⟩
    · have q2 : (t.toList == t'.toList) = false := (Lib.bytes_beq_false_iff t t').2 hT
      rw [decide_eq_false hT]
      clear hT
      go_enter Tryd.func51, Tryd.ntmps51
      go_wp2_with fail
      go_ret
      exact ⟨rfl, hB⟩
  · have q1 : (k == k') = false := by simpa using hK
    rw [decide_eq_false hK]
    clear hK
    go_enter Tryd.func51, Tryd.ntmps51
    go_wp2_with fail
    go_ret
    exact ⟨rfl, hB⟩

set_option maxRecDepth 100000 in
set_option maxHeartbeats 1600000 in
theorem equalFunc_impl (B1 B2 : Nat) (a b : Option Addr) (n n' ca cb : Nat) (f f' : Nat → Int × ByteArray × Int) (w : World) (ha : TokSl w B1 a n f) (hb : TokSl w B2 b n' f') (hn : n ≤ 4000000) (hn' : n' ≤ 4000000) :
    Calls Tryd.prog 50 #[.slice a n ca, .slice b n' cb, .func (.func 51) #[] #[]] w (BoolE (sameB n n' f f') w) := by
  by_cases hnn : n = n'
  · subst hnn
    have d0 : ((n : Int) != (n : Int)) = false := by simp
    go_enter Tryd.func50, Tryd.ntmps50
    go_wp2_with fail
    go_loopw [17] (fun i wr => ∃ k : Nat, k ≤ n ∧ i = .int .i64 (k : Int) ∧ Hid (∀ j, j < k → sameF f f' j = true) ∧ Below w.heap.size w wr) (fun i _ => n - (intOf i).toNat)
    case atStart => exact ⟨0, by omega, rfl, fun j hj => by omega, Below.refl _ _⟩
    case round =>
      obtain ⟨k, hk, rfl, HS, hbel⟩ := hrel
      have hsz := hbel.size
      by_cases hlt : k < n
      · have hlt2 : (k : Int) < (n : Int) := by omega
        obtain ⟨g, rfl, _, hg, c0, c1, c2, _⟩ := ha k hlt
        obtain ⟨g', rfl, _, hg', e0, e1, e2, _⟩ := hb k hlt
        rw [← hbel.cell (p := ⟨g, k * 3, none⟩) hg] at c0
        rw [← hbel.cell (p := ⟨g, k * 3 + 1, none⟩) hg] at c1
        rw [← hbel.cell (p := ⟨g, k * 3 + 2, none⟩) hg] at c2
        rw [← hbel.cell (p := ⟨g', k * 3, none⟩) hg'] at e0
        rw [← hbel.cell (p := ⟨g', k * 3 + 1, none⟩) hg'] at e1
        rw [← hbel.cell (p := ⟨g', k * 3 + 2, none⟩) hg'] at e2
        have HF := Lib.hid (show sameF f f' k = (decide ((f k).1 = (f' k).1) && decide ((f k).2.1 = (f' k).2.1)) from rfl)
        have hnx := fun (h : sameF f f' k = true) => (fun j (hj : j < k + 1) => by
          by_cases e : j = k
          · subst e; exact h
          · exact HS.out j (by omega) : ∀ j, j < k + 1 → sameF f f' j = true)
        generalize (f k).1 = K1 at c0 HF
        generalize (f' k).1 = K2 at e0 HF
        generalize (f k).2.1 = T1 at c1 HF
        generalize (f' k).2.1 = T2 at e1 HF
        generalize (f k).2.2 = A1 at c2
        generalize (f' k).2.2 = A2 at e2
        have hC := fun w => sameToken_impl K1 K2 T1 T2 A1 A2 w
        have hal : Below wr.heap.size wr (wr.alloc (.cells #[.int .i64 K1, .string T1, .int .i64 A1] 31)) := (Below.refl _ _).alloc (Nat.le_refl _) _
        have h0 := (hal.cell (p := ⟨g', k * 3, none⟩) (Nat.lt_of_lt_of_le hg' hsz)).trans e0
        have h1 := (hal.cell (p := ⟨g', k * 3 + 1, none⟩) (Nat.lt_of_lt_of_le hg' hsz)).trans e1
        have h2 := (hal.cell (p := ⟨g', k * 3 + 2, none⟩) (Nat.lt_of_lt_of_le hg' hsz)).trans e2
        clear hal e0 e1 e2
        have hno := fun h => sameB_no hlt (HF.out.trans h)
        have hys := fun h => hnx (HF.out.trans h)
        clear HF hnx
        have hsz2 : ∀ o1 o2 : Obj, w.heap.size ≤ ((wr.alloc o1).alloc o2).heap.size := fun o1 o2 => by simp; omega
        have hB2 : ∀ o1 o2 : Obj, Below w.heap.size w ((wr.alloc o1).alloc o2) := fun o1 o2 => (hbel.alloc hsz _).alloc (by simp; omega) _
        generalize (decide (K1 = K2) && decide (T1 = T2)) = bb at hC hno hys
        cases bb
        · have HX := Lib.hid (hno rfl)
          clear hno hys
          go_wp2_with fail
          refine (hC _).mono ?_
          rintro e w1 ⟨rfl, hb1⟩
          have hbb := (hB2 _ _).trans (hb1.mono (hsz2 _ _))
          go_wp2_with fail
          go_ret
          exact ⟨by rw [HX.out]; rfl, hbb⟩
        · have HX := Lib.hid (hys rfl)
          clear hno hys
          go_wp2_with fail
          refine (hC _).mono ?_
          rintro e w1 ⟨rfl, hb1⟩
          have hbb := (hB2 _ _).trans (hb1.mono (hsz2 _ _))
          go_wp2_with fail
          go_roundw
          case rel => exact ⟨k + 1, by omega, by go_num, HX, hbb⟩
          case measure => simp [intOf]; omega
      · have e : k = n := by omega
        subst e
        go_wp2_with fail
        go_ret
        exact ⟨by rw [sameB_yes HS.out]; rfl, hbel⟩
  · have q : ((n : Int) != (n' : Int)) = true := by simp; omega
    have HX := Lib.hid (sameB_len (f := f) (f' := f') hnn)
    clear hnn
    go_enter Tryd.func50, Tryd.ntmps50
    go_wp2_with fail
    go_ret
    exact ⟨by rw [HX.out]; rfl, Below.refl _ _⟩

set_option maxRecDepth 100000 in
set_option maxHeartbeats 400000 in
theorem same_impl (B1 B2 : Nat) (a b : Option Addr) (n n' ca cb : Nat) (f f' : Nat → Int × ByteArray × Int) (w : World) (ha : TokSl w B1 a n f) (hb : TokSl w B2 b n' f') (hn : n ≤ 4000000) (hn' : n' ≤ 4000000) :
    Calls Tryd.prog 23 #[.slice a n ca, .slice b n' cb] w (BoolE (sameB n n' f f') w) := by
  have hE := equalFunc_impl B1 B2 a b n n' ca cb f f' w ha hb hn hn'
  go_enter Tryd.func23, Tryd.ntmps23
  go_wp2_with fail
  refine hE.mono ?_
  rintro e w1 ⟨rfl, hb1⟩
  go_wp2_with fail
  go_ret
  exact ⟨rfl, hb1⟩
end Go.Proofs.YtodgigdcdgdfdaaDoor

/- The walk of the law FnLexPlaces, from the contracts of the program's lexer and comparison. -/
namespace Go.Proofs.YtodgigdcdgdfdaaDoor
open Go.RowKit

theorem tokF_at {L : List Tk} {j : Nat} (h : j < L.length) : tokF L j = (L[j].k, ⟨L[j].t.toArray⟩, (L[j].a : Int)) := by
  unfold tokF; rw [List.getElem?_eq_getElem h]
theorem tokF_take {L : List Tk} {k j : Nat} (h : j < k) : tokF (L.take k) j = tokF L j := by
  unfold tokF; rw [List.getElem?_take, if_pos h]
theorem lexR_error_le {l : List UInt8} {p : Nat} (h : lexR l = .error p) : p ≤ l.length := by
  unfold lexR at h
  split at h
  · cases h; omega
  · exact (lexF_error l _ 0 p (Nat.le_refl _) (Nat.zero_le _) h).2.1
theorem lexR_ok {l : List UInt8} {L : List Tk} (h : lexR l = .ok L) : l.length ≤ 2000 ∧ lexF l 0 = .ok L := by
  unfold lexR at h
  split at h
  · cases h
  · exact ⟨by omega, h⟩
theorem sameB_self {n : Nat} {f f' : Nat → Int × ByteArray × Int} (h : ∀ j, j < n → f j = f' j) : sameB n n f f' = true :=
  sameB_yes fun j hj => by unfold sameF; rw [h j hj]; simp

set_option maxRecDepth 100000 in
set_option maxHeartbeats 4000000 in
theorem lexPlaces_law (hI : LexI) (a : Option Addr) (len cap : Nat) (w : World) (hrow : RowB w.heap.size a len w) (hm : MaxI w) :
    Calls Tryd.prog 5 #[.slice a len cap] w (BoolE true w) := by
  have hlen := hrow.1
  by_cases hbig : 1048576 < len
  · go_enter Tryd.func5, Tryd.ntmps5
    go_wp2_with fail
    refine (big_yes a len cap _ hlen hbig).mono ?_
    rintro e w' ⟨rfl, rfl⟩
    go_wp2_with fail
    go_ret
    exact ⟨rfl, Below.refl _ _⟩
  · go_enter Tryd.func5, Tryd.ntmps5
    go_wp2_with fail
    refine (big_no a len cap _ hbig).mono ?_
    rintro e w' ⟨rfl, rfl⟩
    go_wp2_with fail
    refine (drawLex_any w.heap.size a len cap _ hrow (Nat.le_refl _)).mono ?_
    rintro e w1 ⟨S, hS, rfl, hb1⟩
    go_wp2_with fail
    refine (hI S _ (by omega) (hm.later hb1 hm.two)).mono ?_
    intro e w2 h2
    obtain ⟨a2, c2, rfl, r2, hb2', hcap⟩ := h2.row_cap
    have hb2 := hb1.trans (hb2'.mono hb1.size)
    clear h2 hb2'
    go_wp2_with fail
    refine (lex_spec S _ (by omega)).mono ?_
    intro e w3 h3
    obtain ⟨a3, c3, rfl, _, hb3'⟩ := h3.row
    have r3 := r2.below hb3'
    have hb3 := hb2.trans (hb3'.mono hb2.size)
    clear h3 hb3' hb2 r2 hb1
    have hn := rn_le S.data.toList
    rcases hr : lexR S.data.toList with p | L
    · have hp := lexR_error_le hr
      have hps : p ≤ S.size := hp
      have hx : rx (.error p : Except Nat (List Tk)) = (p : Int) := rfl
      have hn0 : rn (.error p : Except Nat (List Tk)) = 0 := rfl
      have hpi : decide ((p : Int) ≤ (S.size : Int)) = true := by simp; omega
      have hp0 : decide ((0 : Int) ≤ (p : Int)) = true := by simp
      rw [hx, hn0]
      clear hr hp hx hn0 r3
      go_wp2_with fail
      go_ret
      exact ⟨rfl, hb3⟩
    · obtain ⟨h2000, hF⟩ := lexR_ok hr
      obtain ⟨hP1, hP2⟩ := lexF_places _ _ 0 L (Nat.le_refl _) hF
      have hcut := lexF_cut _ _ 0 L (Nat.le_refl _) hF
      rw [hr] at hn r3 hcap
      have hx : rx (.ok L : Except Nat (List Tk)) = -1 := rfl
      have hnL : rn (.ok L : Except Nat (List Tk)) = L.length := rfl
      have hfL : rf (.ok L : Except Nat (List Tk)) = tokF L := rfl
      rw [hx, hnL]
      rw [hnL, hfL] at r3
      rw [hnL] at hn hcap
      clear hr hx hnL hfL hF
      have HP1 := Lib.hid hP1
      have HP2 := Lib.hid hP2
      have HC := Lib.hid hcut
      clear hP1 hP2 hcut
      obtain ⟨n, hnn⟩ : ∃ n, n = L.length := ⟨_, rfl⟩
      rw [← hnn] at hn r3 hcap
      rw [← hnn]
      have HN := Lib.hid hnn; clear hnn
      go_wp2_with fail
      go_loopw [8] (fun i wr => ∃ k : Nat, k ≤ n ∧ i = .int .i64 (k : Int) ∧ Below w3.heap.size w3 wr) (fun i _ => n - (intOf i).toNat)
      case atStart => exact ⟨0, by omega, rfl, Below.refl _ _⟩
      case round =>
        obtain ⟨k, hk, rfl, hbel⟩ := hrel
        by_cases hlt : k < n
        · have hlt2 : (k : Int) < (n : Int) := by omega
          have hkL : k < L.length := by rw [← HN.out]; exact hlt
          have hok := (HP1.out k hkL).1
          have hsm := tokOk_small hok
          have hAk := (HP1.out k hkL).2.2
          have r4 := r3.below hbel
          obtain ⟨g, rfl, _, hg, c0, c1, c2', _⟩ := r4 k hlt
          rw [tokF_at hkL] at c0 c1 c2'
          obtain ⟨K, hK⟩ : ∃ K, K = L[k].k := ⟨_, rfl⟩
          obtain ⟨T, hT⟩ : ∃ T : ByteArray, T = ⟨L[k].t.toArray⟩ := ⟨_, rfl⟩
          obtain ⟨A, hA⟩ : ∃ A, A = L[k].a := ⟨_, rfl⟩
          have d0 : wr.cell? ⟨g, k * 3, none⟩ = some (.int .i64 K) := by rw [hK]; exact c0
          have d1 : wr.cell? ⟨g, k * 3 + 1, none⟩ = some (.string T) := by rw [hT]; exact c1
          have d2 : wr.cell? ⟨g, k * 3 + 2, none⟩ = some (.int .i64 (A : Int)) := by rw [hA]; exact c2'
          have hok' : tokOk K T.data.toList = true := by rw [hK, hT]; exact hok
          have hTz : T.size ≤ 40 := by rw [hT]; exact hsm
          have hAS : A < S.size := by rw [hA]; exact hAk
          have dA : decide ((S.size : Int) ≤ (A : Int)) = false := by simp; omega
          have dN : decide (S.size ≤ A) = false := by simp; omega
          have hTO := fun w => tokenOk_spec K T (A : Int) w (by omega)
          rw [hok'] at hTO
          clear c0 c1 c2' hok hsm hAk hok' r4 hK hT
          have x0 := lat_cell d0
          have x1 := lat_cell d1
          have x2 := lat_cell d2
          rcases Nat.eq_zero_or_pos k with hk0 | hk0
          · subst hk0
            have y0 : ∀ v, (lat wr v).cell? ⟨g, 0, none⟩ = some (.int .i64 K) := x0
            have y1 : ∀ v, (lat wr v).cell? ⟨g, 1, none⟩ = some (.string T) := x1
            have y2 : ∀ v, (lat wr v).cell? ⟨g, 2, none⟩ = some (.int .i64 (A : Int)) := x2
            clear x0 x1 x2 d0 d1 d2 hI HC HP1 HP2 hA
            go_wp2_with fail
            refine region_lat (by kernel_rfl) (by kernel_rfl) ?_
            iterate 34 (go_big_quiet_step ((refine (hTO (lat wr _)).mono ?_; rintro e w'' ⟨rfl, hb''⟩; exact ⟨rfl, lat_to hb''⟩)))
            refine wpQuiet_nil ?_
            rintro _ ⟨nq, rfl⟩
            have hbq := hbel.trans ((lat_below wr nq).mono hbel.size)
            generalize lat wr nq = wq at hbq ⊢
            clear y0 y1 y2 hTO
            go_wp2_with fail
            exact ⟨⟨1, by omega, rfl, hbq⟩, by simp [intOf]; omega⟩
          · obtain ⟨A', hA'⟩ : ∃ A', A' = L[k - 1].a := ⟨_, rfl⟩
            have d3 : wr.cell? ⟨g, (k - 1) * 3 + 2, none⟩ = some (.int .i64 (A' : Int)) := by
              obtain ⟨g', hg', _, _, _, _, c3', _⟩ := r3.below hbel (k - 1) (by omega)
              obtain rfl : g = g' := by simpa using hg'
              rw [tokF_at (by omega)] at c3'
              rw [hA']; exact c3'
            have hAA : A' < A := by
              have h1 := HP2.out (k - 1) (by omega)
              have e1 : k - 1 + 1 = k := by omega
              rw [hA', hA]
              simpa only [e1] using h1
            have dI : decide ((A : Int) ≤ (A' : Int)) = false := by simp; omega
            have dJ : decide (A ≤ A') = false := by simp; omega
            have dK : decide (0 < k) = true := by simp; omega
            have dL : decide ((0 : Int) < (k : Int)) = true := by simp; omega
            have x3 := lat_cell d3
            clear d0 d1 d2 d3 hI HC HP1 HP2 hA hA' hAA
            go_wp2_with fail
            refine region_lat (by kernel_rfl) (by kernel_rfl) ?_
            iterate 34 (go_big_quiet_step ((refine (hTO (lat wr _)).mono ?_; rintro e w'' ⟨rfl, hb''⟩; exact ⟨rfl, lat_to hb''⟩)))
            refine wpQuiet_nil ?_
            rintro _ ⟨nq, rfl⟩
            have hbq := hbel.trans ((lat_below wr nq).mono hbel.size)
            generalize lat wr nq = wq at hbq ⊢
            clear x0 x1 x2 x3 hTO
            go_wp2_with fail
            exact ⟨⟨k + 1, by omega, by go_num, hbq⟩, by simp [intOf]; omega⟩
        · have e : k = n := by omega
          subst e
          have r4 := r3.below hbel
          have hb4 := hb3.trans (hbel.mono hb3.size)
          clear r3 hbel
          by_cases hk0 : k = 0
          · subst hk0
            go_wp2_with fail
            go_ret
            exact ⟨rfl, hb4⟩
          · have dk : ((k : Int) == 0) = false := by simp; omega
            go_wp2_with fail
            refine (at0_any 2 w.heap.size a len cap _ (hrow.later hb4) (by omega) (by omega)).mono ?_
            rintro e w' ⟨x, hx, rfl, rfl⟩
            obtain ⟨q, hq⟩ : ∃ q, q = x % k := ⟨_, rfl⟩
            have hqk : q < k := by rw [hq]; exact Nat.mod_lt _ (by omega)
            have hqi : (x : Int) % (k : Int) = (q : Int) := by rw [hq]; exact (Int.natCast_emod x k).symm
            have hqk2 : (q : Int) < (k : Int) := by omega
            have hqL : q < L.length := by rw [← HN.out]; exact hqk
            obtain ⟨g, rfl, _, hg, _, _, c2', _⟩ := r4 q hqk
            rw [tokF_at hqL] at c2'
            have hA := (HP1.out q hqL).2.2
            have hcut := HC.out q hqL
            obtain ⟨A, hAe⟩ : ∃ A, A = L[q].a := ⟨_, rfl⟩
            rw [← hAe] at hA hcut
            have c2A : wr.cell? ⟨g, q * 3 + 2, none⟩ = some (.int .i64 (A : Int)) := by rw [hAe]; exact c2'
            have hAs : A ≤ S.size := Nat.le_of_lt hA
            have hAi : (A : Int) ≤ (S.size : Int) := by omega
            obtain ⟨P, hP⟩ : ∃ P, S.extract 0 A = P := ⟨_, rfl⟩
            have hPd : P.data.toList = S.data.toList.take A := by rw [← hP]; exact ext_take S A
            have hPz : P.size ≤ 2000 := by
              show P.data.toList.length ≤ 2000
              rw [hPd, cut_len hAs]
              have : A ≤ S.data.toList.length := hAs
              omega
            have hPr : lexR P.data.toList = .ok (L.take q) := by rw [lexR_small hPz, hPd]; exact hcut
            have HPR := Lib.hid hPr
            clear hPr hPd hcut hA c2' hAe hq
            go_wp2_with fail
            refine (hI P _ (by omega) (hm.later hb4 hm.two)).mono ?_
            intro e w5 h5
            rw [HPR.out] at h5
            obtain ⟨a5, c5, rfl, r5, hb5'⟩ := h5.row
            have r6 := r4.below hb5'
            have hb5 := hb4.trans (hb5'.mono hb4.size)
            clear h5 hb5' r4
            have hx5 : rx (.ok (L.take q) : Except Nat (List Tk)) = -1 := rfl
            have hn5 : rn (.ok (L.take q) : Except Nat (List Tk)) = q := by show (L.take q).length = q; simp; omega
            have hf5 : rf (.ok (L.take q) : Except Nat (List Tk)) = tokF (L.take q) := rfl
            rw [hn5, hf5] at r5
            rw [hx5, hn5]
            clear hx5 hn5 hf5
            have hsame := sameB_self (n := q) (f := tokF (L.take q)) (f' := tokF L) (fun j hj => tokF_take hj)
            have r6q : TokSl w5 w1.heap.size (some ⟨g, 0, none⟩) q (tokF L) := fun j hj => r6 j (by omega)
            have hI2 := fun ca cb => same_impl _ _ _ _ q q ca cb _ _ w5 r5 r6q (by omega) (by omega)
            rw [hsame] at hI2
            have hqc : (q : Int) ≤ (c2 : Int) := by omega
            go_wp2_with fail
            refine (hI2 _ _).mono ?_
            rintro e w6 ⟨rfl, hb6⟩
            have r5' := r5.below hb6
            have r6q' := r6q.below hb6
            have hb6' := hb5.trans (hb6.mono hb5.size)
            have hS2 := fun ca cb => same_spec _ _ _ _ q q ca cb _ _ w6 r5' r6q' (by omega) (by omega)
            rw [hsame] at hS2
            go_wp2_with fail
            refine (hS2 _ _).mono ?_
            rintro e w7 ⟨rfl, hb7⟩
            have hb7' := hb6'.trans (hb7.mono hb6'.size)
            go_wp2_with fail
            go_ret
            exact ⟨rfl, hb7'⟩
end Go.Proofs.YtodgigdcdgdfdaaDoor
