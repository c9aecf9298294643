/- Joined texts: NamesLaw QuotesLaw. -/
import Derived.Test.YtodgigdcdgdfdaaDoorQL
import Derived.Test.YtodgigdcdgdfdaaDoorQM
import Derived.Test.YtodgigdcdgdfdaaDoorQN
import Derived.Test.YtodgigdcdgdfdaaDoorQG
import Derived.Test.YtodgigdcdgdfdaaDoorQF
/- The walks of the laws FnNames and FnQuotes, from the contract of the program's lexer. -/
namespace Go.Proofs.YtodgigdcdgdfdaaDoor
open Go.RowKit

/-- what the program's lexer is known to do -/
def LexID : Prop := ∀ (s : ByteArray) (w : World), s.size ≤ 9223372036854775807 → MaxI w → Calls Tryd.prog 12 #[.string s] w (LexE (lexR s.data.toList) w)

set_option maxRecDepth 100000 in
set_option maxHeartbeats 400000 in
theorem drawNameText_any (B : Nat) (a : Option Addr) (len cap : Nat) (W : World) (H : RowB B a len W) (hB : B ≤ W.heap.size) :
    Calls Tryd.prog 10 #[.slice a len cap] W (StringE 24 B W) := by
  go_enter Tryd.func10, Tryd.ntmps10
  go_wp2_with fail
  refine (new_any B a len cap _ H hB).mono ?_
  rintro e W1 ⟨rfl, hc, hb⟩
  have hz := hb.size
  go_wp2_with fail
  refine (anyName_any B W.heap.size a len cap _ hc).mono ?_
  rintro e W2 ⟨S, hS, rfl, hc2, hg2⟩
  have hbb := below_of_grown hb hg2 hB (by omega)
  go_wp2_with fail
  go_ret
  exact ⟨S, hS, rfl, hbb⟩

set_option maxRecDepth 100000 in
set_option maxHeartbeats 2000000 in
theorem names_law (hI : LexID) (a : Option Addr) (len cap : Nat) (w : World) (hrow : RowB w.heap.size a len w) (hm : MaxI w) :
    Calls Tryd.prog 3 #[.slice a len cap] w (BoolE true w) := by
  have hlen := hrow.1
  by_cases hbig : 1048576 < len
  · go_enter Tryd.func3, Tryd.ntmps3
    go_wp2_with fail
    refine (big_yes a len cap _ hlen hbig).mono ?_
    rintro e w' ⟨rfl, rfl⟩
    go_wp2_with fail
    go_ret
    exact ⟨rfl, Below.refl _ _⟩
  · go_enter Tryd.func3, Tryd.ntmps3
    go_wp2_with fail
    refine (big_no a len cap _ hbig).mono ?_
    rintro e w' ⟨rfl, rfl⟩
    go_wp2_with fail
    refine (drawNameText_any w.heap.size a len cap _ hrow (Nat.le_refl _)).mono ?_
    rintro e w1 ⟨S, hS, rfl, hb1⟩
    have hm1 := hm.later hb1 hm.two
    go_wp2_with fail
    refine (nameText_impl S _ (by omega) hm1).mono ?_
    rintro e w2 ⟨rfl, hb2'⟩
    have hb2 := hb1.trans (hb2'.mono hb1.size)
    have hTz : (⟨(nameL S.data.toList).toArray⟩ : ByteArray).size ≤ 100 := by
      show (nameL S.data.toList).length ≤ 100
      have h1 : S.data.toList.length = S.size := rfl
      have h2 := dbl_len 34 S.data.toList
      unfold nameL
      split
      · split
        · omega
        · simp [quoted]; omega
      · simp
    obtain ⟨T, hT⟩ : ∃ T : ByteArray, T = ⟨(nameL S.data.toList).toArray⟩ := ⟨_, rfl⟩
    rw [← hT] at hTz
    rw [← hT]
    have hTd : T.data.toList = nameL S.data.toList := by rw [hT]
    clear hT hb2' hb1
    have hN := fun w => nameOk_spec S w (by omega)
    have hNI := fun w => nameOk_impl S w (by omega)
    have hP := fun w => plain_spec S w (by omega)
    have hsz : S.data.toList.length = S.size := rfl
    go_wp2_with fail
    refine (hI T _ (by omega) (hm.later hb2 hm.two)).mono ?_
    intro e w3 h3
    cases hok : okLen S.size
    · rw [hok] at hN hNI
      have hTe : T = ⟨#[]⟩ := by
        apply WideShapes.bytes_inj
        rw [hTd]; unfold nameL; rw [if_neg (by rw [hsz, hok]; simp)]
      subst hTe
      obtain ⟨a3, c3, rfl, _, hb3'⟩ := h3.row
      have hb3 := hb2.trans (hb3'.mono hb2.size)
      clear h3 hb3'
      go_wp2_with fail
      refine (hN _).mono ?_
      rintro e w4 ⟨rfl, rfl⟩
      go_wp2_with fail
      refine (hNI _).mono ?_
      rintro e w5 ⟨rfl, rfl⟩
      go_wp2_with fail
      go_ret
      exact ⟨rfl, hb3⟩
    · rw [hok] at hN
      rw [hTd, lex_name (by rw [hsz]; exact hok)] at h3
      obtain ⟨a3, c3, rfl, r3, hb3'⟩ := h3.row
      have hb3 := hb2.trans (hb3'.mono hb2.size)
      clear h3 hb3'
      obtain ⟨g, rfl, _, hg, c0, c1, c2, _⟩ := r3 0 (by show 0 < 1; omega)
      have d0 : w3.cell? ⟨g, 0, none⟩ = some (.int .i64 2) := c0
      have d1 : w3.cell? ⟨g, 1, none⟩ = some (.string S) := c1
      have d2 : w3.cell? ⟨g, 2, none⟩ = some (.int .i64 0) := c2
      have hTS : (T.toList == S.toList) = plainB S.data.toList := by
        rw [ByteArray.toList_eq, ByteArray.toList_eq, hTd, ← name_eq (show okLen S.data.toList.length = true by rw [hsz]; exact hok)]
        by_cases h : nameL S.data.toList = S.data.toList
        · rw [decide_eq_true h]; simpa using h
        · rw [decide_eq_false h]; simpa using h
      clear c0 c1 c2 r3 hNI hTd
      generalize plainB S.data.toList = b at hP hTS
      have hx : rx (.ok [⟨2, S.data.toList, 0⟩] : Except Nat (List Tk)) = -1 := rfl
      have hn : rn (.ok [⟨2, S.data.toList, 0⟩] : Except Nat (List Tk)) = 1 := rfl
      rw [hx, hn]
      clear hx hn
      go_wp2_with fail
      refine (hN _).mono ?_
      rintro e w4 ⟨rfl, rfl⟩
      go_wp2_with fail
      refine (hP _).mono ?_
      rintro e w5 ⟨rfl, hb5⟩
      have hbb := hb3.trans (hb5.mono hb3.size)
      go_wp2_with fail
      go_ret
      exact ⟨by simp, hbb⟩
end Go.Proofs.YtodgigdcdgdfdaaDoor

/- The walk of the law FnQuotes, from the contract of the program's lexer. -/
namespace Go.Proofs.YtodgigdcdgdfdaaDoor
open Go.RowKit

set_option maxRecDepth 100000 in
set_option maxHeartbeats 800000 in
theorem drawQuote_any (B : Nat) (a : Option Addr) (len cap : Nat) (W : World) (H : RowB B a len W) (hB : B ≤ W.heap.size) :
    Calls Tryd.prog 16 #[.slice a len cap] W (StringE 48 B W) := by
  go_enter Tryd.func16, Tryd.ntmps16
  go_wp2_with fail
  refine (new_any B a len cap _ H hB).mono ?_
  rintro e W1 ⟨rfl, hc, hb⟩
  have hz := hb.size
  have hlt := hc.lt
  go_wp2_with fail
  refine (pick_any 24 W1.heap.size 6 B W.heap.size a len cap _ (hc.alloc _) (by omega) (by omega) (by simp) (by omega) ?_).mono ?_
  · intro j hj
    rw [cell_of_row _ W1.heap.size j _ 9 (0, 0) (heap_alloc_new W1 _)]
    rcases (show j = 0 ∨ j = 1 ∨ j = 2 ∨ j = 3 ∨ j = 4 ∨ j = 5 by omega) with rfl | rfl | rfl | rfl | rfl | rfl <;> exact ⟨_, by decide, rfl⟩
  · rintro e W2 ⟨P, hP, rfl, hc2, hg2⟩
    have hgg := grown_tr (grown_alloc W1 _ (some W.heap.size)) hg2
    go_wp2_with fail
    refine (anyName_any B W.heap.size a len cap _ hc2).mono ?_
    rintro e W3 ⟨S, hS, rfl, hc3, hg3⟩
    have hsum : P.size + S.size ≤ 1000000 := by omega
    have hbb := below_of_grown hb (grown_tr hgg hg3) hB (by omega)
    go_wp2_with fail
    go_ret
    exact ⟨P ++ S, by rw [ByteArray.size_append]; omega, rfl, hbb⟩

set_option maxRecDepth 100000 in
set_option maxHeartbeats 2000000 in
theorem quotes_law (hI : LexID) (a : Option Addr) (len cap : Nat) (w : World) (hrow : RowB w.heap.size a len w) (hm : MaxI w) :
    Calls Tryd.prog 4 #[.slice a len cap] w (BoolE true w) := by
  have hlen := hrow.1
  by_cases hbig : 1048576 < len
  · go_enter Tryd.func4, Tryd.ntmps4
    go_wp2_with fail
    refine (big_yes a len cap _ hlen hbig).mono ?_
    rintro e w' ⟨rfl, rfl⟩
    go_wp2_with fail
    go_ret
    exact ⟨rfl, Below.refl _ _⟩
  · go_enter Tryd.func4, Tryd.ntmps4
    go_wp2_with fail
    refine (big_no a len cap _ hbig).mono ?_
    rintro e w' ⟨rfl, rfl⟩
    go_wp2_with fail
    refine (drawQuote_any w.heap.size a len cap _ hrow (Nat.le_refl _)).mono ?_
    rintro e w1 ⟨S, hS, rfl, hb1⟩
    have hm1 := hm.later hb1 hm.two
    have hsz : S.data.toList.length = S.size := rfl
    go_wp2_with fail
    refine (quoteText_impl S _ (by omega) hm1).mono ?_
    rintro e w2 ⟨rfl, hb2'⟩
    have hb2 := hb1.trans (hb2'.mono hb1.size)
    have hTz : (⟨(quoted 39 S.data.toList).toArray⟩ : ByteArray).size ≤ 100 := by
      show (quoted 39 S.data.toList).length ≤ 100
      have h2 := dbl_len 39 S.data.toList
      simp [quoted]; omega
    have hQ := fun w => quoteText_spec S w (by omega)
    unfold StrE at hQ
    obtain ⟨T, hT⟩ : ∃ T : ByteArray, T = ⟨(quoted 39 S.data.toList).toArray⟩ := ⟨_, rfl⟩
    rw [← hT] at hTz hQ
    rw [← hT]
    have hTd : T.data.toList = quoted 39 S.data.toList := by rw [hT]
    clear hT hb2' hb1
    by_cases h40 : S.size ≤ 40
    · have d : decide (40 < (S.size : Int)) = false := by simp; omega
      go_wp2_with fail
      refine (hI T _ (by omega) (hm.later hb2 hm.two)).mono ?_
      intro e w3 h3
      rw [hTd, lex_quoted39 (by rw [hsz]; exact h40)] at h3
      obtain ⟨a3, c3, rfl, r3, hb3'⟩ := h3.row
      have hb3 := hb2.trans (hb3'.mono hb2.size)
      clear h3 hb3' hQ
      obtain ⟨g, rfl, _, hg, c0, c1, c2, _⟩ := r3 0 (by show 0 < 1; omega)
      have d0 : w3.cell? ⟨g, 0, none⟩ = some (.int .i64 4) := c0
      have d1 : w3.cell? ⟨g, 1, none⟩ = some (.string S) := c1
      have d2 : w3.cell? ⟨g, 2, none⟩ = some (.int .i64 0) := c2
      clear c0 c1 c2 r3 hTd
      have hx : rx (.ok [⟨4, S.data.toList, 0⟩] : Except Nat (List Tk)) = -1 := rfl
      have hn : rn (.ok [⟨4, S.data.toList, 0⟩] : Except Nat (List Tk)) = 1 := rfl
      rw [hx, hn]
      clear hx hn
      go_wp2_with fail
      go_ret
      exact ⟨rfl, hb3⟩
    · have d : decide (40 < (S.size : Int)) = true := by simp; omega
      go_wp2_with fail
      refine (hI T _ (by omega) (hm.later hb2 hm.two)).mono ?_
      intro e w3 h3
      rw [hTd, lex_quoted39_long (by rw [hsz]; exact h40) (by rw [hsz]; omega)] at h3
      obtain ⟨a3, c3, rfl, _, hb3'⟩ := h3.row
      have hb3 := hb2.trans (hb3'.mono hb2.size)
      clear h3 hb3' hTd
      have hx : rx (.error 0 : Except Nat (List Tk)) = 0 := rfl
      rw [hx]
      clear hx
      generalize rn (.error 0 : Except Nat (List Tk)) = n
      go_wp2_with fail
      refine (hQ _).mono ?_
      rintro e w4 ⟨rfl, hb4⟩
      have hbb := hb3.trans (hb4.mono hb3.size)
      go_wp2_with fail
      go_ret
      exact ⟨rfl, hbb⟩
end Go.Proofs.YtodgigdcdgdfdaaDoor
