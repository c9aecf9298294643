/- Joined texts: MaxI Quote TextDef TokTx TextS TokText LexNames. -/
import Derived.Test.YtcadoplfgclbjaaDoorQA
import Derived.Test.YtcadoplfgclbjaaDoorQB
import Derived.Test.YtcadoplfgclbjaaDoorQD
import Derived.Test.YtcadoplfgclbjaaDoorQF
import Derived.Deep.DeepMust
/- What strings.Index and its callers read: internal/bytealg.MaxLen holds some number. -/
namespace Go.Proofs.YtcadoplfgclbjaaDoor
open Go.RowKit
/-- internal/bytealg.MaxLen holds some number -/
def MaxI (w : World) : Prop := ∃ m : Int, w.cell? ⟨0, 0, none⟩ = some (.int .i64 m)
theorem MaxI.later {B : Nat} {w w' : World} (h : MaxI w) (g : Below B w w') (hB : 0 < B) : MaxI w' := by
  obtain ⟨m, hm⟩ := h
  exact ⟨m, (World.cell?_of_block (w := w) (w' := w') (a := ⟨0, 0, none⟩) (g.block 0 hB)).trans hm⟩
theorem MaxI.two {w : World} (h : MaxI w) : 0 < w.heap.size := by
  obtain ⟨m, hm⟩ := h
  rcases Nat.lt_or_ge 0 w.heap.size with e | e
  · exact e
  · have : w.heap[0]? = none := Array.getElem?_eq_none e
    simp [World.cell?, this] at hm
end Go.Proofs.YtcadoplfgclbjaaDoor

/- Contracts of the model's quoting. -/
namespace Go.Proofs.YtcadoplfgclbjaaDoor
open Go.RowKit

theorem Tryd.info8q : (Tryd.prog.info? 5).map (fun i => (i.zero, i.size, i.bytes)) = some (some (.int .u8 0), 1, 1) := by kernel_rfl
theorem qtake_snoc (l : List UInt8) (k : Nat) (h : k < l.length) : l.take (k + 1) = l.take k ++ [l.getD k 0] := by
  rw [List.take_succ_eq_append_getElem h, List.getD_eq_getElem?_getD, List.getElem?_eq_getElem h]; rfl

set_option maxRecDepth 100000 in
set_option maxHeartbeats 1200000 in
theorem quote_spec (c : UInt8) (s : ByteArray) (w : World) (hs : s.size ≤ 1048576) :
    Calls Tryd.prog 72 #[.string s, .int .u8 (c.toNat : Int)] w (StrE (quoted c s.data.toList) w) := by
  obtain ⟨i0, hi, hz0, hz1, hz2⟩ := info_parts Tryd.info8q
  have hlen : s.data.toList.length = s.size := rfl
  go_enter Tryd.func72, Tryd.ntmps72
  go_wp2
  go_loopw [5, 6] (fun v i wr => ∃ (k g cap : Nat) (l : List UInt8), k ≤ s.size ∧ i = .int .i64 (k : Int) ∧ v = .slice (some ⟨g, 0, none⟩) l.length cap ∧ Hid (l = c :: dbl c (s.data.toList.take k)) ∧ OwnB 5 wr w.heap.size (.slice (some ⟨g, 0, none⟩) l.length cap) l ∧ Below w.heap.size w wr) (fun _ i _ => s.size - (intOf i).toNat)
  case atStart => exact ⟨0, w.heap.size, 1, [c], by omega, rfl, rfl, by unfold Hid; simp [dbl], World.ownsRow_lit w #[.int .u8 (c.toNat : Int)] 1 (Nat.le_refl _) (by unfold maxLen; omega) rfl, (Below.refl _ _).alloc (Nat.le_refl _) _⟩
  case round =>
    obtain ⟨k, g, cap, l, hk, rfl, rfl, HL, hown, hbel⟩ := hrel
    have hsz := hbel.size
    have hll : l.length ≤ 4000000 := by
      rw [HL.out, List.length_cons]
      have h1 := dbl_len c (s.data.toList.take k)
      have h2 : (s.data.toList.take k).length ≤ s.data.toList.length := List.length_take_le' _ _
      omega
    by_cases hlt : k < s.size
    · have hlt2 : (k : Int) < (s.size : Int) := by omega
      have HB := Lib.hid (str_at hlt)
      have HT := Lib.hid (qtake_snoc s.data.toList k (by omega))
      by_cases he : s[k] = c
      · have hq : (((s[k]).toNat : Int) == (c.toNat : Int)) = true := by rw [he]; simp
        have HE := Lib.hid he; clear he
        go_wp2_with (first | (at_builtin; refine appB Tryd.underlying22 hi hz0 hz1 hz2 rfl (.tmp 24) (.tmp 28) rfl w.heap.size (.slice (some ⟨g2, 0, none⟩) (l.length + 1) c2) (l ++ [c]) s[k] _ w2 rfl rfl hown2 rfl (by simp; omega) (by have := hbel2.size; omega) ?_; intro g3 c3 w3 hown3 hbel3) | (at_builtin; refine appB Tryd.underlying22 hi hz0 hz1 hz2 rfl (.tmp 20) (.tmp 22) rfl w.heap.size (.slice (some ⟨g, 0, none⟩) l.length cap) l c _ wr rfl rfl hown rfl (by omega) (by omega) ?_; intro g2 c2 w2 hown2 hbel2))
        go_roundw
        case rel => exact ⟨k + 1, g3, c3, l ++ [c] ++ [s[k]], by omega, by go_num, by simp, by unfold Hid; rw [HT.out, ← HB.out, HE.out, dbl_snoc_eq, HL.out]; simp, by have h := hown3; simpa using h, (hbel.trans hbel2).trans hbel3⟩
        case measure => simp [intOf]; omega
      · have hq : (((s[k]).toNat : Int) == (c.toNat : Int)) = false := by
          simp only [beq_eq_false_iff_ne, ne_eq]
          intro e
          exact he (UInt8.toNat_inj.1 (by omega))
        have HE := Lib.hid he; clear he
        go_wp2_with (at_builtin; refine appB Tryd.underlying22 hi hz0 hz1 hz2 rfl (.tmp 24) (.tmp 28) rfl w.heap.size (.slice (some ⟨g, 0, none⟩) l.length cap) l s[k] _ wr rfl rfl hown rfl (by omega) (by omega) ?_; intro g3 c3 w3 hown3 hbel3)
        go_roundw
        case rel => exact ⟨k + 1, g3, c3, l ++ [s[k]], by omega, by go_num, by simp, by unfold Hid; rw [HT.out, ← HB.out, dbl_snoc_ne HE.out, HL.out]; simp, by have h := hown3; simpa using h, hbel.trans hbel3⟩
        case measure => simp [intOf]; omega
    · have e : k = s.size := by omega
      subst e
      have ht : s.data.toList.take s.size = s.data.toList := List.take_of_length_le (by omega)
      go_wp2_with (at_builtin; refine appB Tryd.underlying22 hi hz0 hz1 hz2 rfl (.tmp 30) (.tmp 32) rfl w.heap.size (.slice (some ⟨g, 0, none⟩) l.length cap) l c _ wr rfl rfl hown rfl (by omega) (by omega) ?_; intro g3 c3 w3 hown3 hbel3; have hcv := OwnB.string (src := 22) (dst := 9) hown3 (by simp) Tryd.underlying22 Tryd.underlying5 Tryd.underlying9)
      go_ret
      exact ⟨ret_str (by rw [HL.out, ht]; rfl), hbel.trans hbel3⟩
end Go.Proofs.YtcadoplfgclbjaaDoor

/- The text of a name. -/
namespace Go.Proofs.YtcadoplfgclbjaaDoor
open Go.RowKit

/-- the text of a name -/
def nameL (l : List UInt8) : List UInt8 := if okLen l.length then (if plainB l then l else quoted 34 l) else []
end Go.Proofs.YtcadoplfgclbjaaDoor

/- The text of a token, as a plain function. No program. -/
namespace Go.Proofs.YtcadoplfgclbjaaDoor
open Go.RowKit

/-- the text of a token -/
def tokTextL (k : Int) (t : List UInt8) : List UInt8 := if tokOk k t then (if k = 2 then nameL t else if k = 4 then quoted 39 t else t) else []
theorem tokOk_small {k : Int} {t : List UInt8} (h : tokOk k t = true) : t.length ≤ 40 := by
  unfold tokOk at h
  split at h
  · have h0 := h
    simp only [Bool.and_eq_true, decide_eq_true_eq, beq_iff_eq] at h0
    rcases Nat.lt_or_ge 8 t.length with h8 | h8
    · have := num_long (l := upL t) (by rw [upL_len]; exact h8)
      omega
    · omega
  · split at h
    · unfold okLen at h; simp at h; omega
    · split at h
      · obtain ⟨n, hn⟩ := (numB_iff _).1 h
        have := hn.len; omega
      · split at h
        · simpa using h
        · split at h
          · rcases signB_cases h with h | h | h | h | h | h | h | h | h | h | h | h | h | h | h | h <;> (subst h; decide)
          · cases h
end Go.Proofs.YtcadoplfgclbjaaDoor

/- Contracts of NameText and QuoteText in the model. -/
namespace Go.Proofs.YtcadoplfgclbjaaDoor
open Go.RowKit

set_option maxRecDepth 100000 in
set_option maxHeartbeats 800000 in
theorem nameText_spec (s : ByteArray) (w : World) (hs : s.size ≤ 9223372036854775807) :
    Calls Tryd.prog 39 #[.string s] w (StrE (nameL s.data.toList) w) := by
  have hN := fun w => nameOk_spec s w hs
  have hP := fun w => plain_spec s w hs
  have hL : nameL s.data.toList = (if okLen s.size then (if plainB s.data.toList then s.data.toList else quoted 34 s.data.toList) else []) := rfl
  cases h1 : okLen s.size
  · rw [h1] at hN hL
    have HL := Lib.hid (show nameL s.data.toList = [] from hL); clear hL hP h1
    go_enter Tryd.func39, Tryd.ntmps39
    go_wp2_with fail
    refine (hN _).mono ?_
    rintro e w1 ⟨rfl, rfl⟩
    go_wp2_with fail
    go_ret
    exact ⟨ret_str HL.out.symm, Below.refl _ _⟩
  · have hs3 : s.size ≤ 1048576 := by unfold okLen at h1; simp at h1; omega
    rw [h1] at hN hL
    clear h1
    cases h2 : plainB s.data.toList
    · rw [h2] at hP hL
      have HL := Lib.hid (show nameL s.data.toList = quoted 34 s.data.toList from hL); clear hL h2
      go_enter Tryd.func39, Tryd.ntmps39
      go_wp2_with fail
      refine (hN _).mono ?_
      rintro e w1 ⟨rfl, rfl⟩
      go_wp2_with fail
      refine (hP _).mono ?_
      rintro e w2 ⟨rfl, hb⟩
      clear hN hP
      go_wp2_with fail
      refine (quote_spec 34 s _ hs3).mono ?_
      rintro e w3 ⟨rfl, hb2⟩
      go_wp2_with fail
      go_ret
      exact ⟨ret_str HL.out.symm, hb.trans (hb2.mono hb.size)⟩
    · rw [h2] at hP hL
      have HL := Lib.hid (show nameL s.data.toList = s.data.toList from hL); clear hL h2
      go_enter Tryd.func39, Tryd.ntmps39
      go_wp2_with fail
      refine (hN _).mono ?_
      rintro e w1 ⟨rfl, rfl⟩
      go_wp2_with fail
      refine (hP _).mono ?_
      rintro e w2 ⟨rfl, hb⟩
      clear hN hP
      go_wp2_with fail
      go_ret
      exact ⟨ret_ba' HL.out, hb⟩

theorem quoteText_spec (s : ByteArray) (w : World) (hs : s.size ≤ 1048576) :
    Calls Tryd.prog 40 #[.string s] w (StrE (quoted 39 s.data.toList) w) := by
  go_enter Tryd.func40, Tryd.ntmps40
  go_wp2_with fail
  refine (quote_spec 39 s _ hs).mono ?_
  rintro e w1 ⟨rfl, hb⟩
  go_wp2_with fail
  go_ret
  exact ⟨rfl, hb⟩
end Go.Proofs.YtcadoplfgclbjaaDoor

/- The contract of the model's text of a token. -/
namespace Go.Proofs.YtcadoplfgclbjaaDoor
open Go.RowKit

set_option maxRecDepth 100000 in
set_option maxHeartbeats 1600000 in
theorem tokenText_spec (k : Int) (t : ByteArray) (a : Int) (w : World) (ht : t.size ≤ 9223372036854775807) :
    Calls Tryd.prog 13 #[.agg #[.int .i64 k, .string t, .int .i64 a]] w (StrE (tokTextL k t.data.toList) w) := by
  have hsz : t.data.toList.length = t.size := rfl
  have hO := fun w => tokenOk_spec k t a w ht
  have hT : tokTextL k t.data.toList = (if tokOk k t.data.toList then (if k = 2 then nameL t.data.toList else if k = 4 then quoted 39 t.data.toList else t.data.toList) else []) := rfl
  cases ho : tokOk k t.data.toList
  · rw [ho] at hO hT
    have HT := Lib.hid (show tokTextL k t.data.toList = [] from hT)
    clear hT ho
    go_enter Tryd.func13, Tryd.ntmps13
    go_wp2_with fail
    refine (hO _).mono ?_
    rintro e w1 ⟨rfl, hb1⟩
    have hbb := ((Below.refl w.heap.size w).alloc (Nat.le_refl _) (.cells #[.int .i64 k, .string t, .int .i64 a] 25)).trans (hb1.mono (by simp))
    go_wp2_with fail
    go_ret
    exact ⟨ret_str HT.out.symm, hbb⟩
  · have hsm := tokOk_small ho
    rw [ho] at hO hT
    by_cases h2 : k = 2
    · subst h2
      have HT := Lib.hid (show tokTextL 2 t.data.toList = nameL t.data.toList from hT)
      clear hT ho
      go_enter Tryd.func13, Tryd.ntmps13
      go_wp2_with fail
      refine (hO _).mono ?_
      rintro e w1 ⟨rfl, hb1⟩
      have hbb := ((Below.refl w.heap.size w).alloc (Nat.le_refl _) (.cells #[.int .i64 2, .string t, .int .i64 a] 25)).trans (hb1.mono (by simp))
      have c0 := (hb1.cell (p := ⟨w.heap.size, 0, none⟩) (by simp)).trans (cell_of_row _ w.heap.size 0 _ 25 (0, 0) (heap_alloc_new w _))
      have c1 := (hb1.cell (p := ⟨w.heap.size, 1, none⟩) (by simp)).trans (cell_of_row _ w.heap.size 1 _ 25 (0, 0) (heap_alloc_new w _))
      go_wp2_with fail
      refine (nameText_spec t _ ht).mono ?_
      rintro e w2 ⟨rfl, hb2⟩
      go_wp2_with fail
      go_ret
      exact ⟨ret_str HT.out.symm, hbb.trans (hb2.mono hbb.size)⟩
    · have q2 : (k == 2) = false := by simpa using h2
      by_cases h4 : k = 4
      · subst h4
        have HT := Lib.hid (show tokTextL 4 t.data.toList = quoted 39 t.data.toList from hT)
        clear hT ho h2
        go_enter Tryd.func13, Tryd.ntmps13
        go_wp2_with fail
        refine (hO _).mono ?_
        rintro e w1 ⟨rfl, hb1⟩
        have hbb := ((Below.refl w.heap.size w).alloc (Nat.le_refl _) (.cells #[.int .i64 4, .string t, .int .i64 a] 25)).trans (hb1.mono (by simp))
        have c0 := (hb1.cell (p := ⟨w.heap.size, 0, none⟩) (by simp)).trans (cell_of_row _ w.heap.size 0 _ 25 (0, 0) (heap_alloc_new w _))
        have c1 := (hb1.cell (p := ⟨w.heap.size, 1, none⟩) (by simp)).trans (cell_of_row _ w.heap.size 1 _ 25 (0, 0) (heap_alloc_new w _))
        go_wp2_with fail
        refine (quoteText_spec t _ (by omega)).mono ?_
        rintro e w2 ⟨rfl, hb2⟩
        go_wp2_with fail
        go_ret
        exact ⟨ret_str HT.out.symm, hbb.trans (hb2.mono hbb.size)⟩
      · have q4 : (k == 4) = false := by simpa using h4
        have HT := Lib.hid (show tokTextL k t.data.toList = t.data.toList by rw [hT, if_pos rfl, if_neg h2, if_neg h4])
        clear hT ho h2 h4
        go_enter Tryd.func13, Tryd.ntmps13
        go_wp2_with fail
        refine (hO _).mono ?_
        rintro e w1 ⟨rfl, hb1⟩
        have hbb := ((Below.refl w.heap.size w).alloc (Nat.le_refl _) (.cells #[.int .i64 k, .string t, .int .i64 a] 25)).trans (hb1.mono (by simp))
        have c0 := (hb1.cell (p := ⟨w.heap.size, 0, none⟩) (by simp)).trans (cell_of_row _ w.heap.size 0 _ 25 (0, 0) (heap_alloc_new w _))
        have c1 := (hb1.cell (p := ⟨w.heap.size, 1, none⟩) (by simp)).trans (cell_of_row _ w.heap.size 1 _ 25 (0, 0) (heap_alloc_new w _))
        go_wp2_with fail
        go_ret
        exact ⟨ret_ba' HT.out, hbb⟩
end Go.Proofs.YtcadoplfgclbjaaDoor

/- The texts of names and of strings are read as they were. No program. -/
namespace Go.Proofs.YtcadoplfgclbjaaDoor
open Go.RowKit

theorem getD_app {pre r : List UInt8} {x : UInt8} : (pre ++ x :: r).getD pre.length 0 = x := by
  simp [List.getD_eq_getElem?_getD]
theorem getD_app1 {pre r : List UInt8} {x y : UInt8} : (pre ++ x :: y :: r).getD (pre.length + 1) 0 = y := by
  simp [List.getD_eq_getElem?_getD]
theorem quo_quoted (q : UInt8) : ∀ (s pre : List UInt8), quo q (pre ++ (dbl q s ++ [q])) pre.length = some (s, (pre ++ (dbl q s ++ [q])).length)
  | [], pre => by
    have h0 : (pre ++ ([] ++ [q]) : List UInt8).length = pre.length + 1 := by simp
    have hg : (pre ++ ([] ++ [q]) : List UInt8).getD pre.length 0 = q := getD_app
    show quo q (pre ++ ([] ++ [q])) pre.length = some ([], (pre ++ ([] ++ [q])).length)
    rw [quo_stop (by omega) hg (fun h => by omega), h0]
  | b :: t, pre => by
    by_cases hb : b = q
    · subst hb
      have e : pre ++ (dbl b (b :: t) ++ [b]) = pre ++ b :: b :: (dbl b t ++ [b]) := by rw [dbl_eq]; rfl
      have e2 : pre ++ b :: b :: (dbl b t ++ [b]) = (pre ++ [b, b]) ++ (dbl b t ++ [b]) := by simp
      have ih := quo_quoted b t (pre ++ [b, b])
      have hl : (pre ++ [b, b]).length = pre.length + 2 := by simp
      rw [e, quo_two (by simp) getD_app (by simp) getD_app1, e2, ← hl, ih]
      rfl
    · have e : pre ++ (dbl q (b :: t) ++ [q]) = pre ++ b :: (dbl q t ++ [q]) := by rw [dbl_ne hb]; rfl
      have e2 : pre ++ b :: (dbl q t ++ [q]) = (pre ++ [b]) ++ (dbl q t ++ [q]) := by simp
      have ih := quo_quoted q t (pre ++ [b])
      have hl : (pre ++ [b]).length = pre.length + 1 := by simp
      have hg : (pre ++ b :: (dbl q t ++ [q])).getD pre.length 0 = b := getD_app
      rw [e, quo_other (by simp) (by rw [hg]; exact hb), hg, e2, ← hl, ih]
      rfl
theorem quo_whole (q : UInt8) (s : List UInt8) : quo q (quoted q s) 1 = some (s, (quoted q s).length) := quo_quoted q s [q]
theorem quoted_get (q : UInt8) (s : List UInt8) : (quoted q s).getD 0 0 = q := rfl
theorem quoted_pos (q : UInt8) (s : List UInt8) : 0 < (quoted q s).length := by simp [quoted]

theorem is2_no {l : List UInt8} {x y : UInt8} (h : ¬ l.getD 0 0 = x) : is2 l 0 x y = false := by
  unfold is2
  have : (l.getD 0 0 == x) = false := by simpa using h
  rw [this]; simp
/-- one token that is the whole text -/
theorem lex_whole {l : List UInt8} {t : Tk} (hp : 0 < l.length) (h2000 : l.length ≤ 2000) (hs : spB (l.getD 0 0) = false) (h45 : ¬ l.getD 0 0 = 45) (h47 : ¬ l.getD 0 0 = 47) (ho : one l 0 = some (t, l.length)) : lexR l = .ok [t] := by
  have hps : pass l 0 = ((0 : Nat) : Int) := pass_stop hp hs (is2_no h45) (is2_no h47)
  have hend : lexF l l.length = .ok [] := lexF_end (p := l.length) (pass_out (by omega)) (by omega)
  unfold lexR
  rw [if_neg (by omega), lexF_some hps hp ho, hend]
  rfl
theorem lex_none_at {l : List UInt8} (hp : 0 < l.length) (h2000 : l.length ≤ 2000) (hs : spB (l.getD 0 0) = false) (h45 : ¬ l.getD 0 0 = 45) (h47 : ¬ l.getD 0 0 = 47) (ho : one l 0 = none) : lexR l = .error 0 := by
  have hps : pass l 0 = ((0 : Nat) : Int) := pass_stop hp hs (is2_no h45) (is2_no h47)
  unfold lexR
  rw [if_neg (by omega), lexF_none hps hp ho]

theorem raw_quoted34 (s : List UInt8) : raw (quoted 34 s) 0 = some (⟨2, s, 0⟩, (quoted 34 s).length) := by
  rw [raw_q34 (by unfold let1; rw [quoted_get]; decide) (by rw [quoted_get]; decide) rfl, quo_whole]; rfl
theorem raw_quoted39 (s : List UInt8) : raw (quoted 39 s) 0 = some (⟨4, s, 0⟩, (quoted 39 s).length) := by
  rw [raw_q39 (by unfold let1; rw [quoted_get]; decide) (by rw [quoted_get]; decide) (by rw [quoted_get]; decide) rfl, quo_whole]; rfl
theorem lex_quoted34 {s : List UInt8} (h : okLen s.length = true) : lexR (quoted 34 s) = .ok [⟨2, s, 0⟩] := by
  have hl : (quoted 34 s).length ≤ 2000 := by
    have := dbl_len 34 s
    unfold okLen at h
    simp at h
    simp [quoted]; omega
  exact lex_whole (quoted_pos _ _) hl (by rw [quoted_get]; decide) (by rw [quoted_get]; decide) (by rw [quoted_get]; decide) ((one_raw (raw_quoted34 s)).trans (if_pos h))
theorem lex_quoted39 {s : List UInt8} (h : s.length ≤ 40) : lexR (quoted 39 s) = .ok [⟨4, s, 0⟩] := by
  have hl : (quoted 39 s).length ≤ 2000 := by
    have := dbl_len 39 s
    simp [quoted]; omega
  exact lex_whole (quoted_pos _ _) hl (by rw [quoted_get]; decide) (by rw [quoted_get]; decide) (by rw [quoted_get]; decide) ((one_raw (raw_quoted39 s)).trans (if_pos (show decide (s.length ≤ 40) = true from decide_eq_true h)))
theorem lex_quoted39_long {s : List UInt8} (h : ¬ s.length ≤ 40) (h2 : s.length ≤ 900) : lexR (quoted 39 s) = .error 0 := by
  have hl : (quoted 39 s).length ≤ 2000 := by
    have := dbl_len 39 s
    simp [quoted]; omega
  exact lex_none_at (quoted_pos _ _) hl (by rw [quoted_get]; decide) (by rw [quoted_get]; decide) (by rw [quoted_get]; decide) ((one_raw (raw_quoted39 s)).trans (if_no (show decide (s.length ≤ 40) = false from decide_eq_false h)))

theorem runEnd_all {l : List UInt8} (h : allWd l = true) : ∀ (n a : Nat), l.length - a = n → a ≤ l.length → runEnd l a = l.length
  | 0, a, h1, h2 => by rw [runEnd_out (by omega)]; omega
  | n + 1, a, h1, h2 => by
    have hw : wd ((l.getD a 0).toNat : Int) = true := by
      unfold allWd at h
      rw [List.all_eq_true] at h
      refine h (l.getD a 0) ?_
      rw [List.getD_eq_getElem?_getD, List.getElem?_eq_getElem (show a < l.length by omega)]
      exact List.getElem_mem _
    rw [runEnd_yes (by omega) hw]
    exact runEnd_all h n (a + 1) (by omega) (by omega)
theorem lex_plain {s : List UInt8} (h : plainB s = true) : lexR s = .ok [⟨2, s, 0⟩] := by
  unfold plainB at h
  simp only [Bool.and_eq_true, decide_eq_true_eq, Bool.not_eq_true'] at h
  obtain ⟨⟨⟨hok, hdg⟩, hall⟩, hnum⟩ := h
  have hlen : 1 ≤ s.length ∧ s.length ≤ 20 := by unfold okLen at hok; simp at hok; omega
  have hw : wd ((s.getD 0 0).toNat : Int) = true := by
    unfold allWd at hall
    rw [List.all_eq_true] at hall
    refine hall (s.getD 0 0) ?_
    rw [List.getD_eq_getElem?_getD, List.getElem?_eq_getElem (show 0 < s.length by omega)]
    exact List.getElem_mem _
  have hlet : let1 s 0 = true := by
    rw [lwd_eq, hdg, Bool.or_false] at hw
    exact hw
  have hrun := runEnd_all hall _ 0 rfl (by omega)
  have hsl : sl s 0 s.length = s := by simp [sl]
  have hraw : raw s 0 = some (⟨2, s, 0⟩, s.length) := by
    rw [raw_name hlet (by rw [hrun, hsl, hnum]; omega), hrun, hsl]
  have hnb : ∀ c : UInt8, wd (c.toNat : Int) = false → ¬ s.getD 0 0 = c := fun c hc e => by rw [e, hc] at hw; cases hw
  have hsp : spB (s.getD 0 0) = false := by
    cases hs : spB (s.getD 0 0)
    · rfl
    · unfold spB at hs
      simp only [Bool.or_eq_true, beq_iff_eq] at hs
      rcases hs with ((hs | hs) | hs) | hs
      · exact absurd hs (hnb 32 (by decide))
      · exact absurd hs (hnb 9 (by decide))
      · exact absurd hs (hnb 10 (by decide))
      · exact absurd hs (hnb 13 (by decide))
  exact lex_whole (by omega) (by omega) hsp (hnb 45 (by decide)) (hnb 47 (by decide)) ((one_raw hraw).trans (if_pos hok))
/-- a name is read from its text -/
theorem lex_name {s : List UInt8} (h : okLen s.length = true) : lexR (nameL s) = .ok [⟨2, s, 0⟩] := by
  unfold nameL
  rw [if_pos h]
  split
  · rename_i hp
    exact lex_plain hp
  · exact lex_quoted34 h
/-- the text is the name itself just if the name is plain -/
theorem name_eq {s : List UInt8} (h : okLen s.length = true) : decide (nameL s = s) = plainB s := by
  unfold nameL
  rw [if_pos h]
  cases hp : plainB s
  · rw [if_neg (by simp)]
    refine decide_eq_false (fun e => ?_)
    have hl := congrArg List.length e
    have : ∀ (l : List UInt8), l.length ≤ (dbl 34 l).length := fun l => by
      induction l with
      | nil => simp [dbl]
      | cons b l ih =>
        by_cases hb : b = 34
        · subst hb; rw [dbl_eq]; simp; omega
        · rw [dbl_ne hb]; simp; omega
    have h3 := this s
    simp [quoted] at hl
    omega
  · rw [if_pos rfl]; exact decide_eq_true rfl
end Go.Proofs.YtcadoplfgclbjaaDoor
