/- Joined texts: Key Fold KeyOf NameDef NameOkI NameI NameS. -/
import Derived.Test.YtcadoplfgclbjaaDoorQA
/- Contracts of the map of keywords and of Fold, program and model. -/
namespace Go.Proofs.YtcadoplfgclbjaaDoor
open Go.RowKit Go.Maps

/-- a store of the map's making, which cannot fail -/
theorem wpList_insert_own {H : Type} {P : Program} (w : World) {ops : Array Oper} {rest : List Oper} {o : Oper} {a : Act} {Q : Exit → Act → World → Prop}
    (hg : o.guard = none) (m x v : Operand) (t : TypeId) (hop : o.op = Op.insert t m x v)
    (k e : TypeId) (K : Keyed P k) (ht : P.underlying t = some (.map k e)) (R : Value → Option (DataW H × List MemPlace)) (b n : Nat) (D : DataW H)
    (hm : a.eval m = .map (some b)) (hown : w.ownsMap P k R b n D) (hn : n < maxLen) (key val : Value) (kl : Lit) (hx : a.eval x = key) (hv : a.eval v = val) (hkey : keyOf P k key = some kl)
    (d : DataW H) (ps : List MemPlace) (hval : R val = some (d, ps))
    (hK : ∀ w', w'.ownsMap P k R b (n + 1) (D.put kl d) → w.grownBy w' (some b) → wpList P ops Q rest (a.put o.dst undef) w') :
    wpList P ops Q (o :: rest) a w := by
  refine wpList_plain hg fun K' hK' => ?_
  obtain ⟨w', hrun, r1, r2⟩ := hown.update K ht hn hkey hval
  unfold Oper.wp
  simp [execOp, hop, hm, hx, hv, hrun, Result.andThen]
  exact hK' _ _ (hK w' r1 r2)

theorem lawS : Keyed Tryd.prog 9 := string_keyed Tryd.underlying9
theorem zeroI (w : World) : (zeroValue 3).run Tryd.prog w = .ok (.int .i64 0) w := by kernel_rfl

/-- block b is the map of the first k keywords -/
def KwAt (w0 : World) (b k : Nat) (w : World) : Prop := w.ownsMap Tryd.prog 9 (plainElem Tryd.prog 3) b k (kwD k) ∧ w0.grownBy w (some b)
theorem wpList_kw {w0 w : World} {ops : Array Oper} {rest : List Oper} {o : Oper} {a : Act} {Q : Exit → Act → World → Prop} (k b : Nat) (hk : k < 28) (m : Operand)
    (hg : o.guard = none) (hop : o.op = Op.insert 83 m (.const (.string (wordB (k + 1)))) (.const (.int .i64 ((k + 1 : Nat) : Int)))) (hm : a.eval m = .map (some b)) (h : KwAt w0 b k w)
    (hK : ∀ w', KwAt w0 b (k + 1) w' → wpList Tryd.prog ops Q rest (a.put o.dst undef) w') : wpList Tryd.prog ops Q (o :: rest) a w := by
  have hl : (wordB (k + 1)).size ≤ maxLen := by
    have := word_len (k := k + 1) (by omega)
    show (word (k + 1)).length ≤ maxLen
    unfold maxLen; omega
  refine wpList_insert_own w hg m _ _ 83 hop 9 3 lawS Tryd.underlying83 _ b k (kwD k) hm h.1 (by unfold maxLen; omega) _ _ (.string (word (k + 1))) rfl rfl (Go.WideMaps.keyOf_string_mk Tryd.underlying9 hl) (.lit (.int .i64 ((k + 1 : Nat) : Int))) [] (plainElem_int Tryd.underlying3 (WalkArith.wf_i64 (by omega))) ?_
  intro w' h1 h2
  exact hK w' ⟨h1, h.2.trans h2⟩

set_option maxRecDepth 100000 in
set_option maxHeartbeats 1200000 in
theorem keywords_impl (w : World) :
    Calls Tryd.prog 89 #[] w fun e w' => e = .returned (.map (some w.heap.size)) ∧ w'.ownsMap Tryd.prog 9 (plainElem Tryd.prog 3) w.heap.size 28 (kwD 28) ∧ Below w.heap.size w w' := by
  have hmm := @run_makeMap Tryd.prog
  have h0 : KwAt (w.alloc (.map #[] 0)) w.heap.size 0 (w.alloc (.map #[] 0)) := ⟨World.ownsMap_made _ _ _ _, ⟨rfl, rfl, rfl, Nat.le_refl _, fun _ _ _ => rfl⟩⟩
  go_enter Tryd.func89, Tryd.ntmps89
  go_wp2_with (refine wpList_kw 0 w.heap.size (by omega) (.tmp 1) rfl rfl rfl h0 ?_; intro w1 h1; refine wpList_kw 1 w.heap.size (by omega) (.tmp 1) rfl rfl rfl h1 ?_; intro w2 h2; refine wpList_kw 2 w.heap.size (by omega) (.tmp 1) rfl rfl rfl h2 ?_; intro w3 h3; refine wpList_kw 3 w.heap.size (by omega) (.tmp 1) rfl rfl rfl h3 ?_; intro w4 h4; refine wpList_kw 4 w.heap.size (by omega) (.tmp 1) rfl rfl rfl h4 ?_; intro w5 h5; refine wpList_kw 5 w.heap.size (by omega) (.tmp 1) rfl rfl rfl h5 ?_; intro w6 h6; refine wpList_kw 6 w.heap.size (by omega) (.tmp 1) rfl rfl rfl h6 ?_; intro w7 h7; refine wpList_kw 7 w.heap.size (by omega) (.tmp 1) rfl rfl rfl h7 ?_; intro w8 h8; refine wpList_kw 8 w.heap.size (by omega) (.tmp 1) rfl rfl rfl h8 ?_; intro w9 h9; refine wpList_kw 9 w.heap.size (by omega) (.tmp 1) rfl rfl rfl h9 ?_; intro w10 h10; refine wpList_kw 10 w.heap.size (by omega) (.tmp 1) rfl rfl rfl h10 ?_; intro w11 h11; refine wpList_kw 11 w.heap.size (by omega) (.tmp 1) rfl rfl rfl h11 ?_; intro w12 h12; refine wpList_kw 12 w.heap.size (by omega) (.tmp 1) rfl rfl rfl h12 ?_; intro w13 h13; refine wpList_kw 13 w.heap.size (by omega) (.tmp 1) rfl rfl rfl h13 ?_; intro w14 h14; refine wpList_kw 14 w.heap.size (by omega) (.tmp 1) rfl rfl rfl h14 ?_; intro w15 h15; refine wpList_kw 15 w.heap.size (by omega) (.tmp 1) rfl rfl rfl h15 ?_; intro w16 h16; refine wpList_kw 16 w.heap.size (by omega) (.tmp 1) rfl rfl rfl h16 ?_; intro w17 h17; refine wpList_kw 17 w.heap.size (by omega) (.tmp 1) rfl rfl rfl h17 ?_; intro w18 h18; refine wpList_kw 18 w.heap.size (by omega) (.tmp 1) rfl rfl rfl h18 ?_; intro w19 h19; refine wpList_kw 19 w.heap.size (by omega) (.tmp 1) rfl rfl rfl h19 ?_; intro w20 h20; refine wpList_kw 20 w.heap.size (by omega) (.tmp 1) rfl rfl rfl h20 ?_; intro w21 h21; refine wpList_kw 21 w.heap.size (by omega) (.tmp 1) rfl rfl rfl h21 ?_; intro w22 h22; refine wpList_kw 22 w.heap.size (by omega) (.tmp 1) rfl rfl rfl h22 ?_; intro w23 h23; refine wpList_kw 23 w.heap.size (by omega) (.tmp 1) rfl rfl rfl h23 ?_; intro w24 h24; refine wpList_kw 24 w.heap.size (by omega) (.tmp 1) rfl rfl rfl h24 ?_; intro w25 h25; refine wpList_kw 25 w.heap.size (by omega) (.tmp 1) rfl rfl rfl h25 ?_; intro w26 h26; refine wpList_kw 26 w.heap.size (by omega) (.tmp 1) rfl rfl rfl h26 ?_; intro w27 h27; refine wpList_kw 27 w.heap.size (by omega) (.tmp 1) rfl rfl rfl h27 ?_; intro w28 h28)
  go_ret
  exact ⟨rfl, h28.1, ((Below.refl _ _).alloc (Nat.le_refl _) _).grown h28.2 (by simp) (fun j hj => by cases hj; exact Nat.le_refl _)⟩
end Go.Proofs.YtcadoplfgclbjaaDoor

/- Contracts of Fold, program and model. -/
namespace Go.Proofs.YtcadoplfgclbjaaDoor
open Go.RowKit

theorem upL_getD (l : List UInt8) (j : Nat) : upB (l.getD j 0) = (upL l).getD j 0 := by
  unfold upL
  rw [List.getD_eq_getElem?_getD, List.getD_eq_getElem?_getD, List.getElem?_map]
  cases l[j]? <;> rfl

set_option maxRecDepth 100000 in
set_option maxHeartbeats 400000 in
theorem fold_impl (s : ByteArray) (w : World) (hs : s.size ≤ 9223372036854775807) :
    Calls Tryd.prog 68 #[.string s] w (StrE (upL s.data.toList) w) := by
  have hcv := run_bytes_of_string (P := Tryd.prog) w 9 22 5 s Tryd.underlying9 Tryd.underlying22 Tryd.underlying5
  obtain ⟨w1, hw1⟩ : ∃ w1, w1 = w.drew.alloc (.cells (bytesRow s (grownCap w s.size 0 5)) 5 ((bytesRow s (grownCap w s.size 0 5)).size, (bytesRow s (grownCap w s.size 0 5)).size + 1)) := ⟨_, rfl⟩
  rw [← hw1] at hcv
  have hrow : ByteRow w1 w.heap.size s.size (fun j => s.data.toList.getD j 0) := hw1 ▸ bytesRow_of w s _ 5 _ rfl
  have hbel : Below w.heap.size w w1 := hw1 ▸ (Below.refl _ _).drew.alloc (Nat.le_refl _) _
  clear hw1
  generalize grownCap w s.size 0 5 = cap at hcv
  go_enter Tryd.func68, Tryd.ntmps68
  go_wp2
  go_loopw [10] (fun i wr => ∃ k : Nat, k ≤ s.size ∧ i = .int .i64 (k : Int) ∧ ByteRow wr w.heap.size s.size (mixB k (fun j => upB (s.data.toList.getD j 0)) (fun j => s.data.toList.getD j 0)) ∧ Below w.heap.size w wr) (fun i _ => s.size - (intOf i).toNat)
  case atStart => exact ⟨0, by omega, rfl, hrow.start, hbel⟩
  case round =>
    obtain ⟨k, hk, rfl, hr, hb⟩ := hrel
    clear hrow hbel hcv
    by_cases hlt : k < s.size
    · have hlt2 : (k : Int) < (s.size : Int) := by omega
      obtain ⟨hc, hf⟩ := hr.2 k hlt
      rw [mixB_ge (by omega)] at hc
      obtain ⟨b, hbe⟩ : ∃ b, b = s.data.toList.getD k 0 := ⟨_, rfl⟩
      rw [← hbe] at hc
      obtain ⟨n, hn⟩ : ∃ n : Int, n = (b.toNat : Int) := ⟨_, rfl⟩
      rw [← hn] at hc
      have hn0 : 0 ≤ n := by omega
      have hn1 : n ≤ 255 := by have := b.toNat_lt; omega
      by_cases h1 : 97 ≤ n
      · by_cases h2 : n ≤ 122
        · have hput := hr.put (x := n - 97 + 65) (by show _ = ((upB (s.data.toList.getD k 0)).toNat : Int); rw [← hbe, upB_low (by omega) (by omega)]; omega)
          have hbel2 := hb.setCell (p := ⟨w.heap.size, k, none⟩) (Nat.le_refl _) (.int .u8 (n - 97 + 65))
          have HE := Lib.hid hbe; have HN := Lib.hid hn; clear hbe hn
          go_wp2_with fail
          go_roundw
          case rel => exact ⟨k + 1, by omega, by go_num, hput, hbel2⟩
          case measure => simp [intOf]; omega
        · have hput := hr.stay (by show upB (s.data.toList.getD k 0) = s.data.toList.getD k 0; rw [← hbe]; exact upB_else (by omega))
          have HE := Lib.hid hbe; have HN := Lib.hid hn; clear hbe hn
          go_wp2_with fail
          go_roundw
          case rel => exact ⟨k + 1, by omega, by go_num, hput, hb⟩
          case measure => simp [intOf]; omega
      · have hput := hr.stay (by show upB (s.data.toList.getD k 0) = s.data.toList.getD k 0; rw [← hbe]; exact upB_else (by omega))
        have HE := Lib.hid hbe; have HN := Lib.hid hn; clear hbe hn
        go_wp2_with fail
        go_roundw
        case rel => exact ⟨k + 1, by omega, by go_num, hput, hb⟩
        case measure => simp [intOf]; omega
    · have e : k = s.size := by omega
      subst e
      have hcv2 := fun cap => ByteRow.string (P := Tryd.prog) (cap := cap) (src := 22) (dst := 9) hr (upL_len s.data.toList) (fun j hj => by rw [mixB_lt hj]; exact upL_getD _ j) Tryd.underlying22 Tryd.underlying5 Tryd.underlying9
      go_wp2_with fail
      go_ret
      exact ⟨rfl, hb⟩

set_option maxRecDepth 100000 in
set_option maxHeartbeats 400000 in
theorem fold_spec (s : ByteArray) (w : World) (hs : s.size ≤ 9223372036854775807) :
    Calls Tryd.prog 33 #[.string s] w (StrE (upL s.data.toList) w) := by
  have hcv := run_bytes_of_string (P := Tryd.prog) w 9 22 5 s Tryd.underlying9 Tryd.underlying22 Tryd.underlying5
  obtain ⟨w1, hw1⟩ : ∃ w1, w1 = w.drew.alloc (.cells (bytesRow s (grownCap w s.size 0 5)) 5 ((bytesRow s (grownCap w s.size 0 5)).size, (bytesRow s (grownCap w s.size 0 5)).size + 1)) := ⟨_, rfl⟩
  rw [← hw1] at hcv
  have hrow : ByteRow w1 w.heap.size s.size (fun j => s.data.toList.getD j 0) := hw1 ▸ bytesRow_of w s _ 5 _ rfl
  have hbel : Below w.heap.size w w1 := hw1 ▸ (Below.refl _ _).drew.alloc (Nat.le_refl _) _
  clear hw1
  generalize grownCap w s.size 0 5 = cap at hcv
  go_enter Tryd.func33, Tryd.ntmps33
  go_wp2
  go_loopw [4] (fun i wr => ∃ k : Nat, k ≤ s.size ∧ i = .int .i64 (k : Int) ∧ ByteRow wr w.heap.size s.size (mixB k (fun j => upB (s.data.toList.getD j 0)) (fun j => s.data.toList.getD j 0)) ∧ Below w.heap.size w wr) (fun i _ => s.size - (intOf i).toNat)
  case atStart => exact ⟨0, by omega, rfl, hrow.start, hbel⟩
  case round =>
    obtain ⟨k, hk, rfl, hr, hb⟩ := hrel
    clear hrow hbel hcv
    by_cases hlt : k < s.size
    · have hlt2 : (k : Int) < (s.size : Int) := by omega
      obtain ⟨hc, hf⟩ := hr.2 k hlt
      rw [mixB_ge (by omega)] at hc
      obtain ⟨b, hbe⟩ : ∃ b, b = s.data.toList.getD k 0 := ⟨_, rfl⟩
      rw [← hbe] at hc
      obtain ⟨n, hn⟩ : ∃ n : Int, n = (b.toNat : Int) := ⟨_, rfl⟩
      rw [← hn] at hc
      have hn0 : 0 ≤ n := by omega
      have hn1 : n ≤ 255 := by have := b.toNat_lt; omega
      by_cases h1 : 97 ≤ n
      · by_cases h2 : n ≤ 122
        · have hput := hr.put (x := n - 32) (by show _ = ((upB (s.data.toList.getD k 0)).toNat : Int); rw [← hbe, upB_low (by omega) (by omega)]; omega)
          have hbel2 := hb.setCell (p := ⟨w.heap.size, k, none⟩) (Nat.le_refl _) (.int .u8 (n - 32))
          have HE := Lib.hid hbe; have HN := Lib.hid hn; clear hbe hn
          go_wp2_with fail
          go_roundw
          case rel => exact ⟨k + 1, by omega, by go_num, hput, hbel2⟩
          case measure => simp [intOf]; omega
        · have hput := hr.stay (by show upB (s.data.toList.getD k 0) = s.data.toList.getD k 0; rw [← hbe]; exact upB_else (by omega))
          have HE := Lib.hid hbe; have HN := Lib.hid hn; clear hbe hn
          go_wp2_with fail
          go_roundw
          case rel => exact ⟨k + 1, by omega, by go_num, hput, hb⟩
          case measure => simp [intOf]; omega
      · have hput := hr.stay (by show upB (s.data.toList.getD k 0) = s.data.toList.getD k 0; rw [← hbe]; exact upB_else (by omega))
        have HE := Lib.hid hbe; have HN := Lib.hid hn; clear hbe hn
        go_wp2_with fail
        go_roundw
        case rel => exact ⟨k + 1, by omega, by go_num, hput, hb⟩
        case measure => simp [intOf]; omega
    · have e : k = s.size := by omega
      subst e
      have hcv2 := fun cap => ByteRow.string (P := Tryd.prog) (cap := cap) (src := 22) (dst := 9) hr (upL_len s.data.toList) (fun j hj => by rw [mixB_lt hj]; exact upL_getD _ j) Tryd.underlying22 Tryd.underlying5 Tryd.underlying9
      go_wp2_with fail
      go_ret
      exact ⟨rfl, hb⟩
end Go.Proofs.YtcadoplfgclbjaaDoor

/- Contracts of KeyOf, program and model, and of the list of keywords. -/
namespace Go.Proofs.YtcadoplfgclbjaaDoor
open Go.RowKit Go.Maps

theorem ownsMap_below {H : Type} {P : Program} {k : TypeId} {R : Value → Option (DataW H × List MemPlace)} {w w' : World} {b n B : Nat} {D : DataW H} (h : w.ownsMap P k R b n D) (hb : Below B w w') (hB : b < B) : w'.ownsMap P k R b n D := by
  obtain ⟨es, clock, h1, F, hs, hD⟩ := h
  exact ⟨es, clock, (hb.block b hB).trans h1, F, hs, hD⟩

set_option maxRecDepth 100000 in
set_option maxHeartbeats 400000 in
theorem keyOf_impl (s : ByteArray) (w : World) (hs : s.size ≤ maxLen) :
    Calls Tryd.prog 67 #[.string s] w (IntE (numOf (upL s.data.toList) : Int) w) := by
  have hs2 : s.size ≤ 9223372036854775807 := by unfold maxLen at hs; omega
  have hk : (⟨(upL s.data.toList).toArray⟩ : ByteArray).size ≤ maxLen := by
    show (upL s.data.toList).length ≤ maxLen
    rw [upL_len]; exact hs
  go_enter Tryd.func67, Tryd.ntmps67
  go_wp2_with fail
  refine (keywords_impl _).mono ?_
  rintro e w1 ⟨rfl, hown, hb⟩
  go_wp2_with fail
  refine (fold_impl s w1 hs2).mono ?_
  rintro e w2 ⟨rfl, hb2⟩
  have hown2 := ownsMap_below hown hb2 hown.lt
  have hbb := hb.trans (hb2.mono hb.size)
  go_wp2_with (at_lookup; refine wpList_lookup_own_int _ rfl _ _ 83 rfl 9 3 .i64 lawS Tryd.underlying83 Tryd.underlying3 (zeroI _) w.heap.size 28 _ rfl hown2 _ _ rfl (Go.WideMaps.keyOf_string_mk Tryd.underlying9 hk) ?_; intro c hat hwc)
  go_ret
  have hat2 : (kwD 28).atKey (.string (upL s.data.toList)) (.lit (.int .i64 0)) = .lit (.int .i64 c) := hat
  exact ⟨ret_i64 (kw_num hat2), hbb⟩

set_option maxRecDepth 100000 in
set_option maxHeartbeats 400000 in
theorem words_spec (w : World) :
    Calls Tryd.prog 54 #[] w fun e w' => e = .returned (.slice (some ⟨w.heap.size, 0, none⟩) 29 29) ∧ StrRow w' w.heap.size 29 wordB ∧ Below w.heap.size w w' := by
  go_enter Tryd.func54, Tryd.ntmps54
  go_wp2
  go_ret
  refine ⟨rfl, ⟨by simp, fun j hj => ⟨?_, frozen_of_row _ w.heap.size j _ 9 (heap_alloc_new w _)⟩⟩, (Below.refl _ _).alloc (Nat.le_refl _) _⟩
  rw [cell_of_row _ w.heap.size j _ 9 (0, 0) (heap_alloc_new w _)]
  rcases (show j = 0 ∨ j = 1 ∨ j = 2 ∨ j = 3 ∨ j = 4 ∨ j = 5 ∨ j = 6 ∨ j = 7 ∨ j = 8 ∨ j = 9 ∨ j = 10 ∨ j = 11 ∨ j = 12 ∨ j = 13 ∨ j = 14 ∨ j = 15 ∨ j = 16 ∨ j = 17 ∨ j = 18 ∨ j = 19 ∨ j = 20 ∨ j = 21 ∨ j = 22 ∨ j = 23 ∨ j = 24 ∨ j = 25 ∨ j = 26 ∨ j = 27 ∨ j = 28 by omega) with rfl | rfl | rfl | rfl | rfl | rfl | rfl | rfl | rfl | rfl | rfl | rfl | rfl | rfl | rfl | rfl | rfl | rfl | rfl | rfl | rfl | rfl | rfl | rfl | rfl | rfl | rfl | rfl | rfl <;> rfl

theorem word_eq {k : Nat} {F : ByteArray} {l : List UInt8} (hF : F = ⟨l.toArray⟩) : ((wordB k).toList == F.toList) = decide (word k = l) := by
  subst hF
  by_cases h : word k = l
  · rw [decide_eq_true h, Lib.bytes_beq_iff]
    unfold wordB; rw [h]
  · rw [decide_eq_false h, Lib.bytes_beq_false_iff]
    intro e
    exact h (by have := congrArg (fun b : ByteArray => b.data.toList) e; simpa [wordB] using this)

set_option maxRecDepth 100000 in
set_option maxHeartbeats 400000 in
theorem keyOf_spec (s : ByteArray) (w : World) (hs : s.size ≤ maxLen) :
    Calls Tryd.prog 32 #[.string s] w (IntE (numOf (upL s.data.toList) : Int) w) := by
  have hs2 : s.size ≤ 9223372036854775807 := by unfold maxLen at hs; omega
  by_cases h8 : s.size ≤ 8
  · have hd : decide (8 < (s.size : Int)) = false := by simp; omega
    obtain ⟨l, hl⟩ : ∃ l, l = upL s.data.toList := ⟨_, rfl⟩
    rw [← hl]
    have HLL := Lib.hid hl; clear hl
    go_enter Tryd.func32, Tryd.ntmps32
    go_wp2_with fail
    refine (fold_spec s _ hs2).mono ?_
    rintro e w1 ⟨rfl, hb⟩
    obtain ⟨F, hF⟩ : ∃ F : ByteArray, F = ⟨l.toArray⟩ := ⟨_, rfl⟩
    rw [← HLL.out, ← hF]
    have HF := Lib.hid hF; clear hF
    go_wp2_with fail
    refine (words_spec w1).mono ?_
    rintro e w2 ⟨rfl, hrow, hb2⟩
    have hbb := hb.trans (hb2.mono hb.size)
    clear hb hb2
    go_wp2_with fail
    go_loopw [5] (fun i wr => ∃ k : Nat, 1 ≤ k ∧ k ≤ 29 ∧ i = .int .i64 (k : Int) ∧ Hid (∀ j, 1 ≤ j → j < k → word j ≠ l) ∧ StrRow wr w1.heap.size 29 wordB ∧ Below w.heap.size w wr) (fun i _ => 29 - (intOf i).toNat)
    case atStart => exact ⟨1, by omega, by omega, rfl, fun j h1 h2 => by omega, hrow, hbb⟩
    case round =>
      obtain ⟨k, hk1, hk, rfl, HN, hr, hb⟩ := hrel
      clear hrow hbb
      by_cases hlt : k < 29
      · have hlt2 : (k : Int) < 29 := by omega
        obtain ⟨hc, _⟩ := hr.2 k hlt
        have hq := word_eq (k := k) HF.out
        by_cases he : word k = l
        · rw [decide_eq_true he] at hq
          have HE := Lib.hid he; clear he
          go_wp2_with fail
          go_ret
          exact ⟨ret_i64 (by rw [num_of_word hk1 (by omega) HE.out]), hb⟩
        · rw [decide_eq_false he] at hq
          have HE := Lib.hid he; clear he
          go_wp2_with fail
          go_roundw
          case rel => exact ⟨k + 1, by omega, by omega, by go_num, fun j h1 h2 => by
            by_cases e : j = k
            · subst e; exact HE.out
            · exact HN.out j h1 (by omega), hr, hb⟩
          case measure => simp [intOf]; omega
      · have e : k = 29 := by omega
        subst e
        have hn : numOf l = 0 := by
          rcases num_cases l with h | ⟨h1, h2, h3⟩
          · exact h.1
          · exact absurd h3 (HN.out _ h1 (by omega))
        go_wp2_with fail
        go_ret
        exact ⟨ret_i64 (by rw [hn]; rfl), hb⟩
  · have hd : decide (8 < (s.size : Int)) = true := by simp; omega
    have hn : numOf (upL s.data.toList) = 0 := num_long (by rw [upL_len]; show 8 < s.size; omega)
    go_enter Tryd.func32, Tryd.ntmps32
    go_wp2
    go_ret
    exact ⟨ret_i64 (by rw [hn]; rfl), Below.refl _ _⟩
end Go.Proofs.YtcadoplfgclbjaaDoor

/- What a plain name is; plain facts. -/
namespace Go.Proofs.YtcadoplfgclbjaaDoor
open Go.RowKit

/-- all of l are letters, digits, underscores -/
def allWd (l : List UInt8) : Bool := l.all fun b => wd (b.toNat : Int)
theorem str_at {s : ByteArray} {k : Nat} (h : k < s.size) : s[k] = s.data.toList.getD k 0 := by
  have h' : k < s.data.size := h
  have e : s[k] = s.data[k] := rfl
  rw [e]
  simp [List.getD_eq_getElem?_getD, Array.getElem?_eq_getElem h']
theorem allWd_false {l : List UInt8} {k : Nat} (h : k < l.length) (hw : wd ((l.getD k 0).toNat : Int) = false) : allWd l = false := by
  unfold allWd
  rw [List.all_eq_false]
  refine ⟨l.getD k 0, ?_, by rw [hw]; simp⟩
  rw [List.getD_eq_getElem?_getD, List.getElem?_eq_getElem h]
  exact List.getElem_mem h
theorem allWd_true {l : List UInt8} (hw : ∀ k, k < l.length → wd ((l.getD k 0).toNat : Int) = true) : allWd l = true := by
  unfold allWd
  rw [List.all_eq_true]
  intro b hb
  obtain ⟨k, hk, rfl⟩ := List.getElem_of_mem hb
  have := hw k hk
  rwa [List.getD_eq_getElem?_getD, List.getElem?_eq_getElem hk] at this

theorem wd_more {l : List UInt8} {k : Nat} (H : Hid (∀ j, j < k → wd ((l.getD j 0).toNat : Int) = true)) (h : wd ((l.getD k 0).toNat : Int) = true) : Hid (∀ j, j < k + 1 → wd ((l.getD j 0).toNat : Int) = true) := fun j hj => by
  by_cases e : j = k
  · subst e; exact h
  · exact H.out j (by omega)
theorem wd_eq (n : Int) : wd n = (ltr n || n == 95 || dg n) := by unfold wd; rw [Bool.or_assoc, Bool.or_assoc, Bool.or_comm (dg n)]

/-- 1 to 20 bytes -/
def okLen (n : Nat) : Bool := decide (1 ≤ (n : Int)) && decide ((n : Int) ≤ 20)
/-- a plain name -/
def plainB (l : List UInt8) : Bool := okLen l.length && !dg ((l.getD 0 0).toNat : Int) && allWd l && decide (numOf (upL l) = 0)
end Go.Proofs.YtcadoplfgclbjaaDoor

/- The contract of NameOk in the program. -/
namespace Go.Proofs.YtcadoplfgclbjaaDoor
open Go.RowKit

set_option maxHeartbeats 400000 in
theorem nameOk_impl (s : ByteArray) (w : World) (_hs : s.size ≤ 9223372036854775807) : Calls Tryd.prog 69 #[.string s] w (PureE (.bool (okLen s.size)) w) := by
  have hE : okLen s.size = (decide (1 ≤ (s.size : Int)) && decide ((s.size : Int) ≤ 20)) := rfl
  by_cases h0 : 1 ≤ (s.size : Int)
  · have d0 : decide (1 ≤ (s.size : Int)) = true := by simpa using h0
    by_cases h1 : (s.size : Int) ≤ 20
    · have d1 : decide ((s.size : Int) ≤ 20) = true := by simpa using h1
      rw [d0, d1] at hE
      have HE := Lib.hid hE; clear hE
      go_enter Tryd.func69, Tryd.ntmps69
      go_wp2
      go_ret
      exact pure_bool (by rw [HE.out]; rfl)
    · have d1 : decide ((s.size : Int) ≤ 20) = false := by simpa using h1
      rw [d0, d1] at hE
      have HE := Lib.hid hE; clear hE
      go_enter Tryd.func69, Tryd.ntmps69
      go_wp2
      go_ret
      exact pure_bool (by rw [HE.out]; rfl)
  · have d0 : decide (1 ≤ (s.size : Int)) = false := by simpa using h0
    rw [d0] at hE
    have HE := Lib.hid hE; clear hE
    go_enter Tryd.func69, Tryd.ntmps69
    go_wp2
    go_ret
    exact pure_bool (by rw [HE.out]; rfl)
end Go.Proofs.YtcadoplfgclbjaaDoor

/- Contracts of the tests on plain names in the program. -/
namespace Go.Proofs.YtcadoplfgclbjaaDoor
open Go.RowKit

set_option maxHeartbeats 400000 in
theorem isWordByte_any (n : Int) (w : World) : Calls Tryd.prog 63 #[.int .u8 n] w (PureE (.bool (wd n)) w) := by
  have hL := isLetter_any n w
  have hD := isDigit_any n w
  have hE : wd n = (ltr n || dg n || n == 95) := rfl
  go_enter Tryd.func63, Tryd.ntmps63
  go_wp2_with fail
  refine hL.mono ?_
  rintro e w1 ⟨rfl, rfl⟩
  clear hL
  cases h1 : ltr n
  · rw [h1] at hE
    go_wp2_with fail
    refine hD.mono ?_
    rintro e w2 ⟨rfl, rfl⟩
    clear hD
    cases h2 : dg n
    · rw [h2] at hE
      by_cases h3 : n = 95
      · have d3 : (n == 95) = true := by simpa using h3
        rw [d3] at hE
        have HE := Lib.hid hE; clear hE h3
        go_wp2_with fail
        go_ret
        exact pure_bool (by rw [HE.out]; rfl)
      · have d3 : (n == 95) = false := by simpa using h3
        rw [d3] at hE
        have HE := Lib.hid hE; clear hE h3
        go_wp2_with fail
        go_ret
        exact pure_bool (by rw [HE.out]; rfl)
    · rw [h2] at hE
      have HE := Lib.hid hE; clear hE
      go_wp2_with fail
      go_ret
      exact pure_bool (by rw [HE.out]; rfl)
  · rw [h1] at hE
    have HE := Lib.hid hE; clear hE
    go_wp2_with fail
    go_ret
    exact pure_bool (by rw [HE.out]; rfl)

set_option maxRecDepth 100000 in
set_option maxHeartbeats 400000 in
theorem allWord_impl (s : ByteArray) (w : World) (hs : s.size ≤ 9223372036854775807) :
    Calls Tryd.prog 80 #[.string s] w (PureE (.bool (allWd s.data.toList)) w) := by
  go_enter Tryd.func80, Tryd.ntmps80
  go_wp2
  go_loopw [6] (fun i wr => ∃ k : Nat, k ≤ s.size ∧ i = .int .i64 (k : Int) ∧ Hid (∀ j, j < k → wd ((s.data.toList.getD j 0).toNat : Int) = true) ∧ wr = w) (fun i _ => s.size - (intOf i).toNat)
  case atStart => exact ⟨0, by omega, rfl, fun j hj => by omega, rfl⟩
  case round =>
    obtain ⟨k, hk, rfl, HW, rfl⟩ := hrel
    by_cases hlt : k < s.size
    · have hlt2 : (k : Int) < (s.size : Int) := by omega
      cases h1 : wd ((s.data.toList.getD k 0).toNat : Int)
      · have hf := allWd_false (l := s.data.toList) (k := k) hlt h1
        go_wp2_with fail
        refine (isWordByte_any _ _).mono ?_
        rintro e w1 ⟨rfl, rfl⟩
        rw [str_at hlt, h1]
        have HF := Lib.hid hf; clear hf h1
        go_wp2_with fail
        go_ret
        exact pure_bool HF.out.symm
      · go_wp2_with fail
        refine (isWordByte_any _ _).mono ?_
        rintro e w1 ⟨rfl, rfl⟩
        rw [str_at hlt, h1]
        have HW2 : Hid (∀ j, j < k + 1 → wd ((s.data.toList.getD j 0).toNat : Int) = true) := fun j hj => by
          by_cases e : j = k
          · subst e; exact h1
          · exact HW.out j (by omega)
        clear h1
        go_wp2_with fail
        go_roundw
        case rel => exact ⟨k + 1, by omega, by go_num, HW2, trivial⟩
        case measure => simp [intOf]; omega
    · have e : k = s.size := by omega
      subst e
      go_wp2_with fail
      go_ret
      exact pure_bool (allWd_true HW.out).symm

set_option maxRecDepth 100000 in
set_option maxHeartbeats 400000 in
theorem plain_impl (s : ByteArray) (w : World) (hs : s.size ≤ 9223372036854775807) : Calls Tryd.prog 52 #[.string s] w (BoolE (plainB s.data.toList) w) := by
  have hE : plainB s.data.toList = (okLen s.size && !dg ((s.data.toList.getD 0 0).toNat : Int) && allWd s.data.toList && decide (numOf (upL s.data.toList) = 0)) := rfl
  have hN := fun w => nameOk_impl s w hs
  go_enter Tryd.func52, Tryd.ntmps52
  go_wp2_with fail
  refine (hN _).mono ?_
  rintro e w1 ⟨rfl, rfl⟩
  clear hN
  cases h1 : okLen s.size
  · rw [h1] at hE
    have HE := Lib.hid hE; clear hE h1
    go_wp2_with fail
    go_ret
    exact ⟨by rw [HE.out]; rfl, Below.refl _ _⟩
  · have h0 : 0 < s.size := by unfold okLen at h1; simp at h1; omega
    have h0i : (0 : Int) < (s.size : Int) := by omega
    cases h2 : dg ((s.data.toList.getD 0 0).toNat : Int)
    · rw [h1, h2] at hE
      clear h1
      go_wp2_with fail
      refine (isDigit_any _ _).mono ?_
      rintro e w1 ⟨rfl, rfl⟩
      rw [str_at h0, h2]
      clear h2
      go_wp2_with fail
      refine (allWord_impl s _ hs).mono ?_
      rintro e w1 ⟨rfl, rfl⟩
      cases h3 : allWd s.data.toList
      · rw [h3] at hE
        have HE := Lib.hid hE; clear hE h3
        go_wp2_with fail
        go_ret
        exact ⟨by rw [HE.out]; rfl, Below.refl _ _⟩
      · rw [h3] at hE
        clear h3
        have hk := fun w => keyOf_impl s w hs
        cases h4 : decide (numOf (upL s.data.toList) = 0)
        · rw [h4] at hE
          have h5 : ((numOf (upL s.data.toList) : Int) == 0) = false := by simp at h4 ⊢; omega
          generalize (numOf (upL s.data.toList) : Int) = N at hk h5
          have HE := Lib.hid hE; clear hE h4
          go_wp2_with fail
          refine (hk _).mono ?_
          rintro e w2 ⟨rfl, hb⟩
          go_wp2_with fail
          go_ret
          exact ⟨by rw [HE.out]; rfl, hb⟩
        · rw [h4] at hE
          have h5 : ((numOf (upL s.data.toList) : Int) == 0) = true := by simp at h4 ⊢; omega
          generalize (numOf (upL s.data.toList) : Int) = N at hk h5
          have HE := Lib.hid hE; clear hE h4
          go_wp2_with fail
          refine (hk _).mono ?_
          rintro e w2 ⟨rfl, hb⟩
          go_wp2_with fail
          go_ret
          exact ⟨by rw [HE.out]; rfl, hb⟩
    · rw [h1, h2] at hE
      clear h1
      have HE := Lib.hid hE; clear hE
      go_wp2_with fail
      refine (isDigit_any _ _).mono ?_
      rintro e w1 ⟨rfl, rfl⟩
      rw [str_at h0, h2]
      clear h2
      go_wp2_with fail
      go_ret
      exact ⟨by rw [HE.out]; rfl, Below.refl _ _⟩
end Go.Proofs.YtcadoplfgclbjaaDoor

/- Contracts of the tests on names in the model. -/
namespace Go.Proofs.YtcadoplfgclbjaaDoor
open Go.RowKit

theorem nameOk_spec (s : ByteArray) (w : World) (_hs : s.size ≤ 9223372036854775807) : Calls Tryd.prog 34 #[.string s] w (PureE (.bool (okLen s.size)) w) := by
  have hin := fun w => in_any (s.size : Int) 1 20 (okLen s.size) w (by unfold okLen; rw [Bool.decide_and])
  go_enter Tryd.func34, Tryd.ntmps34
  go_wp2_with fail
  refine (hin _).mono ?_
  rintro e w1 ⟨rfl, rfl⟩
  go_wp2_with fail
  go_ret
  exact pure_bool rfl

set_option maxRecDepth 100000 in
set_option maxHeartbeats 400000 in
theorem plain_spec (s : ByteArray) (w : World) (hs : s.size ≤ 9223372036854775807) : Calls Tryd.prog 53 #[.string s] w (BoolE (plainB s.data.toList) w) := by
  have hE : plainB s.data.toList = (okLen s.size && !dg ((s.data.toList.getD 0 0).toNat : Int) && allWd s.data.toList && decide (numOf (upL s.data.toList) = 0)) := rfl
  have hN := fun w => nameOk_spec s w hs
  go_enter Tryd.func53, Tryd.ntmps53
  go_wp2_with fail
  refine (hN _).mono ?_
  rintro e w1 ⟨rfl, rfl⟩
  clear hN
  cases h1 : okLen s.size
  · rw [h1] at hE
    have HE := Lib.hid hE; clear hE h1
    go_wp2_with fail
    go_ret
    exact ⟨by rw [HE.out]; rfl, Below.refl _ _⟩
  · have h0 : 0 < s.size := by unfold okLen at h1; simp at h1; omega
    have h0i : (0 : Int) < (s.size : Int) := by omega
    cases h2 : dg ((s.data.toList.getD 0 0).toNat : Int)
    · rw [h1, h2] at hE
      clear h1
      go_wp2_with fail
      refine (l2Figure_any _ _).mono ?_
      rintro e w1 ⟨rfl, rfl⟩
      rw [str_at h0, h2]
      clear h2
      have hk := fun w => keyOf_spec s w hs
      cases h4 : decide (numOf (upL s.data.toList) = 0)
      · rw [h4] at hE
        have h5 : decide (0 < (numOf (upL s.data.toList) : Int)) = true := by simp at h4 ⊢; omega
        generalize (numOf (upL s.data.toList) : Int) = N at hk h5
        have hE2 : plainB s.data.toList = false := by rw [hE]; simp
        have HE := Lib.hid hE2; clear hE hE2 h4
        go_wp2_with fail
        refine (hk _).mono ?_
        rintro e w2 ⟨rfl, hb⟩
        go_wp2_with fail
        go_ret
        exact ⟨by rw [HE.out]; rfl, hb⟩
      · rw [h4] at hE
        have h5 : decide (0 < (numOf (upL s.data.toList) : Int)) = false := by simp at h4 ⊢; omega
        generalize (numOf (upL s.data.toList) : Int) = N at hk h5
        have hE2 : plainB s.data.toList = allWd s.data.toList := by rw [hE]; simp
        have HE := Lib.hid hE2; clear hE hE2 h4
        go_wp2_with fail
        refine (hk _).mono ?_
        rintro e w2 ⟨rfl, hb⟩
        clear hk
        go_wp2_with fail
        go_loopw [3] (fun i wr => ∃ k : Nat, k ≤ s.size ∧ i = .int .i64 (k : Int) ∧ Hid (∀ j, j < k → wd ((s.data.toList.getD j 0).toNat : Int) = true) ∧ wr = w2) (fun i _ => s.size - (intOf i).toNat)
        case atStart => exact ⟨0, by omega, rfl, fun j hj => by omega, rfl⟩
        case round =>
          obtain ⟨k, hk, rfl, HW, rfl⟩ := hrel
          by_cases hlt : k < s.size
          · have hlt2 : (k : Int) < (s.size : Int) := by omega
            go_wp2_with fail
            refine (l2Letter_any _ _).mono ?_
            rintro e w1 ⟨rfl, rfl⟩
            rw [str_at hlt]
            cases h1 : (ltr ((s.data.toList.getD k 0).toNat : Int) || ((s.data.toList.getD k 0).toNat : Int) == 95)
            · go_wp2_with fail
              refine (l2Figure_any _ _).mono ?_
              rintro e w1 ⟨rfl, rfl⟩
              rw [str_at hlt]
              cases h2 : dg ((s.data.toList.getD k 0).toNat : Int)
              · have hf := allWd_false (l := s.data.toList) (k := k) hlt (by rw [wd_eq, h1, h2]; rfl)
                have HF := Lib.hid hf; clear hf h1 h2
                go_wp2_with fail
                go_ret
                exact ⟨by rw [HE.out, HF.out]; rfl, hb⟩
              · have HW2 := wd_more HW (by rw [wd_eq, h1, h2]; rfl)
                clear h1 h2
                go_wp2_with fail
                go_roundw
                case rel => exact ⟨k + 1, by omega, by go_num, HW2, trivial⟩
                case measure => simp [intOf]; omega
            · have HW2 := wd_more HW (by rw [wd_eq, h1]; simp)
              clear h1
              go_wp2_with fail
              go_roundw
              case rel => exact ⟨k + 1, by omega, by go_num, HW2, trivial⟩
              case measure => simp [intOf]; omega
          · have e : k = s.size := by omega
            subst e
            go_wp2_with fail
            go_ret
            exact ⟨by rw [HE.out, allWd_true HW.out]; rfl, hb⟩
    · rw [h1, h2] at hE
      clear h1
      have HE := Lib.hid hE; clear hE
      go_wp2_with fail
      refine (l2Figure_any _ _).mono ?_
      rintro e w1 ⟨rfl, rfl⟩
      rw [str_at h0, h2]
      clear h2
      go_wp2_with fail
      go_ret
      exact ⟨by rw [HE.out]; rfl, Below.refl _ _⟩
end Go.Proofs.YtcadoplfgclbjaaDoor
