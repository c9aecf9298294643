/- The walk of the law FnKeys. -/
import Derived.Test.YtpehplmkhmpgmaaBig
import Derived.Test.YtpehplmkhmpgmaaAt0
import Derived.Test.YtpehplmkhmpgmaaDrawName
import Derived.Test.YtpehplmkhmpgmaaKeyText
import Derived.Test.YtpehplmkhmpgmaaName
namespace Go.Proofs.Ytpehplmkhmpgmaa
open Go.RowKit

set_option maxRecDepth 100000 in
set_option maxHeartbeats 400000 in
theorem drawKeyText_any (B : Nat) (a : Option Addr) (len cap : Nat) (W : World) (H : RowB B a len W) (hB : B ≤ W.heap.size) :
    Calls Try.prog 10 #[.slice a len cap] W (GiveE .i64 (-1) 30 B W) := by
  go_enter Try.func10, Try.ntmps10
  go_wp2_with fail
  refine (new_any B a len cap _ H hB).mono ?_
  rintro e W1 ⟨rfl, hc, hb⟩
  have hz := hb.size
  go_wp2_with fail
  refine (below_any 32 B W.heap.size a len cap _ hc (by omega) (by omega)).mono ?_
  rintro e W2 ⟨x, hx0, hx1, rfl, hc2, hg2⟩
  have hbb := below_of_grown hb hg2 hB (by omega)
  go_wp2_with fail
  go_ret
  exact ⟨_, by omega, by omega, rfl, hbb⟩

set_option maxRecDepth 100000 in
set_option maxHeartbeats 400000 in
theorem drawPlain_any (B : Nat) (a : Option Addr) (len cap : Nat) (W : World) (H : RowB B a len W) (hB : B ≤ W.heap.size) :
    Calls Try.prog 12 #[.slice a len cap] W (StringE 24 B W) := by
  go_enter Try.func12, Try.ntmps12
  go_wp2_with fail
  refine (new_any B a len cap _ H hB).mono ?_
  rintro e W1 ⟨rfl, hc, hb⟩
  have hz := hb.size
  go_wp2_with fail
  refine (anyName_any B W.heap.size a len cap _ hc).mono ?_
  rintro e W2 ⟨S, hS, rfl, hc2, hg2⟩
  have hbb := below_of_grown hb hg2 hB (by omega)
  go_wp2_with fail
  go_ret
  exact ⟨S, hS, rfl, hbb⟩

theorem ByteRow.set {w : World} {g n i : Nat} {f : Nat → UInt8} {x : Int} (H : ByteRow w g n f) (b : UInt8) (hx : x = (b.toNat : Int)) : ByteRow (w.setCell ⟨g, i, none⟩ (.int .u8 x)) g n (fun j => if j = i then b else f j) := by
  subst hx
  refine ⟨by have := H.1; simpa using this, fun j hj => ?_⟩
  obtain ⟨h1, h2⟩ := H.2 j hj
  refine ⟨?_, by rw [World.frozen?_setCell]; exact h2⟩
  by_cases e : j = i
  · subst e
    rw [World.cell?_setCell_same _ _ _ h1]; simp
  · rw [World.cell?_setCell_other _ _ _ _ (fun x => e (Addr.mk.inj x).2.1.symm), h1]; simp [e]

/-- a letter in lower case -/
def lowB (b : UInt8) : UInt8 := UInt8.ofNat (b.toNat + 32)
theorem lowB_nat {b : UInt8} (h : b.toNat ≤ 90) : (lowB b).toNat = b.toNat + 32 := by unfold lowB; simp; omega
theorem upB_lowB {b : UInt8} (h0 : 65 ≤ b.toNat) (h : b.toNat ≤ 90) : upB (lowB b) = b := by
  apply UInt8.toNat_inj.1
  rw [upB_low (by rw [lowB_nat h]; omega) (by rw [lowB_nat h]; omega), lowB_nat h]; omega
theorem upB_upper {b : UInt8} (h : b.toNat ≤ 90) : upB b = b := upB_else (by omega)

/-- the row f is l, but for letters in lower case; from i on it is l -/
def Turned (l : List UInt8) (i : Nat) (f : Nat → UInt8) : Prop := ∀ j, j < l.length → upB (f j) = l.getD j 0 ∧ (i ≤ j → f j = l.getD j 0)
theorem getD_mem {l : List UInt8} {j : Nat} (h : j < l.length) : l.getD j 0 ∈ l := by
  rw [List.getD_eq_getElem?_getD, List.getElem?_eq_getElem h]; exact List.getElem_mem h
theorem turned_start {l : List UInt8} (hl : ∀ b ∈ l, 65 ≤ b.toNat ∧ b.toNat ≤ 90) : Turned l 0 (fun j => l.getD j 0) := fun _ hj => ⟨upB_upper (hl _ (getD_mem hj)).2, fun _ => rfl⟩
theorem turned_stay {l : List UInt8} {i : Nat} {f : Nat → UInt8} (h : Turned l i f) : Turned l (i + 1) f := fun j hj => ⟨(h j hj).1, fun hi => (h j hj).2 (by omega)⟩
theorem turned_low {l : List UInt8} {i : Nat} {f : Nat → UInt8} (hl : ∀ b ∈ l, 65 ≤ b.toNat ∧ b.toNat ≤ 90) (h : Turned l i f) : Turned l (i + 1) (fun j => if j = i then lowB (f i) else f j) := fun j hj => by
  by_cases e : j = i
  · subst e
    have hb := hl _ (getD_mem hj)
    refine ⟨?_, fun hi => by omega⟩
    show upB (if j = j then lowB (f j) else f j) = l.getD j 0
    rw [if_pos rfl, (h j hj).2 (Nat.le_refl _)]
    exact upB_lowB hb.1 hb.2
  · refine ⟨?_, fun hi => ?_⟩
    · show upB (if j = i then lowB (f i) else f j) = l.getD j 0
      rw [if_neg e]; exact (h j hj).1
    · show (if j = i then lowB (f i) else f j) = l.getD j 0
      rw [if_neg e]; exact (h j hj).2 (by omega)
theorem turned_end {l : List UInt8} {i : Nat} {f : Nat → UInt8} (h : Turned l i f) : upL ((List.range l.length).map f) = l := by
  apply List.ext_getElem
  · simp [upL]
  · intro j h1 h2
    have := (h j h2).1
    rw [List.getD_eq_getElem?_getD, List.getElem?_eq_getElem h2] at this
    simpa [upL] using this
theorem range_getD {n : Nat} {f : Nat → UInt8} {j : Nat} (h : j < n) : f j = ((List.range n).map f).getD j 0 := by
  simp [List.getD_eq_getElem?_getD, h]
theorem plain_key {l : List UInt8} (h : plainB l = true) : numOf (upL l) = 0 := by
  unfold plainB at h; simp at h; exact h.2
theorem word_not_plain {n : Nat} (h1 : 1 ≤ n) (h2 : n ≤ 28) : plainB (word n) = false := by
  have hu : upL (word n) = word n := by
    unfold upL
    conv => rhs; rw [← List.map_id (word n)]
    exact List.map_congr_left fun b hb => upB_upper (word_upper h2 b hb).2
  have hn := num_word h1 h2
  cases hp : plainB (word n)
  · rfl
  · have := plain_key hp
    rw [hu, hn] at this; omega

set_option maxRecDepth 100000 in
set_option maxHeartbeats 2000000 in
theorem keys_law (a : Option Addr) (len cap : Nat) (w : World) (hrow : RowB w.heap.size a len w) :
    Calls Try.prog 3 #[.slice a len cap] w (BoolE true w) := by
  have hlen := hrow.1
  by_cases hbig : 1048576 < len
  · go_enter Try.func3, Try.ntmps3
    go_wp2_with fail
    refine (big_yes a len cap _ hlen hbig).mono ?_
    rintro e w' ⟨rfl, rfl⟩
    go_wp2_with fail
    go_ret
    exact ⟨rfl, Below.refl _ _⟩
  · go_enter Try.func3, Try.ntmps3
    go_wp2_with fail
    refine (big_no a len cap _ hbig).mono ?_
    rintro e w' ⟨rfl, rfl⟩
    go_wp2_with fail
    refine (drawKeyText_any w.heap.size a len cap _ hrow (Nat.le_refl _)).mono ?_
    rintro e w1 ⟨k, hk0, hk1, rfl, hb1⟩
    have hz1 := hb1.size
    go_wp2_with fail
    refine (keyText_impl k _).mono ?_
    rintro e w2 ⟨rfl, hb2'⟩
    have hb2 := hb1.trans (hb2'.mono hz1)
    have hz2 := hb2.size
    clear hb1 hz1 hb2'
    obtain ⟨T, hT⟩ : ∃ T : ByteArray, T = ⟨(textOf k).toArray⟩ := ⟨_, rfl⟩
    rw [← hT]
    have HT := Lib.hid hT; clear hT
    go_wp2_with fail
    refine (drawPlain_any w.heap.size a len cap _ (hrow.later hb2) hz2).mono ?_
    rintro e w3 ⟨S, hS, rfl, hb3'⟩
    have hb3 := hb2.trans hb3'
    have hz3 := hb3.size
    clear hb2 hz2 hb3'
    have hPi := fun w => plain_impl S w (by omega)
    have hPs := fun w => plain_spec S w (by omega)
    have hKi := fun w => keyOf_impl S w (by unfold maxLen; omega)
    have HP : Hid (plainB S.data.toList = true → numOf (upL S.data.toList) = 0) := plain_key
    generalize hN : numOf (upL S.data.toList) = N at hKi HP
    clear hN
    generalize plainB S.data.toList = b at hPi hPs HP
    cases b
    case' false =>
      go_wp2_with fail
      refine (hPi _).mono ?_
      rintro e w4 ⟨rfl, hb4'⟩
      have hb4 := hb3.trans (hb4'.mono hz3)
      go_wp2_with fail
      refine (hPs _).mono ?_
      rintro e w5 ⟨rfl, hb5'⟩
      have hb5 := hb4.trans (hb5'.mono hb4.size)
      go_wp2_with fail
      refine (hPi _).mono ?_
      rintro e wt ⟨rfl, hbt'⟩
      have hbt := hb5.trans (hbt'.mono hb5.size)
      clear hb4' hb5' hbt' hb4 hb5 hPi hPs hKi HP
    case' true =>
      obtain rfl : N = 0 := HP.out rfl
      go_wp2_with fail
      refine (hPi _).mono ?_
      rintro e w4 ⟨rfl, hb4'⟩
      have hb4 := hb3.trans (hb4'.mono hz3)
      go_wp2_with fail
      refine (hPs _).mono ?_
      rintro e w5 ⟨rfl, hb5'⟩
      have hb5 := hb4.trans (hb5'.mono hb4.size)
      go_wp2_with fail
      refine (hPi _).mono ?_
      rintro e w6 ⟨rfl, hb6'⟩
      have hb6 := hb5.trans (hb6'.mono hb5.size)
      go_wp2_with fail
      refine (hKi _).mono ?_
      rintro e wt ⟨rfl, hbt'⟩
      have hbt := hb6.trans (hbt'.mono hb6.size)
      clear hb4' hb5' hbt' hb4 hb5 hb6 hb6' hPi hPs hKi HP
    all_goals
      have hzt := hbt.size
      clear hb3 hz3
      by_cases hin : 1 ≤ k ∧ k ≤ 28
      · obtain ⟨n, rfl⟩ := Int.eq_ofNat_of_zero_le (show 0 ≤ k by omega)
        have hn1 : 1 ≤ n := by omega
        have hn2 : n ≤ 28 := by omega
        have hTd : T.data.toList = word n := by
          rw [HT.out]
          show textOf (n : Int) = word n
          unfold textOf
          rw [if_pos hin]; rfl
        have hT8 : T.size ≤ 8 := by
          have := word_len hn2
          show T.data.toList.length ≤ 8
          rw [hTd]; exact this
        have d1 : decide ((n : Int) < 1) = false := by simp; omega
        have d2 : decide (28 < (n : Int)) = false := by simp; omega
        clear hin hk0 hk1 HT
        have hcv := run_bytes_of_string (P := Try.prog) wt 9 22 5 T Try.underlying9 Try.underlying22 Try.underlying5
        obtain ⟨w8, hw8⟩ : ∃ w8, w8 = wt.drew.alloc (.cells (bytesRow T (grownCap wt T.size 0 5)) 5 ((bytesRow T (grownCap wt T.size 0 5)).size, (bytesRow T (grownCap wt T.size 0 5)).size + 1)) := ⟨_, rfl⟩
        rw [← hw8] at hcv
        have hr8 : ByteRow w8 wt.heap.size T.size (fun j => T.data.toList.getD j 0) := hw8 ▸ bytesRow_of wt T _ 5 _ rfl
        have hb8 : Below w.heap.size w w8 := hw8 ▸ hbt.drew.alloc hzt _
        clear hw8
        generalize grownCap wt T.size 0 5 = cp at hcv
        have HU := Lib.hid (fun b hb => word_upper hn2 b (hTd ▸ hb) : ∀ b ∈ T.data.toList, 65 ≤ b.toNat ∧ b.toNat ≤ 90)
        have HTL : T.data.toList.length = T.size := rfl
        go_wp2_with fail
        go_loopw [7] (fun iv wr => ∃ (i : Nat) (f : Nat → UInt8), i ≤ T.size ∧ iv = .int .i64 (i : Int) ∧ Hid (Turned T.data.toList i f) ∧ ByteRow wr wt.heap.size T.size f ∧ Below w.heap.size w wr) (fun iv _ => T.size - (intOf iv).toNat)
        case atStart => exact ⟨0, _, by omega, rfl, turned_start HU.out, hr8, hb8⟩
        case round =>
          obtain ⟨i, f, hi, rfl, HR, hr, hb⟩ := hrel
          clear hr8 hb8 hcv
          by_cases hlt : i < T.size
          · have hlt2 : (i : Int) < (T.size : Int) := by omega
            obtain ⟨hc, hf⟩ := hr.2 i hlt
            have hfi : 65 ≤ (f i).toNat ∧ (f i).toNat ≤ 90 := by
              rw [(HR.out i (by omega)).2 (Nat.le_refl _)]
              exact HU.out _ (getD_mem (by omega))
            obtain ⟨m, hm⟩ : ∃ m : Int, m = ((f i).toNat : Int) := ⟨_, rfl⟩
            rw [← hm] at hc
            have hm0 : 65 ≤ m := by omega
            have hm1 : m ≤ 90 := by omega
            have HS := Lib.hid (hr.set (i := i) (lowB (f i)) (x := m + 32) (by rw [lowB_nat hfi.2]; omega))
            have HT1 := Lib.hid (turned_low HU.out HR.out)
            have HT2 := Lib.hid (turned_stay HR.out)
            have hbs := hb.setCell (p := ⟨wt.heap.size, i, none⟩) hzt (.int .u8 (m + 32))
            clear hm hfi
            go_wp2_with fail
            refine (at0_any i w.heap.size a len cap _ (hrow.later hb) (by omega) (by omega)).mono ?_
            rintro e w' ⟨x, hx, rfl, rfl⟩
            by_cases hx2 : x % 2 = 0
            · have q : ((x : Int) % 2 == 0) = true := by simp; omega
              clear hx2
              go_wp2_with fail
              go_roundw
              case rel => exact ⟨i + 1, _, by omega, by go_num, HT1, HS.out, hbs⟩
              case measure => simp [intOf]; omega
            · have q : ((x : Int) % 2 == 0) = false := by simp; omega
              clear hx2
              go_wp2_with fail
              go_roundw
              case rel => exact ⟨i + 1, f, by omega, by go_num, HT2, hr, hb⟩
              case measure => simp [intOf]; omega
          · obtain rfl : i = T.size := by omega
            obtain ⟨L, hL⟩ : ∃ L : List UInt8, L = (List.range T.size).map f := ⟨_, rfl⟩
            have hLl : L.length = T.size := by rw [hL]; simp
            have hLf : ∀ j, j < T.size → f j = L.getD j 0 := fun j hj => by rw [hL]; exact range_getD hj
            have hLu : upL L = T.data.toList := by rw [hL]; exact turned_end HR.out
            clear hL
            have hcv2 := fun cap (W : World) (h : ByteRow W wt.heap.size T.size f) => ByteRow.string (P := Try.prog) (cap := cap) (src := 22) (dst := 9) h hLl hLf Try.underlying22 Try.underlying5 Try.underlying9
            have hK := fun w => keyOf_impl ⟨L.toArray⟩ w (by show L.length ≤ maxLen; unfold maxLen; omega)
            have hF := fun w => fold_impl ⟨L.toArray⟩ w (by show L.length ≤ _; omega)
            have hP := fun w => plain_impl T w (by omega)
            have e1 : numOf (upL (⟨L.toArray⟩ : ByteArray).data.toList) = n := by show numOf (upL L) = n; rw [hLu, hTd]; exact num_word hn1 hn2
            have e2 : (⟨(upL (⟨L.toArray⟩ : ByteArray).data.toList).toArray⟩ : ByteArray) = T := by
              show (⟨(upL L).toArray⟩ : ByteArray) = T
              rw [hLu]
            have e3 : plainB T.data.toList = false := by rw [hTd]; exact word_not_plain hn1 hn2
            unfold StrE at hF
            rw [e1] at hK
            rw [e2] at hF
            rw [e3] at hP
            clear e1 e2 e3 hLu hLf
            generalize (⟨L.toArray⟩ : ByteArray) = LB at hcv2 hK hF
            have hv1 := fun cap => hcv2 cap wr hr
            go_wp2_with fail
            refine (hK _).mono ?_
            rintro e w9 ⟨rfl, hb9⟩
            have hr9 := hr.below hb9 hr.1
            have hv2 := fun cap => hcv2 cap w9 hr9
            have hbb9 := hb.trans (hb9.mono hb.size)
            clear hv1
            go_wp2_with fail
            refine (hF _).mono ?_
            rintro e w10 ⟨rfl, hb10⟩
            have hbb10 := hbb9.trans (hb10.mono hbb9.size)
            clear hv2
            go_wp2_with fail
            refine (hP _).mono ?_
            rintro e w11 ⟨rfl, hb11⟩
            have hbb11 := hbb10.trans (hb11.mono hbb10.size)
            go_wp2_with fail
            go_ret
            exact ⟨rfl, hbb11⟩
      · obtain rfl : T = ⟨#[]⟩ := by
          rw [HT.out]; unfold textOf; rw [if_neg hin]
        by_cases h1 : k < 1
        · have d1 : decide (k < 1) = true := by simpa using h1
          go_wp2_with fail
          go_ret
          exact ⟨rfl, hbt⟩
        · have d1 : decide (k < 1) = false := by simpa using h1
          have d2 : decide (28 < k) = true := by simp; omega
          go_wp2_with fail
          go_ret
          exact ⟨rfl, hbt⟩
end Go.Proofs.Ytpehplmkhmpgmaa
