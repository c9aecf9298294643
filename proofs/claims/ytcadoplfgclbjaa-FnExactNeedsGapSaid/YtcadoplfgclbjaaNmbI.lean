
/- The contract of Number, whose deferred closure recovers. -/
import Derived.Test.YtcadoplfgclbjaaNmbDef
import Derived.WalkLawsBesides
import Derived.Recover
import Derived.Defers
import Derived.Laws.Pointers
namespace Go.Proofs.Ytcadoplfgclbjaa
open Go.RowKit
open Go.Lib (decDigits itoa)

theorem withDigit_ok (n b : Nat) (w : World) (hb : 48 ≤ b) (hb2 : b ≤ 57) (h : 10 * n + (b - 48) ≤ 9223372036854775807) :
    Calls Try.prog 37 #[.int .i64 (n : Int), .int .u8 (b : Int)] w fun e w' => e = .returned (.int .i64 ((10 * n + (b - 48) : Nat) : Int)) ∧ w = w' := by
  have d1 : decide ((b : Int) < 48) = false := by simp; omega
  have d2 : decide (57 < (b : Int)) = false := by simp; omega
  have d3 : ¬ (9223372036854775807 - ((b : Int) - 48)) / 10 < (n : Int) := by omega
  go_enter Try.func37, Try.ntmps37
  go_wp2
  go_ret
  exact ⟨ret_i64 (by omega), rfl⟩
theorem withDigit_bad (n b : Nat) (w : World) (_hn : n ≤ 9223372036854775807) (hb : b < 256) (h : ¬ (48 ≤ b ∧ b ≤ 57 ∧ 10 * n + (b - 48) ≤ 9223372036854775807)) :
    Calls Try.prog 37 #[.int .i64 (n : Int), .int .u8 (b : Int)] w fun e w' => e = .panicked badChain ∧ w = w' := by
  by_cases h1 : b < 48
  · have d1 : decide ((b : Int) < 48) = true := by simp; omega
    go_enter Try.func37, Try.ntmps37
    go_wp2
    exact ⟨rfl, rfl, rfl⟩
  · have d1 : decide ((b : Int) < 48) = false := by simp; omega
    by_cases h2 : 57 < b
    · have d2 : decide (57 < (b : Int)) = true := by simp; omega
      go_enter Try.func37, Try.ntmps37
      go_wp2
      exact ⟨rfl, rfl, rfl⟩
    · have d2 : decide (57 < (b : Int)) = false := by simp; omega
      have d3 : (9223372036854775807 - ((b : Int) - 48)) / 10 < (n : Int) := by omega
      go_enter Try.func37, Try.ntmps37
      go_wp2
      exact ⟨rfl, rfl, rfl⟩

def RdE (s : List UInt8) (w : World) (e : Ending) (w' : World) : Prop :=
  w = w' ∧ ((∃ n : Nat, Num s n ∧ e = .returned (.int .i64 (n : Int))) ∨ ((∀ n, ¬ Num s n) ∧ e = .panicked badChain))
theorem RdE.no {s : List UInt8} {w : World} {e : Ending} (h : ∀ n, ¬ Num s n) (he : e = .panicked badChain) : RdE s w e w := ⟨rfl, .inr ⟨h, he⟩⟩

theorem rd_bad {s : ByteArray} {k : Nat} (h : k < s.size) (hb : ¬ (48 ≤ (s[k]).toNat ∧ (s[k]).toNat ≤ 57 ∧ 10 * digVal (s.data.toList.take k) + ((s[k]).toNat - 48) ≤ 9223372036854775807)) : ∀ n, ¬ Num s.data.toList n := by
  by_cases h1 : isDig s[k]
  · exact num_bad_over h (fun h2 => hb ⟨h1.1, h1.2, h2⟩)
  · exact num_bad_dig h h1

set_option maxRecDepth 100000 in
set_option maxHeartbeats 800000 in
theorem readNumber_any (s : ByteArray) (w : World) (hs : s.size ≤ maxLen) :
    Calls Try.prog 35 #[.string s] w (RdE s.data.toList w) := by
  unfold maxLen at hs
  have hlen : s.data.toList.length = s.size := rfl
  have htl : s.toList = s.data.toList := Lib.toList_data s
  by_cases hz : s.size = 0
  · have hn : s.data.toList = [] := List.eq_nil_of_length_eq_zero (by omega)
    have hE : s.toList = [] := htl.trans hn
    have HN := Lib.hid hn
    clear hn htl hlen hz
    go_enter Try.func35, Try.ntmps35
    go_wp2_with fail
    exact ⟨rfl, RdE.no (fun n h => h.ne HN.out) rfl⟩
  · have hpos : 0 < s.size := by omega
    obtain ⟨b, t, hbt⟩ : ∃ b t, s.data.toList = b :: t := by
      cases h : s.data.toList with
      | nil => rw [h] at hlen; simp at hlen; omega
      | cons b t => exact ⟨b, t, rfl⟩
    have hb0 : s[0] = b := by
      have : s.data.toList[0]'(by omega) = b := by simp [hbt]
      exact this
    have HNE : Hid (s.data.toList ≠ []) := by unfold Hid; rw [hbt]; simp
    have HT0 := Lib.hid htl
    have HB0 := Lib.hid hb0
    have HBT := Lib.hid hbt
    have hE1 : s.toList.isEmpty = false := by rw [htl, hbt]; rfl
    have hE2 : ¬ s.toList = [] := by rw [htl, hbt]; simp
    clear hz hlen htl hb0 hbt
    by_cases h48 : (s[0]).toNat = 48
    · have hq : (((s[0]).toNat : Int) == 48) = true := by rw [h48]; rfl
      by_cases hone : t = []
      · have hq2 : (!s.toList == [48]) = false := by
          have : b = 48 := UInt8.toNat_inj.1 (by rw [← HB0.out]; exact h48)
          rw [HT0.out, HBT.out, hone, this]; rfl
        have HZ : Hid (∀ b t, s.data.toList = b :: t → b.toNat = 48 → t = []) := fun b2 t2 h _ => by
          rw [HBT.out, hone] at h; exact (List.cons.inj h).2.symm
        clear h48
        go_enter Try.func35, Try.ntmps35
        go_wp2_with fail
        clear hq hq2 hE1 hE2
        go_loop [3, 4, 19] (fun x _ i => ∃ k : Nat, k ≤ s.size ∧ i = .int .i64 (k : Int) ∧ x = .int .i64 (digVal (s.data.toList.take k) : Nat) ∧ digVal (s.data.toList.take k) ≤ 9223372036854775807 ∧ allDig (s.data.toList.take k)) (fun _ _ i => s.size - (intOf i).toNat)
        case atStart => exact ⟨0, by omega, rfl, rfl, by simp [digVal], by simp [allDig]⟩
        case round =>
          obtain ⟨k, hk, rfl, rfl, hv, ha⟩ := hrel
          have HA := Lib.hid ha; clear ha
          by_cases hlt : k < s.size
          · have hb := (s[k]).toNat_lt
            have HT := Lib.hid (show digVal (s.data.toList.take (k + 1)) = 10 * digVal (s.data.toList.take k) + ((s[k]).toNat - 48) by rw [take_snoc s k hlt, digVal_snoc])
            have HT2 := Lib.hid (take_snoc s k hlt)
            generalize hV : digVal (s.data.toList.take k) = V at hv ⊢
            have HV := Lib.hid hV; clear hV
            by_cases hov : 48 ≤ (s[k]).toNat ∧ (s[k]).toNat ≤ 57 ∧ 10 * V + ((s[k]).toNat - 48) ≤ 9223372036854775807
            · have HOV := Lib.hid hov; clear hov
              go_wp2_with (go_at_call 37; refine (withDigit_ok V (s[k]).toNat _ HOV.out.1 HOV.out.2.1 HOV.out.2.2).mono ?_; rintro e w' ⟨rfl, rfl⟩)
              go_round
              case rel => exact ⟨k + 1, by omega, by go_num, by rw [HT.out, HV.out]; exact congrArg _ (by omega), by rw [HT.out, HV.out]; exact HOV.out.2.2, by rw [HT2.out]; exact allDig_snoc HA.out ⟨HOV.out.1, HOV.out.2.1⟩⟩
              case measure => simp [intOf]; omega
            · have HOV := Lib.hid hov; clear hov
              go_wp2_with (go_at_call 37; refine (withDigit_bad V (s[k]).toNat _ hv hb HOV.out).mono ?_; rintro e w' ⟨rfl, rfl⟩)
              exact ⟨rfl, RdE.no (rd_bad hlt (by rw [HV.out]; exact HOV.out)) rfl⟩
          · have e : k = s.size := by omega
            subst e
            have ht : s.data.toList.take s.size = s.data.toList := List.take_of_length_le (by simp)
            rw [ht] at hv HA ⊢; clear ht
            go_wp2_with fail
            go_ret
            exact ⟨rfl, .inl ⟨_, num_of HNE.out HA.out hv HZ.out, rfl⟩⟩
      · have hq2 : (!s.toList == [48]) = true := by
          rw [HT0.out, HBT.out]; simp [hone]
        have H48 := Lib.hid h48
        clear h48
        go_enter Try.func35, Try.ntmps35
        go_wp2_with fail
        exact ⟨rfl, RdE.no (fun n h => hone (h.lead HBT.out (by rw [← HB0.out]; exact H48.out))) rfl⟩
    · have hq : (((s[0]).toNat : Int) == 48) = false := by simp; omega
      have HZ : Hid (∀ b t, s.data.toList = b :: t → b.toNat = 48 → t = []) := fun b2 t2 h h2 => by
        rw [HBT.out] at h
        have := (List.cons.inj h).1
        exact absurd (by rw [HB0.out, this]; exact h2) h48
      clear h48
      go_enter Try.func35, Try.ntmps35
      go_wp2_with fail
      clear hq hE1 hE2
      go_loop [3, 4, 19] (fun x _ i => ∃ k : Nat, k ≤ s.size ∧ i = .int .i64 (k : Int) ∧ x = .int .i64 (digVal (s.data.toList.take k) : Nat) ∧ digVal (s.data.toList.take k) ≤ 9223372036854775807 ∧ allDig (s.data.toList.take k)) (fun _ _ i => s.size - (intOf i).toNat)
      case atStart => exact ⟨0, by omega, rfl, rfl, by simp [digVal], by simp [allDig]⟩
      case round =>
        obtain ⟨k, hk, rfl, rfl, hv, ha⟩ := hrel
        have HA := Lib.hid ha; clear ha
        by_cases hlt : k < s.size
        · have hb := (s[k]).toNat_lt
          have HT := Lib.hid (show digVal (s.data.toList.take (k + 1)) = 10 * digVal (s.data.toList.take k) + ((s[k]).toNat - 48) by rw [take_snoc s k hlt, digVal_snoc])
          have HT2 := Lib.hid (take_snoc s k hlt)
          generalize hV : digVal (s.data.toList.take k) = V at hv ⊢
          have HV := Lib.hid hV; clear hV
          by_cases hov : 48 ≤ (s[k]).toNat ∧ (s[k]).toNat ≤ 57 ∧ 10 * V + ((s[k]).toNat - 48) ≤ 9223372036854775807
          · have HOV := Lib.hid hov; clear hov
            go_wp2_with (go_at_call 37; refine (withDigit_ok V (s[k]).toNat _ HOV.out.1 HOV.out.2.1 HOV.out.2.2).mono ?_; rintro e w' ⟨rfl, rfl⟩)
            go_round
            case rel => exact ⟨k + 1, by omega, by go_num, by rw [HT.out, HV.out]; exact congrArg _ (by omega), by rw [HT.out, HV.out]; exact HOV.out.2.2, by rw [HT2.out]; exact allDig_snoc HA.out ⟨HOV.out.1, HOV.out.2.1⟩⟩
            case measure => simp [intOf]; omega
          · have HOV := Lib.hid hov; clear hov
            go_wp2_with (go_at_call 37; refine (withDigit_bad V (s[k]).toNat _ hv hb HOV.out).mono ?_; rintro e w' ⟨rfl, rfl⟩)
            exact ⟨rfl, RdE.no (rd_bad hlt (by rw [HV.out]; exact HOV.out)) rfl⟩
        · have e : k = s.size := by omega
          subst e
          have ht : s.data.toList.take s.size = s.data.toList := List.take_of_length_le (by simp)
          rw [ht] at hv HA ⊢; clear ht
          go_wp2_with fail
          go_ret
          exact ⟨rfl, .inl ⟨_, num_of HNE.out HA.out hv HZ.out, rfl⟩⟩

theorem numCatch_panicking (B : Nat) (x y : Value) (u : TypeId) (pv : Value) (older : List PanicEntry) (w : World)
    (hc0 : w.cell? ⟨B, 0, none⟩ = some x) (hc1 : w.cell? ⟨B + 1, 0, none⟩ = some y)
    (hz0 : w.frozen? ⟨B, 0, none⟩ = false) (hz1 : w.frozen? ⟨B + 1, 0, none⟩ = false) :
    CallsD Try.prog 34 #[.pointer (some ⟨B, 0, none⟩), .pointer (some ⟨B + 1, 0, none⟩)] (.panicking ({ v := .iface u pv, recovered := false } :: older)) w fun e u' w' =>
      e = .returned (.tuple #[]) ∧ u' = .panicking ({ v := .iface u pv, recovered := true } :: older) ∧ w' = (w.setCell ⟨B, 0, none⟩ (.int .i64 0)).setCell ⟨B + 1, 0, none⟩ (.bool false) := by
  refine callsD_of_wpS Try.func34 rfl fun c₀ cs hu => ?_
  apply wpS_seq
  apply wpS_region
  simp [wpOpsS, go_sem, recoverD, hu, Try.ntmps34, Exit.thenS]
  refine wpS_cond (t := true) (by simp [Act.eval, Array.replicate]) ?_
  simp only [if_true]
  apply wpS_region
  simp [wpOpsS, go_sem, hc0, hc1, hz0, hz1, bodyPostS, results, Try.results34]

theorem numCatch_idle (B : Nat) (w : World) :
    CallsD Try.prog 34 #[.pointer (some ⟨B, 0, none⟩), .pointer (some ⟨B + 1, 0, none⟩)] .returning w fun e u' w' => e = .returned (.tuple #[]) ∧ u' = .returning ∧ w' = w := by
  refine callsD_of_wpS Try.func34 rfl fun c₀ cs hu => ?_
  apply wpS_seq
  apply wpS_region
  simp [wpOpsS, go_sem, recoverD, hu, Try.ntmps34, Exit.thenS]
  refine wpS_cond (t := false) (by simp [Act.eval, Array.replicate]) ?_
  simp only [Bool.false_eq_true, if_false]
  refine wpS_of_wp (wp_skip ?_)
  cases c₀
  simp_all [bodyPostS, results, Try.results34]

set_option maxRecDepth 100000 in
set_option maxHeartbeats 800000 in
theorem number_impl (s : ByteArray) (w : World) (hs : s.size ≤ maxLen) :
    Calls Try.prog 29 #[.string s] w (NumE s.data.toList w) := by
  have hmf : ∀ (fn : Fn) (first cap : Array Value) (w : World), (Instr.makeFunc fn first cap).run Try.prog w = .ok (.func fn first cap) w := fun _ _ _ _ => rfl
  go_enter_defers Try.func29, Try.ntmps29
  go_wp2_with fail
  refine (readNumber_any s _ hs).mono ?_
  rintro e w' ⟨rfl, ⟨n, hg, rfl⟩ | ⟨hno, rfl⟩⟩
  · have HG := Lib.hid hg; clear hg
    go_wp2_with fail
    refine leaves_cons (f := 34) (args := #[.pointer (some ⟨w.heap.size, 0, none⟩), .pointer (some ⟨w.heap.size + 1, 0, none⟩)]) (by simp) (by simp [go_sem]) ?_
    refine (numCatch_idle w.heap.size _).mono ?_
    rintro e u' w'' ⟨rfl, rfl, rfl⟩
    simp [Leaves, settle, results, Try.results29, go_sem]
    exact ⟨.inl ⟨n, HG.out, rfl⟩, ((Below.refl _ _).alloc (Nat.le_refl _) _).alloc (by simp) _⟩
  · have HN := Lib.hid hno; clear hno
    go_wp2_with fail
    refine leaves_cons (f := 34) (args := #[.pointer (some ⟨w.heap.size, 0, none⟩), .pointer (some ⟨w.heap.size + 1, 0, none⟩)]) (by simp) (by simp [go_sem]) ?_
    refine (numCatch_panicking w.heap.size (.int .i64 0) (.bool false) 9 (.string badText) [] _ ?_ ?_ ?_ ?_).mono ?_
    · simp [go_sem]
    · simp [go_sem]
    · simp [go_sem]
    · simp [go_sem]
    rintro e u' w'' ⟨rfl, rfl, rfl⟩
    simp [Leaves, settle, results, Try.results29, go_sem]
    exact NumE.no HN.out rfl (((Below.refl _ _).alloc (Nat.le_refl _) _).alloc (by simp) _)
end Go.Proofs.Ytcadoplfgclbjaa
