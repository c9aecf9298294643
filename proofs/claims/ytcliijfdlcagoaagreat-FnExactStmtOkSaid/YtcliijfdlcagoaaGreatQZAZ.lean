/- Joined texts: LeftS OkS StOf ArgDat. -/
import Derived.Test.YtcliijfdlcagoaaGreatQZAX
import Derived.Test.YtcliijfdlcagoaaGreatQZAV
import Derived.Test.YtcliijfdlcagoaaGreatQHRightQ
import Derived.Test.YtcliijfdlcagoaaGreatQZAT
import Derived.Test.YtcliijfdlcagoaaGreatQHStmtI
import Derived.Test.YtcliijfdlcagoaaGreatQZAO
import Derived.Test.YtcliijfdlcagoaaGreatRows
import Derived.Test.YtcliijfdlcagoaaGreatQZAA
import Derived.ProofKit
import Derived.OpenShut
import Derived.ShutString
import Derived.Deep.Slices
import Derived.Deep.Strs
namespace Go.Proofs.YtcliijfdlcagoaaGreat
set_option linter.unusedVariables false
set_option linter.unusedSimpArgs false
open Go.RowKit
def leftV (l : Int) (s : Nat) : Int := if (s : Int) ≤ l then l - s else -1
theorem leftV_lo (l : Int) (s : Nat) : -1 ≤ leftV l s := by unfold leftV; split <;> omega
theorem leftV_hi {l : Int} {s : Nat} (h : 0 ≤ l) : leftV l s ≤ l := by unfold leftV; split <;> omega
theorem leftV_stop {l : Int} {s t : Nat} (h : leftV l s < 0) (hst : s ≤ t) : leftV l t = leftV l s := by
  unfold leftV at h ⊢
  split at h
  · omega
  · rw [if_neg (by omega), if_neg (by omega)]
theorem leftV_step {l : Int} {s : Nat} (h : 0 ≤ leftV l s) (t : Nat) : leftV (leftV l s) t = leftV l (s + t) := by
  unfold leftV at h ⊢
  split at h
  · rename_i h1
    rw [if_pos h1]
    by_cases h2 : (t : Int) ≤ l - s
    · rw [if_pos h2, if_pos (by omega)]; omega
    · rw [if_neg h2, if_neg (by omega)]
  · omega
def LeftP (c : Nd) : Prop := ∀ (c0 c1 : Int) (c2 : Bool) (c3 c4 : Int) (c5 c6 c7 : ByteArray) (x8 x9 : Value) (l : Int) (w : World), 0 ≤ l → l ≤ 1048576 → Rd w 0 x8 (c 8) → Rd w 0 x9 (c 9) → Bd c →
  Calls Tryz.prog 111 #[.agg #[.int .i64 c0, .int .i64 c1, .bool c2, .int .i64 c3, .int .i64 c4, .string c5, .string c6, .string c7, x8, x9], .int .i64 l] w (IntE (leftV l (foldE sizA c)) w)
set_option maxRecDepth 100000 in
set_option maxHeartbeats 8000000 in
theorem left_step (c : Nd) (n8 n9 : Nat) (f8 f9 : Nat → Nat → Dat) (h8 : c 8 = .sl n8 10 f8) (h9 : c 9 = .sl n9 6 f9)
    (IHk : ∀ i, i < n8 → LeftP (f8 i)) (IHs : ∀ i, i < n9 → ∀ e ∈ exprsOf (f9 i), LeftP e) : LeftP c := by
  intro c0 c1 c2 c3 c4 c5 c6 c7 x8 x9 l w hl0 hl1 r8_ r9 hbd
  have q8 := hbd.f8
  have q9 := hbd.f9
  have m8 := hbd.m8
  have m9 := hbd.m9
  have hqs := hbd.query
  have hv := sizE_val h8 h9
  rw [h8] at r8_ q8 m8
  rw [h9] at r9 q9 m9 hqs
  obtain ⟨a8, p8, rfl⟩ := r8_.slice
  obtain ⟨a9, p9, rfl⟩ := r9.slice
  have hn8 : n8 ≤ 1048576 := Nat.le_trans (msr_n n8 10 f8) m8
  have hn9 : n9 ≤ 1048576 := Nat.le_trans (msr_n n9 6 f9) m9
  have hB8 : ∀ i, i < n8 → Bd (f8 i) := fun i hi => exprs_bd q8 m8 _ (mem_el hi)
  have hB9 : ∀ i, i < n9 → BdQ (f9 i) := fun i hi => hqs _ (mem_el hi)
  obtain ⟨S8, hS8⟩ : ∃ S8 : Nat → Nat, S8 = fun j => 1 + ((List.range j).map fun i => foldE sizA (f8 i)).sum := ⟨_, rfl⟩
  obtain ⟨S9, hS9⟩ : ∃ S9 : Nat → Nat, S9 = fun j => (1 + ((List.range n8).map fun i => foldE sizA (f8 i)).sum) + ((List.range j).map fun i => foldQ sizA (f9 i)).sum := ⟨_, rfl⟩
  have hS80 : S8 0 = 1 := by rw [hS8]; rfl
  have hS90 : S9 0 = S8 n8 := by rw [hS9, hS8]; rfl
  have hS8s : ∀ j, S8 (j + 1) = S8 j + foldE sizA (f8 j) := fun j => by rw [hS8]; show 1 + _ = (1 + _) + _; rw [sum_succ]; omega
  have hS9s : ∀ j, S9 (j + 1) = S9 j + foldQ sizA (f9 j) := fun j => by rw [hS9]; show _ + _ = (_ + _) + _; rw [sum_succ (fun i => foldQ sizA (f9 i))]; omega
  have hS8m : ∀ {j}, j ≤ n8 → S8 j ≤ S8 n8 := fun {j} h => by rw [hS8]; have := sum_mono (fun i => foldE sizA (f8 i)) h; show 1 + _ ≤ 1 + _; omega
  have hS9m : ∀ {j}, j ≤ n9 → S9 j ≤ S9 n9 := fun {j} h => by rw [hS9]; have := sum_mono (fun i => foldQ sizA (f9 i)) h; show _ + _ ≤ _ + _; omega
  have hS9le : ∀ {j k : Nat} {L : List Nd} {zz : Nd}, k ≤ L.length → foldQ sizA (f9 j) = ((List.range L.length).map fun i => foldE sizA (L.getD i zz)).sum → S9 j + ((List.range k).map fun i => foldE sizA (L.getD i zz)).sum ≤ S9 (j + 1) := fun {j k L zz} hk h => by
    rw [hS9s, h]
    have := sum_mono (fun i => foldE sizA (L.getD i zz)) hk
    omega
  have HVAL : Hid (leftV l (foldE sizA c) = leftV l (S9 n9)) := by show _ = _; rw [hv, hS9]
  have hz0 : ∃ z : Nat → Dat, z = fun _ => .v undef := ⟨_, rfl⟩
  obtain ⟨zz, -⟩ := hz0
  have HV0 : Hid (l - 1 = leftV l (S8 0)) := by
    show _ = _
    rw [hS80]
    unfold leftV
    split
    · rfl
    · have : l = 0 := by omega
      rw [this]; rfl
  generalize leftV l (foldE sizA c) = res at HVAL ⊢
  clear hv hS8 hS9 hS80 hqs m8 m9 h8 h9 hbd
  have H0 := BX.new w 79 #[.int .i64 c0, .int .i64 c1, .bool c2, .int .i64 c3, .int .i64 c4, .string c5, .string c6, .string c7, .slice a8 n8 p8, .slice a9 n9 p9]
  go_enter Tryz.func111, Tryz.ntmps111
  go_wp2_with fail
  generalize w.alloc (.cells #[.int .i64 c0, .int .i64 c1, .bool c2, .int .i64 c3, .int .i64 c4, .string c5, .string c6, .string c7, .slice a8 n8 p8, .slice a9 n9 p9] 79) = w1 at H0 ⊢
  go_loopw [1, 5] (fun lv i wr => ∃ (j : Nat) (v : Int), j ≤ n8 ∧ i = .int .i64 (j : Int) ∧ lv = .int .i64 v ∧ Hid (v = leftV l (S8 j)) ∧ -1 ≤ v ∧ v ≤ l ∧ BX w wr 79 #[.int .i64 c0, .int .i64 c1, .bool c2, .int .i64 c3, .int .i64 c4, .string c5, .string c6, .string c7, .slice a8 n8 p8, .slice a9 n9 p9]) (fun _ i _ => n8 - (intOf i).toNat)
  case atStart => exact ⟨0, l - 1, Nat.zero_le _, rfl, rfl, HV0, by omega, by omega, H0⟩
  case round =>
    obtain ⟨j, cur, hj, rfl, rfl, HC, hlo, hhi, H⟩ := hrel
    have k8 := H.box.cell (i := 8) (v := .slice a8 n8 p8) rfl
    by_cases hlt : j < n8
    · have hlt2 : (j : Int) < (n8 : Int) := by omega
      by_cases hc0 : 0 ≤ cur
      · have dc : decide (0 ≤ cur) = true := decide_eq_true hc0
        obtain ⟨gg, oo, rfl, -, hgg, x0, x1, x2, x3, x4, x5, x6, x7, x8, x9, ⟨z0, z1, z2, z3, z4, z5, z6, z7, z8, z9⟩, ⟨-, -, -, -, -, -, -, -, ⟨r8, q8_⟩, ⟨r9, q9_⟩⟩⟩ := row_exprs (r8_.later H.b) q8 hlt
        have hC := fun w h h' => IHk j hlt x0 x1 x2 x3 x4 x5 x6 x7 x8 x9 cur w hc0 (Int.le_trans hhi hl1) h h' (hB8 j hlt)
        have HV2 : Hid (leftV cur (foldE sizA (f8 j)) = leftV l (S8 (j + 1))) := by
          show _ = _
          have hV := HC.out
          rw [hV] at hc0
          rw [hV, leftV_step hc0, hS8s]
        have hlo2 := leftV_lo cur (foldE sizA (f8 j))
        have hhi2 := Int.le_trans (leftV_hi (s := foldE sizA (f8 j)) hc0) hhi
        generalize leftV cur (foldE sizA (f8 j)) = v2 at hC HV2 hlo2 hhi2
        clear HC
        go_wp2_with fail
        refine (hC _ r8 r9).mono ?_
        rintro e w6 ⟨rfl, hb⟩
        have H7 := H.next hb
        clear hb hC r8 r9
        go_wp2_with fail
        go_roundw
        case rel => exact ⟨j + 1, v2, by omega, by go_num, rfl, HV2, hlo2, hhi2, H7⟩
        case measure => simp [intOf]; omega
      · have dc : decide (0 ≤ cur) = false := decide_eq_false hc0
        have HV9 : Hid (cur = leftV l (S9 0)) := by
          show _ = _
          have hV := HC.out
          rw [hS90, leftV_stop (s := S8 j) (by rw [← hV]; omega) (hS8m hj), hV]
        obtain ⟨v8, hv8⟩ : ∃ v8, v8 = cur := ⟨_, rfl⟩
        rw [← hv8] at hlo hhi HV9 dc hc0 ⊢
        have hlo8 := hlo
        have hhi8 := hhi
        have H1 := H
        clear HC hv8 hj hlo hhi H
        go_wp2_with fail
        clear k8 dc hc0 hlt hlt2
        go_loopw [1, 6] (fun lv i wr => ∃ (j : Nat) (v : Int), j ≤ n9 ∧ i = .int .i64 (j : Int) ∧ lv = .int .i64 v ∧ Hid (v = leftV l (S9 j)) ∧ -1 ≤ v ∧ v ≤ l ∧ BX w wr 79 #[.int .i64 c0, .int .i64 c1, .bool c2, .int .i64 c3, .int .i64 c4, .string c5, .string c6, .string c7, .slice a8 n8 p8, .slice a9 n9 p9]) (fun _ i _ => n9 - (intOf i).toNat)
        case atStart => exact ⟨0, v8, Nat.zero_le _, rfl, rfl, HV9, hlo8, hhi8, H1⟩
        case round =>
          obtain ⟨j, cur, hj, rfl, rfl, HC, hlo, hhi, H⟩ := hrel
          have k9 := H.box.cell (i := 9) (v := .slice a9 n9 p9) rfl
          by_cases hlt : j < n9
          · have hlt2 : (j : Int) < (n9 : Int) := by omega
            by_cases hc0 : 0 ≤ cur
            · have dc : decide (0 ≤ cur) = true := decide_eq_true hc0
              obtain ⟨gq, oq, rfl, -, hg0, y0, y1, y2, y3, y4, y5, ⟨u0, u1, u2, u3, u4, u5⟩, ⟨-, ⟨s1, -⟩, ⟨s2, -⟩, ⟨s3, -⟩, ⟨s4, -⟩, ⟨-, -⟩⟩⟩ := row_queries (r9.later H.b) q9 hlt
              have hX := fun w h1 h2 h3 h4 => exprsQ_spec (f9 j) y0 y1 y2 y3 y4 y5 w h1 h2 h3 h4 (hB9 j hlt)
              have hlen := exprsQ_len (hB9 j hlt)
              have hbde := exprsQ_bd (hB9 j hlt)
              have hQv := sizQ_val (hB9 j hlt).f zz
              have hIn := IHs j hlt
              generalize exprsOf (f9 j) = L at hX hlen hbde hQv hIn
              have hbd : ∀ k, k < L.length → Bd (L.getD k zz) := fun k hk => hbde _ (by rw [List.getD_eq_getElem?_getD, List.getElem?_eq_getElem hk]; exact List.getElem_mem hk)
              have hin : ∀ k, k < L.length → LeftP (L.getD k zz) := fun k hk => hIn _ (by rw [List.getD_eq_getElem?_getD, List.getElem?_eq_getElem hk]; exact List.getElem_mem hk)
              have HQV := Lib.hid hQv
              clear hbde hIn hQv
              go_wp2_with fail
              refine (hX _ s1 s2 s3 s4).mono ?_
              rintro e w5 ⟨v, rfl, hO, hb⟩
              have H5 := H.next hb
              obtain ⟨a, cap, rfl, hR, hF⟩ := hO.rd hb (by omega) zz
              clear hb hX hO
              have HG := Lib.hid hg0
              clear hg0
              go_wp2_with fail
              go_loopw [1, 8] (fun lv i wr => ∃ (k : Nat) (v : Int), k ≤ L.length ∧ i = .int .i64 (k : Int) ∧ lv = .int .i64 v ∧ Hid (v = leftV l (S9 j + ((List.range k).map fun i => foldE sizA (L.getD i zz)).sum)) ∧ -1 ≤ v ∧ v ≤ l ∧ BX w wr 79 #[.int .i64 c0, .int .i64 c1, .bool c2, .int .i64 c3, .int .i64 c4, .string c5, .string c6, .string c7, .slice a8 n8 p8, .slice (some ⟨gq, oq, none⟩) n9 p9] ∧ Below w5.heap.size w5 wr) (fun _ i _ => L.length - (intOf i).toNat)
              case atStart => exact ⟨0, cur, Nat.zero_le _, rfl, rfl, HC, hlo, hhi, H5, Below.refl _ _⟩
              case round =>
                obtain ⟨k, v, hk, rfl, rfl, HV, hvl, hvh, H6, hB5⟩ := hrel
                by_cases hkl : k < L.length
                · have hkl2 : (k : Int) < (L.length : Int) := by omega
                  by_cases hv0 : 0 ≤ v
                  · have dv : decide (0 ≤ v) = true := decide_eq_true hv0
                    obtain ⟨gg, oo, rfl, -, hgg, x0, x1, x2, x3, x4, x5, x6, x7, x8, x9, ⟨z0, z1, z2, z3, z4, z5, z6, z7, z8, z9⟩, ⟨-, -, -, -, -, -, -, -, ⟨r8, q8_⟩, ⟨r9, q9_⟩⟩⟩ := row_exprs (hR.later hB5) hF hkl
                    have hC := fun w h h' => hin k hkl x0 x1 x2 x3 x4 x5 x6 x7 x8 x9 v w hv0 (Int.le_trans hvh hl1) h h' (hbd k hkl)
                    have HV2 : Hid (leftV v (foldE sizA (L.getD k zz)) = leftV l (S9 j + ((List.range (k + 1)).map fun i => foldE sizA (L.getD i zz)).sum)) := by
                      show _ = _
                      have hV := HV.out
                      rw [hV] at hv0
                      rw [hV, leftV_step hv0, sum_succ]
                      congr 1; omega
                    have hlo2 := leftV_lo v (foldE sizA (L.getD k zz))
                    have hhi2 := Int.le_trans (leftV_hi (s := foldE sizA (L.getD k zz)) hv0) hvh
                    generalize leftV v (foldE sizA (L.getD k zz)) = v2 at hC HV2 hlo2 hhi2
                    clear HV
                    go_wp2_with fail
                    refine (hC _ r8 r9).mono ?_
                    rintro e w6 ⟨rfl, hb⟩
                    have H7 := H6.next hb
                    have hB6 := hB5.trans (hb.mono hB5.size)
                    clear hb hC r8 r9
                    go_wp2_with fail
                    go_roundw
                    case rel => exact ⟨k + 1, v2, by omega, by go_num, rfl, HV2, hlo2, hhi2, H7, hB6⟩
                    case measure => simp [intOf]; omega
                  · have dv : decide (0 ≤ v) = false := decide_eq_false hv0
                    have HV2 : Hid (v = leftV l (S9 (j + 1))) := by
                      show _ = _
                      have hV := HV.out
                      rw [hV, ← leftV_stop (s := S9 j + ((List.range k).map fun i => foldE sizA (L.getD i zz)).sum) (by rw [← hV]; omega) (hS9le hk HQV.out)]
                    clear HV
                    go_wp2_with fail
                    go_roundw
                    case rel => exact ⟨j + 1, v, by omega, by go_num, rfl, HV2, hvl, hvh, H6⟩
                    case measure => simp [intOf]; omega
                · obtain rfl : L.length = k := by omega
                  have HV2 : Hid (v = leftV l (S9 (j + 1))) := by
                    show _ = _
                    rw [HV.out, hS9s j, HQV.out]
                  clear HV hkl
                  go_wp2_with fail
                  go_roundw
                  case rel => exact ⟨j + 1, v, by omega, by go_num, rfl, HV2, hvl, hvh, H6⟩
                  case measure => simp [intOf]; omega
            · have dc : decide (0 ≤ cur) = false := decide_eq_false hc0
              have HF : Hid (leftV l (S9 n9) = cur) := by
                show _ = _
                have hV := HC.out
                rw [leftV_stop (s := S9 j) (by rw [← hV]; omega) (hS9m hj), hV]
              clear HC
              go_wp2_with fail
              go_ret
              exact ⟨ret_i64 (by rw [HVAL.out, HF.out]), H.b⟩
          · obtain rfl : n9 = j := by omega
            clear hlt
            go_wp2_with fail
            go_ret
            exact ⟨ret_i64 (by rw [HVAL.out, HC.out]), H.b⟩
    · obtain rfl : n8 = j := by omega
      have HV9 : Hid (cur = leftV l (S9 0)) := by
        show _ = _
        rw [hS90, HC.out]
      obtain ⟨v8, hv8⟩ : ∃ v8, v8 = cur := ⟨_, rfl⟩
      rw [← hv8] at hlo hhi HV9 ⊢
      have hlo8 := hlo
      have hhi8 := hhi
      have H1 := H
      clear HC hv8 hlt hj hlo hhi H
      go_wp2_with fail
      clear k8
      go_loopw [1, 6] (fun lv i wr => ∃ (j : Nat) (v : Int), j ≤ n9 ∧ i = .int .i64 (j : Int) ∧ lv = .int .i64 v ∧ Hid (v = leftV l (S9 j)) ∧ -1 ≤ v ∧ v ≤ l ∧ BX w wr 79 #[.int .i64 c0, .int .i64 c1, .bool c2, .int .i64 c3, .int .i64 c4, .string c5, .string c6, .string c7, .slice a8 n8 p8, .slice a9 n9 p9]) (fun _ i _ => n9 - (intOf i).toNat)
      case atStart => exact ⟨0, v8, Nat.zero_le _, rfl, rfl, HV9, hlo8, hhi8, H1⟩
      case round =>
        obtain ⟨j, cur, hj, rfl, rfl, HC, hlo, hhi, H⟩ := hrel
        have k9 := H.box.cell (i := 9) (v := .slice a9 n9 p9) rfl
        by_cases hlt : j < n9
        · have hlt2 : (j : Int) < (n9 : Int) := by omega
          by_cases hc0 : 0 ≤ cur
          · have dc : decide (0 ≤ cur) = true := decide_eq_true hc0
            obtain ⟨gq, oq, rfl, -, hg0, y0, y1, y2, y3, y4, y5, ⟨u0, u1, u2, u3, u4, u5⟩, ⟨-, ⟨s1, -⟩, ⟨s2, -⟩, ⟨s3, -⟩, ⟨s4, -⟩, ⟨-, -⟩⟩⟩ := row_queries (r9.later H.b) q9 hlt
            have hX := fun w h1 h2 h3 h4 => exprsQ_spec (f9 j) y0 y1 y2 y3 y4 y5 w h1 h2 h3 h4 (hB9 j hlt)
            have hlen := exprsQ_len (hB9 j hlt)
            have hbde := exprsQ_bd (hB9 j hlt)
            have hQv := sizQ_val (hB9 j hlt).f zz
            have hIn := IHs j hlt
            generalize exprsOf (f9 j) = L at hX hlen hbde hQv hIn
            have hbd : ∀ k, k < L.length → Bd (L.getD k zz) := fun k hk => hbde _ (by rw [List.getD_eq_getElem?_getD, List.getElem?_eq_getElem hk]; exact List.getElem_mem hk)
            have hin : ∀ k, k < L.length → LeftP (L.getD k zz) := fun k hk => hIn _ (by rw [List.getD_eq_getElem?_getD, List.getElem?_eq_getElem hk]; exact List.getElem_mem hk)
            have HQV := Lib.hid hQv
            clear hbde hIn hQv
            go_wp2_with fail
            refine (hX _ s1 s2 s3 s4).mono ?_
            rintro e w5 ⟨v, rfl, hO, hb⟩
            have H5 := H.next hb
            obtain ⟨a, cap, rfl, hR, hF⟩ := hO.rd hb (by omega) zz
            clear hb hX hO
            have HG := Lib.hid hg0
            clear hg0
            go_wp2_with fail
            go_loopw [1, 8] (fun lv i wr => ∃ (k : Nat) (v : Int), k ≤ L.length ∧ i = .int .i64 (k : Int) ∧ lv = .int .i64 v ∧ Hid (v = leftV l (S9 j + ((List.range k).map fun i => foldE sizA (L.getD i zz)).sum)) ∧ -1 ≤ v ∧ v ≤ l ∧ BX w wr 79 #[.int .i64 c0, .int .i64 c1, .bool c2, .int .i64 c3, .int .i64 c4, .string c5, .string c6, .string c7, .slice a8 n8 p8, .slice (some ⟨gq, oq, none⟩) n9 p9] ∧ Below w5.heap.size w5 wr) (fun _ i _ => L.length - (intOf i).toNat)
            case atStart => exact ⟨0, cur, Nat.zero_le _, rfl, rfl, HC, hlo, hhi, H5, Below.refl _ _⟩
            case round =>
              obtain ⟨k, v, hk, rfl, rfl, HV, hvl, hvh, H6, hB5⟩ := hrel
              by_cases hkl : k < L.length
              · have hkl2 : (k : Int) < (L.length : Int) := by omega
                by_cases hv0 : 0 ≤ v
                · have dv : decide (0 ≤ v) = true := decide_eq_true hv0
                  obtain ⟨gg, oo, rfl, -, hgg, x0, x1, x2, x3, x4, x5, x6, x7, x8, x9, ⟨z0, z1, z2, z3, z4, z5, z6, z7, z8, z9⟩, ⟨-, -, -, -, -, -, -, -, ⟨r8, q8_⟩, ⟨r9, q9_⟩⟩⟩ := row_exprs (hR.later hB5) hF hkl
                  have hC := fun w h h' => hin k hkl x0 x1 x2 x3 x4 x5 x6 x7 x8 x9 v w hv0 (Int.le_trans hvh hl1) h h' (hbd k hkl)
                  have HV2 : Hid (leftV v (foldE sizA (L.getD k zz)) = leftV l (S9 j + ((List.range (k + 1)).map fun i => foldE sizA (L.getD i zz)).sum)) := by
                    show _ = _
                    have hV := HV.out
                    rw [hV] at hv0
                    rw [hV, leftV_step hv0, sum_succ]
                    congr 1; omega
                  have hlo2 := leftV_lo v (foldE sizA (L.getD k zz))
                  have hhi2 := Int.le_trans (leftV_hi (s := foldE sizA (L.getD k zz)) hv0) hvh
                  generalize leftV v (foldE sizA (L.getD k zz)) = v2 at hC HV2 hlo2 hhi2
                  clear HV
                  go_wp2_with fail
                  refine (hC _ r8 r9).mono ?_
                  rintro e w6 ⟨rfl, hb⟩
                  have H7 := H6.next hb
                  have hB6 := hB5.trans (hb.mono hB5.size)
                  clear hb hC r8 r9
                  go_wp2_with fail
                  go_roundw
                  case rel => exact ⟨k + 1, v2, by omega, by go_num, rfl, HV2, hlo2, hhi2, H7, hB6⟩
                  case measure => simp [intOf]; omega
                · have dv : decide (0 ≤ v) = false := decide_eq_false hv0
                  have HV2 : Hid (v = leftV l (S9 (j + 1))) := by
                    show _ = _
                    have hV := HV.out
                    rw [hV, ← leftV_stop (s := S9 j + ((List.range k).map fun i => foldE sizA (L.getD i zz)).sum) (by rw [← hV]; omega) (hS9le hk HQV.out)]
                  clear HV
                  go_wp2_with fail
                  go_roundw
                  case rel => exact ⟨j + 1, v, by omega, by go_num, rfl, HV2, hvl, hvh, H6⟩
                  case measure => simp [intOf]; omega
              · obtain rfl : L.length = k := by omega
                have HV2 : Hid (v = leftV l (S9 (j + 1))) := by
                  show _ = _
                  rw [HV.out, hS9s j, HQV.out]
                clear HV hkl
                go_wp2_with fail
                go_roundw
                case rel => exact ⟨j + 1, v, by omega, by go_num, rfl, HV2, hvl, hvh, H6⟩
                case measure => simp [intOf]; omega
          · have dc : decide (0 ≤ cur) = false := decide_eq_false hc0
            have HF : Hid (leftV l (S9 n9) = cur) := by
              show _ = _
              have hV := HC.out
              rw [leftV_stop (s := S9 j) (by rw [← hV]; omega) (hS9m hj), hV]
            clear HC
            go_wp2_with fail
            go_ret
            exact ⟨ret_i64 (by rw [HVAL.out, HF.out]), H.b⟩
        · obtain rfl : n9 = j := by omega
          clear hlt
          go_wp2_with fail
          go_ret
          exact ⟨ret_i64 (by rw [HVAL.out, HC.out]), H.b⟩
theorem leftE_of (c : Nd) (IHk : ∀ e, e ∈ (c 8).els → LeftP e) (IHs : ∀ q, q ∈ (c 9).els → ∀ e ∈ exprsOf q, LeftP e) : LeftP c := by
  intro c0 c1 c2 c3 c4 c5 c6 c7 x8 x9 l w hl0 hl1 r8 r9 hbd
  obtain ⟨n8, k8, f8, h8⟩ := hbd.f8.deep rfl
  obtain ⟨n9, k9, f9, h9⟩ := hbd.f9.deep rfl
  have a8 := h8 ▸ hbd.f8
  have a9 := h9 ▸ hbd.f9
  obtain rfl : k8 = 10 := a8.2.2.1
  obtain rfl : k9 = 6 := a9.2.2.1
  rw [h8] at IHk
  rw [h9] at IHs
  exact left_step c n8 n9 f8 f9 h8 h9 (fun i hi => IHk _ (mem_el hi)) (fun i hi => IHs _ (mem_el hi)) c0 c1 c2 c3 c4 c5 c6 c7 x8 x9 l w hl0 hl1 r8 r9 hbd
structure LA (d : Dat) : Prop where
  e : ∀ e, e ∈ d.els → LeftP e
  i : ∀ c, c ∈ d.els → LeftP (cut 2 c)
  f : ∀ c, c ∈ d.els → ∀ e ∈ (c 2).els, LeftP e
  q : ∀ q, q ∈ d.els → ∀ e ∈ exprsOf q, LeftP e
theorem leftAll : ∀ d : Dat, LA d
  | .v x => ⟨fun e he => absurd he (by simp [Dat.els, Dat.len]), fun e he => absurd he (by simp [Dat.els, Dat.len]), fun e he => absurd he (by simp [Dat.els, Dat.len]), fun e he => absurd he (by simp [Dat.els, Dat.len])⟩
  | .sl n k f => by
    have IH : ∀ i j, LA (f i j) := fun i j => leftAll (f i j)
    refine ⟨fun e he => ?_, fun c he => ?_, fun c he => ?_, fun q he => ?_⟩
    · obtain ⟨i, -, rfl⟩ := List.mem_map.1 he
      exact leftE_of _ (IH i 8).e (IH i 9).q
    · obtain ⟨i, -, rfl⟩ := List.mem_map.1 he
      exact leftE_of _ (IH i 10).e (IH i 11).q
    · obtain ⟨i, -, rfl⟩ := List.mem_map.1 he
      exact (IH i 2).e
    · obtain ⟨i, -, rfl⟩ := List.mem_map.1 he
      intro e he
      unfold exprsOf at he
      rw [List.mem_append, List.mem_append, List.mem_append] at he
      rcases he with ((he | he) | he) | he
      · obtain ⟨c, hc, rfl⟩ := List.mem_map.1 he
        exact (IH i 1).i c (List.mem_filter.1 hc).1
      · obtain ⟨c, hc, he⟩ := List.mem_flatMap.1 he
        exact (IH i 2).f c hc e he
      · exact (IH i 3).e e he
      · exact (IH i 4).e e he
theorem left_any (c : Nd) : LeftP c := leftE_of c (leftAll (c 8)).e (leftAll (c 9)).q
theorem listOk_one (c : Nd) : listOk [c] = (foldE okA c && (decide (foldE depA c ≤ 24) && decide (foldE sizA c ≤ 200))) := by
  rw [listOk_is]
  show ((foldE okA c && true) && (decide (depA.of [foldE depA c] ≤ 24) && decide (sizA.of [foldE sizA c] ≤ 200))) = _
  rw [depA_good.of_cons, sizA_good.of_cons, Bool.and_true]
  show (_ && (decide (max (foldE depA c) 0 ≤ 24) && decide (foldE sizA c + 0 ≤ 200))) = _
  rw [Nat.max_zero, Nat.add_zero]
set_option maxRecDepth 100000 in
set_option maxHeartbeats 8000000 in
theorem exprOk_spec (c : Nd) (c0 c1 : Int) (c2 : Bool) (c3 c4 : Int) (c5 c6 c7 : ByteArray) (x8 x9 : Value) (w : World) (e0 : c 0 = .v (.int .i64 c0)) (e1 : c 1 = .v (.int .i64 c1)) (e2 : c 2 = .v (.bool c2)) (e3 : c 3 = .v (.int .i64 c3)) (e4 : c 4 = .v (.int .i64 c4)) (e5 : c 5 = .v (.string c5)) (e6 : c 6 = .v (.string c6)) (e7 : c 7 = .v (.string c7))
    (b5 : c5.size ≤ 9223372036854775807) (b6 : c6.size ≤ 9223372036854775807) (b7 : c7.size ≤ 9223372036854775807) (r8 : Rd w 0 x8 (c 8)) (r9 : Rd w 0 x9 (c 9)) (hbd : Bd c) :
    Calls Tryz.prog 74 #[.agg #[.int .i64 c0, .int .i64 c1, .bool c2, .int .i64 c3, .int .i64 c4, .string c5, .string c6, .string c7, x8, x9]] w (BoolE (listOk [c]) w) := by
  have q8 := hbd.f8
  have q9 := hbd.f9
  have hL := fun w h h' => left_any c c0 c1 c2 c3 c4 c5 c6 c7 x8 x9 200 w (by decide) (by decide) h h' hbd
  have hR := fun w h h' => right_any c c0 c1 c2 c3 c4 c5 c6 c7 x8 x9 w e0 e1 e2 e3 e4 e5 e6 e7 b5 b6 b7 h h' hbd
  have hD : foldE sizA c ≤ 200 → DepthOfP c := fun h => (depthOf_all 200).1 c h (by decide) q8 q9
  rw [rightE_ok] at hR
  rw [listOk_one]
  unfold DepthOfP at hD
  have hdl : foldE depA c ≤ foldE sizA c := depE_le c
  obtain ⟨a8, n8, p8, rfl⟩ := r8.slice_of q8 rfl
  obtain ⟨a9, n9, p9, rfl⟩ := r9.slice_of q9 rfl
  have H0 := BX.new w 79 #[.int .i64 c0, .int .i64 c1, .bool c2, .int .i64 c3, .int .i64 c4, .string c5, .string c6, .string c7, .slice a8 n8 p8, .slice a9 n9 p9]
  clear e0 e1 e2 e3 e4 e5 e6 e7 b5 b6 b7 hbd
  generalize foldE okA c = ok at hR ⊢
  generalize foldE depA c = dd at hD hdl ⊢
  have k0 := H0.box.cell (i := 0) (v := .int .i64 c0) rfl
  have k1 := H0.box.cell (i := 1) (v := .int .i64 c1) rfl
  have k2 := H0.box.cell (i := 2) (v := .bool c2) rfl
  have k3 := H0.box.cell (i := 3) (v := .int .i64 c3) rfl
  have k4 := H0.box.cell (i := 4) (v := .int .i64 c4) rfl
  have k5 := H0.box.cell (i := 5) (v := .string c5) rfl
  have k6 := H0.box.cell (i := 6) (v := .string c6) rfl
  have k7 := H0.box.cell (i := 7) (v := .string c7) rfl
  have k8 := H0.box.cell (i := 8) (v := .slice a8 n8 p8) rfl
  have k9 := H0.box.cell (i := 9) (v := .slice a9 n9 p9) rfl
  by_cases hs : foldE sizA c ≤ 200
  · have hD := hD hs
    have hv : leftV 200 (foldE sizA c) = 200 - ((foldE sizA c : Nat) : Int) := if_pos (by omega)
    rw [decide_eq_true hs]
    generalize hV : leftV 200 (foldE sizA c) = V at hL
    have hV0 : 0 ≤ V := by rw [← hV, hv]; omega
    have dV : decide (0 ≤ V) = true := decide_eq_true hV0
    have d24 : decide ((dd : Int) ≤ (24 : Int)) = decide (dd ≤ 24) := by rw [decide_eq_decide]; omega
    generalize decide (dd ≤ 24) = dk at d24 ⊢
    clear hs hv hV hdl
    go_enter Tryz.func74, Tryz.ntmps74
    go_wp2_with fail
    refine (hL _ (r8.later H0.b) (r9.later H0.b)).mono ?_
    rintro e w2 ⟨rfl, hb⟩
    replace H0 := H0.next hb
    clear hb hL k0 k1 k2 k3 k4 k5 k6 k7 k8 k9
    have k0 := H0.box.cell (i := 0) (v := .int .i64 c0) rfl
    have k1 := H0.box.cell (i := 1) (v := .int .i64 c1) rfl
    have k2 := H0.box.cell (i := 2) (v := .bool c2) rfl
    have k3 := H0.box.cell (i := 3) (v := .int .i64 c3) rfl
    have k4 := H0.box.cell (i := 4) (v := .int .i64 c4) rfl
    have k5 := H0.box.cell (i := 5) (v := .string c5) rfl
    have k6 := H0.box.cell (i := 6) (v := .string c6) rfl
    have k7 := H0.box.cell (i := 7) (v := .string c7) rfl
    have k8 := H0.box.cell (i := 8) (v := .slice a8 n8 p8) rfl
    have k9 := H0.box.cell (i := 9) (v := .slice a9 n9 p9) rfl
    cases ok
    · go_wp2_with fail
      refine (hR _ (r8.later H0.b) (r9.later H0.b)).mono ?_
      rintro e w3 ⟨rfl, hb⟩
      replace H0 := H0.next hb
      clear hb hR k0 k1 k2 k3 k4 k5 k6 k7 k8 k9
      go_wp2_with fail
      go_ret
      exact ⟨rfl, H0.b⟩
    · go_wp2_with fail
      refine (hR _ (r8.later H0.b) (r9.later H0.b)).mono ?_
      rintro e w3 ⟨rfl, hb⟩
      replace H0 := H0.next hb
      clear hb hR k0 k1 k2 k3 k4 k5 k6 k7 k8 k9
      have k0 := H0.box.cell (i := 0) (v := .int .i64 c0) rfl
      have k1 := H0.box.cell (i := 1) (v := .int .i64 c1) rfl
      have k2 := H0.box.cell (i := 2) (v := .bool c2) rfl
      have k3 := H0.box.cell (i := 3) (v := .int .i64 c3) rfl
      have k4 := H0.box.cell (i := 4) (v := .int .i64 c4) rfl
      have k5 := H0.box.cell (i := 5) (v := .string c5) rfl
      have k6 := H0.box.cell (i := 6) (v := .string c6) rfl
      have k7 := H0.box.cell (i := 7) (v := .string c7) rfl
      have k8 := H0.box.cell (i := 8) (v := .slice a8 n8 p8) rfl
      have k9 := H0.box.cell (i := 9) (v := .slice a9 n9 p9) rfl
      go_wp2_with fail
      refine (hD _ _ _ _ _ _ _ _ _ _ _ (r8.later H0.b) q8 (r9.later H0.b) q9).mono ?_
      rintro e w4 ⟨rfl, hb⟩
      replace H0 := H0.next hb
      clear hb hD k0 k1 k2 k3 k4 k5 k6 k7 k8 k9
      cases dk
      all_goals
        go_wp2_with fail
        go_ret
        exact ⟨rfl, H0.b⟩
  · have hv : leftV 200 (foldE sizA c) = -1 := if_neg (by omega)
    rw [hv] at hL
    have HZ : Hid ((ok && (decide (dd ≤ 24) && decide (foldE sizA c ≤ 200))) = false) := by show _ = _; rw [decide_eq_false hs]; simp
    clear hv hD hR hs hdl
    go_enter Tryz.func74, Tryz.ntmps74
    go_wp2_with fail
    refine (hL _ (r8.later H0.b) (r9.later H0.b)).mono ?_
    rintro e w2 ⟨rfl, hb⟩
    replace H0 := H0.next hb
    clear hb hL k0 k1 k2 k3 k4 k5 k6 k7 k8 k9
    go_wp2_with fail
    go_ret
    exact ⟨by rw [HZ.out]; rfl, H0.b⟩
theorem queryOk_is {q : Nd} (h : FitsQ q) : queryOk q = (foldQ rightA q && (decide (foldQ depA q ≤ 24) && decide (foldQ sizA q ≤ 200))) := by
  unfold queryOk
  rw [listOk_is, rightQ_ok h.1 h.2.1 h.2.2.1 h.2.2.2, foldQ_is depA_good h.1 h.2.1 h.2.2.1 h.2.2.2, foldQ_is sizA_good h.1 h.2.1 h.2.2.1 h.2.2.2, Bool.and_assoc]
  rfl
set_option maxRecDepth 100000 in
set_option maxHeartbeats 8000000 in
theorem queryOk_spec (q : Nd) (c0 : Bool) (x1 x2 x3 x4 : Value) (c5 : Int) (w : World) (e5 : q 5 = .v (.int .i64 c5)) (r1 : Rd w 0 x1 (q 1)) (r2 : Rd w 0 x2 (q 2)) (r3 : Rd w 0 x3 (q 3)) (r4 : Rd w 0 x4 (q 4)) (hq : BdQ q) :
    Calls Tryz.prog 35 #[.agg #[.bool c0, x1, x2, x3, x4, .int .i64 c5]] w (BoolE (queryOk q) w) := by
  have q1 := hq.f.1
  have q2 := hq.f.2.1
  have q3 := hq.f.2.2.1
  have q4 := hq.f.2.2.2
  have hm := hq.m
  have hsz : foldQ sizA q ≤ 1048576 := by
    have g1 := siz_le (q 1) _ q1
    have g2 := siz_le (q 2) _ q2
    have g3 := siz_le (q 3) _ q3
    have g4 := siz_le (q 4) _ q4
    show _ + _ + _ + _ ≤ _
    omega
  have hR := fun w h1 h2 h3 h4 => rightQ_any q c0 x1 x2 x3 x4 c5 w e5 h1 h2 h3 h4 hq
  have hD : QueryDepthP q := (depthOf_all 1048576).2 q hsz (Nat.le_refl _) q1 q2 q3 q4
  have hS : QuerySizeP q := (sizeOf_all 1048576).2 q hsz (Nat.le_refl _) q1 q2 q3 q4
  have hdl := depQ_le q
  rw [queryOk_is hq.f]
  unfold QueryDepthP at hD
  unfold QuerySizeP at hS
  obtain ⟨a1, n1, p1, rfl⟩ := r1.slice_of q1 rfl
  obtain ⟨a2, n2, p2, rfl⟩ := r2.slice_of q2 rfl
  obtain ⟨a3, n3, p3, rfl⟩ := r3.slice_of q3 rfl
  obtain ⟨a4, n4, p4, rfl⟩ := r4.slice_of q4 rfl
  have H0 := BX.new w 39 #[.bool c0, .slice a1 n1 p1, .slice a2 n2 p2, .slice a3 n3 p3, .slice a4 n4 p4, .int .i64 c5]
  clear e5 hq hm
  generalize foldQ rightA q = ok at hR ⊢
  generalize foldQ depA q = dd at hD hdl ⊢
  generalize foldQ sizA q = ss at hS hdl hsz ⊢
  have d24 : decide ((dd : Int) ≤ (24 : Int)) = decide (dd ≤ 24) := by rw [decide_eq_decide]; omega
  have s200 : decide ((ss : Int) ≤ (200 : Int)) = decide (ss ≤ 200) := by rw [decide_eq_decide]; omega
  generalize decide (dd ≤ 24) = dk at d24 ⊢
  generalize decide (ss ≤ 200) = sk at s200 ⊢
  have k0 := H0.box.cell (i := 0) (v := .bool c0) rfl
  have k1 := H0.box.cell (i := 1) (v := .slice a1 n1 p1) rfl
  have k2 := H0.box.cell (i := 2) (v := .slice a2 n2 p2) rfl
  have k3 := H0.box.cell (i := 3) (v := .slice a3 n3 p3) rfl
  have k4 := H0.box.cell (i := 4) (v := .slice a4 n4 p4) rfl
  have k5 := H0.box.cell (i := 5) (v := .int .i64 c5) rfl
  go_enter Tryz.func35, Tryz.ntmps35
  cases ok
  · go_wp2_with fail
    refine (hR _ (r1.later H0.b) (r2.later H0.b) (r3.later H0.b) (r4.later H0.b)).mono ?_
    rintro e w3 ⟨rfl, hb⟩
    replace H0 := H0.next hb
    clear hb hR k0 k1 k2 k3 k4 k5
    go_wp2_with fail
    go_ret
    exact ⟨rfl, H0.b⟩
  · go_wp2_with fail
    refine (hR _ (r1.later H0.b) (r2.later H0.b) (r3.later H0.b) (r4.later H0.b)).mono ?_
    rintro e w3 ⟨rfl, hb⟩
    replace H0 := H0.next hb
    clear hb hR k0 k1 k2 k3 k4 k5
    have k0 := H0.box.cell (i := 0) (v := .bool c0) rfl
    have k1 := H0.box.cell (i := 1) (v := .slice a1 n1 p1) rfl
    have k2 := H0.box.cell (i := 2) (v := .slice a2 n2 p2) rfl
    have k3 := H0.box.cell (i := 3) (v := .slice a3 n3 p3) rfl
    have k4 := H0.box.cell (i := 4) (v := .slice a4 n4 p4) rfl
    have k5 := H0.box.cell (i := 5) (v := .int .i64 c5) rfl
    go_wp2_with fail
    refine (hD _ _ _ _ _ _ _ (r1.later H0.b) q1 (r2.later H0.b) q2 (r3.later H0.b) q3 (r4.later H0.b) q4).mono ?_
    rintro e w4 ⟨rfl, hb⟩
    replace H0 := H0.next hb
    clear hb hD k0 k1 k2 k3 k4 k5
    have k0 := H0.box.cell (i := 0) (v := .bool c0) rfl
    have k1 := H0.box.cell (i := 1) (v := .slice a1 n1 p1) rfl
    have k2 := H0.box.cell (i := 2) (v := .slice a2 n2 p2) rfl
    have k3 := H0.box.cell (i := 3) (v := .slice a3 n3 p3) rfl
    have k4 := H0.box.cell (i := 4) (v := .slice a4 n4 p4) rfl
    have k5 := H0.box.cell (i := 5) (v := .int .i64 c5) rfl
    cases dk
    · go_wp2_with fail
      go_ret
      exact ⟨rfl, H0.b⟩
    · go_wp2_with fail
      refine (hS _ _ _ _ _ _ _ (r1.later H0.b) q1 (r2.later H0.b) q2 (r3.later H0.b) q3 (r4.later H0.b) q4).mono ?_
      rintro e w5 ⟨rfl, hb⟩
      replace H0 := H0.next hb
      clear hb hS k0 k1 k2 k3 k4 k5
      cases sk
      all_goals
        go_wp2_with fail
        go_ret
        exact ⟨rfl, H0.b⟩
def stOf (c0 : Int) (c1 : Bool) (c6 : Int) (c7 : ByteArray) (c : Nd) : Nd := fun j => match j with
  | 0 => .v (.int .i64 c0) | 1 => .v (.bool c1) | 6 => .v (.int .i64 c6) | 7 => .v (.string c7) | j => c j
theorem stOf_exprs {c0 : Int} {c1 : Bool} {c6 : Int} {c7 : ByteArray} {c : Nd} : stmtExprs (stOf c0 c1 c6 c7 c) = stmtExprs c := rfl
theorem stOf_out {c0 : Int} {c1 : Bool} {c6 : Int} {c7 : ByteArray} {c : Nd} {x2 x3 x4 x5 x8 x9 x10 x11 : Value} {w : World} (b0 : I64 c0) (b6 : I64 c6) (b7 : c7.size ≤ 9223372036854775807)
    (r2 : Rd w 0 x2 (c 2)) (q2 : Fits (c 2) .items) (r3 : Rd w 0 x3 (c 3)) (q3 : Fits (c 3) .sources) (r4 : Rd w 0 x4 (c 4)) (q4 : Fits (c 4) .exprs) (r5 : Rd w 0 x5 (c 5)) (q5 : Fits (c 5) .keys)
    (r8 : Rd w 0 x8 (c 8)) (q8 : Fits (c 8) .rows) (r9 : Rd w 0 x9 (c 9)) (q9 : Fits (c 9) .names) (r10 : Rd w 0 x10 (c 10)) (q10 : Fits (c 10) .exprs) (r11 : Rd w 0 x11 (c 11)) (q11 : Fits (c 11) .exprs) :
    OutK stTy w [.int .i64 c0, .bool c1, x2, x3, x4, x5, .int .i64 c6, .string c7, x8, x9, x10, x11] [stOf c0 c1 c6 c7 c] := OutK.one rfl (fun m hm => match m, hm with
  | 0, _ => ⟨_, rfl, rfl, ⟨_, rfl, b0⟩⟩
  | 1, _ => ⟨_, rfl, rfl, ⟨_, rfl⟩⟩
  | 2, _ => ⟨_, rfl, r2, q2⟩
  | 3, _ => ⟨_, rfl, r3, q3⟩
  | 4, _ => ⟨_, rfl, r4, q4⟩
  | 5, _ => ⟨_, rfl, r5, q5⟩
  | 6, _ => ⟨_, rfl, rfl, ⟨_, rfl, b6⟩⟩
  | 7, _ => ⟨_, rfl, rfl, ⟨_, rfl, b7⟩⟩
  | 8, _ => ⟨_, rfl, r8, q8⟩
  | 9, _ => ⟨_, rfl, r9, q9⟩
  | 10, _ => ⟨_, rfl, r10, q10⟩
  | 11, _ => ⟨_, rfl, r11, q11⟩
  | m + 12, hm => absurd hm (by simp [stTy]))
open Go.ChangeShapes Go.WideShapes Go.ChangeAt Go.RowKit Go.Deep
def tid : Ty → TypeId
  | .int => 3
  | .bool => 4
  | .str => 9
  | .exprs => 24
  | .items => 22
  | .sources => 23
  | .keys => 25
  | .queries => 68
  | _ => 0
def Cells {H : Type} (enc : TypeId × Value → H) (W : World) (tys : List Ty) (n : Nat) (cs : List Value) : Prop :=
  cs.length = tys.length ∧ ∀ j (h : j < tys.length), ∃ (m : Nat) (y : DataW H × List MemPlace), m < n ∧ DataW.trod enc Tryz.prog W 0 (fun _ => true) true m (tid tys[j]) [cs.getD j undef] = some y
section
variable {H : Type} {enc : TypeId × Value → H} {W : World}
set_option maxRecDepth 100000 in
theorem flat_Value {n : Nat} {cs : List Value} {y : DataW H × List MemPlace} (h : DataW.trod enc Tryz.prog W 0 (fun _ => true) true n 67 cs = some y) : Cells enc W [.int, .int, .str] n cs := by
  obtain ⟨xs, n', rfl, -, hl, hlen, hi⟩ := DataW.trod_struct Tryz.underlying67 h
  have hc : Tryz.prog.cellsOf 67 = 3 := by kernel_rfl
  have k_int : Tryz.prog.cellsOf 3 = 1 := by kernel_rfl
  have k_str : Tryz.prog.cellsOf 9 = 1 := by kernel_rfl
  have hx : ∀ i, i < 3 → ∃ y, xs[i]? = some y := fun i hi => ⟨xs[i]'(by have : xs.length = 3 := hlen; omega), List.getElem?_eq_getElem _⟩
  rw [hc] at hl
  match cs, hl with
  | [c0, c1, c2], _ =>
    obtain ⟨y0, hy0⟩ := hx 0 (by decide)
    have e0 : DataW.trod enc Tryz.prog W 0 (fun _ => true) true n' 3 [c0] = some y0 := by
      have h := hi 0 _ rfl
      rw [hy0] at h
      simpa [k_int] using h
    obtain ⟨y1, hy1⟩ := hx 1 (by decide)
    have e1 : DataW.trod enc Tryz.prog W 0 (fun _ => true) true n' 3 [c1] = some y1 := by
      have h := hi 1 _ rfl
      rw [hy1] at h
      simpa [k_int] using h
    obtain ⟨y2, hy2⟩ := hx 2 (by decide)
    have e2 : DataW.trod enc Tryz.prog W 0 (fun _ => true) true n' 9 [c2] = some y2 := by
      have h := hi 2 _ rfl
      rw [hy2] at h
      simpa [k_str] using h
    exact ⟨rfl, fun j hj => match j, hj with
      | 0, _ => ⟨n', y0, Nat.lt_succ_self _, e0⟩
      | 1, _ => ⟨n', y1, Nat.lt_succ_self _, e1⟩
      | 2, _ => ⟨n', y2, Nat.lt_succ_self _, e2⟩
      | j + 3, hj => absurd hj (by simp [exprTy, rowTy])⟩
set_option maxRecDepth 100000 in
theorem flat_Expr {n : Nat} {cs : List Value} {y : DataW H × List MemPlace} (h : DataW.trod enc Tryz.prog W 0 (fun _ => true) true n 70 cs = some y) : Cells enc W exprTy n cs := by
  obtain ⟨xs, n', rfl, -, hl, hlen, hi⟩ := DataW.trod_struct Tryz.underlying70 h
  have hc : Tryz.prog.cellsOf 70 = 10 := by kernel_rfl
  have k_bool : Tryz.prog.cellsOf 4 = 1 := by kernel_rfl
  have k_exprs : Tryz.prog.cellsOf 24 = 1 := by kernel_rfl
  have k_int : Tryz.prog.cellsOf 3 = 1 := by kernel_rfl
  have k_queries : Tryz.prog.cellsOf 68 = 1 := by kernel_rfl
  have k_str : Tryz.prog.cellsOf 9 = 1 := by kernel_rfl
  have k_Value : Tryz.prog.cellsOf 67 = 3 := by kernel_rfl
  have hx : ∀ i, i < 8 → ∃ y, xs[i]? = some y := fun i hi => ⟨xs[i]'(by have : xs.length = 8 := hlen; omega), List.getElem?_eq_getElem _⟩
  rw [hc] at hl
  match cs, hl with
  | [c0, c1, c2, c3, c4, c5, c6, c7, c8, c9], _ =>
    obtain ⟨y0, hy0⟩ := hx 0 (by decide)
    have e0 : DataW.trod enc Tryz.prog W 0 (fun _ => true) true n' 3 [c0] = some y0 := by
      have h := hi 0 _ rfl
      rw [hy0] at h
      simpa [k_int] using h
    obtain ⟨y1, hy1⟩ := hx 1 (by decide)
    have e1 : DataW.trod enc Tryz.prog W 0 (fun _ => true) true n' 3 [c1] = some y1 := by
      have h := hi 1 _ rfl
      rw [hy1] at h
      simpa [k_int] using h
    obtain ⟨y2, hy2⟩ := hx 2 (by decide)
    have e2 : DataW.trod enc Tryz.prog W 0 (fun _ => true) true n' 4 [c2] = some y2 := by
      have h := hi 2 _ rfl
      rw [hy2] at h
      simpa [k_bool] using h
    obtain ⟨y3, hy3⟩ := hx 3 (by decide)
    have e3 : DataW.trod enc Tryz.prog W 0 (fun _ => true) true n' 67 [c3, c4, c5] = some y3 := by
      have h := hi 3 _ rfl
      rw [hy3] at h
      simpa [k_Value] using h
    have q3 := flat_Value e3
    obtain ⟨y4, hy4⟩ := hx 4 (by decide)
    have e4 : DataW.trod enc Tryz.prog W 0 (fun _ => true) true n' 9 [c6] = some y4 := by
      have h := hi 4 _ rfl
      rw [hy4] at h
      simpa [k_str] using h
    obtain ⟨y5, hy5⟩ := hx 5 (by decide)
    have e5 : DataW.trod enc Tryz.prog W 0 (fun _ => true) true n' 9 [c7] = some y5 := by
      have h := hi 5 _ rfl
      rw [hy5] at h
      simpa [k_str] using h
    obtain ⟨y6, hy6⟩ := hx 6 (by decide)
    have e6 : DataW.trod enc Tryz.prog W 0 (fun _ => true) true n' 24 [c8] = some y6 := by
      have h := hi 6 _ rfl
      rw [hy6] at h
      simpa [k_exprs] using h
    obtain ⟨y7, hy7⟩ := hx 7 (by decide)
    have e7 : DataW.trod enc Tryz.prog W 0 (fun _ => true) true n' 68 [c9] = some y7 := by
      have h := hi 7 _ rfl
      rw [hy7] at h
      simpa [k_queries] using h
    exact ⟨rfl, fun j hj => match j, hj with
      | 0, _ => ⟨n', y0, Nat.lt_succ_self _, e0⟩
      | 1, _ => ⟨n', y1, Nat.lt_succ_self _, e1⟩
      | 2, _ => ⟨n', y2, Nat.lt_succ_self _, e2⟩
      | 3, _ => by obtain ⟨m, y, hm, ht⟩ := q3.2 0 (by decide); exact ⟨m, y, by omega, ht⟩
      | 4, _ => by obtain ⟨m, y, hm, ht⟩ := q3.2 1 (by decide); exact ⟨m, y, by omega, ht⟩
      | 5, _ => by obtain ⟨m, y, hm, ht⟩ := q3.2 2 (by decide); exact ⟨m, y, by omega, ht⟩
      | 6, _ => ⟨n', y4, Nat.lt_succ_self _, e4⟩
      | 7, _ => ⟨n', y5, Nat.lt_succ_self _, e5⟩
      | 8, _ => ⟨n', y6, Nat.lt_succ_self _, e6⟩
      | 9, _ => ⟨n', y7, Nat.lt_succ_self _, e7⟩
      | j + 10, hj => absurd hj (by simp [exprTy, rowTy])⟩
set_option maxRecDepth 100000 in
theorem flat_Item {n : Nat} {cs : List Value} {y : DataW H × List MemPlace} (h : DataW.trod enc Tryz.prog W 0 (fun _ => true) true n 101 cs = some y) : Cells enc W (rowTy .items) n cs := by
  obtain ⟨xs, n', rfl, -, hl, hlen, hi⟩ := DataW.trod_struct Tryz.underlying101 h
  have hc : Tryz.prog.cellsOf 101 = 13 := by kernel_rfl
  have k_bool : Tryz.prog.cellsOf 4 = 1 := by kernel_rfl
  have k_str : Tryz.prog.cellsOf 9 = 1 := by kernel_rfl
  have k_Expr : Tryz.prog.cellsOf 70 = 10 := by kernel_rfl
  have hx : ∀ i, i < 4 → ∃ y, xs[i]? = some y := fun i hi => ⟨xs[i]'(by have : xs.length = 4 := hlen; omega), List.getElem?_eq_getElem _⟩
  rw [hc] at hl
  match cs, hl with
  | [c0, c1, c2, c3, c4, c5, c6, c7, c8, c9, c10, c11, c12], _ =>
    obtain ⟨y0, hy0⟩ := hx 0 (by decide)
    have e0 : DataW.trod enc Tryz.prog W 0 (fun _ => true) true n' 4 [c0] = some y0 := by
      have h := hi 0 _ rfl
      rw [hy0] at h
      simpa [k_bool] using h
    obtain ⟨y1, hy1⟩ := hx 1 (by decide)
    have e1 : DataW.trod enc Tryz.prog W 0 (fun _ => true) true n' 9 [c1] = some y1 := by
      have h := hi 1 _ rfl
      rw [hy1] at h
      simpa [k_str] using h
    obtain ⟨y2, hy2⟩ := hx 2 (by decide)
    have e2 : DataW.trod enc Tryz.prog W 0 (fun _ => true) true n' 70 [c2, c3, c4, c5, c6, c7, c8, c9, c10, c11] = some y2 := by
      have h := hi 2 _ rfl
      rw [hy2] at h
      simpa [k_Expr] using h
    have q2 := flat_Expr e2
    obtain ⟨y3, hy3⟩ := hx 3 (by decide)
    have e3 : DataW.trod enc Tryz.prog W 0 (fun _ => true) true n' 9 [c12] = some y3 := by
      have h := hi 3 _ rfl
      rw [hy3] at h
      simpa [k_str] using h
    exact ⟨rfl, fun j hj => match j, hj with
      | 0, _ => ⟨n', y0, Nat.lt_succ_self _, e0⟩
      | 1, _ => ⟨n', y1, Nat.lt_succ_self _, e1⟩
      | 2, _ => by obtain ⟨m, y, hm, ht⟩ := q2.2 0 (by decide); exact ⟨m, y, by omega, ht⟩
      | 3, _ => by obtain ⟨m, y, hm, ht⟩ := q2.2 1 (by decide); exact ⟨m, y, by omega, ht⟩
      | 4, _ => by obtain ⟨m, y, hm, ht⟩ := q2.2 2 (by decide); exact ⟨m, y, by omega, ht⟩
      | 5, _ => by obtain ⟨m, y, hm, ht⟩ := q2.2 3 (by decide); exact ⟨m, y, by omega, ht⟩
      | 6, _ => by obtain ⟨m, y, hm, ht⟩ := q2.2 4 (by decide); exact ⟨m, y, by omega, ht⟩
      | 7, _ => by obtain ⟨m, y, hm, ht⟩ := q2.2 5 (by decide); exact ⟨m, y, by omega, ht⟩
      | 8, _ => by obtain ⟨m, y, hm, ht⟩ := q2.2 6 (by decide); exact ⟨m, y, by omega, ht⟩
      | 9, _ => by obtain ⟨m, y, hm, ht⟩ := q2.2 7 (by decide); exact ⟨m, y, by omega, ht⟩
      | 10, _ => by obtain ⟨m, y, hm, ht⟩ := q2.2 8 (by decide); exact ⟨m, y, by omega, ht⟩
      | 11, _ => by obtain ⟨m, y, hm, ht⟩ := q2.2 9 (by decide); exact ⟨m, y, by omega, ht⟩
      | 12, _ => ⟨n', y3, Nat.lt_succ_self _, e3⟩
      | j + 13, hj => absurd hj (by simp [exprTy, rowTy])⟩
set_option maxRecDepth 100000 in
theorem flat_Source {n : Nat} {cs : List Value} {y : DataW H × List MemPlace} (h : DataW.trod enc Tryz.prog W 0 (fun _ => true) true n 104 cs = some y) : Cells enc W (rowTy .sources) n cs := by
  obtain ⟨xs, n', rfl, -, hl, hlen, hi⟩ := DataW.trod_struct Tryz.underlying104 h
  have hc : Tryz.prog.cellsOf 104 = 3 := by kernel_rfl
  have k_exprs : Tryz.prog.cellsOf 24 = 1 := by kernel_rfl
  have k_str : Tryz.prog.cellsOf 9 = 1 := by kernel_rfl
  have hx : ∀ i, i < 3 → ∃ y, xs[i]? = some y := fun i hi => ⟨xs[i]'(by have : xs.length = 3 := hlen; omega), List.getElem?_eq_getElem _⟩
  rw [hc] at hl
  match cs, hl with
  | [c0, c1, c2], _ =>
    obtain ⟨y0, hy0⟩ := hx 0 (by decide)
    have e0 : DataW.trod enc Tryz.prog W 0 (fun _ => true) true n' 9 [c0] = some y0 := by
      have h := hi 0 _ rfl
      rw [hy0] at h
      simpa [k_str] using h
    obtain ⟨y1, hy1⟩ := hx 1 (by decide)
    have e1 : DataW.trod enc Tryz.prog W 0 (fun _ => true) true n' 9 [c1] = some y1 := by
      have h := hi 1 _ rfl
      rw [hy1] at h
      simpa [k_str] using h
    obtain ⟨y2, hy2⟩ := hx 2 (by decide)
    have e2 : DataW.trod enc Tryz.prog W 0 (fun _ => true) true n' 24 [c2] = some y2 := by
      have h := hi 2 _ rfl
      rw [hy2] at h
      simpa [k_exprs] using h
    exact ⟨rfl, fun j hj => match j, hj with
      | 0, _ => ⟨n', y0, Nat.lt_succ_self _, e0⟩
      | 1, _ => ⟨n', y1, Nat.lt_succ_self _, e1⟩
      | 2, _ => ⟨n', y2, Nat.lt_succ_self _, e2⟩
      | j + 3, hj => absurd hj (by simp [exprTy, rowTy])⟩
set_option maxRecDepth 100000 in
theorem flat_SortKey {n : Nat} {cs : List Value} {y : DataW H × List MemPlace} (h : DataW.trod enc Tryz.prog W 0 (fun _ => true) true n 107 cs = some y) : Cells enc W (rowTy .keys) n cs := by
  obtain ⟨xs, n', rfl, -, hl, hlen, hi⟩ := DataW.trod_struct Tryz.underlying107 h
  have hc : Tryz.prog.cellsOf 107 = 11 := by kernel_rfl
  have k_bool : Tryz.prog.cellsOf 4 = 1 := by kernel_rfl
  have k_Expr : Tryz.prog.cellsOf 70 = 10 := by kernel_rfl
  have hx : ∀ i, i < 2 → ∃ y, xs[i]? = some y := fun i hi => ⟨xs[i]'(by have : xs.length = 2 := hlen; omega), List.getElem?_eq_getElem _⟩
  rw [hc] at hl
  match cs, hl with
  | [c0, c1, c2, c3, c4, c5, c6, c7, c8, c9, c10], _ =>
    obtain ⟨y0, hy0⟩ := hx 0 (by decide)
    have e0 : DataW.trod enc Tryz.prog W 0 (fun _ => true) true n' 70 [c0, c1, c2, c3, c4, c5, c6, c7, c8, c9] = some y0 := by
      have h := hi 0 _ rfl
      rw [hy0] at h
      simpa [k_Expr] using h
    have q0 := flat_Expr e0
    obtain ⟨y1, hy1⟩ := hx 1 (by decide)
    have e1 : DataW.trod enc Tryz.prog W 0 (fun _ => true) true n' 4 [c10] = some y1 := by
      have h := hi 1 _ rfl
      rw [hy1] at h
      simpa [k_bool] using h
    exact ⟨rfl, fun j hj => match j, hj with
      | 0, _ => by obtain ⟨m, y, hm, ht⟩ := q0.2 0 (by decide); exact ⟨m, y, by omega, ht⟩
      | 1, _ => by obtain ⟨m, y, hm, ht⟩ := q0.2 1 (by decide); exact ⟨m, y, by omega, ht⟩
      | 2, _ => by obtain ⟨m, y, hm, ht⟩ := q0.2 2 (by decide); exact ⟨m, y, by omega, ht⟩
      | 3, _ => by obtain ⟨m, y, hm, ht⟩ := q0.2 3 (by decide); exact ⟨m, y, by omega, ht⟩
      | 4, _ => by obtain ⟨m, y, hm, ht⟩ := q0.2 4 (by decide); exact ⟨m, y, by omega, ht⟩
      | 5, _ => by obtain ⟨m, y, hm, ht⟩ := q0.2 5 (by decide); exact ⟨m, y, by omega, ht⟩
      | 6, _ => by obtain ⟨m, y, hm, ht⟩ := q0.2 6 (by decide); exact ⟨m, y, by omega, ht⟩
      | 7, _ => by obtain ⟨m, y, hm, ht⟩ := q0.2 7 (by decide); exact ⟨m, y, by omega, ht⟩
      | 8, _ => by obtain ⟨m, y, hm, ht⟩ := q0.2 8 (by decide); exact ⟨m, y, by omega, ht⟩
      | 9, _ => by obtain ⟨m, y, hm, ht⟩ := q0.2 9 (by decide); exact ⟨m, y, by omega, ht⟩
      | 10, _ => ⟨n', y1, Nat.lt_succ_self _, e1⟩
      | j + 11, hj => absurd hj (by simp [exprTy, rowTy])⟩
set_option maxRecDepth 100000 in
theorem flat_Query {n : Nat} {cs : List Value} {y : DataW H × List MemPlace} (h : DataW.trod enc Tryz.prog W 0 (fun _ => true) true n 27 cs = some y) : Cells enc W (rowTy .queries) n cs := by
  obtain ⟨xs, n', rfl, -, hl, hlen, hi⟩ := DataW.trod_struct Tryz.underlying27 h
  have hc : Tryz.prog.cellsOf 27 = 6 := by kernel_rfl
  have k_bool : Tryz.prog.cellsOf 4 = 1 := by kernel_rfl
  have k_exprs : Tryz.prog.cellsOf 24 = 1 := by kernel_rfl
  have k_int : Tryz.prog.cellsOf 3 = 1 := by kernel_rfl
  have k_items : Tryz.prog.cellsOf 22 = 1 := by kernel_rfl
  have k_keys : Tryz.prog.cellsOf 25 = 1 := by kernel_rfl
  have k_sources : Tryz.prog.cellsOf 23 = 1 := by kernel_rfl
  have hx : ∀ i, i < 6 → ∃ y, xs[i]? = some y := fun i hi => ⟨xs[i]'(by have : xs.length = 6 := hlen; omega), List.getElem?_eq_getElem _⟩
  rw [hc] at hl
  match cs, hl with
  | [c0, c1, c2, c3, c4, c5], _ =>
    obtain ⟨y0, hy0⟩ := hx 0 (by decide)
    have e0 : DataW.trod enc Tryz.prog W 0 (fun _ => true) true n' 4 [c0] = some y0 := by
      have h := hi 0 _ rfl
      rw [hy0] at h
      simpa [k_bool] using h
    obtain ⟨y1, hy1⟩ := hx 1 (by decide)
    have e1 : DataW.trod enc Tryz.prog W 0 (fun _ => true) true n' 22 [c1] = some y1 := by
      have h := hi 1 _ rfl
      rw [hy1] at h
      simpa [k_items] using h
    obtain ⟨y2, hy2⟩ := hx 2 (by decide)
    have e2 : DataW.trod enc Tryz.prog W 0 (fun _ => true) true n' 23 [c2] = some y2 := by
      have h := hi 2 _ rfl
      rw [hy2] at h
      simpa [k_sources] using h
    obtain ⟨y3, hy3⟩ := hx 3 (by decide)
    have e3 : DataW.trod enc Tryz.prog W 0 (fun _ => true) true n' 24 [c3] = some y3 := by
      have h := hi 3 _ rfl
      rw [hy3] at h
      simpa [k_exprs] using h
    obtain ⟨y4, hy4⟩ := hx 4 (by decide)
    have e4 : DataW.trod enc Tryz.prog W 0 (fun _ => true) true n' 25 [c4] = some y4 := by
      have h := hi 4 _ rfl
      rw [hy4] at h
      simpa [k_keys] using h
    obtain ⟨y5, hy5⟩ := hx 5 (by decide)
    have e5 : DataW.trod enc Tryz.prog W 0 (fun _ => true) true n' 3 [c5] = some y5 := by
      have h := hi 5 _ rfl
      rw [hy5] at h
      simpa [k_int] using h
    exact ⟨rfl, fun j hj => match j, hj with
      | 0, _ => ⟨n', y0, Nat.lt_succ_self _, e0⟩
      | 1, _ => ⟨n', y1, Nat.lt_succ_self _, e1⟩
      | 2, _ => ⟨n', y2, Nat.lt_succ_self _, e2⟩
      | 3, _ => ⟨n', y3, Nat.lt_succ_self _, e3⟩
      | 4, _ => ⟨n', y4, Nat.lt_succ_self _, e4⟩
      | 5, _ => ⟨n', y5, Nat.lt_succ_self _, e5⟩
      | j + 6, hj => absurd hj (by simp [exprTy, rowTy])⟩
theorem rows_flat {ty : Ty} (hd : tree ty = true) : ∃ e : TypeId, Tryz.prog.underlying (tid ty) = some (.slice e) ∧ Tryz.prog.cellsOf e = (rowTy ty).length ∧
    ∀ {n : Nat} {cs : List Value} {y : DataW H × List MemPlace}, DataW.trod enc Tryz.prog W 0 (fun _ => true) true n e cs = some y → Cells enc W (rowTy ty) n cs := by
  cases ty
  case int => cases hd
  case bool => cases hd
  case str => cases hd
  case rows => cases hd
  case names => cases hd
  case exprs => exact ⟨70, Tryz.underlying24, by kernel_rfl, fun h => flat_Expr h⟩
  case items => exact ⟨101, Tryz.underlying22, by kernel_rfl, fun h => flat_Item h⟩
  case sources => exact ⟨104, Tryz.underlying23, by kernel_rfl, fun h => flat_Source h⟩
  case keys => exact ⟨107, Tryz.underlying25, by kernel_rfl, fun h => flat_SortKey h⟩
  case queries => exact ⟨27, Tryz.underlying68, by kernel_rfl, fun h => flat_Query h⟩
theorem add_none {g o i : Nat} : (Addr.mk g o none).add i = ⟨g, o + i, none⟩ := by
  unfold Addr.add
  split <;> simp_all
theorem cell_dat : ∀ (n : Nat) (ty : Ty) (x : Value) (y : DataW H × List MemPlace), plainTy ty = true → DataW.trod enc Tryz.prog W 0 (fun _ => true) true n (tid ty) [x] = some y → ∃ d, Rd W 0 x d ∧ Fits d ty := by
  intro n
  induction n using Nat.strongRecOn with
  | _ n ih =>
    intro ty x y hp h
    by_cases hd : tree ty = true
    · have hdp : deep ty = true := by cases ty <;> first | (cases hd; done) | rfl
      have hpr := List.all_eq_true.1 (plain_row hd)
      obtain ⟨e, hu, hk, hflat⟩ := rows_flat (H := H) (enc := enc) (W := W) hd
      have hk0 : 0 < (rowTy ty).length := by cases ty <;> first | (cases hd; done) | decide
      rcases DataW.trod_slice hu h with ⟨hcs, _⟩ | ⟨ad, len, cap, elems, rest, n', rfl, hcs, _, _, hlc, hcm, hel, hi, _, _⟩
      · obtain rfl : x = .slice none 0 0 := by simpa using hcs
        refine ⟨.sl 0 (rowTy ty).length fun _ _ => .v undef, ⟨none, 0, rfl, Nat.le_refl _, fun _ => rfl, .inl rfl⟩, ?_⟩
        exact ⟨hdp, by omega, rfl, fun i hi => by omega⟩
      · obtain rfl : x = .slice (some ad) len cap := by simpa using hcs
        have row : ∀ i, i < len → ∃ cs', W.cells? 0 (ad.add (i * (rowTy ty).length)) (rowTy ty).length = some cs' ∧ Cells enc W (rowTy ty) n' cs' := fun i hil => by
          have h1 := hi i hil
          rw [List.getElem?_eq_getElem (by omega), Option.bind_eq_some_iff, hk] at h1
          obtain ⟨cs', h2, h3⟩ := h1
          exact ⟨cs', h2, hflat h3⟩
        obtain ⟨g, o, spot⟩ := ad
        have hsp : 0 < len → spot = none := fun h0 => by
          obtain ⟨cs', h2, h3⟩ := row 0 h0
          obtain ⟨_, hl, hat⟩ := World.cells?_some h2
          have c0 := hat 0 hk0
          have e0 : ((Addr.mk g o spot).add (0 * (rowTy ty).length)).add 0 = Addr.mk g o spot := by unfold Addr.add; simp
          rw [e0, List.getElem?_eq_getElem (by omega)] at c0
          simpa using World.cell?_spot c0
        have key : ∀ i, i < len → ∃ F : Nat → Dat, ∀ j (hj : j < (rowTy ty).length), ∃ y, W.cell? ⟨g, o + i * (rowTy ty).length + j, none⟩ = some y ∧ Rd W 0 y (F j) ∧ Fits (F j) ((rowTy ty)[j]) := fun i hil => by
          obtain ⟨cs', h2, h3⟩ := row i hil
          have hs := hsp (by omega)
          subst hs
          obtain ⟨_, hl, hat⟩ := World.cells?_some h2
          have one : ∀ j (hj : j < (rowTy ty).length), ∃ d, Rd W 0 (cs'.getD j undef) d ∧ Fits d ((rowTy ty)[j]) := fun j hj => by
            obtain ⟨m, y, hm, ht⟩ := h3.2 j hj
            exact ih m (by omega) _ _ _ (hpr _ (List.getElem_mem hj)) ht
          refine ⟨fun j => if hj : j < (rowTy ty).length then Classical.choose (one j hj) else .v undef, fun j hj => ⟨cs'.getD j undef, ?_, ?_⟩⟩
          · have c := hat j hj
            rw [add_none, add_none] at c
            rw [c, List.getElem?_eq_getElem (by omega), List.getD_eq_getElem?_getD, List.getElem?_eq_getElem (by omega)]
            rfl
          · simp only [dif_pos hj]
            exact Classical.choose_spec (one j hj)
        refine ⟨.sl len (rowTy ty).length fun i => if hil : i < len then Classical.choose (key i hil) else fun _ => .v undef, ?_, ?_⟩
        · refine ⟨some ⟨g, o, spot⟩, cap, rfl, hlc, (fun h => by cases h), ?_⟩
          by_cases h0 : len = 0
          · exact .inl h0
          · refine .inr ?_
            have hs := hsp (by omega)
            subst hs
            have lt : g < W.heap.size := by
              obtain ⟨y, hy, _⟩ := Classical.choose_spec (key 0 (by omega)) 0 hk0
              rcases Nat.lt_or_ge g W.heap.size with hb | hb
              · exact hb
              · exfalso
                have : W.heap[g]? = none := Array.getElem?_eq_none hb
                simp [World.cell?, this] at hy
            refine ⟨g, o, rfl, Nat.zero_le _, lt, fun i hil j hj => ?_⟩
            obtain ⟨y, hy, hr, _⟩ := Classical.choose_spec (key i hil) j hj
            exact ⟨y, hy, by simp only [dif_pos hil]; exact hr⟩
        · refine ⟨hdp, by unfold maxLen at hcm; omega, rfl, fun i hil j hj => ?_⟩
          obtain ⟨y, hy, _, hf⟩ := Classical.choose_spec (key i hil) j hj
          simp only [dif_pos hil]; exact hf
    · cases ty
      case int =>
        obtain ⟨k, hk, -, hw⟩ := DataW.trod_int Tryz.underlying3 h
        obtain rfl : x = .int .i64 k := by simpa using hk
        exact ⟨.v (.int .i64 k), rfl, k, rfl, i64_bds hw⟩
      case bool =>
        obtain ⟨b, hb, -⟩ := DataW.trod_bool Tryz.underlying4 h
        obtain rfl : x = .bool b := by simpa using hb
        exact ⟨.v (.bool b), rfl, b, rfl⟩
      case str =>
        obtain ⟨b, hb, -, hw⟩ := DataW.trod_string Tryz.underlying9 h
        obtain rfl : x = .string b := by simpa using hb
        exact ⟨.v (.string b), rfl, b, rfl, hw⟩
      all_goals first | exact absurd rfl hd | cases hp
end
end Go.Proofs.YtcliijfdlcagoaaGreat
