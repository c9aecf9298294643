/- Contracts of the two functions Parts. -/
import Derived.Test.YtojafonpfcpmjaaDoorBase
import Derived.Test.YtojafonpfcpmjaaDoorOwn
import Derived.Test.YtojafonpfcpmjaaDoorPartsMath
import Derived.Test.YtojafonpfcpmjaaDoorShelf
import Derived.Deep.DeepMust
import Derived.IntWalk
import Derived.WalkSmall
namespace Go.Proofs.YtojafonpfcpmjaaDoor
open Go.RowKit

theorem Tryd.info9 : (Tryd.prog.info? 9).map (fun i => (i.zero, i.size, i.bytes)) = some (some (.string ByteArray.empty), 1, 16) := by kernel_rfl

/-- an append of one value of one cell to a slice of the call's own -/
theorem appV {P : Program} {ops : Array Oper} {rest : List Oper} {o : Oper} {a : Act} {Q : Exit → Act → World → Prop} {t e : TypeId} {i : TypeInfo} {z : Value} {by' : Nat}
    (ht : P.underlying t = some (.slice e)) (hi : P.info? e = some i) (hz : i.zero = some z) (hzc : z.cells.size = 1) (hsize : i.size = 1) (hby : i.bytes = by')
    (hgd : o.guard = none) (s x : Operand) (ho : o.op = .call { callee := .builtin .append, args := #[s, x], argTypes := #[t, t] })
    (B : Nat) (v : Value) (n : Nat) (xs : List Value) (u : Value) (hu : u.oneCell' = true) (W : World) (hs : a.eval s = v) (hx : a.eval x = .slice (some ⟨W.heap.size, 0, none⟩) 1 1)
    (hown : W.ownsRow B e 1 v n xs) (hl : n + 1 ≤ maxLen) (hl2 : (n + 1) * by' ≤ 140737488355328) (hB : B ≤ W.heap.size)
    (h : ∀ (g cap : Nat) (w' : World), w'.ownsRow B e 1 (.slice (some ⟨g, 0, none⟩) (n + 1) cap) (n + 1) (xs ++ [u]) → Below B W w' → wpList P ops Q rest (a.put o.dst (.slice (some ⟨g, 0, none⟩) (n + 1) cap)) w') :
    wpList P ops Q (o :: rest) a (W.alloc (.cells #[u] e)) := by
  refine wpList_append_own _ hgd s x t ho B e i z 1 by' ht hi hz hsize hby hzc (by decide) v n xs hs (World.ownsRow.alloc hown _) ⟨W.heap.size, 0, none⟩ 1 1 [u] hx rfl (cell_one_new _ _ _) (fun y hy => by simp at hy; subst hy; exact hu) hl hl2 (by simp; omega) ?_
  intro v' w' hown' hgrow hnil
  have hb : Below B W w' := ((Below.refl B W).alloc hB _).grown hgrow (by simp; omega) (fun q hq => (World.ownsRow.lt hown q hq).1)
  obtain ⟨g, cap, rfl⟩ : ∃ g cap, v' = .slice (some ⟨g, 0, none⟩) (n + 1) cap := by
    rcases hown'.2 with ⟨_, h0⟩ | ⟨g, cap, _, h0, _⟩
    · omega
    · exact ⟨g, cap, h0⟩
  exact h g cap w' hown' hb

/-- internal/bytealg.MaxLen holds some number -/
def MaxI (w : World) : Prop := ∃ m : Int, w.cell? ⟨1, 0, none⟩ = some (.int .i64 m)
theorem MaxI.later {B : Nat} {w w' : World} (h : MaxI w) (g : Below B w w') (hB : 1 < B) : MaxI w' := by
  obtain ⟨m, hm⟩ := h
  exact ⟨m, (World.cell?_of_block (w := w) (w' := w') (a := ⟨1, 0, none⟩) (g.block 1 hB)).trans hm⟩
theorem MaxI.two {w : World} (h : MaxI w) : 1 < w.heap.size := by
  obtain ⟨m, hm⟩ := h
  rcases Nat.lt_or_ge 1 w.heap.size with e | e
  · exact e
  · have : w.heap[1]? = none := Array.getElem?_eq_none e
    simp [World.cell?, this] at hm

/-- the slice value v of the call's own holds the strings L -/
def OwnS (w : World) (B : Nat) (v : Value) (L : List ByteArray) : Prop := w.ownsRow B 9 1 v L.length (L.map Value.string)
def PartsE (c : UInt8) (s : ByteArray) (w : World) (e : Ending) (w' : World) : Prop :=
  ∃ (g cap : Nat), e = .returned (.slice (some ⟨g, 0, none⟩) (pieces c s.data.toList).length cap) ∧ OwnS w' w.heap.size (.slice (some ⟨g, 0, none⟩) (pieces c s.data.toList).length cap) (strs (pieces c s.data.toList)) ∧ Below w.heap.size w w'
theorem strs_len (P : List (List UInt8)) : (strs P).length = P.length := by simp [strs]
theorem strs_snoc (P : List (List UInt8)) (p : List UInt8) : strs (P ++ [p]) = strs P ++ [⟨p.toArray⟩] := by simp [strs]
theorem extract_is (s : ByteArray) (a k : Nat) : s.extract a k = ⟨((s.data.toList.drop a).take (k - a)).toArray⟩ := by
  apply WideShapes.bytes_inj
  rw [Lib.extract_data]

set_option maxHeartbeats 400000 in
theorem parts_impl (s : ByteArray) (c : UInt8) (w : World) (hs : s.size ≤ 1048576) (hm : MaxI w) :
    Calls Tryd.prog 13 #[.string s, .int .u8 (c.toNat : Int)] w (PartsE c s w) := by
  have h2 := hm.two
  have hcv := conv_one (P := Tryd.prog) w c (c.toNat : Int) rfl Tryd.underlying22 Tryd.underlying5 Tryd.underlying9
  go_enter Tryd.func13, Tryd.ntmps13
  go_wp2_with fail
  obtain ⟨m, hm1⟩ := hm.later ((Below.refl w.heap.size w).alloc (Nat.le_refl _) (.cells #[.int .u8 (c.toNat : Int)] 5)) h2
  refine (Tryd.strings_Split s ⟨#[c]⟩ m _ (by omega) hm1 (by show 1 ≤ 1; omega)).mono ?_
  rw [splitB_pieces, ← pieces_len]
  rintro e w1 ⟨rfl, rfl⟩
  have hn : (pieces c s.data.toList).length ≤ 1048577 := by have := pieces_le c s.data.toList; have e : s.data.toList.length = s.size := rfl; omega
  have hown := World.ownsRow_lit (base := w.heap.size) (e := 9) (size := 1) (w.alloc (.cells #[.int .u8 (c.toNat : Int)] 5)) ((strs (pieces c s.data.toList)).map Value.string).toArray (pieces c s.data.toList).length (by simp) (by unfold maxLen; omega) (by simp [strs_len])
  have hb : Below w.heap.size w ((w.alloc (.cells #[.int .u8 (c.toNat : Int)] 5)).alloc (.cells ((strs (pieces c s.data.toList)).map Value.string).toArray 9)) := ((Below.refl _ _).alloc (Nat.le_refl _) _).alloc (by simp) _
  have hfin : PartsE c s w (.returned (.slice (some ⟨(w.alloc (.cells #[.int .u8 (c.toNat : Int)] 5)).heap.size, 0, none⟩) (pieces c s.data.toList).length (pieces c s.data.toList).length))
      ((w.alloc (.cells #[.int .u8 (c.toNat : Int)] 5)).alloc (.cells ((strs (pieces c s.data.toList)).map Value.string).toArray 9)) :=
    ⟨_, _, rfl, by unfold OwnS; rw [strs_len]; exact hown, hb⟩
  clear hown hb hcv hm1
  generalize (w.alloc (.cells #[.int .u8 (c.toNat : Int)] 5)).alloc (.cells ((strs (pieces c s.data.toList)).map Value.string).toArray 9) = w2 at *
  generalize (w.alloc (.cells #[.int .u8 (c.toNat : Int)] 5)).heap.size = K at *
  go_wp2_with fail
  go_ret
  exact hfin

theorem appended {s : ByteArray} {w W2 : World} {done : List (List UInt8)} {g2 c2 fr k : Nat}
    (h : W2.ownsRow w.heap.size 9 1 (.slice (some ⟨g2, 0, none⟩) (done.length + 1) c2) (done.length + 1) ((strs done).map Value.string ++ [.string (s.extract fr k)])) :
    OwnS W2 w.heap.size (.slice (some ⟨g2, 0, none⟩) (done.length + 1) c2) (strs (done ++ [(s.data.toList.drop fr).take (k - fr)])) := by
  unfold OwnS
  rw [strs_len, strs_snoc, List.map_append, List.length_append, ← extract_is]
  exact h

set_option maxRecDepth 100000 in
set_option maxHeartbeats 1200000 in
theorem parts_spec (s : ByteArray) (c : UInt8) (w : World) (hs : s.size ≤ 1048576) :
    Calls Tryd.prog 14 #[.string s, .int .u8 (c.toNat : Int)] w (PartsE c s w) := by
  obtain ⟨i0, hi, hz0, hz1, hz2⟩ := info_parts Tryd.info9
  have hsl : s.data.toList.length = s.size := rfl
  have HSL := Lib.hid hsl; clear hsl
  go_enter Tryd.func14, Tryd.ntmps14
  go_wp2
  go_loopw [5, 6, 7] (fun v f i wr => ∃ (k fr g cp : Nat) (done : List (List UInt8)), k ≤ s.size + 1 ∧ fr ≤ k ∧ done.length ≤ k ∧ i = .int .i64 (k : Int) ∧ f = .int .i64 (fr : Int) ∧ v = .slice (some ⟨g, 0, none⟩) done.length cp ∧
      OwnS wr w.heap.size (.slice (some ⟨g, 0, none⟩) done.length cp) (strs done) ∧ Below w.heap.size w wr ∧
      Hid ((k ≤ s.size → pieces c s.data.toList = done ++ glue ((s.data.toList.drop fr).take (k - fr)) (pieces c (s.data.toList.drop k))) ∧ (k = s.size + 1 → pieces c s.data.toList = done)))
    (fun _ _ i _ => s.size + 1 - (intOf i).toNat)
  case atStart => exact ⟨0, 0, w.heap.size, 0, [], by omega, by omega, by simp, rfl, rfl, rfl, World.ownsRow_lit w #[] 0 (Nat.le_refl _) (by unfold maxLen; omega) rfl, (Below.refl _ _).alloc (Nat.le_refl _) _, fun _ => by simp [glue_nil (pieces_ne _ _)], fun h => by omega⟩
  case round =>
    obtain ⟨k, fr, g, cp, done, hk, hfr, hdl, rfl, rfl, rfl, hown, hbel, HR⟩ := hrel
    have hsz := hbel.size
    by_cases hend : k = s.size + 1
    · have HK := Lib.hid hend
      have hgt : s.size < k := by omega
      clear hend
      go_wp2_with fail
      go_ret
      have e := HR.out.2 HK.out
      unfold PartsE
      rw [e]
      exact ⟨g, cp, rfl, hown, hbel⟩
    · by_cases hlast : k = s.size
      · have HK := Lib.hid hlast
        have hq : ((k : Int) == (s.size : Int)) = true := by rw [hlast]; exact beq_self_eq_true _
        have hle : k ≤ s.size := by omega
        clear hend hlast
        go_wp2_with (at_builtin; go_must (refine appV Tryd.underlying30 hi hz0 rfl hz1 hz2 rfl (.tmp 26) (.tmp 31) rfl w.heap.size (.slice (some ⟨g, 0, none⟩) done.length cp) done.length ((strs done).map Value.string) (.string (s.extract fr k)) rfl wr rfl rfl (by have h := hown; unfold OwnS at h; rw [strs_len] at h; exact h) (by unfold maxLen; omega) (by omega) hsz ?_); intro g2 c2 W2 hown2 hbel2)
        go_roundw
        case rel => exact ⟨k + 1, k + 1, g2, c2, done ++ [(s.data.toList.drop fr).take (k - fr)], by omega, by omega, by simp; omega, by go_num, by go_num, by simp, by rw [List.length_append]; exact appended hown2, hbel.trans hbel2, fun h => by have := HK.out; omega, fun _ => by
          have h := HR.out.1 hle
          have hk := HK.out
          rw [hk, ← HSL.out] at h ⊢
          exact cut_end h⟩
        case measure => simp [intOf]; omega
      · have hlt : k < s.size := by omega
        have hq : ((k : Int) == (s.size : Int)) = false := by simp; omega
        clear hend hlast
        have hle : k ≤ s.size := by omega
        by_cases hb : s[k] = c
        · have hq2 : (((s[k]).toNat : Int) == (c.toNat : Int)) = true := by rw [hb]; exact beq_self_eq_true _
          have HB := Lib.hid hb; clear hb
          go_wp2_with (at_builtin; go_must (refine appV Tryd.underlying30 hi hz0 rfl hz1 hz2 rfl (.tmp 26) (.tmp 31) rfl w.heap.size (.slice (some ⟨g, 0, none⟩) done.length cp) done.length ((strs done).map Value.string) (.string (s.extract fr k)) rfl wr rfl rfl (by have h := hown; unfold OwnS at h; rw [strs_len] at h; exact h) (by unfold maxLen; omega) (by omega) hsz ?_); intro g2 c2 W2 hown2 hbel2)
          go_roundw
          case rel => exact ⟨k + 1, k + 1, g2, c2, done ++ [(s.data.toList.drop fr).take (k - fr)], by omega, by omega, by simp; omega, by go_num, by go_num, by simp, by rw [List.length_append]; exact appended hown2, hbel.trans hbel2, fun _ => cut_sep (by simpa using hlt) HB.out (HR.out.1 hle), fun h => by omega⟩
          case measure => simp [intOf]; omega
        · have hq2 : (((s[k]).toNat : Int) == (c.toNat : Int)) = false := by
            simp only [beq_eq_false_iff_ne, ne_eq]
            intro e
            exact hb (UInt8.toNat_inj.1 (by omega))
          have HB := Lib.hid hb; clear hb
          go_wp2_with fail
          go_roundw
          case rel => exact ⟨k + 1, fr, g, cp, done, by omega, by omega, by omega, by go_num, rfl, rfl, hown, hbel, fun _ => cut_on (by simpa using hlt) hfr HB.out (HR.out.1 hle), fun h => by omega⟩
          case measure => simp [intOf]; omega
end Go.Proofs.YtojafonpfcpmjaaDoor
