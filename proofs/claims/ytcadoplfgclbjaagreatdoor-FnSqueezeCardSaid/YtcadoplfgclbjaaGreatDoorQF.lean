/- Joined texts: Toks TokSlDef LexT TokAt LexO LexX Mark TokSl TokMk LexRow Same ToksU. -/
import Derived.Test.YtcadoplfgclbjaaGreatDoorQD
import Derived.Test.YtcadoplfgclbjaaGreatDoorQA
import Derived.Test.YtcadoplfgclbjaaGreatDoorQE
import Derived.Test.YtcadoplfgclbjaaGreatDoorQB
import Derived.Test.YtcadoplfgclbjaaGreatDoorQC
import Derived.Deep.QuietTactic
import Derived.BigQuiet
import Derived.Deep.RegionWith
import Derived.Deep.DeepMust
import Derived.Lib.SlicesS
/- Slices of tokens that a call owns; what a lexer hands back. -/
namespace Go.Proofs.YtcadoplfgclbjaaGreatDoor
open Go.RowKit

theorem Tryz.infoTk : (Tryz.prog.info? 40).map (fun i => (i.zero, i.size, i.bytes)) = some (some (.agg #[.int .i64 0, .string ByteArray.empty, .int .i64 0]), 3, 32) := by kernel_rfl

/-- a token's cells -/
def tkCells (t : Tk) : List Value := [.int .i64 t.k, .string ⟨t.t.toArray⟩, .int .i64 (t.a : Int)]
def toksCells (L : List Tk) : List Value := L.flatMap tkCells
theorem toksCells_snoc (L : List Tk) (t : Tk) : toksCells (L ++ [t]) = toksCells L ++ tkCells t := by simp [toksCells]
/-- the slice value v of the call's own holds the tokens L -/
def OwnT (w : World) (B : Nat) (v : Value) (L : List Tk) : Prop := w.ownsRow B 40 3 v L.length (toksCells L)

theorem appT {ops : Array Oper} {rest : List Oper} {o : Oper} {a : Act} {Q : Exit → Act → World → Prop}
    (hgd : o.guard = none) (s x : Operand) (ho : o.op = .call { callee := .builtin .append, args := #[s, x], argTypes := #[24, 24] })
    (B : Nat) (v : Value) (L : List Tk) (t : Tk) (S : ByteArray) (hS : S = ⟨t.t.toArray⟩) (W : World) (nb : Nat) (hnb : W.heap.size = nb) (hs : a.eval s = v) (hx : a.eval x = .slice (some ⟨nb, 0, none⟩) 1 1)
    (hown : OwnT W B v L) (hl : L.length ≤ 4000000) (hB : B ≤ W.heap.size)
    (h : ∀ (g cap : Nat) (w' : World), OwnT w' B (.slice (some ⟨g, 0, none⟩) (L.length + 1) cap) (L ++ [t]) → Below B W w' → wpList Tryz.prog ops Q rest (a.put o.dst (.slice (some ⟨g, 0, none⟩) (L.length + 1) cap)) w') :
    wpList Tryz.prog ops Q (o :: rest) a (W.alloc (.cells #[.int .i64 t.k, .string S, .int .i64 (t.a : Int)] 40)) := by
  subst hS
  subst hnb
  obtain ⟨i, hi, hz, hsize, hby⟩ := info_parts Tryz.infoTk
  have hrow := heap_alloc_new W (.cells #[.int .i64 t.k, .string ⟨t.t.toArray⟩, .int .i64 (t.a : Int)] 40)
  refine wpList_append_own _ hgd s x 24 ho B 40 i _ 3 32 Tryz.underlying24 hi hz hsize hby rfl (by decide) v L.length (toksCells L) hs (World.ownsRow.alloc hown _) ⟨W.heap.size, 0, none⟩ 1 1 (tkCells t) hx rfl (fun j u hj => ?_) (fun u hu => by simp [tkCells] at hu; rcases hu with rfl | rfl | rfl <;> rfl) (by unfold maxLen; omega) (by omega) (by simp; omega) ?_
  · have hp : (⟨W.heap.size, 0, none⟩ : Addr).add j = ⟨W.heap.size, j, none⟩ := by unfold Addr.add; split <;> simp_all
    rw [hp, cell_of_row _ W.heap.size j _ 40 (0, 0) hrow]
    have hj3 : j < 3 := by
      have := (List.getElem?_eq_some_iff.1 hj).1
      simpa [tkCells] using this
    rcases (show j = 0 ∨ j = 1 ∨ j = 2 by omega) with rfl | rfl | rfl <;> exact hj
  · intro v' w' hown' hgrow hnil
    have hb : Below B W w' := ((Below.refl B W).alloc hB _).grown hgrow (by simp; omega) (fun q hq => (World.ownsRow.lt hown q hq).1)
    obtain ⟨g, cap, rfl⟩ : ∃ g cap, v' = .slice (some ⟨g, 0, none⟩) (L.length + 1) cap := by
      rcases hown'.2 with ⟨_, h0⟩ | ⟨g, cap, _, h0, _⟩
      · omega
      · exact ⟨g, cap, h0⟩
    exact h g cap w' (by unfold OwnT; rw [toksCells_snoc, List.length_append]; exact hown') hb

/-- what a lexer hands back -/
def LexE (r : Except Nat (List Tk)) (w : World) (e : Ending) (w' : World) : Prop :=
  (match r with
    | .ok L => ∃ v, e = .returned (.tuple #[v, .int .i64 (-1)]) ∧ OwnT w' w.heap.size v L
    | .error n => ∃ (a : Option Addr) (cap : Nat), e = .returned (.tuple #[.slice a 0 cap, .int .i64 (n : Int)])) ∧ Below w.heap.size w w'
end Go.Proofs.YtcadoplfgclbjaaGreatDoor

/- Slices of tokens: what it is that one holds, and what keeps it. -/
namespace Go.Proofs.YtcadoplfgclbjaaGreatDoor
open Go.RowKit

/-- the slice at a holds the tokens f 0, f 1, .. up to n; its block is new since B -/
def TokSl (w : World) (B : Nat) (a : Option Addr) (n : Nat) (f : Nat → Int × ByteArray × Int) : Prop :=
  ∀ j, j < n → ∃ g, a = some ⟨g, 0, none⟩ ∧ B ≤ g ∧ g < w.heap.size ∧
    w.cell? ⟨g, j * 3, none⟩ = some (.int .i64 (f j).1) ∧ w.cell? ⟨g, j * 3 + 1, none⟩ = some (.string (f j).2.1) ∧ w.cell? ⟨g, j * 3 + 2, none⟩ = some (.int .i64 (f j).2.2) ∧
    w.frozen? ⟨g, j * 3, none⟩ = false ∧ w.frozen? ⟨g, j * 3 + 1, none⟩ = false ∧ w.frozen? ⟨g, j * 3 + 2, none⟩ = false

def upd (f : Nat → Int × ByteArray × Int) (k : Nat) (v : Int × ByteArray × Int) (j : Nat) : Int × ByteArray × Int := if j = k then v else f j
theorem upd_same {f : Nat → Int × ByteArray × Int} {k : Nat} {v : Int × ByteArray × Int} : upd f k v k = v := if_pos rfl
theorem upd_other {f : Nat → Int × ByteArray × Int} {k j : Nat} {v : Int × ByteArray × Int} (h : ¬ j = k) : upd f k v j = f j := if_neg h
theorem TokSl.put0 {w : World} {B n k g : Nat} {a : Option Addr} {f : Nat → Int × ByteArray × Int} (x : Int) (H : TokSl w B a n f) (ha : a = some ⟨g, 0, none⟩) :
    TokSl (w.setCell ⟨g, k * 3, none⟩ (.int .i64 x)) B a n (upd f k (x, (f k).2.1, (f k).2.2)) := fun j hj => by
  obtain ⟨g', e, h1, h2, c0, c1, c2, z0, z1, z2⟩ := H j hj
  obtain rfl : g' = g := by rw [e] at ha; simpa using ha
  have hsz : (w.setCell ⟨g', k * 3, none⟩ (.int .i64 x)).heap.size = w.heap.size := by simp
  refine ⟨g', e, h1, by rw [hsz]; exact h2, ?_, ?_, ?_, by rw [World.frozen?_setCell]; exact z0, by rw [World.frozen?_setCell]; exact z1, by rw [World.frozen?_setCell]; exact z2⟩
  all_goals
    by_cases ej : j = k
    · subst ej
      rw [upd_same]
      first
        | exact World.cell?_setCell_same _ _ _ (by assumption)
        | (rw [World.cell?_setCell_other _ _ _ _ (fun x => by have := (Addr.mk.inj x).2.1; omega)]; assumption)
    · rw [upd_other ej, World.cell?_setCell_other _ _ _ _ (fun x => by have := (Addr.mk.inj x).2.1; omega)]; assumption
theorem TokSl.put1 {w : World} {B n k g : Nat} {a : Option Addr} {f : Nat → Int × ByteArray × Int} (x : ByteArray) (H : TokSl w B a n f) (ha : a = some ⟨g, 0, none⟩) :
    TokSl (w.setCell ⟨g, k * 3 + 1, none⟩ (.string x)) B a n (upd f k ((f k).1, x, (f k).2.2)) := fun j hj => by
  obtain ⟨g', e, h1, h2, c0, c1, c2, z0, z1, z2⟩ := H j hj
  obtain rfl : g' = g := by rw [e] at ha; simpa using ha
  have hsz : (w.setCell ⟨g', k * 3 + 1, none⟩ (.string x)).heap.size = w.heap.size := by simp
  refine ⟨g', e, h1, by rw [hsz]; exact h2, ?_, ?_, ?_, by rw [World.frozen?_setCell]; exact z0, by rw [World.frozen?_setCell]; exact z1, by rw [World.frozen?_setCell]; exact z2⟩
  all_goals
    by_cases ej : j = k
    · subst ej
      rw [upd_same]
      first
        | exact World.cell?_setCell_same _ _ _ (by assumption)
        | (rw [World.cell?_setCell_other _ _ _ _ (fun x => by have := (Addr.mk.inj x).2.1; omega)]; assumption)
    · rw [upd_other ej, World.cell?_setCell_other _ _ _ _ (fun x => by have := (Addr.mk.inj x).2.1; omega)]; assumption
theorem TokSl.put2 {w : World} {B n k g : Nat} {a : Option Addr} {f : Nat → Int × ByteArray × Int} (x : Int) (H : TokSl w B a n f) (ha : a = some ⟨g, 0, none⟩) :
    TokSl (w.setCell ⟨g, k * 3 + 2, none⟩ (.int .i64 x)) B a n (upd f k ((f k).1, (f k).2.1, x)) := fun j hj => by
  obtain ⟨g', e, h1, h2, c0, c1, c2, z0, z1, z2⟩ := H j hj
  obtain rfl : g' = g := by rw [e] at ha; simpa using ha
  have hsz : (w.setCell ⟨g', k * 3 + 2, none⟩ (.int .i64 x)).heap.size = w.heap.size := by simp
  refine ⟨g', e, h1, by rw [hsz]; exact h2, ?_, ?_, ?_, by rw [World.frozen?_setCell]; exact z0, by rw [World.frozen?_setCell]; exact z1, by rw [World.frozen?_setCell]; exact z2⟩
  all_goals
    by_cases ej : j = k
    · subst ej
      rw [upd_same]
      first
        | exact World.cell?_setCell_same _ _ _ (by assumption)
        | (rw [World.cell?_setCell_other _ _ _ _ (fun x => by have := (Addr.mk.inj x).2.1; omega)]; assumption)
    · rw [upd_other ej, World.cell?_setCell_other _ _ _ _ (fun x => by have := (Addr.mk.inj x).2.1; omega)]; assumption
theorem TokSl.congr {w : World} {B n : Nat} {a : Option Addr} {f f' : Nat → Int × ByteArray × Int} (H : TokSl w B a n f) (h : ∀ j, j < n → f j = f' j) : TokSl w B a n f' := fun j hj => by
  rw [← h j hj]; exact H j hj
theorem TokSl.keep {w w' : World} {B n : Nat} {a : Option Addr} {f : Nat → Int × ByteArray × Int} (H : TokSl w B a n f) (hs : w.heap.size ≤ w'.heap.size) (hb : ∀ g, a = some ⟨g, 0, none⟩ → B ≤ g → g < w.heap.size → w'.heap[g]? = w.heap[g]?) : TokSl w' B a n f := fun j hj => by
  obtain ⟨g, e, h1, h2, c0, c1, c2, z0, z1, z2⟩ := H j hj
  have hk := hb g e h1 h2
  have hc : ∀ o, w'.cell? ⟨g, o, none⟩ = w.cell? ⟨g, o, none⟩ := fun o => World.cell?_of_block (w := w) (w' := w') (a := ⟨g, o, none⟩) hk
  have hz : ∀ o, w'.frozen? ⟨g, o, none⟩ = w.frozen? ⟨g, o, none⟩ := fun o => World.frozen?_of_block (w := w) (w' := w') (a := ⟨g, o, none⟩) hk
  exact ⟨g, e, h1, by omega, by rw [hc]; exact c0, by rw [hc]; exact c1, by rw [hc]; exact c2, by rw [hz]; exact z0, by rw [hz]; exact z1, by rw [hz]; exact z2⟩
theorem TokSl.below {w w' : World} {B n : Nat} {a : Option Addr} {f : Nat → Int × ByteArray × Int} (H : TokSl w B a n f) (hb : Below w.heap.size w w') : TokSl w' B a n f :=
  H.keep hb.size fun g _ _ h => hb.block g h

/-- the cells of token k, in any later world -/
theorem TokSl.at_k {w w' : World} {B n k g : Nat} {f : Nat → Int × ByteArray × Int} (H : TokSl w B (some ⟨g, 0, none⟩) n f) (hb : Below w.heap.size w w') (hk : k < n) :
    w'.cell? ⟨g, k * 3, none⟩ = some (.int .i64 (f k).1) ∧ w'.cell? ⟨g, k * 3 + 1, none⟩ = some (.string (f k).2.1) ∧ w'.cell? ⟨g, k * 3 + 2, none⟩ = some (.int .i64 (f k).2.2) := by
  obtain ⟨g', e, _, _, c0, c1, c2, _⟩ := H.below hb k hk
  obtain rfl : g = g' := by simpa using e
  exact ⟨c0, c1, c2⟩

/-- nothing that was there has turned but the slice's own block -/
def Turns (a : Option Addr) (w w' : World) : Prop := w.grownBy w' (a.map (·.block))
theorem turns_refl (a : Option Addr) (w : World) : Turns a w w := ⟨rfl, rfl, rfl, Nat.le_refl _, fun _ _ _ => rfl⟩
theorem turns_set {a : Option Addr} {w w1 : World} {g o : Nat} {v : Value} (h : Turns a w w1) (ha : a = some ⟨g, 0, none⟩) : Turns a w (w1.setCell ⟨g, o, none⟩ v) := by
  subst ha
  exact ⟨h.os, h.tape, h.output, by simpa using h.size, fun k hk hr => (heap_setCell_other w1 ⟨g, o, none⟩ k v (fun e => hr (by simp [e]))).trans (h.block k hk hr)⟩
theorem turns_below {a : Option Addr} {w w1 w2 : World} (h : Turns a w w1) (g : Below w1.heap.size w1 w2) : Turns a w w2 :=
  ⟨g.os.trans h.os, g.tape.trans h.tape, g.output.trans h.output, Nat.le_trans h.size g.size, fun k hk hr => (g.block k (by have := h.size; omega)).trans (h.block k hk hr)⟩
end Go.Proofs.YtcadoplfgclbjaaGreatDoor

/- The contract of the model's test on tokens. -/
namespace Go.Proofs.YtcadoplfgclbjaaGreatDoor
open Go.RowKit

/-- a token as a value -/
def tkVal (k : Int) (t : ByteArray) (a : Int) : Value := .agg #[.int .i64 k, .string t, .int .i64 a]
theorem below_dr {w w1 : World} (h : Below w.drew.heap.size w.drew w1) : Below w.heap.size w w1 := (Below.refl _ _).drew.trans h
theorem tokOk_other {k : Int} {t : List UInt8} (h1 : ¬ k = 1) (h2 : ¬ k = 2) (h3 : ¬ k = 3) (h4 : ¬ k = 4) (h5 : ¬ k = 5) : tokOk k t = false := by
  unfold tokOk; rw [if_neg h1, if_neg h2, if_neg h3, if_neg h4, if_neg h5]

set_option maxRecDepth 100000 in
set_option maxHeartbeats 1600000 in
theorem tokenOk_spec (k : Int) (t : ByteArray) (a : Int) (w : World) (ht : t.size ≤ 9223372036854775807) :
    Calls Tryz.prog 33 #[.agg #[.int .i64 k, .string t, .int .i64 a]] w (BoolE (tokOk k t.data.toList) w) := by
  have hcell : ∀ w', Below (w.heap.size + 1) (w.alloc (.cells #[.int .i64 k, .string t, .int .i64 a] 40)) w' → w'.cell? ⟨w.heap.size, 1, none⟩ = some (.string t) := fun w' hb => by
    rw [hb.cell (p := ⟨w.heap.size, 1, none⟩) (by show w.heap.size < w.heap.size + 1; omega)]
    rw [cell_of_row _ w.heap.size 1 _ 40 (0, 0) (heap_alloc_new w _)]; rfl
  by_cases h1 : k = 1
  · subst h1
    have hT : tokOk 1 t.data.toList = (decide (0 < numOf (upL t.data.toList)) && (upL t.data.toList == t.data.toList)) := rfl
    have hK := fun w => keyOf_spec t w ht
    have hF := fun w => fold_spec t w ht
    unfold StrE at hF
    have hq : ((⟨(upL t.data.toList).toArray⟩ : ByteArray).toList == t.toList) = (upL t.data.toList == t.data.toList) := by
      rw [ByteArray.toList_eq, ByteArray.toList_eq]
    generalize (⟨(upL t.data.toList).toArray⟩ : ByteArray) = U at hF hq
    cases h0 : decide (0 < numOf (upL t.data.toList))
    · have d0 : decide ((0 : Int) < (numOf (upL t.data.toList) : Int)) = false := by simp at h0 ⊢; omega
      rw [h0] at hT
      generalize (numOf (upL t.data.toList) : Int) = N at hK d0
      have HT := Lib.hid (show tokOk 1 t.data.toList = false from hT); clear hT h0 hq
      go_enter Tryz.func33, Tryz.ntmps33
      go_wp2_with fail
      first | go_region_with (go_at_call 62; refine (hK _).mono ?_; rintro e w1 ⟨rfl, hb1⟩) | fail
      all_goals
        have hbb := ((Below.refl w.heap.size w).alloc (Nat.le_refl _) _).trans ((below_dr hb1).mono (by simp))
        go_wp2_with fail
        go_ret
        exact ⟨by rw [HT.out]; rfl, hbb⟩
    · have d0 : decide ((0 : Int) < (numOf (upL t.data.toList) : Int)) = true := by simp at h0 ⊢; omega
      rw [h0, Bool.true_and] at hT
      generalize (numOf (upL t.data.toList) : Int) = N at hK d0
      generalize (upL t.data.toList == t.data.toList) = b at hT hq
      have HT := Lib.hid hT; clear hT h0
      cases b
      all_goals
        go_enter Tryz.func33, Tryz.ntmps33
        go_wp2_with fail
        first | go_region_with (first | (go_at_call 62; refine (hK _).mono ?_; rintro e w1 ⟨rfl, hb1⟩; have hc1 := hcell w1 ((below_dr hb1).mono (by simp))) | (go_at_call 54; refine (hF _).mono ?_; rintro e w2 ⟨rfl, hb2⟩; have hz1 := hb1.size; have hb12 := ((below_dr hb1).mono (show w.heap.size + 1 ≤ _ by simp)).trans (hb2.mono (by simp at hz1; omega)); have hc2 := hcell w2 hb12)) | fail
        all_goals
          have hbb := ((Below.refl w.heap.size w).alloc (Nat.le_refl _) (.cells #[.int .i64 1, .string t, .int .i64 a] 40)).trans (hb12.mono (by omega))
          go_wp2_with fail
          go_ret
          exact ⟨by rw [HT.out]; rfl, hbb⟩
  · have q1 : (k == 1) = false := by simpa using h1
    by_cases h2 : k = 2
    · subst h2
      go_enter Tryz.func33, Tryz.ntmps33
      go_wp2_with fail
      refine (nameOk_spec t _ ht).mono ?_
      rintro e w1 ⟨rfl, rfl⟩
      go_wp2_with fail
      go_ret
      exact ⟨rfl, (Below.refl _ _).alloc (Nat.le_refl _) _⟩
    · have q2 : (k == 2) = false := by simpa using h2
      by_cases h3 : k = 3
      · subst h3
        go_enter Tryz.func33, Tryz.ntmps33
        go_wp2_with fail
        refine (number_spec t _ ht).mono ?_
        rintro e w1 ⟨⟨n, hn, rfl⟩ | ⟨hn, rfl⟩, hb⟩
        · have hE : tokOk 3 t.data.toList = true := (numB_iff _).2 ⟨n, hn⟩
          have HE := Lib.hid hE; clear hE hn
          go_wp2_with fail
          go_ret
          exact ⟨by rw [HE.out]; rfl, ((Below.refl _ _).alloc (Nat.le_refl _) _).trans (hb.mono (by simp))⟩
        · have hE : tokOk 3 t.data.toList = false := by
            cases h : tokOk 3 t.data.toList
            · rfl
            · obtain ⟨n, h'⟩ := (numB_iff _).1 h
              exact absurd h' (hn n)
          have HE := Lib.hid hE; clear hE hn
          go_wp2_with fail
          go_ret
          exact ⟨by rw [HE.out]; rfl, ((Below.refl _ _).alloc (Nat.le_refl _) _).trans (hb.mono (by simp))⟩
      · have q3 : (k == 3) = false := by simpa using h3
        by_cases h4 : k = 4
        · subst h4
          have hE : tokOk 4 t.data.toList = decide ((t.size : Int) ≤ 40) := by
            show decide (t.size ≤ 40) = decide ((t.size : Int) ≤ 40)
            exact decide_eq_decide.2 (by omega)
          have HE := Lib.hid hE; clear hE
          go_enter Tryz.func33, Tryz.ntmps33
          go_wp2_with fail
          go_ret
          exact ⟨by rw [HE.out]; rfl, (Below.refl _ _).alloc (Nat.le_refl _) _⟩
        · have q4 : (k == 4) = false := by simpa using h4
          by_cases h5 : k = 5
          · subst h5
            go_enter Tryz.func33, Tryz.ntmps33
            go_wp2_with fail
            refine (signOk_spec t _).mono ?_
            rintro e w1 ⟨rfl, rfl⟩
            go_wp2_with fail
            go_ret
            exact ⟨rfl, (Below.refl _ _).alloc (Nat.le_refl _) _⟩
          · have q5 : (k == 5) = false := by simpa using h5
            have HE := Lib.hid (tokOk_other (t := t.data.toList) h1 h2 h3 h4 h5)
            clear h1 h2 h3 h4 h5
            go_enter Tryz.func33, Tryz.ntmps33
            go_wp2_with fail
            go_ret
            exact ⟨by rw [HE.out]; rfl, (Below.refl _ _).alloc (Nat.le_refl _) _⟩
end Go.Proofs.YtcadoplfgclbjaaGreatDoor

/- A block that holds a token. -/
namespace Go.Proofs.YtcadoplfgclbjaaGreatDoor
open Go.RowKit

/-- block B holds a token -/
def TokAt (W : World) (B : Nat) (k : Int) (t : ByteArray) (a : Int) : Prop := W.heap[B]? = some (.cells #[.int .i64 k, .string t, .int .i64 a] 40 (0, 0))
theorem TokAt.set0 {W : World} {B : Nat} {k : Int} {t : ByteArray} {a : Int} (H : TokAt W B k t a) (k' : Int) : TokAt (W.setCell ⟨B, 0, none⟩ (.int .i64 k')) B k' t a :=
  heap_setCell_same W B 0 _ 40 (.int .i64 k') H
theorem TokAt.set1 {W : World} {B : Nat} {k : Int} {t : ByteArray} {a : Int} (H : TokAt W B k t a) (t' : ByteArray) : TokAt (W.setCell ⟨B, 1, none⟩ (.string t')) B k t' a :=
  heap_setCell_same W B 1 _ 40 (.string t') H
theorem TokAt.set2 {W : World} {B : Nat} {k : Int} {t : ByteArray} {a : Int} (H : TokAt W B k t a) (a' : Int) : TokAt (W.setCell ⟨B, 2, none⟩ (.int .i64 a')) B k t a' :=
  heap_setCell_same W B 2 _ 40 (.int .i64 a') H
theorem TokAt.set_other {W : World} {B : Nat} {k : Int} {t : ByteArray} {a : Int} (H : TokAt W B k t a) {C o : Nat} {v : Value} (h : B ≠ C) : TokAt (W.setCell ⟨C, o, none⟩ v) B k t a :=
  (heap_setCell_other W ⟨C, o, none⟩ B v h).trans H
theorem tok_new (w : World) (o : Obj) (k : Int) (t : ByteArray) (a : Int) : TokAt ((w.alloc o).alloc (.cells #[.int .i64 k, .string t, .int .i64 a] 40)) (w.heap.size + 1) k t a := by
  have h := heap_alloc_new (w.alloc o) (.cells #[.int .i64 k, .string t, .int .i64 a] 40)
  have e : (w.alloc o).heap.size = w.heap.size + 1 := by simp
  rw [e] at h
  exact h
theorem tok_first (w : World) (o : Obj) : TokAt ((w.alloc (.cells #[.int .i64 0, .string ⟨#[]⟩, .int .i64 0] 40)).alloc o) w.heap.size 0 ⟨#[]⟩ 0 :=
  (Below.heap_alloc _ o w.heap.size (by simp)).trans (heap_alloc_new w _)
theorem TokAt.below {W W' : World} {B C : Nat} {k : Int} {t : ByteArray} {a : Int} (H : TokAt W B k t a) (g : Below C W W') (h : B < C) : TokAt W' B k t a := (g.block B h).trans H
end Go.Proofs.YtcadoplfgclbjaaGreatDoor

/- The contract of the model's reading of one token. -/
namespace Go.Proofs.YtcadoplfgclbjaaGreatDoor
open Go.RowKit


/-- what l3One hands back: the token and the place behind, or any token and -1 -/
def OneE (r : Option (Tk × Nat)) (w : World) (e : Ending) (w' : World) : Prop :=
  (match r with
    | some (t, n) => e = .returned (.tuple #[.agg #[.int .i64 t.k, .string ⟨t.t.toArray⟩, .int .i64 (t.a : Int)], .int .i64 (n : Int)])
    | none => ∃ (k : Int) (x : ByteArray) (n : Int), e = .returned (.tuple #[.agg #[.int .i64 k, .string x, .int .i64 n], .int .i64 (-1)])) ∧ Below w.heap.size w w'
theorem OneE.yes {r : Option (Tk × Nat)} {k : Int} {x : ByteArray} {a n : Nat} {w w' : World} (h : r = if tokOk k x.data.toList then some (⟨k, x.data.toList, a⟩, n) else none) (ht : tokOk k x.data.toList = true) (hb : Below w.heap.size w w') :
    OneE r w (.returned (.tuple #[.agg #[.int .i64 k, .string x, .int .i64 (a : Int)], .int .i64 (n : Int)])) w' := by
  rw [ht] at h
  subst h
  exact ⟨rfl, hb⟩
theorem OneE.no {r : Option (Tk × Nat)} {k : Int} {x : ByteArray} {a : Int} {w w' : World} (h : r = none) (hb : Below w.heap.size w w') :
    OneE r w (.returned (.tuple #[.agg #[.int .i64 k, .string x, .int .i64 a], .int .i64 (-1)])) w' := by
  subst h
  exact ⟨⟨k, x, a, rfl⟩, hb⟩

set_option maxRecDepth 100000 in
set_option maxHeartbeats 8000000 in
theorem one_spec (s : ByteArray) (a : Nat) (w : World) (ha : a < s.size) (hs : s.size ≤ 4000000) :
    Calls Tryz.prog 56 #[.string s, .int .i64 (a : Int)] w (OneE (one s.data.toList a) w) := by
  have hlen : s.data.toList.length = s.size := rfl
  have ha2 : (a : Int) < (s.size : Int) := by omega
  have hr1 := runEnd_ge s.data.toList _ a rfl
  have hr2 := runEnd_le s.data.toList _ a rfl (by omega)
  have hRun := fun w => run_spec s a w (by omega) (by omega)
  have hE0 := fun (h1 : let1 s.data.toList a = true) (h2 : ¬ 0 < numOf (upL (s.extract a (runEnd s.data.toList a)).data.toList)) => one_raw (raw_name h1 (by rw [← ext_sl]; exact h2))
  have hE1 := fun (h1 : let1 s.data.toList a = true) (h2 : 0 < numOf (upL (s.extract a (runEnd s.data.toList a)).data.toList)) => one_raw (raw_key h1 (by rw [← ext_sl]; exact h2))
  have hE2 := fun (h1 : let1 s.data.toList a = false) (h2 : dg ((s.data.toList.getD a 0).toNat : Int) = true) => one_raw (raw_num h1 h2)
  rw [← ext_sl] at hE0 hE1 hE2
  generalize runEnd s.data.toList a = r at hr1 hr2 hRun hE0 hE1 hE2
  have hr1i : (a : Int) ≤ (r : Int) := by omega
  have hr2i : (r : Int) ≤ (s.size : Int) := by omega
  have hSz : (s.extract a r).size ≤ s.size := by
    show (s.extract a r).data.toList.length ≤ s.data.toList.length
    rw [ext_sl]; exact sl_len _ _ _
  obtain ⟨S, hS⟩ : ∃ S, s.extract a r = S := ⟨_, rfl⟩
  rw [hS] at hE0 hE1 hE2 hSz
  have hKey := fun w => keyOf_spec S w (by unfold maxLen; omega)
  have hFold := fun w => fold_spec S w (by omega)
  have d0 : decide ((r : Int) < 0) = false := by simp
  go_enter Tryz.func56, Tryz.ntmps56
  go_wp2_with fail
  refine (l2Letter_any _ _).mono ?_
  rintro e w1 ⟨rfl, rfl⟩
  rw [lstr_at ha]
  have hLet : let1 s.data.toList a = (ltr ((s.data.toList.getD a 0).toNat : Int) || ((s.data.toList.getD a 0).toNat : Int) == 95) := rfl
  cases h1 : (ltr ((s.data.toList.getD a 0).toNat : Int) || ((s.data.toList.getD a 0).toNat : Int) == 95)
  · rw [h1] at hLet
    go_wp2_with fail
    refine (l2Figure_any _ _).mono ?_
    rintro e w1 ⟨rfl, rfl⟩
    rw [lstr_at ha]
    cases h2 : dg ((s.data.toList.getD a 0).toNat : Int)
    · have HB := Lib.hid (lstr_at ha)
      by_cases h3 : s[a] = 34
      · have q34 : (((s[a]).toNat : Int) == 34) = true := u8_eq h3
        have h3' : s.data.toList.getD a 0 = 34 := by rw [← HB.out]; exact h3
        clear h3
        go_wp2_with fail
        have hT0 : TokAt ((w.alloc (.cells #[.int .i64 0, .string ⟨#[]⟩, .int .i64 0] 40)).alloc (.cells #[.int .i64 2, .string ⟨#[]⟩, .int .i64 (a : Int)] 40)) (w.heap.size + 1) 2 ⟨#[]⟩ a := tok_new w _ 2 ⟨#[]⟩ a
        have hR0 : TokAt ((w.alloc (.cells #[.int .i64 0, .string ⟨#[]⟩, .int .i64 0] 40)).alloc (.cells #[.int .i64 2, .string ⟨#[]⟩, .int .i64 (a : Int)] 40)) w.heap.size 0 ⟨#[]⟩ 0 := tok_first w _
        have hB0 : Below w.heap.size w ((w.alloc (.cells #[.int .i64 0, .string ⟨#[]⟩, .int .i64 0] 40)).alloc (.cells #[.int .i64 2, .string ⟨#[]⟩, .int .i64 (a : Int)] 40)) := ((Below.refl _ _).alloc (Nat.le_refl _) _).alloc (by simp) _
        refine (quoted_spec s a _ ha hs).mono ?_
        rw [h3']
        rcases hqo : quo 34 s.data.toList (a + 1) with _ | ⟨x, n⟩
        · have HE := Lib.hid (one_no (by rw [raw_q34 hLet h2 h3', hqo]; rfl))
          clear hqo
          rintro e w2 ⟨rfl, hb2⟩
          have hT2 := hT0.below hb2 (Array.getElem?_eq_some_iff.1 hT0).1
          have hR2 := hR0.below hb2 (Array.getElem?_eq_some_iff.1 hR0).1
          have hB2 := hB0.trans (hb2.mono hB0.size)
          have c0 := cell_of_row w2 (w.heap.size + 1) 0 _ 40 (0, 0) hT2
          have c1 := cell_of_row w2 (w.heap.size + 1) 1 _ 40 (0, 0) hT2
          have c2 := cell_of_row w2 (w.heap.size + 1) 2 _ 40 (0, 0) hT2
          have z5 := frozen_of_row w2 (w.heap.size + 1) 0 _ 40 hT2
          have z6 := frozen_of_row w2 (w.heap.size + 1) 1 _ 40 hT2
          have z7 := frozen_of_row w2 (w.heap.size + 1) 2 _ 40 hT2
          have g0 := cell_of_row w2 (w.heap.size) 0 _ 40 (0, 0) hR2
          have g1 := cell_of_row w2 (w.heap.size) 1 _ 40 (0, 0) hR2
          have g2 := cell_of_row w2 (w.heap.size) 2 _ 40 (0, 0) hR2
          have z0 := frozen_of_row w2 (w.heap.size) 0 _ 40 hR2
          have z1 := frozen_of_row w2 (w.heap.size) 1 _ 40 hR2
          have z2 := frozen_of_row w2 (w.heap.size) 2 _ 40 hR2
          clear hb2
          have hR9 := hR2.set_other (C := w.heap.size + 1) (o := 1) (v := .string ⟨#[]⟩) (by omega)
          have hB9 := hB2.setCell (p := ⟨w.heap.size + 1, 1, none⟩) (by show w.heap.size ≤ w.heap.size + 1; omega) (.string ⟨#[]⟩)
          unfold quoV
          go_wp2_with fail
          have hF := ((hR9.set0 2).set1 ⟨#[]⟩).set2 (a : Int)
          have f0 := cell_of_row _ w.heap.size 0 _ 40 (0, 0) hF
          have f1 := cell_of_row _ w.heap.size 1 _ 40 (0, 0) hF
          have f2 := cell_of_row _ w.heap.size 2 _ 40 (0, 0) hF
          have hBf := ((hB9.setCell (p := ⟨w.heap.size, 0, none⟩) (Nat.le_refl _) (.int .i64 2)).setCell (p := ⟨w.heap.size, 1, none⟩) (Nat.le_refl _) (.string ⟨#[]⟩)).setCell (p := ⟨w.heap.size, 2, none⟩) (Nat.le_refl _) (.int .i64 (a : Int))
          clear c0 c1 c2 z5 z6 z7 g0 g1 g2 z0 z1 z2 hF
          generalize (((w2.setCell ⟨w.heap.size + 1, 1, none⟩ (.string ⟨#[]⟩)).setCell ⟨w.heap.size, 0, none⟩ (.int .i64 2)).setCell ⟨w.heap.size, 1, none⟩ (.string ⟨#[]⟩)).setCell ⟨w.heap.size, 2, none⟩ (.int .i64 (a : Int)) = wf at f0 f1 f2 hBf ⊢
          refine bodyPost_ret (v := .tuple #[.agg #[.int .i64 2, .string ⟨#[]⟩, .int .i64 (a : Int)], .int .i64 (-1)]) (by simp [results, Tryz.results56, go_sem, f0, f1, f2]) rfl ?_
          exact OneE.no HE.out hBf
        · have hqe := quo_end _ _ _ _ (Nat.le_refl _) _ hqo
          have HE := Lib.hid (one_raw (t := ⟨2, x, a⟩) (e := n) (by rw [raw_q34 hLet h2 h3', hqo]; rfl))
          have HE2 : Hid (one s.data.toList a = if tokOk 2 (⟨x.toArray⟩ : ByteArray).data.toList then some (⟨2, (⟨x.toArray⟩ : ByteArray).data.toList, a⟩, n) else none) := HE.out
          clear HE hqo
          have HE := HE2
          clear HE2
          have hXz : (⟨x.toArray⟩ : ByteArray).size ≤ s.size := by
            show x.length ≤ s.size
            have h1 : a + 1 + x.length < n := hqe.1
            have h2 : n ≤ s.size := hqe.2
            omega
          clear hqe
          have dn : decide ((n : Int) < 0) = false := by simp
          rintro e w2 ⟨rfl, hb2⟩
          have hT2 := hT0.below hb2 (Array.getElem?_eq_some_iff.1 hT0).1
          have hR2 := hR0.below hb2 (Array.getElem?_eq_some_iff.1 hR0).1
          have hB2 := hB0.trans (hb2.mono hB0.size)
          have c0 := cell_of_row w2 (w.heap.size + 1) 0 _ 40 (0, 0) hT2
          have c1 := cell_of_row w2 (w.heap.size + 1) 1 _ 40 (0, 0) hT2
          have c2 := cell_of_row w2 (w.heap.size + 1) 2 _ 40 (0, 0) hT2
          have z5 := frozen_of_row w2 (w.heap.size + 1) 0 _ 40 hT2
          have z6 := frozen_of_row w2 (w.heap.size + 1) 1 _ 40 hT2
          have z7 := frozen_of_row w2 (w.heap.size + 1) 2 _ 40 hT2
          clear hb2
          unfold quoV
          show _
          simp only []
          generalize (⟨x.toArray⟩ : ByteArray) = X at HE hXz ⊢
          go_wp2_with fail
          have hT4 := hT2.set1 X
          have hR4 := hR2.set_other (C := w.heap.size + 1) (o := 1) (v := .string X) (by omega)
          have hB4 := hB2.setCell (p := ⟨w.heap.size + 1, 1, none⟩) (by show w.heap.size ≤ w.heap.size + 1; omega) (.string X)
          clear z5 z6 z7
          refine (tokenOk_spec 2 X (a : Int) _ (by omega)).mono ?_
          rintro e w9 ⟨rfl, hb9⟩
          have hT9 := hT4.below hb9 (Array.getElem?_eq_some_iff.1 hT4).1
          have hR9 := hR4.below hb9 (Array.getElem?_eq_some_iff.1 hR4).1
          have hB9 := hB4.trans (hb9.mono hB4.size)
          clear hb9
          try clear c0 c1 c2
          have c0 := cell_of_row w9 (w.heap.size + 1) 0 _ 40 (0, 0) hT9
          have c1 := cell_of_row w9 (w.heap.size + 1) 1 _ 40 (0, 0) hT9
          have c2 := cell_of_row w9 (w.heap.size + 1) 2 _ 40 (0, 0) hT9
          have g0 := cell_of_row w9 (w.heap.size) 0 _ 40 (0, 0) hR9
          have g1 := cell_of_row w9 (w.heap.size) 1 _ 40 (0, 0) hR9
          have g2 := cell_of_row w9 (w.heap.size) 2 _ 40 (0, 0) hR9
          have z0 := frozen_of_row w9 (w.heap.size) 0 _ 40 hR9
          have z1 := frozen_of_row w9 (w.heap.size) 1 _ 40 hR9
          have z2 := frozen_of_row w9 (w.heap.size) 2 _ 40 hR9
          cases hq : tokOk 2 X.data.toList
          · have HN := Lib.hid (HE.out.trans (if_no hq))
            clear hq
            go_wp2_with fail
            have hF := ((hR9.set0 2).set1 X).set2 (a : Int)
            have f0 := cell_of_row _ w.heap.size 0 _ 40 (0, 0) hF
            have f1 := cell_of_row _ w.heap.size 1 _ 40 (0, 0) hF
            have f2 := cell_of_row _ w.heap.size 2 _ 40 (0, 0) hF
            have hBf := ((hB9.setCell (p := ⟨w.heap.size, 0, none⟩) (Nat.le_refl _) (.int .i64 2)).setCell (p := ⟨w.heap.size, 1, none⟩) (Nat.le_refl _) (.string X)).setCell (p := ⟨w.heap.size, 2, none⟩) (Nat.le_refl _) (.int .i64 (a : Int))
            clear c0 c1 c2 g0 g1 g2 z0 z1 z2 hF
            generalize ((w9.setCell ⟨w.heap.size, 0, none⟩ (.int .i64 2)).setCell ⟨w.heap.size, 1, none⟩ (.string X)).setCell ⟨w.heap.size, 2, none⟩ (.int .i64 (a : Int)) = wf at f0 f1 f2 hBf ⊢
            refine bodyPost_ret (v := .tuple #[.agg #[.int .i64 2, .string X, .int .i64 (a : Int)], .int .i64 (-1)]) (by simp [results, Tryz.results56, go_sem, f0, f1, f2]) rfl ?_
            exact OneE.no HN.out hBf
          · have HQ := Lib.hid hq
            clear hq
            go_wp2_with fail
            have hF := ((hR9.set0 2).set1 X).set2 (a : Int)
            have f0 := cell_of_row _ w.heap.size 0 _ 40 (0, 0) hF
            have f1 := cell_of_row _ w.heap.size 1 _ 40 (0, 0) hF
            have f2 := cell_of_row _ w.heap.size 2 _ 40 (0, 0) hF
            have hBf := ((hB9.setCell (p := ⟨w.heap.size, 0, none⟩) (Nat.le_refl _) (.int .i64 2)).setCell (p := ⟨w.heap.size, 1, none⟩) (Nat.le_refl _) (.string X)).setCell (p := ⟨w.heap.size, 2, none⟩) (Nat.le_refl _) (.int .i64 (a : Int))
            clear c0 c1 c2 g0 g1 g2 z0 z1 z2 hF
            generalize ((w9.setCell ⟨w.heap.size, 0, none⟩ (.int .i64 2)).setCell ⟨w.heap.size, 1, none⟩ (.string X)).setCell ⟨w.heap.size, 2, none⟩ (.int .i64 (a : Int)) = wf at f0 f1 f2 hBf ⊢
            refine bodyPost_ret (v := .tuple #[.agg #[.int .i64 2, .string X, .int .i64 (a : Int)], .int .i64 (n : Int)]) (by simp [results, Tryz.results56, go_sem, f0, f1, f2]) rfl ?_
            exact OneE.yes HE.out HQ.out hBf
      · have q34 : (((s[a]).toNat : Int) == 34) = false := u8_ne h3
        have h3' : ¬ s.data.toList.getD a 0 = 34 := by rw [← HB.out]; exact h3
        clear h3
        by_cases h4 : s[a] = 39
        · have q39 : (((s[a]).toNat : Int) == 39) = true := u8_eq h4
          have h4' : s.data.toList.getD a 0 = 39 := by rw [← HB.out]; exact h4
          clear h4
          go_wp2_with fail
          have hT0 : TokAt ((w.alloc (.cells #[.int .i64 0, .string ⟨#[]⟩, .int .i64 0] 40)).alloc (.cells #[.int .i64 4, .string ⟨#[]⟩, .int .i64 (a : Int)] 40)) (w.heap.size + 1) 4 ⟨#[]⟩ a := tok_new w _ 4 ⟨#[]⟩ a
          have hR0 : TokAt ((w.alloc (.cells #[.int .i64 0, .string ⟨#[]⟩, .int .i64 0] 40)).alloc (.cells #[.int .i64 4, .string ⟨#[]⟩, .int .i64 (a : Int)] 40)) w.heap.size 0 ⟨#[]⟩ 0 := tok_first w _
          have hB0 : Below w.heap.size w ((w.alloc (.cells #[.int .i64 0, .string ⟨#[]⟩, .int .i64 0] 40)).alloc (.cells #[.int .i64 4, .string ⟨#[]⟩, .int .i64 (a : Int)] 40)) := ((Below.refl _ _).alloc (Nat.le_refl _) _).alloc (by simp) _
          refine (quoted_spec s a _ ha hs).mono ?_
          rw [h4']
          rcases hqo : quo 39 s.data.toList (a + 1) with _ | ⟨x, n⟩
          · have HE := Lib.hid (one_no (by rw [raw_q39 hLet h2 h3' h4', hqo]; rfl))
            clear hqo
            rintro e w2 ⟨rfl, hb2⟩
            have hT2 := hT0.below hb2 (Array.getElem?_eq_some_iff.1 hT0).1
            have hR2 := hR0.below hb2 (Array.getElem?_eq_some_iff.1 hR0).1
            have hB2 := hB0.trans (hb2.mono hB0.size)
            have c0 := cell_of_row w2 (w.heap.size + 1) 0 _ 40 (0, 0) hT2
            have c1 := cell_of_row w2 (w.heap.size + 1) 1 _ 40 (0, 0) hT2
            have c2 := cell_of_row w2 (w.heap.size + 1) 2 _ 40 (0, 0) hT2
            have z5 := frozen_of_row w2 (w.heap.size + 1) 0 _ 40 hT2
            have z6 := frozen_of_row w2 (w.heap.size + 1) 1 _ 40 hT2
            have z7 := frozen_of_row w2 (w.heap.size + 1) 2 _ 40 hT2
            have g0 := cell_of_row w2 (w.heap.size) 0 _ 40 (0, 0) hR2
            have g1 := cell_of_row w2 (w.heap.size) 1 _ 40 (0, 0) hR2
            have g2 := cell_of_row w2 (w.heap.size) 2 _ 40 (0, 0) hR2
            have z0 := frozen_of_row w2 (w.heap.size) 0 _ 40 hR2
            have z1 := frozen_of_row w2 (w.heap.size) 1 _ 40 hR2
            have z2 := frozen_of_row w2 (w.heap.size) 2 _ 40 hR2
            clear hb2
            have hR9 := hR2.set_other (C := w.heap.size + 1) (o := 1) (v := .string ⟨#[]⟩) (by omega)
            have hB9 := hB2.setCell (p := ⟨w.heap.size + 1, 1, none⟩) (by show w.heap.size ≤ w.heap.size + 1; omega) (.string ⟨#[]⟩)
            unfold quoV
            go_wp2_with fail
            have hF := ((hR9.set0 4).set1 ⟨#[]⟩).set2 (a : Int)
            have f0 := cell_of_row _ w.heap.size 0 _ 40 (0, 0) hF
            have f1 := cell_of_row _ w.heap.size 1 _ 40 (0, 0) hF
            have f2 := cell_of_row _ w.heap.size 2 _ 40 (0, 0) hF
            have hBf := ((hB9.setCell (p := ⟨w.heap.size, 0, none⟩) (Nat.le_refl _) (.int .i64 4)).setCell (p := ⟨w.heap.size, 1, none⟩) (Nat.le_refl _) (.string ⟨#[]⟩)).setCell (p := ⟨w.heap.size, 2, none⟩) (Nat.le_refl _) (.int .i64 (a : Int))
            clear c0 c1 c2 z5 z6 z7 g0 g1 g2 z0 z1 z2 hF
            generalize (((w2.setCell ⟨w.heap.size + 1, 1, none⟩ (.string ⟨#[]⟩)).setCell ⟨w.heap.size, 0, none⟩ (.int .i64 4)).setCell ⟨w.heap.size, 1, none⟩ (.string ⟨#[]⟩)).setCell ⟨w.heap.size, 2, none⟩ (.int .i64 (a : Int)) = wf at f0 f1 f2 hBf ⊢
            refine bodyPost_ret (v := .tuple #[.agg #[.int .i64 4, .string ⟨#[]⟩, .int .i64 (a : Int)], .int .i64 (-1)]) (by simp [results, Tryz.results56, go_sem, f0, f1, f2]) rfl ?_
            exact OneE.no HE.out hBf
          · have hqe := quo_end _ _ _ _ (Nat.le_refl _) _ hqo
            have HE := Lib.hid (one_raw (t := ⟨4, x, a⟩) (e := n) (by rw [raw_q39 hLet h2 h3' h4', hqo]; rfl))
            have HE2 : Hid (one s.data.toList a = if tokOk 4 (⟨x.toArray⟩ : ByteArray).data.toList then some (⟨4, (⟨x.toArray⟩ : ByteArray).data.toList, a⟩, n) else none) := HE.out
            clear HE hqo
            have HE := HE2
            clear HE2
            have hXz : (⟨x.toArray⟩ : ByteArray).size ≤ s.size := by
              show x.length ≤ s.size
              have h1 : a + 1 + x.length < n := hqe.1
              have h2 : n ≤ s.size := hqe.2
              omega
            clear hqe
            have dn : decide ((n : Int) < 0) = false := by simp
            rintro e w2 ⟨rfl, hb2⟩
            have hT2 := hT0.below hb2 (Array.getElem?_eq_some_iff.1 hT0).1
            have hR2 := hR0.below hb2 (Array.getElem?_eq_some_iff.1 hR0).1
            have hB2 := hB0.trans (hb2.mono hB0.size)
            have c0 := cell_of_row w2 (w.heap.size + 1) 0 _ 40 (0, 0) hT2
            have c1 := cell_of_row w2 (w.heap.size + 1) 1 _ 40 (0, 0) hT2
            have c2 := cell_of_row w2 (w.heap.size + 1) 2 _ 40 (0, 0) hT2
            have z5 := frozen_of_row w2 (w.heap.size + 1) 0 _ 40 hT2
            have z6 := frozen_of_row w2 (w.heap.size + 1) 1 _ 40 hT2
            have z7 := frozen_of_row w2 (w.heap.size + 1) 2 _ 40 hT2
            clear hb2
            unfold quoV
            show _
            simp only []
            generalize (⟨x.toArray⟩ : ByteArray) = X at HE hXz ⊢
            go_wp2_with fail
            have hT4 := hT2.set1 X
            have hR4 := hR2.set_other (C := w.heap.size + 1) (o := 1) (v := .string X) (by omega)
            have hB4 := hB2.setCell (p := ⟨w.heap.size + 1, 1, none⟩) (by show w.heap.size ≤ w.heap.size + 1; omega) (.string X)
            clear z5 z6 z7
            refine (tokenOk_spec 4 X (a : Int) _ (by omega)).mono ?_
            rintro e w9 ⟨rfl, hb9⟩
            have hT9 := hT4.below hb9 (Array.getElem?_eq_some_iff.1 hT4).1
            have hR9 := hR4.below hb9 (Array.getElem?_eq_some_iff.1 hR4).1
            have hB9 := hB4.trans (hb9.mono hB4.size)
            clear hb9
            try clear c0 c1 c2
            have c0 := cell_of_row w9 (w.heap.size + 1) 0 _ 40 (0, 0) hT9
            have c1 := cell_of_row w9 (w.heap.size + 1) 1 _ 40 (0, 0) hT9
            have c2 := cell_of_row w9 (w.heap.size + 1) 2 _ 40 (0, 0) hT9
            have g0 := cell_of_row w9 (w.heap.size) 0 _ 40 (0, 0) hR9
            have g1 := cell_of_row w9 (w.heap.size) 1 _ 40 (0, 0) hR9
            have g2 := cell_of_row w9 (w.heap.size) 2 _ 40 (0, 0) hR9
            have z0 := frozen_of_row w9 (w.heap.size) 0 _ 40 hR9
            have z1 := frozen_of_row w9 (w.heap.size) 1 _ 40 hR9
            have z2 := frozen_of_row w9 (w.heap.size) 2 _ 40 hR9
            cases hq : tokOk 4 X.data.toList
            · have HN := Lib.hid (HE.out.trans (if_no hq))
              clear hq
              go_wp2_with fail
              have hF := ((hR9.set0 4).set1 X).set2 (a : Int)
              have f0 := cell_of_row _ w.heap.size 0 _ 40 (0, 0) hF
              have f1 := cell_of_row _ w.heap.size 1 _ 40 (0, 0) hF
              have f2 := cell_of_row _ w.heap.size 2 _ 40 (0, 0) hF
              have hBf := ((hB9.setCell (p := ⟨w.heap.size, 0, none⟩) (Nat.le_refl _) (.int .i64 4)).setCell (p := ⟨w.heap.size, 1, none⟩) (Nat.le_refl _) (.string X)).setCell (p := ⟨w.heap.size, 2, none⟩) (Nat.le_refl _) (.int .i64 (a : Int))
              clear c0 c1 c2 g0 g1 g2 z0 z1 z2 hF
              generalize ((w9.setCell ⟨w.heap.size, 0, none⟩ (.int .i64 4)).setCell ⟨w.heap.size, 1, none⟩ (.string X)).setCell ⟨w.heap.size, 2, none⟩ (.int .i64 (a : Int)) = wf at f0 f1 f2 hBf ⊢
              refine bodyPost_ret (v := .tuple #[.agg #[.int .i64 4, .string X, .int .i64 (a : Int)], .int .i64 (-1)]) (by simp [results, Tryz.results56, go_sem, f0, f1, f2]) rfl ?_
              exact OneE.no HN.out hBf
            · have HQ := Lib.hid hq
              clear hq
              go_wp2_with fail
              have hF := ((hR9.set0 4).set1 X).set2 (a : Int)
              have f0 := cell_of_row _ w.heap.size 0 _ 40 (0, 0) hF
              have f1 := cell_of_row _ w.heap.size 1 _ 40 (0, 0) hF
              have f2 := cell_of_row _ w.heap.size 2 _ 40 (0, 0) hF
              have hBf := ((hB9.setCell (p := ⟨w.heap.size, 0, none⟩) (Nat.le_refl _) (.int .i64 4)).setCell (p := ⟨w.heap.size, 1, none⟩) (Nat.le_refl _) (.string X)).setCell (p := ⟨w.heap.size, 2, none⟩) (Nat.le_refl _) (.int .i64 (a : Int))
              clear c0 c1 c2 g0 g1 g2 z0 z1 z2 hF
              generalize ((w9.setCell ⟨w.heap.size, 0, none⟩ (.int .i64 4)).setCell ⟨w.heap.size, 1, none⟩ (.string X)).setCell ⟨w.heap.size, 2, none⟩ (.int .i64 (a : Int)) = wf at f0 f1 f2 hBf ⊢
              refine bodyPost_ret (v := .tuple #[.agg #[.int .i64 4, .string X, .int .i64 (a : Int)], .int .i64 (n : Int)]) (by simp [results, Tryz.results56, go_sem, f0, f1, f2]) rfl ?_
              exact OneE.yes HE.out HQ.out hBf
        · have q39 : (((s[a]).toNat : Int) == 39) = false := u8_ne h4
          have h4' : ¬ s.data.toList.getD a 0 = 39 := by rw [← HB.out]; exact h4
          clear h4
          have e1 := ext_sl s a (a + 1)
          have e2 := ext_sl s a (a + 2)
          have hz1 : (s.extract a (a + 1)).size ≤ s.size := by
            show (s.extract a (a + 1)).data.toList.length ≤ s.data.toList.length
            rw [e1]; exact sl_len _ _ _
          have hz2 : (s.extract a (a + 2)).size ≤ s.size := by
            show (s.extract a (a + 2)).data.toList.length ≤ s.data.toList.length
            rw [e2]; exact sl_len _ _ _
          obtain ⟨S1, hS1⟩ : ∃ S1, s.extract a (a + 1) = S1 := ⟨_, rfl⟩
          obtain ⟨S2, hS2⟩ : ∃ S2, s.extract a (a + 2) = S2 := ⟨_, rfl⟩
          rw [hS1] at e1 hz1
          rw [hS2] at e2 hz2
          have dn1 : decide ((a : Int) + 1 < 0) = false := by simp; omega
          have dn2 : decide ((a : Int) + 2 < 0) = false := by simp; omega
          have ha3 : (a : Int) + 1 ≤ (s.size : Int) := by omega
          have hsl1 : ∀ W, (Instr.slice 9 (.string s) (some (.int .i64 (a : Int))) (some (.int .i64 ((a : Int) + 1))) none).run Tryz.prog W = .ok (.string S1) W := fun W => by
            have h := run_slice_string (P := Tryz.prog) W 9 s .i64 .i64 (a : Int) ((a : Int) + 1) Tryz.underlying9 (by omega) (by omega) (by omega)
            rw [Int.toNat_natCast, show ((a : Int) + 1).toNat = a + 1 from by omega, hS1] at h
            exact h
          have hsg := fun w => signOk_spec S2 w
          by_cases h5 : a + 2 ≤ s.size
          · have h5i : (a : Int) + 2 ≤ (s.size : Int) := by omega
            have d5 : decide ((a : Int) + 2 ≤ (s.size : Int)) = true := by simpa using h5i
            have hsl2 : ∀ W, (Instr.slice 9 (.string s) (some (.int .i64 (a : Int))) (some (.int .i64 ((a : Int) + 2))) none).run Tryz.prog W = .ok (.string S2) W := fun W => by
              have h := run_slice_string (P := Tryz.prog) W 9 s .i64 .i64 (a : Int) ((a : Int) + 2) Tryz.underlying9 (by omega) (by omega) (by omega)
              rw [Int.toNat_natCast, show ((a : Int) + 2).toNat = a + 2 from by omega, hS2] at h
              exact h
            cases h6 : signB S2.data.toList
            · have HE0 := one_raw (raw_one hLet h2 h3' h4' (fun h => by rw [← e2] at h; rw [h6] at h; cases h.2))
              rw [← e1] at HE0
              have HE := Lib.hid HE0
              clear HE0
              rw [h6] at hsg
              clear h6
              go_wp2_with fail
              refine (hsg _).mono ?_
              rintro e w2 ⟨rfl, rfl⟩
              go_wp2_with fail
              have hT0 : TokAt ((w.alloc (.cells #[.int .i64 0, .string ⟨#[]⟩, .int .i64 0] 40)).alloc (.cells #[.int .i64 5, .string S1, .int .i64 (a : Int)] 40)) (w.heap.size + 1) 5 S1 a := tok_new w _ 5 S1 a
              have hR0 : TokAt ((w.alloc (.cells #[.int .i64 0, .string ⟨#[]⟩, .int .i64 0] 40)).alloc (.cells #[.int .i64 5, .string S1, .int .i64 (a : Int)] 40)) w.heap.size 0 ⟨#[]⟩ 0 := tok_first w _
              have hB0 : Below w.heap.size w ((w.alloc (.cells #[.int .i64 0, .string ⟨#[]⟩, .int .i64 0] 40)).alloc (.cells #[.int .i64 5, .string S1, .int .i64 (a : Int)] 40)) := ((Below.refl _ _).alloc (Nat.le_refl _) _).alloc (by simp) _
              refine (tokenOk_spec 5 S1 (a : Int) _ (by omega)).mono ?_
              rintro e w9 ⟨rfl, hb9⟩
              have hT9 := hT0.below hb9 (Array.getElem?_eq_some_iff.1 hT0).1
              have hR9 := hR0.below hb9 (Array.getElem?_eq_some_iff.1 hR0).1
              have hB9 := hB0.trans (hb9.mono hB0.size)
              clear hb9
              try clear c0 c1 c2
              have c0 := cell_of_row w9 (w.heap.size + 1) 0 _ 40 (0, 0) hT9
              have c1 := cell_of_row w9 (w.heap.size + 1) 1 _ 40 (0, 0) hT9
              have c2 := cell_of_row w9 (w.heap.size + 1) 2 _ 40 (0, 0) hT9
              have g0 := cell_of_row w9 (w.heap.size) 0 _ 40 (0, 0) hR9
              have g1 := cell_of_row w9 (w.heap.size) 1 _ 40 (0, 0) hR9
              have g2 := cell_of_row w9 (w.heap.size) 2 _ 40 (0, 0) hR9
              have z0 := frozen_of_row w9 (w.heap.size) 0 _ 40 hR9
              have z1 := frozen_of_row w9 (w.heap.size) 1 _ 40 hR9
              have z2 := frozen_of_row w9 (w.heap.size) 2 _ 40 hR9
              cases hq : tokOk 5 S1.data.toList
              · have HN := Lib.hid (HE.out.trans (if_no hq))
                clear hq
                go_wp2_with fail
                have hF := ((hR9.set0 5).set1 S1).set2 (a : Int)
                have f0 := cell_of_row _ w.heap.size 0 _ 40 (0, 0) hF
                have f1 := cell_of_row _ w.heap.size 1 _ 40 (0, 0) hF
                have f2 := cell_of_row _ w.heap.size 2 _ 40 (0, 0) hF
                have hBf := ((hB9.setCell (p := ⟨w.heap.size, 0, none⟩) (Nat.le_refl _) (.int .i64 5)).setCell (p := ⟨w.heap.size, 1, none⟩) (Nat.le_refl _) (.string S1)).setCell (p := ⟨w.heap.size, 2, none⟩) (Nat.le_refl _) (.int .i64 (a : Int))
                clear c0 c1 c2 g0 g1 g2 z0 z1 z2 hF
                generalize ((w9.setCell ⟨w.heap.size, 0, none⟩ (.int .i64 5)).setCell ⟨w.heap.size, 1, none⟩ (.string S1)).setCell ⟨w.heap.size, 2, none⟩ (.int .i64 (a : Int)) = wf at f0 f1 f2 hBf ⊢
                refine bodyPost_ret (v := .tuple #[.agg #[.int .i64 5, .string S1, .int .i64 (a : Int)], .int .i64 (-1)]) (by simp [results, Tryz.results56, go_sem, f0, f1, f2]) rfl ?_
                exact OneE.no HN.out hBf
              · have HQ := Lib.hid hq
                clear hq
                go_wp2_with fail
                have hF := ((hR9.set0 5).set1 S1).set2 (a : Int)
                have f0 := cell_of_row _ w.heap.size 0 _ 40 (0, 0) hF
                have f1 := cell_of_row _ w.heap.size 1 _ 40 (0, 0) hF
                have f2 := cell_of_row _ w.heap.size 2 _ 40 (0, 0) hF
                have hBf := ((hB9.setCell (p := ⟨w.heap.size, 0, none⟩) (Nat.le_refl _) (.int .i64 5)).setCell (p := ⟨w.heap.size, 1, none⟩) (Nat.le_refl _) (.string S1)).setCell (p := ⟨w.heap.size, 2, none⟩) (Nat.le_refl _) (.int .i64 (a : Int))
                clear c0 c1 c2 g0 g1 g2 z0 z1 z2 hF
                generalize ((w9.setCell ⟨w.heap.size, 0, none⟩ (.int .i64 5)).setCell ⟨w.heap.size, 1, none⟩ (.string S1)).setCell ⟨w.heap.size, 2, none⟩ (.int .i64 (a : Int)) = wf at f0 f1 f2 hBf ⊢
                refine bodyPost_ret (v := .tuple #[.agg #[.int .i64 5, .string S1, .int .i64 (a : Int)], .int .i64 (((a + 1 : Nat)) : Int)]) (by simp [results, Tryz.results56, go_sem, f0, f1, f2]) rfl ?_
                exact OneE.yes HE.out HQ.out hBf
            · have HE0 := one_raw (raw_two hLet h2 h3' h4' ⟨h5, by rw [← e2]; exact h6⟩)
              rw [← e2] at HE0
              have HE := Lib.hid HE0
              clear HE0
              rw [h6] at hsg
              clear h6
              go_wp2_with fail
              refine (hsg _).mono ?_
              rintro e w2 ⟨rfl, rfl⟩
              go_wp2_with fail
              have hT0 : TokAt ((w.alloc (.cells #[.int .i64 0, .string ⟨#[]⟩, .int .i64 0] 40)).alloc (.cells #[.int .i64 5, .string S2, .int .i64 (a : Int)] 40)) (w.heap.size + 1) 5 S2 a := tok_new w _ 5 S2 a
              have hR0 : TokAt ((w.alloc (.cells #[.int .i64 0, .string ⟨#[]⟩, .int .i64 0] 40)).alloc (.cells #[.int .i64 5, .string S2, .int .i64 (a : Int)] 40)) w.heap.size 0 ⟨#[]⟩ 0 := tok_first w _
              have hB0 : Below w.heap.size w ((w.alloc (.cells #[.int .i64 0, .string ⟨#[]⟩, .int .i64 0] 40)).alloc (.cells #[.int .i64 5, .string S2, .int .i64 (a : Int)] 40)) := ((Below.refl _ _).alloc (Nat.le_refl _) _).alloc (by simp) _
              refine (tokenOk_spec 5 S2 (a : Int) _ (by omega)).mono ?_
              rintro e w9 ⟨rfl, hb9⟩
              have hT9 := hT0.below hb9 (Array.getElem?_eq_some_iff.1 hT0).1
              have hR9 := hR0.below hb9 (Array.getElem?_eq_some_iff.1 hR0).1
              have hB9 := hB0.trans (hb9.mono hB0.size)
              clear hb9
              try clear c0 c1 c2
              have c0 := cell_of_row w9 (w.heap.size + 1) 0 _ 40 (0, 0) hT9
              have c1 := cell_of_row w9 (w.heap.size + 1) 1 _ 40 (0, 0) hT9
              have c2 := cell_of_row w9 (w.heap.size + 1) 2 _ 40 (0, 0) hT9
              have g0 := cell_of_row w9 (w.heap.size) 0 _ 40 (0, 0) hR9
              have g1 := cell_of_row w9 (w.heap.size) 1 _ 40 (0, 0) hR9
              have g2 := cell_of_row w9 (w.heap.size) 2 _ 40 (0, 0) hR9
              have z0 := frozen_of_row w9 (w.heap.size) 0 _ 40 hR9
              have z1 := frozen_of_row w9 (w.heap.size) 1 _ 40 hR9
              have z2 := frozen_of_row w9 (w.heap.size) 2 _ 40 hR9
              cases hq : tokOk 5 S2.data.toList
              · have HN := Lib.hid (HE.out.trans (if_no hq))
                clear hq
                go_wp2_with fail
                have hF := ((hR9.set0 5).set1 S2).set2 (a : Int)
                have f0 := cell_of_row _ w.heap.size 0 _ 40 (0, 0) hF
                have f1 := cell_of_row _ w.heap.size 1 _ 40 (0, 0) hF
                have f2 := cell_of_row _ w.heap.size 2 _ 40 (0, 0) hF
                have hBf := ((hB9.setCell (p := ⟨w.heap.size, 0, none⟩) (Nat.le_refl _) (.int .i64 5)).setCell (p := ⟨w.heap.size, 1, none⟩) (Nat.le_refl _) (.string S2)).setCell (p := ⟨w.heap.size, 2, none⟩) (Nat.le_refl _) (.int .i64 (a : Int))
                clear c0 c1 c2 g0 g1 g2 z0 z1 z2 hF
                generalize ((w9.setCell ⟨w.heap.size, 0, none⟩ (.int .i64 5)).setCell ⟨w.heap.size, 1, none⟩ (.string S2)).setCell ⟨w.heap.size, 2, none⟩ (.int .i64 (a : Int)) = wf at f0 f1 f2 hBf ⊢
                refine bodyPost_ret (v := .tuple #[.agg #[.int .i64 5, .string S2, .int .i64 (a : Int)], .int .i64 (-1)]) (by simp [results, Tryz.results56, go_sem, f0, f1, f2]) rfl ?_
                exact OneE.no HN.out hBf
              · have HQ := Lib.hid hq
                clear hq
                go_wp2_with fail
                have hF := ((hR9.set0 5).set1 S2).set2 (a : Int)
                have f0 := cell_of_row _ w.heap.size 0 _ 40 (0, 0) hF
                have f1 := cell_of_row _ w.heap.size 1 _ 40 (0, 0) hF
                have f2 := cell_of_row _ w.heap.size 2 _ 40 (0, 0) hF
                have hBf := ((hB9.setCell (p := ⟨w.heap.size, 0, none⟩) (Nat.le_refl _) (.int .i64 5)).setCell (p := ⟨w.heap.size, 1, none⟩) (Nat.le_refl _) (.string S2)).setCell (p := ⟨w.heap.size, 2, none⟩) (Nat.le_refl _) (.int .i64 (a : Int))
                clear c0 c1 c2 g0 g1 g2 z0 z1 z2 hF
                generalize ((w9.setCell ⟨w.heap.size, 0, none⟩ (.int .i64 5)).setCell ⟨w.heap.size, 1, none⟩ (.string S2)).setCell ⟨w.heap.size, 2, none⟩ (.int .i64 (a : Int)) = wf at f0 f1 f2 hBf ⊢
                refine bodyPost_ret (v := .tuple #[.agg #[.int .i64 5, .string S2, .int .i64 (a : Int)], .int .i64 (((a + 2 : Nat)) : Int)]) (by simp [results, Tryz.results56, go_sem, f0, f1, f2]) rfl ?_
                exact OneE.yes HE.out HQ.out hBf
          · have d5 : decide ((a : Int) + 2 ≤ (s.size : Int)) = false := by simp; omega
            have HE0 := one_raw (raw_one hLet h2 h3' h4' (fun h => h5 h.1))
            rw [← e1] at HE0
            have HE := Lib.hid HE0
            clear HE0
            go_wp2_with fail
            have hT0 : TokAt ((w.alloc (.cells #[.int .i64 0, .string ⟨#[]⟩, .int .i64 0] 40)).alloc (.cells #[.int .i64 5, .string S1, .int .i64 (a : Int)] 40)) (w.heap.size + 1) 5 S1 a := tok_new w _ 5 S1 a
            have hR0 : TokAt ((w.alloc (.cells #[.int .i64 0, .string ⟨#[]⟩, .int .i64 0] 40)).alloc (.cells #[.int .i64 5, .string S1, .int .i64 (a : Int)] 40)) w.heap.size 0 ⟨#[]⟩ 0 := tok_first w _
            have hB0 : Below w.heap.size w ((w.alloc (.cells #[.int .i64 0, .string ⟨#[]⟩, .int .i64 0] 40)).alloc (.cells #[.int .i64 5, .string S1, .int .i64 (a : Int)] 40)) := ((Below.refl _ _).alloc (Nat.le_refl _) _).alloc (by simp) _
            refine (tokenOk_spec 5 S1 (a : Int) _ (by omega)).mono ?_
            rintro e w9 ⟨rfl, hb9⟩
            have hT9 := hT0.below hb9 (Array.getElem?_eq_some_iff.1 hT0).1
            have hR9 := hR0.below hb9 (Array.getElem?_eq_some_iff.1 hR0).1
            have hB9 := hB0.trans (hb9.mono hB0.size)
            clear hb9
            try clear c0 c1 c2
            have c0 := cell_of_row w9 (w.heap.size + 1) 0 _ 40 (0, 0) hT9
            have c1 := cell_of_row w9 (w.heap.size + 1) 1 _ 40 (0, 0) hT9
            have c2 := cell_of_row w9 (w.heap.size + 1) 2 _ 40 (0, 0) hT9
            have g0 := cell_of_row w9 (w.heap.size) 0 _ 40 (0, 0) hR9
            have g1 := cell_of_row w9 (w.heap.size) 1 _ 40 (0, 0) hR9
            have g2 := cell_of_row w9 (w.heap.size) 2 _ 40 (0, 0) hR9
            have z0 := frozen_of_row w9 (w.heap.size) 0 _ 40 hR9
            have z1 := frozen_of_row w9 (w.heap.size) 1 _ 40 hR9
            have z2 := frozen_of_row w9 (w.heap.size) 2 _ 40 hR9
            cases hq : tokOk 5 S1.data.toList
            · have HN := Lib.hid (HE.out.trans (if_no hq))
              clear hq
              go_wp2_with fail
              have hF := ((hR9.set0 5).set1 S1).set2 (a : Int)
              have f0 := cell_of_row _ w.heap.size 0 _ 40 (0, 0) hF
              have f1 := cell_of_row _ w.heap.size 1 _ 40 (0, 0) hF
              have f2 := cell_of_row _ w.heap.size 2 _ 40 (0, 0) hF
              have hBf := ((hB9.setCell (p := ⟨w.heap.size, 0, none⟩) (Nat.le_refl _) (.int .i64 5)).setCell (p := ⟨w.heap.size, 1, none⟩) (Nat.le_refl _) (.string S1)).setCell (p := ⟨w.heap.size, 2, none⟩) (Nat.le_refl _) (.int .i64 (a : Int))
              clear c0 c1 c2 g0 g1 g2 z0 z1 z2 hF
              generalize ((w9.setCell ⟨w.heap.size, 0, none⟩ (.int .i64 5)).setCell ⟨w.heap.size, 1, none⟩ (.string S1)).setCell ⟨w.heap.size, 2, none⟩ (.int .i64 (a : Int)) = wf at f0 f1 f2 hBf ⊢
              refine bodyPost_ret (v := .tuple #[.agg #[.int .i64 5, .string S1, .int .i64 (a : Int)], .int .i64 (-1)]) (by simp [results, Tryz.results56, go_sem, f0, f1, f2]) rfl ?_
              exact OneE.no HN.out hBf
            · have HQ := Lib.hid hq
              clear hq
              go_wp2_with fail
              have hF := ((hR9.set0 5).set1 S1).set2 (a : Int)
              have f0 := cell_of_row _ w.heap.size 0 _ 40 (0, 0) hF
              have f1 := cell_of_row _ w.heap.size 1 _ 40 (0, 0) hF
              have f2 := cell_of_row _ w.heap.size 2 _ 40 (0, 0) hF
              have hBf := ((hB9.setCell (p := ⟨w.heap.size, 0, none⟩) (Nat.le_refl _) (.int .i64 5)).setCell (p := ⟨w.heap.size, 1, none⟩) (Nat.le_refl _) (.string S1)).setCell (p := ⟨w.heap.size, 2, none⟩) (Nat.le_refl _) (.int .i64 (a : Int))
              clear c0 c1 c2 g0 g1 g2 z0 z1 z2 hF
              generalize ((w9.setCell ⟨w.heap.size, 0, none⟩ (.int .i64 5)).setCell ⟨w.heap.size, 1, none⟩ (.string S1)).setCell ⟨w.heap.size, 2, none⟩ (.int .i64 (a : Int)) = wf at f0 f1 f2 hBf ⊢
              refine bodyPost_ret (v := .tuple #[.agg #[.int .i64 5, .string S1, .int .i64 (a : Int)], .int .i64 (((a + 1 : Nat)) : Int)]) (by simp [results, Tryz.results56, go_sem, f0, f1, f2]) rfl ?_
              exact OneE.yes HE.out HQ.out hBf
    · have HE := Lib.hid (hE2 hLet h2)
      clear h2
      go_wp2_with fail
      refine (hRun _).mono ?_
      rintro e w1 ⟨rfl, rfl⟩
      go_wp2_with fail
      have hT0 : TokAt ((w.alloc (.cells #[.int .i64 0, .string ⟨#[]⟩, .int .i64 0] 40)).alloc (.cells #[.int .i64 3, .string S, .int .i64 (a : Int)] 40)) (w.heap.size + 1) 3 S a := tok_new w _ 3 S a
      have hR0 : TokAt ((w.alloc (.cells #[.int .i64 0, .string ⟨#[]⟩, .int .i64 0] 40)).alloc (.cells #[.int .i64 3, .string S, .int .i64 (a : Int)] 40)) w.heap.size 0 ⟨#[]⟩ 0 := tok_first w _
      have hB0 : Below w.heap.size w ((w.alloc (.cells #[.int .i64 0, .string ⟨#[]⟩, .int .i64 0] 40)).alloc (.cells #[.int .i64 3, .string S, .int .i64 (a : Int)] 40)) := ((Below.refl _ _).alloc (Nat.le_refl _) _).alloc (by simp) _
      refine (tokenOk_spec 3 S (a : Int) _ (by omega)).mono ?_
      rintro e w9 ⟨rfl, hb9⟩
      have hT9 := hT0.below hb9 (Array.getElem?_eq_some_iff.1 hT0).1
      have hR9 := hR0.below hb9 (Array.getElem?_eq_some_iff.1 hR0).1
      have hB9 := hB0.trans (hb9.mono hB0.size)
      clear hb9
      try clear c0 c1 c2
      have c0 := cell_of_row w9 (w.heap.size + 1) 0 _ 40 (0, 0) hT9
      have c1 := cell_of_row w9 (w.heap.size + 1) 1 _ 40 (0, 0) hT9
      have c2 := cell_of_row w9 (w.heap.size + 1) 2 _ 40 (0, 0) hT9
      have g0 := cell_of_row w9 (w.heap.size) 0 _ 40 (0, 0) hR9
      have g1 := cell_of_row w9 (w.heap.size) 1 _ 40 (0, 0) hR9
      have g2 := cell_of_row w9 (w.heap.size) 2 _ 40 (0, 0) hR9
      have z0 := frozen_of_row w9 (w.heap.size) 0 _ 40 hR9
      have z1 := frozen_of_row w9 (w.heap.size) 1 _ 40 hR9
      have z2 := frozen_of_row w9 (w.heap.size) 2 _ 40 hR9
      cases hq : tokOk 3 S.data.toList
      · have HN := Lib.hid (HE.out.trans (if_no hq))
        clear hq
        go_wp2_with fail
        have hF := ((hR9.set0 3).set1 S).set2 (a : Int)
        have f0 := cell_of_row _ w.heap.size 0 _ 40 (0, 0) hF
        have f1 := cell_of_row _ w.heap.size 1 _ 40 (0, 0) hF
        have f2 := cell_of_row _ w.heap.size 2 _ 40 (0, 0) hF
        have hBf := ((hB9.setCell (p := ⟨w.heap.size, 0, none⟩) (Nat.le_refl _) (.int .i64 3)).setCell (p := ⟨w.heap.size, 1, none⟩) (Nat.le_refl _) (.string S)).setCell (p := ⟨w.heap.size, 2, none⟩) (Nat.le_refl _) (.int .i64 (a : Int))
        clear c0 c1 c2 g0 g1 g2 z0 z1 z2 hF
        generalize ((w9.setCell ⟨w.heap.size, 0, none⟩ (.int .i64 3)).setCell ⟨w.heap.size, 1, none⟩ (.string S)).setCell ⟨w.heap.size, 2, none⟩ (.int .i64 (a : Int)) = wf at f0 f1 f2 hBf ⊢
        refine bodyPost_ret (v := .tuple #[.agg #[.int .i64 3, .string S, .int .i64 (a : Int)], .int .i64 (-1)]) (by simp [results, Tryz.results56, go_sem, f0, f1, f2]) rfl ?_
        exact OneE.no HN.out hBf
      · have HQ := Lib.hid hq
        clear hq
        go_wp2_with fail
        have hF := ((hR9.set0 3).set1 S).set2 (a : Int)
        have f0 := cell_of_row _ w.heap.size 0 _ 40 (0, 0) hF
        have f1 := cell_of_row _ w.heap.size 1 _ 40 (0, 0) hF
        have f2 := cell_of_row _ w.heap.size 2 _ 40 (0, 0) hF
        have hBf := ((hB9.setCell (p := ⟨w.heap.size, 0, none⟩) (Nat.le_refl _) (.int .i64 3)).setCell (p := ⟨w.heap.size, 1, none⟩) (Nat.le_refl _) (.string S)).setCell (p := ⟨w.heap.size, 2, none⟩) (Nat.le_refl _) (.int .i64 (a : Int))
        clear c0 c1 c2 g0 g1 g2 z0 z1 z2 hF
        generalize ((w9.setCell ⟨w.heap.size, 0, none⟩ (.int .i64 3)).setCell ⟨w.heap.size, 1, none⟩ (.string S)).setCell ⟨w.heap.size, 2, none⟩ (.int .i64 (a : Int)) = wf at f0 f1 f2 hBf ⊢
        refine bodyPost_ret (v := .tuple #[.agg #[.int .i64 3, .string S, .int .i64 (a : Int)], .int .i64 (r : Int)]) (by simp [results, Tryz.results56, go_sem, f0, f1, f2]) rfl ?_
        exact OneE.yes HE.out HQ.out hBf
  · rw [h1] at hLet
    go_wp2_with fail
    refine (hRun _).mono ?_
    rintro e w1 ⟨rfl, rfl⟩
    go_wp2_with fail
    have hT0 : TokAt ((w.alloc (.cells #[.int .i64 0, .string ⟨#[]⟩, .int .i64 0] 40)).alloc (.cells #[.int .i64 2, .string S, .int .i64 (a : Int)] 40)) (w.heap.size + 1) 2 S a := tok_new w _ 2 S a
    have hR0 : TokAt ((w.alloc (.cells #[.int .i64 0, .string ⟨#[]⟩, .int .i64 0] 40)).alloc (.cells #[.int .i64 2, .string S, .int .i64 (a : Int)] 40)) w.heap.size 0 ⟨#[]⟩ 0 := tok_first w _
    have hB0 : Below w.heap.size w ((w.alloc (.cells #[.int .i64 0, .string ⟨#[]⟩, .int .i64 0] 40)).alloc (.cells #[.int .i64 2, .string S, .int .i64 (a : Int)] 40)) := ((Below.refl _ _).alloc (Nat.le_refl _) _).alloc (by simp) _
    refine (hKey _).mono ?_
    rintro e w2 ⟨rfl, hb2⟩
    have hT2 := hT0.below hb2 (Array.getElem?_eq_some_iff.1 hT0).1
    have hR2 := hR0.below hb2 (Array.getElem?_eq_some_iff.1 hR0).1
    have hB2 := hB0.trans (hb2.mono hB0.size)
    clear hb2
    have c0 := cell_of_row w2 (w.heap.size + 1) 0 _ 40 (0, 0) hT2
    have c1 := cell_of_row w2 (w.heap.size + 1) 1 _ 40 (0, 0) hT2
    have c2 := cell_of_row w2 (w.heap.size + 1) 2 _ 40 (0, 0) hT2
    by_cases h2 : 0 < numOf (upL S.data.toList)
    · have dN : decide ((0 : Int) < (numOf (upL S.data.toList) : Int)) = true := by simp at h2 ⊢; omega
      have HE := Lib.hid (hE1 hLet h2)
      generalize (numOf (upL S.data.toList) : Int) = N at dN
      clear h2
      have z5 := frozen_of_row w2 (w.heap.size + 1) 0 _ 40 hT2
      go_wp2_with fail
      refine (hFold _).mono ?_
      rintro e w3 ⟨rfl, hb3⟩
      have hT2' := hT2.set0 1
      have hR2' := hR2.set_other (C := w.heap.size + 1) (o := 0) (v := .int .i64 1) (by omega)
      have hB2' := hB2.setCell (p := ⟨w.heap.size + 1, 0, none⟩) (by show w.heap.size ≤ w.heap.size + 1; omega) (.int .i64 1)
      have hT3 := hT2'.below hb3 (Array.getElem?_eq_some_iff.1 hT2').1
      have hR3 := hR2'.below hb3 (Array.getElem?_eq_some_iff.1 hR2').1
      have hB3 := hB2'.trans (hb3.mono hB2'.size)
      clear hb3 c0 c1 c2 z5
      have hUz : (⟨(upL S.data.toList).toArray⟩ : ByteArray).size ≤ s.size := by
        show (upL S.data.toList).length ≤ s.size
        rw [upL_len]; exact hSz
      have HE2 : Hid (one s.data.toList a = if tokOk 1 (⟨(upL S.data.toList).toArray⟩ : ByteArray).data.toList then some (⟨1, (⟨(upL S.data.toList).toArray⟩ : ByteArray).data.toList, a⟩, r) else none) := HE.out
      clear HE
      have HE := HE2
      clear HE2
      generalize (⟨(upL S.data.toList).toArray⟩ : ByteArray) = U at HE hUz ⊢
      have c0 := cell_of_row w3 (w.heap.size + 1) 0 _ 40 (0, 0) hT3
      have c1 := cell_of_row w3 (w.heap.size + 1) 1 _ 40 (0, 0) hT3
      have c2 := cell_of_row w3 (w.heap.size + 1) 2 _ 40 (0, 0) hT3
      have z5 := frozen_of_row w3 (w.heap.size + 1) 1 _ 40 hT3
      go_wp2_with fail
      have hT4 := hT3.set1 U
      have hR4 := hR3.set_other (C := w.heap.size + 1) (o := 1) (v := .string U) (by omega)
      have hB4 := hB3.setCell (p := ⟨w.heap.size + 1, 1, none⟩) (by show w.heap.size ≤ w.heap.size + 1; omega) (.string U)
      clear z5
      refine (tokenOk_spec 1 U (a : Int) _ (by omega)).mono ?_
      rintro e w9 ⟨rfl, hb9⟩
      have hT9 := hT4.below hb9 (Array.getElem?_eq_some_iff.1 hT4).1
      have hR9 := hR4.below hb9 (Array.getElem?_eq_some_iff.1 hR4).1
      have hB9 := hB4.trans (hb9.mono hB4.size)
      clear hb9
      try clear c0 c1 c2
      have c0 := cell_of_row w9 (w.heap.size + 1) 0 _ 40 (0, 0) hT9
      have c1 := cell_of_row w9 (w.heap.size + 1) 1 _ 40 (0, 0) hT9
      have c2 := cell_of_row w9 (w.heap.size + 1) 2 _ 40 (0, 0) hT9
      have g0 := cell_of_row w9 (w.heap.size) 0 _ 40 (0, 0) hR9
      have g1 := cell_of_row w9 (w.heap.size) 1 _ 40 (0, 0) hR9
      have g2 := cell_of_row w9 (w.heap.size) 2 _ 40 (0, 0) hR9
      have z0 := frozen_of_row w9 (w.heap.size) 0 _ 40 hR9
      have z1 := frozen_of_row w9 (w.heap.size) 1 _ 40 hR9
      have z2 := frozen_of_row w9 (w.heap.size) 2 _ 40 hR9
      cases hq : tokOk 1 U.data.toList
      · have HN := Lib.hid (HE.out.trans (if_no hq))
        clear hq
        go_wp2_with fail
        have hF := ((hR9.set0 1).set1 U).set2 (a : Int)
        have f0 := cell_of_row _ w.heap.size 0 _ 40 (0, 0) hF
        have f1 := cell_of_row _ w.heap.size 1 _ 40 (0, 0) hF
        have f2 := cell_of_row _ w.heap.size 2 _ 40 (0, 0) hF
        have hBf := ((hB9.setCell (p := ⟨w.heap.size, 0, none⟩) (Nat.le_refl _) (.int .i64 1)).setCell (p := ⟨w.heap.size, 1, none⟩) (Nat.le_refl _) (.string U)).setCell (p := ⟨w.heap.size, 2, none⟩) (Nat.le_refl _) (.int .i64 (a : Int))
        clear c0 c1 c2 g0 g1 g2 z0 z1 z2 hF
        generalize ((w9.setCell ⟨w.heap.size, 0, none⟩ (.int .i64 1)).setCell ⟨w.heap.size, 1, none⟩ (.string U)).setCell ⟨w.heap.size, 2, none⟩ (.int .i64 (a : Int)) = wf at f0 f1 f2 hBf ⊢
        refine bodyPost_ret (v := .tuple #[.agg #[.int .i64 1, .string U, .int .i64 (a : Int)], .int .i64 (-1)]) (by simp [results, Tryz.results56, go_sem, f0, f1, f2]) rfl ?_
        exact OneE.no HN.out hBf
      · have HQ := Lib.hid hq
        clear hq
        go_wp2_with fail
        have hF := ((hR9.set0 1).set1 U).set2 (a : Int)
        have f0 := cell_of_row _ w.heap.size 0 _ 40 (0, 0) hF
        have f1 := cell_of_row _ w.heap.size 1 _ 40 (0, 0) hF
        have f2 := cell_of_row _ w.heap.size 2 _ 40 (0, 0) hF
        have hBf := ((hB9.setCell (p := ⟨w.heap.size, 0, none⟩) (Nat.le_refl _) (.int .i64 1)).setCell (p := ⟨w.heap.size, 1, none⟩) (Nat.le_refl _) (.string U)).setCell (p := ⟨w.heap.size, 2, none⟩) (Nat.le_refl _) (.int .i64 (a : Int))
        clear c0 c1 c2 g0 g1 g2 z0 z1 z2 hF
        generalize ((w9.setCell ⟨w.heap.size, 0, none⟩ (.int .i64 1)).setCell ⟨w.heap.size, 1, none⟩ (.string U)).setCell ⟨w.heap.size, 2, none⟩ (.int .i64 (a : Int)) = wf at f0 f1 f2 hBf ⊢
        refine bodyPost_ret (v := .tuple #[.agg #[.int .i64 1, .string U, .int .i64 (a : Int)], .int .i64 (r : Int)]) (by simp [results, Tryz.results56, go_sem, f0, f1, f2]) rfl ?_
        exact OneE.yes HE.out HQ.out hBf
    · have dN : decide ((0 : Int) < (numOf (upL S.data.toList) : Int)) = false := by simp at h2 ⊢; omega
      have HE := Lib.hid (hE0 hLet h2)
      generalize (numOf (upL S.data.toList) : Int) = N at dN
      clear h2
      go_wp2_with fail
      refine (tokenOk_spec 2 S (a : Int) _ (by omega)).mono ?_
      rintro e w9 ⟨rfl, hb9⟩
      have hT9 := hT2.below hb9 (Array.getElem?_eq_some_iff.1 hT2).1
      have hR9 := hR2.below hb9 (Array.getElem?_eq_some_iff.1 hR2).1
      have hB9 := hB2.trans (hb9.mono hB2.size)
      clear hb9
      try clear c0 c1 c2
      have c0 := cell_of_row w9 (w.heap.size + 1) 0 _ 40 (0, 0) hT9
      have c1 := cell_of_row w9 (w.heap.size + 1) 1 _ 40 (0, 0) hT9
      have c2 := cell_of_row w9 (w.heap.size + 1) 2 _ 40 (0, 0) hT9
      have g0 := cell_of_row w9 (w.heap.size) 0 _ 40 (0, 0) hR9
      have g1 := cell_of_row w9 (w.heap.size) 1 _ 40 (0, 0) hR9
      have g2 := cell_of_row w9 (w.heap.size) 2 _ 40 (0, 0) hR9
      have z0 := frozen_of_row w9 (w.heap.size) 0 _ 40 hR9
      have z1 := frozen_of_row w9 (w.heap.size) 1 _ 40 hR9
      have z2 := frozen_of_row w9 (w.heap.size) 2 _ 40 hR9
      cases hq : tokOk 2 S.data.toList
      · have HN := Lib.hid (HE.out.trans (if_no hq))
        clear hq
        go_wp2_with fail
        have hF := ((hR9.set0 2).set1 S).set2 (a : Int)
        have f0 := cell_of_row _ w.heap.size 0 _ 40 (0, 0) hF
        have f1 := cell_of_row _ w.heap.size 1 _ 40 (0, 0) hF
        have f2 := cell_of_row _ w.heap.size 2 _ 40 (0, 0) hF
        have hBf := ((hB9.setCell (p := ⟨w.heap.size, 0, none⟩) (Nat.le_refl _) (.int .i64 2)).setCell (p := ⟨w.heap.size, 1, none⟩) (Nat.le_refl _) (.string S)).setCell (p := ⟨w.heap.size, 2, none⟩) (Nat.le_refl _) (.int .i64 (a : Int))
        clear c0 c1 c2 g0 g1 g2 z0 z1 z2 hF
        generalize ((w9.setCell ⟨w.heap.size, 0, none⟩ (.int .i64 2)).setCell ⟨w.heap.size, 1, none⟩ (.string S)).setCell ⟨w.heap.size, 2, none⟩ (.int .i64 (a : Int)) = wf at f0 f1 f2 hBf ⊢
        refine bodyPost_ret (v := .tuple #[.agg #[.int .i64 2, .string S, .int .i64 (a : Int)], .int .i64 (-1)]) (by simp [results, Tryz.results56, go_sem, f0, f1, f2]) rfl ?_
        exact OneE.no HN.out hBf
      · have HQ := Lib.hid hq
        clear hq
        go_wp2_with fail
        have hF := ((hR9.set0 2).set1 S).set2 (a : Int)
        have f0 := cell_of_row _ w.heap.size 0 _ 40 (0, 0) hF
        have f1 := cell_of_row _ w.heap.size 1 _ 40 (0, 0) hF
        have f2 := cell_of_row _ w.heap.size 2 _ 40 (0, 0) hF
        have hBf := ((hB9.setCell (p := ⟨w.heap.size, 0, none⟩) (Nat.le_refl _) (.int .i64 2)).setCell (p := ⟨w.heap.size, 1, none⟩) (Nat.le_refl _) (.string S)).setCell (p := ⟨w.heap.size, 2, none⟩) (Nat.le_refl _) (.int .i64 (a : Int))
        clear c0 c1 c2 g0 g1 g2 z0 z1 z2 hF
        generalize ((w9.setCell ⟨w.heap.size, 0, none⟩ (.int .i64 2)).setCell ⟨w.heap.size, 1, none⟩ (.string S)).setCell ⟨w.heap.size, 2, none⟩ (.int .i64 (a : Int)) = wf at f0 f1 f2 hBf ⊢
        refine bodyPost_ret (v := .tuple #[.agg #[.int .i64 2, .string S, .int .i64 (a : Int)], .int .i64 (r : Int)]) (by simp [results, Tryz.results56, go_sem, f0, f1, f2]) rfl ?_
        exact OneE.yes HE.out HQ.out hBf
end Go.Proofs.YtcadoplfgclbjaaGreatDoor

/- The contract of the model's lexer. -/
namespace Go.Proofs.YtcadoplfgclbjaaGreatDoor
open Go.RowKit

theorem LexE.bad {r : Except Nat (List Tk)} {L : List Tk} {n : Nat} {x : Int} {a : Option Addr} {cap : Nat} {w w' : World} (h : r = aheadT L (.error n)) (hx : x = (n : Int)) (hb : Below w.heap.size w w') : LexE r w (.returned (.tuple #[.slice a 0 cap, .int .i64 x])) w' := by
  subst h hx
  exact ⟨⟨a, cap, rfl⟩, hb⟩
theorem LexE.good {r : Except Nat (List Tk)} {L : List Tk} {v : Value} {w w' : World} (h : r = aheadT L (.ok [])) (ho : OwnT w' w.heap.size v L) (hb : Below w.heap.size w w') : LexE r w (.returned (.tuple #[v, .int .i64 (-1)])) w' := by
  subst h
  refine ⟨?_, hb⟩
  show ∃ v', _ ∧ OwnT w' w.heap.size v' (L ++ [])
  rw [List.append_nil]
  exact ⟨v, rfl, ho⟩

set_option maxRecDepth 100000 in
set_option maxHeartbeats 2000000 in
theorem lex_spec (s : ByteArray) (w : World) (hs : s.size ≤ 9223372036854775807) :
    Calls Tryz.prog 25 #[.string s] w (LexE (lexR s.data.toList) w) := by
  have hlen : s.data.toList.length = s.size := rfl
  by_cases hbig : 2000 < s.size
  · have d : decide (2000 < (s.size : Int)) = true := by simp; omega
    have hE : lexR s.data.toList = .error 2000 := by unfold lexR; rw [if_pos (by omega)]
    have HE := Lib.hid hE; clear hE
    go_enter Tryz.func25, Tryz.ntmps25
    go_wp2_with fail
    go_ret2
    exact LexE.bad (L := []) (n := 2000) (by rw [HE.out]; rfl) rfl ((Below.refl _ _).alloc (Nat.le_refl _) _)
  · have d : decide (2000 < (s.size : Int)) = false := by simp; omega
    have hE : lexR s.data.toList = lexF s.data.toList 0 := by unfold lexR; rw [if_neg (by omega)]
    rw [hE]; clear hE
    go_enter Tryz.func25, Tryz.ntmps25
    go_wp2_with fail
    go_loopw [4, 5] (fun v i wr => ∃ (k g cap : Nat) (L : List Tk), k ≤ s.size ∧ L.length ≤ k ∧ i = .int .i64 (k : Int) ∧ v = .slice (some ⟨g, 0, none⟩) L.length cap ∧ Hid (lexF s.data.toList 0 = aheadT L (lexF s.data.toList k)) ∧ OwnT wr w.heap.size (.slice (some ⟨g, 0, none⟩) L.length cap) L ∧ Below w.heap.size w wr) (fun _ i _ => s.size - (intOf i).toNat)
    case atStart => exact ⟨0, w.heap.size, 0, [], by omega, by simp, rfl, rfl, (aheadT_nil _).symm, World.ownsRow_lit w #[] 0 (Nat.le_refl _) (by unfold maxLen; omega) rfl, (Below.refl _ _).alloc (Nat.le_refl _) _⟩
    case round =>
      obtain ⟨k, g, cap, L, hk, hLk, rfl, rfl, HL, hown, hbel⟩ := hrel
      have hsz := hbel.size
      have hpb := pass_bounds s.data.toList _ k (Nat.le_refl _) (by omega)
      have hpg := pass_ge s.data.toList _ k (Nat.le_refl _)
      have hbad := lexF_bad (l := s.data.toList) (a := k)
      have hend := fun p => lexF_end (l := s.data.toList) (a := k) (p := p)
      have hnone := fun p => lexF_none (l := s.data.toList) (a := k) (p := p)
      have hsome := fun p e t => lexF_some (l := s.data.toList) (a := k) (p := p) (e := e) (t := t)
      have hP := fun w => pass_spec s k w hk (by omega)
      generalize pass s.data.toList k = p at hpb hpg hbad hend hnone hsome hP
      go_wp2_with fail
      refine (hP _).mono ?_
      rintro e w1 ⟨rfl, rfl⟩
      clear hP
      by_cases hp0 : p < 0
      · have dp : decide (p < 0) = true := by simpa using hp0
        have HB := Lib.hid (hbad hp0)
        clear hbad hend hnone hsome
        go_wp2_with fail
        go_ret2
        exact LexE.bad (HL.out.trans (by rw [HB.out])) (by omega) (hbel.alloc hsz _)
      · have dp : decide (p < 0) = false := by simpa using hp0
        obtain ⟨q, rfl⟩ := Int.eq_ofNat_of_zero_le (show 0 ≤ p by omega)
        by_cases hq : q < s.size
        · have dq : decide ((s.size : Int) ≤ (q : Int)) = false := by simp; omega
          go_wp2_with fail
          refine (one_spec s q _ hq (by omega)).mono ?_
          rintro e w2 ⟨h1, hb2⟩
          rcases ho : one s.data.toList q with _ | ⟨t, n⟩
          · rw [ho] at h1
            obtain ⟨kk, xx, nn, rfl⟩ := h1
            have HB := Lib.hid (hnone q rfl hq ho)
            clear hbad hend hnone hsome ho
            have hbb := hbel.trans (hb2.mono hsz)
            have hz2 := hbb.size
            go_wp2_with fail
            go_ret2
            exact LexE.bad (HL.out.trans (by rw [HB.out])) rfl ((hbb.alloc hz2 _).alloc (by simp; omega) _)
          · rw [ho] at h1
            have h1' : e = .returned (.tuple #[.agg #[.int .i64 t.k, .string ⟨t.t.toArray⟩, .int .i64 (t.a : Int)], .int .i64 (n : Int)]) := h1
            subst h1'
            obtain ⟨hn1, hn2, -, -⟩ := one_end (by omega) ho
            have HB := Lib.hid (hsome q n t rfl hq ho)
            have hkq : k ≤ q := by rcases hpg with h | h <;> omega
            have dn : decide ((n : Int) < 0) = false := by simp
            clear hbad hend hnone hsome ho h1
            have hbb := hbel.trans (hb2.mono hsz)
            have hz2 := hbb.size
            have hown2 : OwnT w2 w.heap.size (.slice (some ⟨g, 0, none⟩) L.length cap) L := World.ownsRow.kept hown (row := none) ⟨hb2.os, hb2.tape, hb2.output, hb2.size, fun k hk _ => hb2.block k hk⟩ (.inr (fun e => by cases e))
            have hown2' := World.ownsRow.alloc hown2 (.cells #[.int .i64 t.k, .string ⟨t.t.toArray⟩, .int .i64 (t.a : Int)] 40)
            go_wp2_with (at_builtin; go_must (refine appT rfl (.tmp 37) (.tmp 39) rfl w.heap.size (.slice (some ⟨g, 0, none⟩) L.length cap) L t _ rfl _ (w2.heap.size + 1) (by simp) rfl rfl hown2' (by omega) (by simp; omega) ?_); intro g3 c3 w3 hown3 hbel3)
            go_roundw
            case rel => exact ⟨n, g3, c3, L ++ [t], by omega, by simp; omega, rfl, by simp, by unfold Hid; exact HL.out.trans (by rw [HB.out, aheadT_cons]), by have h := hown3; simpa using h, (hbb.alloc hz2 _).trans hbel3⟩
            case measure => simp [intOf]; omega
        · have dq : decide ((s.size : Int) ≤ (q : Int)) = true := by simp; omega
          have HB := Lib.hid (hend q rfl hq)
          clear hbad hend hnone hsome
          go_wp2_with fail
          go_ret2
          exact LexE.good (HL.out.trans (by rw [HB.out])) hown hbel
end Go.Proofs.YtcadoplfgclbjaaGreatDoor

/- The contract of the text that marks a number. -/
namespace Go.Proofs.YtcadoplfgclbjaaGreatDoor
open Go.RowKit
open Go.Lib (decDigits)

/-- the mark of a number -/
def mk (k : Nat) : ByteArray := ⟨(109 :: decDigits k).toArray⟩
theorem mk_ret {m : Nat} {out : ByteArray} (h : decDigits m = out.data.toList) : Ending.returned (.string (⟨#[109]⟩ ++ out)) = .returned (.string (mk m)) := by
  have : (⟨#[109]⟩ : ByteArray) ++ out = mk m := by
    apply WideShapes.bytes_inj
    rw [ByteArray.data_append]
    simp [mk, h]
  rw [this]

end Go.Proofs.YtcadoplfgclbjaaGreatDoor

/- The laws' comparison of slices of tokens. -/
namespace Go.Proofs.YtcadoplfgclbjaaGreatDoor
open Go.RowKit

end Go.Proofs.YtcadoplfgclbjaaGreatDoor

/- The laws' marking of a slice of tokens, and their look at the marks. -/
namespace Go.Proofs.YtcadoplfgclbjaaGreatDoor
open Go.RowKit

/-- the marks of token j -/
def mkT (j : Nat) : Int × ByteArray × Int := (3 * (j : Int) + 1, mk (3 * j + 2), 3 * (j : Int) + 3)
def mixT (i : Nat) (f : Nat → Int × ByteArray × Int) (j : Nat) : Int × ByteArray × Int := if j < i then mkT j else f j

end Go.Proofs.YtcadoplfgclbjaaGreatDoor

/- What a lexer hands back, as a slice that is read cell by cell. -/
namespace Go.Proofs.YtcadoplfgclbjaaGreatDoor
open Go.RowKit

/-- how many tokens, the number, and the tokens that come back -/
def rn : Except Nat (List Tk) → Nat
  | .ok L => L.length
  | .error _ => 0
def rx : Except Nat (List Tk) → Int
  | .ok _ => -1
  | .error n => (n : Int)
def tokF (L : List Tk) (j : Nat) : Int × ByteArray × Int := match L[j]? with
  | some t => (t.k, ⟨t.t.toArray⟩, (t.a : Int))
  | none => (0, ⟨#[]⟩, 0)
def rf : Except Nat (List Tk) → Nat → Int × ByteArray × Int
  | .ok L => tokF L
  | .error _ => fun _ => (0, ⟨#[]⟩, 0)
theorem toks_at : ∀ (L : List Tk) (j : Nat), j < L.length → (toksCells L)[j * 3]? = some (.int .i64 (tokF L j).1) ∧ (toksCells L)[j * 3 + 1]? = some (.string (tokF L j).2.1) ∧ (toksCells L)[j * 3 + 2]? = some (.int .i64 (tokF L j).2.2)
  | [], j, h => by simp at h
  | t :: L, 0, h => by simp [toksCells, tkCells, tokF]
  | t :: L, j + 1, h => by
    have ih := toks_at L j (by simpa using h)
    have e : toksCells (t :: L) = tkCells t ++ toksCells L := by simp [toksCells]
    have hl : (tkCells t).length = 3 := rfl
    have hf : tokF (t :: L) (j + 1) = tokF L j := by simp [tokF]
    rw [e, hf, List.getElem?_append_right (by omega), List.getElem?_append_right (by omega), List.getElem?_append_right (by omega)]
    have e0 : (j + 1) * 3 - (tkCells t).length = j * 3 := by omega
    have e1 : (j + 1) * 3 + 1 - (tkCells t).length = j * 3 + 1 := by omega
    have e2 : (j + 1) * 3 + 2 - (tkCells t).length = j * 3 + 2 := by omega
    rw [e0, e1, e2]
    exact ih
theorem toks_len (L : List Tk) : (toksCells L).length = L.length * 3 := by
  induction L with
  | nil => rfl
  | cons t L ih =>
    have e : toksCells (t :: L) = tkCells t ++ toksCells L := by simp [toksCells]
    rw [e, List.length_append, ih]
    show 3 + L.length * 3 = (L.length + 1) * 3
    omega
theorem OwnT.row {w : World} {B : Nat} {v : Value} {L : List Tk} (h : OwnT w B v L) : ∃ (a : Option Addr) (cap : Nat), v = .slice a L.length cap ∧ TokSl w B a L.length (tokF L) ∧ L.length ≤ cap := by
  have h0 := h
  rcases h.2 with ⟨e, hn⟩ | ⟨g, cap, cs, e, rest⟩
  · subst e
    exact ⟨none, 0, by rw [hn], fun j hj => by omega, by omega⟩
  · subst e
    refine ⟨some ⟨g, 0, none⟩, cap, rfl, fun j hj => ?_, rest.2.2.1⟩
    have hl := World.ownsRow.lt h0 g rfl
    have hc := fun i (hi : i < L.length * 3) => World.ownsRow.cellAt h0 i hi
    obtain ⟨c0, c1, c2⟩ := toks_at L j hj
    exact ⟨g, rfl, hl.1, hl.2, by rw [hc _ (by omega)]; exact c0, by rw [hc _ (by omega)]; exact c1, by rw [hc _ (by omega)]; exact c2, World.ownsRow.frozenAt h0 _, World.ownsRow.frozenAt h0 _, World.ownsRow.frozenAt h0 _⟩
theorem LexE.row_cap {r : Except Nat (List Tk)} {w w' : World} {e : Ending} (h : LexE r w e w') :
    ∃ (a : Option Addr) (cap : Nat), e = .returned (.tuple #[.slice a (rn r) cap, .int .i64 (rx r)]) ∧ TokSl w' w.heap.size a (rn r) (rf r) ∧ Below w.heap.size w w' ∧ rn r ≤ cap := by
  obtain ⟨h1, hb⟩ := h
  cases r with
  | ok L =>
    obtain ⟨v, he, ho⟩ := h1
    obtain ⟨a, cap, rfl, hr, hc⟩ := ho.row
    exact ⟨a, cap, he, hr, hb, hc⟩
  | error n =>
    obtain ⟨a, cap, he⟩ := h1
    exact ⟨a, cap, he, fun j hj => absurd hj (Nat.not_lt_zero _), hb, Nat.zero_le _⟩
theorem LexE.row {r : Except Nat (List Tk)} {w w' : World} {e : Ending} (h : LexE r w e w') :
    ∃ (a : Option Addr) (cap : Nat), e = .returned (.tuple #[.slice a (rn r) cap, .int .i64 (rx r)]) ∧ TokSl w' w.heap.size a (rn r) (rf r) ∧ Below w.heap.size w w' := by
  obtain ⟨a, cap, h1, h2, h3, _⟩ := h.row_cap
  exact ⟨a, cap, h1, h2, h3⟩
theorem lexF_len (l : List UInt8) : ∀ (n a : Nat) (L : List Tk), l.length - a ≤ n → a ≤ l.length → lexF l a = .ok L → L.length + a ≤ l.length
  | n, a, L, hn, ha, h => by
    have hg := pass_ge l _ a (Nat.le_refl _)
    by_cases h0 : pass l a < 0
    · rw [lexF_bad h0] at h; cases h
    · obtain ⟨p, hp⟩ := Int.eq_ofNat_of_zero_le (show 0 ≤ pass l a by omega)
      by_cases hpl : p < l.length
      · rcases ho : one l p with _ | ⟨t, e⟩
        · rw [lexF_none hp hpl ho] at h; cases h
        · rw [lexF_some hp hpl ho] at h
          obtain ⟨he1, he2, _, _⟩ := one_end hpl ho
          rcases hr : lexF l e with m | M
          · rw [hr] at h; cases h
          · rw [hr] at h
            have hL : L = t :: M := by cases h; rfl
            subst hL
            match n with
            | 0 => omega
            | n + 1 =>
              have := lexF_len l n e M (by omega) he2 hr
              rw [List.length_cons]
              omega
      · rw [lexF_end hp hpl] at h
        cases h
        simpa using ha
theorem rn_le (l : List UInt8) : rn (lexR l) ≤ 2000 := by
  unfold lexR
  split
  · exact Nat.zero_le _
  · rcases h : lexF l 0 with n | L
    · exact Nat.zero_le _
    · have := lexF_len l _ 0 L (Nat.le_refl _) (by omega) h
      show L.length ≤ 2000
      omega
end Go.Proofs.YtcadoplfgclbjaaGreatDoor

/- The contract of the model's comparison of tokens. -/
namespace Go.Proofs.YtcadoplfgclbjaaGreatDoor
open Go.RowKit

/-- tokens of one kind and one text -/
def sameF (f f' : Nat → Int × ByteArray × Int) (j : Nat) : Bool := decide ((f j).1 = (f' j).1) && decide ((f j).2.1 = (f' j).2.1)
def sameB (n n' : Nat) (f f' : Nat → Int × ByteArray × Int) : Bool := decide (n = n') && (List.range n).all (sameF f f')
theorem sameB_len {n n' : Nat} {f f' : Nat → Int × ByteArray × Int} (h : ¬ n = n') : sameB n n' f f' = false := by unfold sameB; rw [decide_eq_false h]; rfl
theorem sameB_no {n k : Nat} {f f' : Nat → Int × ByteArray × Int} (hk : k < n) (h : sameF f f' k = false) : sameB n n f f' = false := by
  unfold sameB
  rw [decide_eq_true rfl, Bool.true_and, List.all_eq_false]
  exact ⟨k, by simpa using hk, by rw [h]; simp⟩
theorem sameB_yes {n : Nat} {f f' : Nat → Int × ByteArray × Int} (h : ∀ j, j < n → sameF f f' j = true) : sameB n n f f' = true := by
  unfold sameB
  rw [decide_eq_true rfl, Bool.true_and, List.all_eq_true]
  exact fun j hj => h j (by simpa using hj)

set_option maxRecDepth 100000 in
set_option maxHeartbeats 1600000 in
theorem same_spec (B1 B2 : Nat) (a b : Option Addr) (n n' ca cb : Nat) (f f' : Nat → Int × ByteArray × Int) (w : World) (ha : TokSl w B1 a n f) (hb : TokSl w B2 b n' f') (hn : n ≤ 4000000) (hn' : n' ≤ 4000000) :
    Calls Tryz.prog 11 #[.slice a n ca, .slice b n' cb] w (BoolE (sameB n n' f f') w) := by
  by_cases hnn : n = n'
  · subst hnn
    go_enter Tryz.func11, Tryz.ntmps11
    go_wp2_with fail
    go_loopw [5] (fun i wr => ∃ k : Nat, k ≤ n ∧ i = .int .i64 (k : Int) ∧ Hid (∀ j, j < k → sameF f f' j = true) ∧ Below w.heap.size w wr) (fun i _ => n - (intOf i).toNat)
    case atStart => exact ⟨0, by omega, rfl, fun j hj => by omega, Below.refl _ _⟩
    case round =>
      obtain ⟨k, hk, rfl, HS, hbel⟩ := hrel
      by_cases hlt : k < n
      · have hlt2 : (k : Int) < (n : Int) := by omega
        obtain ⟨g, rfl, _, hg, c0, c1, _⟩ := ha k hlt
        obtain ⟨g', rfl, _, hg', e0, e1, _⟩ := hb k hlt
        rw [← hbel.cell (p := ⟨g, k * 3, none⟩) hg] at c0
        rw [← hbel.cell (p := ⟨g, k * 3 + 1, none⟩) hg] at c1
        rw [← hbel.cell (p := ⟨g', k * 3, none⟩) hg'] at e0
        rw [← hbel.cell (p := ⟨g', k * 3 + 1, none⟩) hg'] at e1
        have HF := Lib.hid (show sameF f f' k = (decide ((f k).1 = (f' k).1) && decide ((f k).2.1 = (f' k).2.1)) from rfl)
        have hnx := fun (h : sameF f f' k = true) => (fun j (hj : j < k + 1) => by
          by_cases e : j = k
          · subst e; exact h
          · exact HS.out j (by omega) : ∀ j, j < k + 1 → sameF f f' j = true)
        generalize (f k).1 = K1 at c0 HF
        generalize (f' k).1 = K2 at e0 HF
        generalize (f k).2.1 = T1 at c1 HF
        generalize (f' k).2.1 = T2 at e1 HF
        by_cases hK : K1 = K2
        · have q1 : (K1 != K2) = false := by simpa using hK
          by_cases hT : T1 = T2
          · have q2 : (T1.toList == T2.toList) = true := (Lib.bytes_beq_iff T1 T2).2 hT
            have HX := Lib.hid (hnx (by rw [HF.out, decide_eq_true hK, decide_eq_true hT]; rfl))
            clear hK hT hnx
            go_wp2_with fail
            go_quiet (fail)
            go_wp2_with fail
            go_roundw
            case rel => exact ⟨k + 1, by omega, by go_num, HX, ⟨hbel.os, hbel.tape, hbel.output, hbel.size, hbel.block⟩⟩
            case measure => simp [intOf]; omega
          · have q2 : (T1.toList == T2.toList) = false := (Lib.bytes_beq_false_iff T1 T2).2 hT
            have HX := Lib.hid (sameB_no hlt (by rw [HF.out, decide_eq_false hT]; simp))
            clear hK hT hnx
            go_wp2_with fail
            go_quiet (fail)
            go_wp2_with fail
            go_ret
            exact ⟨by rw [HX.out]; rfl, ⟨hbel.os, hbel.tape, hbel.output, hbel.size, hbel.block⟩⟩
        · have q1 : (K1 != K2) = true := by simpa using hK
          have HX := Lib.hid (sameB_no hlt (by rw [HF.out, decide_eq_false hK]; rfl))
          clear hK hnx
          go_wp2_with fail
          go_quiet (fail)
          go_wp2_with fail
          go_ret
          exact ⟨by rw [HX.out]; rfl, ⟨hbel.os, hbel.tape, hbel.output, hbel.size, hbel.block⟩⟩
      · have e : k = n := by omega
        subst e
        go_wp2_with fail
        go_ret
        exact ⟨by rw [sameB_yes HS.out]; rfl, hbel⟩
  · have q : ((n : Int) == (n' : Int)) = false := by simp; omega
    have HX := Lib.hid (sameB_len (f := f) (f' := f') hnn)
    clear hnn
    go_enter Tryz.func11, Tryz.ntmps11
    go_wp2_with fail
    go_ret
    exact ⟨by rw [HX.out]; rfl, Below.refl _ _⟩
end Go.Proofs.YtcadoplfgclbjaaGreatDoor

/- Slices of tokens, any places, that a call owns. -/
namespace Go.Proofs.YtcadoplfgclbjaaGreatDoor
open Go.RowKit

/-- a token's cells -/
def uCells (t : Int × ByteArray × Int) : List Value := [.int .i64 t.1, .string t.2.1, .int .i64 t.2.2]
def usCells (L : List (Int × ByteArray × Int)) : List Value := L.flatMap uCells
theorem usCells_snoc (L : List (Int × ByteArray × Int)) (t : Int × ByteArray × Int) : usCells (L ++ [t]) = usCells L ++ uCells t := by simp [usCells]
/-- the slice value v of the call's own holds the tokens L -/
def OwnU (w : World) (B : Nat) (v : Value) (L : List (Int × ByteArray × Int)) : Prop := w.ownsRow B 40 3 v L.length (usCells L)
def uF (L : List (Int × ByteArray × Int)) (j : Nat) : Int × ByteArray × Int := (L[j]?).getD (0, ⟨#[]⟩, 0)

theorem appU {ops : Array Oper} {rest : List Oper} {o : Oper} {a : Act} {Q : Exit → Act → World → Prop}
    (hgd : o.guard = none) (s x : Operand) (ho : o.op = .call { callee := .builtin .append, args := #[s, x], argTypes := #[24, 24] })
    (B : Nat) (v : Value) (L : List (Int × ByteArray × Int)) (k : Int) (S : ByteArray) (p : Int) (W : World) (nb : Nat) (hnb : W.heap.size = nb) (hs : a.eval s = v) (hx : a.eval x = .slice (some ⟨nb, 0, none⟩) 1 1)
    (hown : OwnU W B v L) (hl : L.length ≤ 4000000) (hB : B ≤ W.heap.size)
    (h : ∀ (g cap : Nat) (w' : World), OwnU w' B (.slice (some ⟨g, 0, none⟩) (L.length + 1) cap) (L ++ [(k, S, p)]) → Below B W w' → wpList Tryz.prog ops Q rest (a.put o.dst (.slice (some ⟨g, 0, none⟩) (L.length + 1) cap)) w') :
    wpList Tryz.prog ops Q (o :: rest) a (W.alloc (.cells #[.int .i64 k, .string S, .int .i64 p] 40)) := by
  subst hnb
  obtain ⟨i, hi, hz, hsize, hby⟩ := info_parts Tryz.infoTk
  have hrow := heap_alloc_new W (.cells #[.int .i64 k, .string S, .int .i64 p] 40)
  refine wpList_append_own _ hgd s x 24 ho B 40 i _ 3 32 Tryz.underlying24 hi hz hsize hby rfl (by decide) v L.length (usCells L) hs (World.ownsRow.alloc hown _) ⟨W.heap.size, 0, none⟩ 1 1 (uCells (k, S, p)) hx rfl (fun j u hj => ?_) (fun u hu => by simp [uCells] at hu; rcases hu with rfl | rfl | rfl <;> rfl) (by unfold maxLen; omega) (by omega) (by simp; omega) ?_
  · have hp : (⟨W.heap.size, 0, none⟩ : Addr).add j = ⟨W.heap.size, j, none⟩ := by unfold Addr.add; split <;> simp_all
    rw [hp, cell_of_row _ W.heap.size j _ 40 (0, 0) hrow]
    have hj3 : j < 3 := by
      have := (List.getElem?_eq_some_iff.1 hj).1
      simpa [uCells] using this
    rcases (show j = 0 ∨ j = 1 ∨ j = 2 by omega) with rfl | rfl | rfl <;> exact hj
  · intro v' w' hown' hgrow hnil
    have hb : Below B W w' := ((Below.refl B W).alloc hB _).grown hgrow (by simp; omega) (fun q hq => (World.ownsRow.lt hown q hq).1)
    obtain ⟨g, cap, rfl⟩ : ∃ g cap, v' = .slice (some ⟨g, 0, none⟩) (L.length + 1) cap := by
      rcases hown'.2 with ⟨_, h0⟩ | ⟨g, cap, _, h0, _⟩
      · omega
      · exact ⟨g, cap, h0⟩
    exact h g cap w' (by unfold OwnU; rw [usCells_snoc, List.length_append]; exact hown') hb
theorem us_at : ∀ (L : List (Int × ByteArray × Int)) (j : Nat), j < L.length → (usCells L)[j * 3]? = some (.int .i64 (uF L j).1) ∧ (usCells L)[j * 3 + 1]? = some (.string (uF L j).2.1) ∧ (usCells L)[j * 3 + 2]? = some (.int .i64 (uF L j).2.2)
  | [], j, h => by simp at h
  | t :: L, 0, h => by simp [usCells, uCells, uF]
  | t :: L, j + 1, h => by
    have ih := us_at L j (by simpa using h)
    have e : usCells (t :: L) = uCells t ++ usCells L := by simp [usCells]
    have hl : (uCells t).length = 3 := rfl
    have hf : uF (t :: L) (j + 1) = uF L j := by simp [uF]
    rw [e, hf, List.getElem?_append_right (by omega), List.getElem?_append_right (by omega), List.getElem?_append_right (by omega)]
    have e0 : (j + 1) * 3 - (uCells t).length = j * 3 := by omega
    have e1 : (j + 1) * 3 + 1 - (uCells t).length = j * 3 + 1 := by omega
    have e2 : (j + 1) * 3 + 2 - (uCells t).length = j * 3 + 2 := by omega
    rw [e0, e1, e2]
    exact ih
theorem OwnU.row {w : World} {B : Nat} {v : Value} {L : List (Int × ByteArray × Int)} (h : OwnU w B v L) : ∃ (a : Option Addr) (cap : Nat), v = .slice a L.length cap ∧ TokSl w B a L.length (uF L) ∧ L.length ≤ cap := by
  have h0 := h
  rcases h.2 with ⟨e, hn⟩ | ⟨g, cap, cs, e, rest⟩
  · subst e
    exact ⟨none, 0, by rw [hn], fun j hj => by omega, by omega⟩
  · subst e
    refine ⟨some ⟨g, 0, none⟩, cap, rfl, fun j hj => ?_, rest.2.2.1⟩
    have hl := World.ownsRow.lt h0 g rfl
    have hc := fun i (hi : i < L.length * 3) => World.ownsRow.cellAt h0 i hi
    obtain ⟨c0, c1, c2⟩ := us_at L j hj
    exact ⟨g, rfl, hl.1, hl.2, by rw [hc _ (by omega)]; exact c0, by rw [hc _ (by omega)]; exact c1, by rw [hc _ (by omega)]; exact c2, World.ownsRow.frozenAt h0 _, World.ownsRow.frozenAt h0 _, World.ownsRow.frozenAt h0 _⟩
end Go.Proofs.YtcadoplfgclbjaaGreatDoor
