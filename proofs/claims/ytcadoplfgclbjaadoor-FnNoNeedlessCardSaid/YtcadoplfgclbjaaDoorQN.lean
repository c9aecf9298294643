/- Joined texts: Enclosed TextI RetShaped ShapedR. -/
import Derived.Test.YtcadoplfgclbjaaDoorQG
import Derived.Test.YtcadoplfgclbjaaDoorQD
import Derived.Test.YtcadoplfgclbjaaDoorShelf
import Derived.Test.YtcadoplfgclbjaaDoorQB
import Derived.Test.YtcadoplfgclbjaaDoorRows
import Derived.WalkKit
import Derived.ProofKit
import Derived.OpenShut
import Derived.ShutString
import Derived.HandedShaped
import Derived.Lay
import Derived.LaidMore
import Derived.ChangeOld
import Derived.Below
/- The contract of the program's quoting, by strings.ReplaceAll. -/
namespace Go.Proofs.YtcadoplfgclbjaaDoor
open Go.RowKit

set_option maxRecDepth 100000 in
set_option maxHeartbeats 1200000 in
theorem enclosed_impl (c : UInt8) (s : ByteArray) (w : World) (hs : s.size ≤ 1048576) (hm : MaxI w) :
    Calls Tryd.prog 101 #[.string s, .string ⟨#[c]⟩] w (StrE (quoted c s.data.toList) w) := by
  obtain ⟨m, hm1⟩ := hm
  have hcb := Lib.countB_mul_le ⟨#[c]⟩ (by show 1 ≤ 1; omega) s.size s (Nat.le_refl _)
  have h1 : (⟨#[c]⟩ : ByteArray).size = 1 := rfl
  rw [h1] at hcb
  have hR : ∀ new : ByteArray, new.data.toList = [c, c] → Calls Tryd.prog 88 #[.string s, .string ⟨#[c]⟩, .string new] w (StrE (dbl c s.data.toList) w) := fun new hn => by
    have hn2 : new.size = 2 := by show new.data.toList.length = 2; rw [hn]; rfl
    have h := Tryd.strings_ReplaceAll s ⟨#[c]⟩ new m w (by omega) hm1 (by rw [h1]; exact Nat.le_refl _) (by rw [hn2]; omega)
    rw [hn, show (⟨#[c]⟩ : ByteArray).data.toList = [c] from rfl, replaceAll_dbl] at h
    exact h
  have hl := dbl_len c s.data.toList
  have hl2 : s.data.toList.length = s.size := rfl
  obtain ⟨R, hRe⟩ : ∃ R : ByteArray, R = ⟨(dbl c s.data.toList).toArray⟩ := ⟨_, rfl⟩
  have hsz : R.size ≤ 4000000 := by rw [hRe]; show (dbl c s.data.toList).length ≤ _; omega
  have HQ : Hid (quoted c s.data.toList = (⟨#[c]⟩ ++ R ++ ⟨#[c]⟩ : ByteArray).data.toList) := by
    unfold Hid; rw [hRe]; simp [quoted]
  unfold StrE at hR
  rw [← hRe] at hR
  clear hRe hl hl2 hm1
  have e1 : ((⟨#[c]⟩ : ByteArray) ++ R).size = 1 + R.size := by rw [ByteArray.size_append]; rfl
  go_enter Tryd.func101, Tryd.ntmps101
  go_wp2_with fail
  refine (hR _ (by simp)).mono ?_
  rintro e w1 ⟨rfl, hb⟩
  go_wp2_with fail
  go_ret
  exact ⟨ret_ba' HQ.out, hb⟩
end Go.Proofs.YtcadoplfgclbjaaDoor

/- Contracts of NameText and QuoteText in the program. -/
namespace Go.Proofs.YtcadoplfgclbjaaDoor
open Go.RowKit

set_option maxRecDepth 100000 in
set_option maxHeartbeats 800000 in
theorem nameText_impl (s : ByteArray) (w : World) (hs : s.size ≤ 9223372036854775807) (hm : MaxI w) :
    Calls Tryd.prog 92 #[.string s] w (StrE (nameL s.data.toList) w) := by
  have hN := fun w => nameOk_impl s w hs
  have hP := fun w => plain_impl s w hs
  have hL : nameL s.data.toList = (if okLen s.size then (if plainB s.data.toList then s.data.toList else quoted 34 s.data.toList) else []) := rfl
  cases h1 : okLen s.size
  · rw [h1] at hN hL
    have HL := Lib.hid (show nameL s.data.toList = [] from hL); clear hL hP h1
    go_enter Tryd.func92, Tryd.ntmps92
    go_wp2_with fail
    refine (hN _).mono ?_
    rintro e w1 ⟨rfl, rfl⟩
    go_wp2_with fail
    go_ret
    exact ⟨ret_str HL.out.symm, Below.refl _ _⟩
  · have hs3 : s.size ≤ 1048576 := by unfold okLen at h1; simp at h1; omega
    rw [h1] at hN hL
    clear h1
    cases h2 : plainB s.data.toList
    · rw [h2] at hP hL
      have HL := Lib.hid (show nameL s.data.toList = quoted 34 s.data.toList from hL); clear hL h2
      go_enter Tryd.func92, Tryd.ntmps92
      go_wp2_with fail
      refine (hN _).mono ?_
      rintro e w1 ⟨rfl, rfl⟩
      go_wp2_with fail
      refine (hP _).mono ?_
      rintro e w2 ⟨rfl, hb⟩
      have hm1 := hm.later hb hm.two
      clear hN hP
      go_wp2_with fail
      refine (enclosed_impl 34 s _ hs3 hm1).mono ?_
      rintro e w3 ⟨rfl, hb2⟩
      go_wp2_with fail
      go_ret
      exact ⟨ret_str HL.out.symm, hb.trans (hb2.mono hb.size)⟩
    · rw [h2] at hP hL
      have HL := Lib.hid (show nameL s.data.toList = s.data.toList from hL); clear hL h2
      go_enter Tryd.func92, Tryd.ntmps92
      go_wp2_with fail
      refine (hN _).mono ?_
      rintro e w1 ⟨rfl, rfl⟩
      go_wp2_with fail
      refine (hP _).mono ?_
      rintro e w2 ⟨rfl, hb⟩
      clear hN hP
      go_wp2_with fail
      go_ret
      exact ⟨ret_ba' HL.out, hb⟩

theorem quoteText_impl (s : ByteArray) (w : World) (hs : s.size ≤ 1048576) (hm : MaxI w) :
    Calls Tryd.prog 93 #[.string s] w (StrE (quoted 39 s.data.toList) w) := by
  go_enter Tryd.func93, Tryd.ntmps93
  go_wp2_with fail
  refine (enclosed_impl 39 s _ hs hm).mono ?_
  rintro e w1 ⟨rfl, hb⟩
  go_wp2_with fail
  go_ret
  exact ⟨rfl, hb⟩
end Go.Proofs.YtcadoplfgclbjaaDoor

/- A wrap: the listed tables and the shape of the first world are handed on together. -/
namespace Go.Proofs.YtcadoplfgclbjaaDoor
open Go.ChangeShapes Go.WideShapes Go.ChangeAt Go.RowKit

theorem own : ownKnob Tryd.prog.godebug = none := by kernel_rfl

theorem returns_and_shaped {H : Type} {enc : TypeId × Value → H} {a : Assume} {C : Checked} {os : Os} {f : FuncId} {fn : Func} {s : ChangeSpec} {conds : List PathCond} {apart fresh handsOn again : Bool} {X : World → Array Value → Prop}
    (hX : ∀ (w w' : World) (args : Array Value), w.heap = w'.heap → X w args → X w' args)
    (own : ownKnob C.prog.godebug = none) (started : os.Started) (noInit : C.prog.inits.idxOf? f = none) (hfn : C.prog.funcs[f]? = some fn)
    (witness : ∃ (w : World) (tape : Tape) (i : Input), w.os = os ∧ (w.forCall tape i).Shaped C.prog ∧ i.vars = [] ∧ Input.okWide C.prog (w.forCall tape i) .any w.heap.size f i ∧
      ((s.pre enc C.prog fn conds apart (w.forCall tape i).memory i.args ∧ X (w.forCall tape i).memory i.args) ∧ sizedMet enc C.prog fn (OpenSpec.ofChange s) apart (w.forCall tape i).memory i.args) ∧ a.holds C.prog (lone (Frame.enter C.prog f i.args .normal) [] (w.forCall tape i)))
    (contract : ∀ (W : World) (base : Nat) (args : Array Value) (ds gs : List (DataW H)) (before : List MemPlace),
      (∀ (j : Nat) t v, fn.params[j]? = some t → args[j]? = some v → Value.okWide C.prog W .any base t v) →
      DataW.Whole enc C.prog fn.params.toList s.vars apart W args.toList ds gs before →
      conds.all (PathCond.test C.prog ⟨fn.params.toList, ds, s.plain.varTypes C.prog, gs⟩) = true →
      W.ShapedOpen C.prog → X W args →
      Calls C.prog f args W fun e W' => ∃ v, e = .returned v ∧ s.post enc C.prog fn apart fresh handsOn again W args v W') :
    ReturnsInHanded a C os f .any (fun w args => (s.pre enc C.prog fn conds apart w args ∧ X w args) ∧ sizedMet enc C.prog fn (OpenSpec.ofChange s) apart w args) (s.post enc C.prog fn apart fresh handsOn again) := by
  refine returnsInHanded_of_calls own started noInit witness ?_
  intro w tape i _ hsh _ hok hpre hholds
  obtain ⟨_, _, _, fn', hfn', _, _, _, _, hval⟩ := hok
  have e : fn' = fn := Option.some.inj (hfn'.symm.trans hfn)
  subst e
  obtain ⟨⟨⟨ds, gs, before, hw, hc⟩, hx⟩, hz⟩ := hpre
  have hw' := DataW.Whole.of_heap (w' := w.forCall tape i) (by rfl) hw
  refine (contract (w.forCall tape i) w.heap.size i.args ds gs before hval hw' hc hsh (hX _ _ _ (by rfl) hx)).mono fun e W' ⟨v, he, hp⟩ => ?_
  subst he
  exact ChangeSpec.post_blind hp
end Go.Proofs.YtcadoplfgclbjaaDoor

/- A start in which the tables of unicode/utf8 lie; the shape gives internal/bytealg.MaxLen (by strings.ReplaceAll). -/
namespace Go.Proofs.YtcadoplfgclbjaaDoor
open Go.ChangeShapes Go.WideShapes Go.ChangeAt Go.RowKit

/-- the two tables of unicode/utf8 that the rows list -/
abbrev laidP : List (String × DataW Unit) := [("unicode/utf8.acceptRanges", Rows.laid_unicode_utf8_acceptRanges), ("unicode/utf8.first", Rows.laid_unicode_utf8_first)]
theorem laidOut : laidOutB Tryd.prog = true := by kernel_rfl
theorem maxI_of {W : World} (h : W.ShapedOpen Tryd.prog) : MaxI W := Tryd.laysM155.s1_3 W h
set_option maxRecDepth 100000 in
theorem all_met (os : Os) (args : Array Value) : laidMetH Tryd.prog laidP ((World.laidAll Tryd.prog os laidP).forCall (fun _ _ => 0) ⟨#[], args, []⟩).memory := by
  rw [MakeChecks.laidMetH_plain _ _ _ (by kernel_rfl)]
  exact laidMet_laidAll _ (by kernel_rfl) (by kernel_rfl)
end Go.Proofs.YtcadoplfgclbjaaDoor
