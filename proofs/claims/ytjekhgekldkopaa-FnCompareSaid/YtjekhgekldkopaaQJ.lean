/- Joined texts: DrawCalc ValOwn OpNum CalcS0. -/
import Derived.Test.YtjekhgekldkopaaQH
import Derived.Test.YtjekhgekldkopaaQI
import Derived.Test.YtjekhgekldkopaaQA
import Derived.Test.YtjekhgekldkopaaQC
import Derived.Test.YtjekhgekldkopaaQF
import Derived.Laws.OwnMore
/- The contract of the function that draws an operator and its operands. -/
namespace Go.Proofs.Ytjekhgekldkopaa
open Go.RowKit

/-- an operator and two values -/
def OpTwoE (M B : Nat) (W : World) (e : Ending) (W' : World) : Prop :=
  ∃ (op k n : Int) (t : ByteArray) (k' n' : Int) (t' : ByteArray), Nice M n t ∧ Nice M n' t' ∧ e = .returned (.tuple #[.int .i64 op, .agg #[.int .i64 k, .int .i64 n, .string t], .agg #[.int .i64 k', .int .i64 n', .string t']]) ∧ Below B W W'
theorem Nice.of {M M' : Nat} {n : Int} {t : ByteArray} (h : t.size ≤ M ∧ -9223372036854775808 ≤ n ∧ n ≤ 9223372036854775807) (hM : M ≤ M') : Nice M' n t := ⟨by omega, h.2⟩
/-- the two results' blocks and the cursor -/
structure DS (B : Nat) (a : Option Addr) (len cap : Nat) (W V : World) : Prop where
  hB : B ≤ W.heap.size
  r3 : ValAt V W.heap.size 0 0 ⟨#[]⟩
  r4 : ValAt V (W.heap.size + 1) 0 0 ⟨#[]⟩
  hc : Cur B (W.heap.size + 2) a len cap V
  hb : Below B W V
theorem DS.lt {B : Nat} {a : Option Addr} {len cap : Nat} {W V : World} (H : DS B a len cap W V) : W.heap.size + 2 < V.heap.size := H.hc.lt
theorem DS.turn {B : Nat} {a : Option Addr} {len cap : Nat} {W V V' : World} (H : DS B a len cap W V) (hc : Cur B (W.heap.size + 2) a len cap V') (hg : V.grownBy V' (some (W.heap.size + 2))) : DS B a len cap W V' :=
  ⟨H.hB, H.r3.turn hg (by omega), H.r4.turn hg (by omega), hc, below_of_grown H.hb hg (by have := H.hB; omega) (by have := H.lt; have := H.hB; omega)⟩
theorem DS.later {B : Nat} {a : Option Addr} {len cap : Nat} {W V V' : World} (H : DS B a len cap W V) (h : Below V.heap.size V V') : DS B a len cap W V' :=
  H.turn (H.hc.later h) (grown_of_new h _)
theorem DS.alloc {B : Nat} {a : Option Addr} {len cap : Nat} {W V : World} (H : DS B a len cap W V) (x : Obj) : DS B a len cap W (V.alloc x) := H.later ((Below.refl _ _).alloc (Nat.le_refl _) _)
theorem DS.puts {B : Nat} {a : Option Addr} {len cap : Nat} {W V : World} (H : DS B a len cap W V) {R : Nat} (hR : W.heap.size + 2 < R) (k n : Int) (t : ByteArray) : DS B a len cap W (put V R k n t) :=
  ⟨H.hB, put_other H.r3 (by omega) _ _ _, put_other H.r4 (by omega) _ _ _, H.hc.puts (by omega) (by have := H.hB; omega) _ _ _, put_below H.hb (by have := H.hB; omega) _ _ _⟩
theorem ValAt.later8 {W W' : World} {Q : Nat} {k n : Int} {t : ByteArray} (h : ValAt W Q k n t) (g : Below W.heap.size W W') : ValAt W' Q k n t := (g.block Q (Array.getElem?_eq_some_iff.1 h).1).trans h
/-- the results are put into their blocks -/
theorem DS.fin {B : Nat} {a : Option Addr} {len cap : Nat} {W V : World} (H : DS B a len cap W V) (k n : Int) (t : ByteArray) (k' n' : Int) (t' : ByteArray) :
    ValAt (put (put V W.heap.size k n t) (W.heap.size + 1) k' n' t') W.heap.size k n t ∧ ValAt (put (put V W.heap.size k n t) (W.heap.size + 1) k' n' t') (W.heap.size + 1) k' n' t' ∧ Below B W (put (put V W.heap.size k n t) (W.heap.size + 1) k' n' t') :=
  ⟨put_other (H.r3.puts k n t) (by omega) _ _ _, (put_other H.r4 (by omega) k n t).puts k' n' t', put_below (put_below H.hb H.hB _ _ _) (by have := H.hB; omega) _ _ _⟩
theorem DS.open {B : Nat} {a : Option Addr} {len cap : Nat} {W V : World} (H : DS B a len cap W V) :
    (V.cell? ⟨W.heap.size, 0, none⟩ = some (.int .i64 0) ∧ V.cell? ⟨W.heap.size, 1, none⟩ = some (.int .i64 0) ∧ V.cell? ⟨W.heap.size, 2, none⟩ = some (.string ⟨#[]⟩)) ∧
    (V.frozen? ⟨W.heap.size, 0, none⟩ = false ∧ V.frozen? ⟨W.heap.size, 1, none⟩ = false ∧ V.frozen? ⟨W.heap.size, 2, none⟩ = false) ∧
    (V.cell? ⟨W.heap.size + 1, 0, none⟩ = some (.int .i64 0) ∧ V.cell? ⟨W.heap.size + 1, 1, none⟩ = some (.int .i64 0) ∧ V.cell? ⟨W.heap.size + 1, 2, none⟩ = some (.string ⟨#[]⟩)) ∧
    (V.frozen? ⟨W.heap.size + 1, 0, none⟩ = false ∧ V.frozen? ⟨W.heap.size + 1, 1, none⟩ = false ∧ V.frozen? ⟨W.heap.size + 1, 2, none⟩ = false) :=
  ⟨H.r3.cells, H.r3.soft, H.r4.cells, H.r4.soft⟩
set_option maxRecDepth 100000 in
set_option maxHeartbeats 16000000 in
theorem drawCalc_any (B : Nat) (a : Option Addr) (len cap : Nat) (W : World) (H0 : RowB B a len W) (hB : B ≤ W.heap.size) :
    Calls Try.prog 25 #[.slice a len cap] W (OpTwoE 1000 B W) := by
  have hbA : Below W.heap.size W ((W.alloc (.cells #[.int .i64 0, .int .i64 0, .string ⟨#[]⟩] 27)).alloc (.cells #[.int .i64 0, .int .i64 0, .string ⟨#[]⟩] 27)) := ((Below.refl W.heap.size W).alloc (Nat.le_refl _) _).alloc (by simp) _
  have hA0 : ValAt ((W.alloc (.cells #[.int .i64 0, .int .i64 0, .string ⟨#[]⟩] 27)).alloc (.cells #[.int .i64 0, .int .i64 0, .string ⟨#[]⟩] 27)) W.heap.size 0 0 ⟨#[]⟩ := val_first W _
  have hA1 : ValAt ((W.alloc (.cells #[.int .i64 0, .int .i64 0, .string ⟨#[]⟩] 27)).alloc (.cells #[.int .i64 0, .int .i64 0, .string ⟨#[]⟩] 27)) (W.heap.size + 1) 0 0 ⟨#[]⟩ := val_two W _
  have hAz : ((W.alloc (.cells #[.int .i64 0, .int .i64 0, .string ⟨#[]⟩] 27)).alloc (.cells #[.int .i64 0, .int .i64 0, .string ⟨#[]⟩] 27)).heap.size = W.heap.size + 2 := by simp
  have hAH : RowB (W.heap.size + 2) a len ((W.alloc (.cells #[.int .i64 0, .int .i64 0, .string ⟨#[]⟩] 27)).alloc (.cells #[.int .i64 0, .int .i64 0, .string ⟨#[]⟩] 27)) := (H0.later (hbA.mono hB)).wider5 (by omega)
  go_enter Try.func25, Try.ntmps25
  go_wp2_with fail
  generalize ((W.alloc (.cells #[.int .i64 0, .int .i64 0, .string ⟨#[]⟩] 27)).alloc (.cells #[.int .i64 0, .int .i64 0, .string ⟨#[]⟩] 27)) = WA at hbA hA0 hA1 hAz hAH ⊢
  refine (new_any (W.heap.size + 2) a len cap _ hAH (by omega)).mono ?_
  rintro e V1 ⟨rfl, hc1, hb1⟩
  have r3 := hA0.below hb1 (by omega)
  have r4 := hA1.below hb1 (by omega)
  have hbb := (hbA.mono hB).trans (hb1.mono (by omega))
  rw [hAz] at hc1 ⊢
  have H : DS B a len cap W V1 := ⟨hB, r3, r4, hc1.rows (H0.later hbb) (by omega), hbb⟩
  clear hA0 hA1 hAH hbA hb1 hc1 r3 r4 hbb hAz
  go_wp2_with fail
  refine (below_any 18 B (W.heap.size + 2) a len cap _ H.hc (by omega) (by omega)).mono ?_
  rintro e V2 ⟨op, hop0, hop1, rfl, hc, hg⟩
  replace H := H.turn hc hg
  clear hc hg
  go_wp2_with fail
  refine (once_any 5 B (W.heap.size + 2) a len cap _ H.hc (by omega) (by omega)).mono ?_
  rintro e V3 ⟨b5, rfl, hc, hg⟩
  replace H := H.turn hc hg
  clear hc hg
  cases b5
  case true =>
    go_wp2_with fail
    refine (vbent_any B (W.heap.size + 2) a len cap _ H.hc).mono ?_
    rintro e V4 ⟨ka, na, ta, hna, rfl, hc, hg⟩
    replace H := H.turn hc hg
    clear hc hg
    have HNA := Lib.hid hna
    clear hna
    go_wp2_with fail
    refine (vbent_any B (W.heap.size + 2) a len cap _ H.hc).mono ?_
    rintro e V5 ⟨kb, nb, tb, hnb, rfl, hc, hg⟩
    replace H := H.turn hc hg
    clear hc hg
    have HNB := Lib.hid hnb
    clear hnb
    obtain ⟨⟨g0, g1, g2⟩, ⟨z0, z1, z2⟩, ⟨g3, g4, g5⟩, ⟨z3, z4, z5⟩⟩ := H.open
    go_wp2_with fail
    obtain ⟨fa, fb, hbF⟩ := H.fin (ka) (na) (ta) (kb) (nb) (tb)
    obtain ⟨fa0, fa1, fa2⟩ := fa.cells
    obtain ⟨fb0, fb1, fb2⟩ := fb.cells
    rw [put_eq, put_eq]
    generalize put _ (W.heap.size + 1) _ _ _ = wf at fa0 fa1 fa2 fb0 fb1 fb2 hbF ⊢
    refine bodyPost_ret (v := .tuple #[.int .i64 (op), .agg #[.int .i64 (ka), .int .i64 (na), .string (ta)], .agg #[.int .i64 (kb), .int .i64 (nb), .string (tb)]]) (by simp [results, Try.results25, go_sem, fa0, fa1, fa2, fb0, fb1, fb2]) rfl ?_
    exact ⟨_, _, _, _, _, _, _, .of HNA.out (by omega), .of HNB.out (by omega), rfl, hbF⟩
  go_wp2_with fail
  refine (below_any 3 B (W.heap.size + 2) a len cap _ H.hc (by omega) (by omega)).mono ?_
  rintro e V4 ⟨m, hm0, hm1, rfl, hc, hg⟩
  replace H := H.turn hc hg
  clear hc hg
  by_cases h12 : op = 1 ∨ op = 2
  · obtain ⟨o2, ho2⟩ : ∃ z, z = op := ⟨_, rfl⟩
    have HO := Lib.hid ho2
    clear ho2
    rcases h12 with rfl | rfl
    all_goals
      go_wp2_with fail
      refine (typed_any (3) (.inr (.inr rfl)) B (W.heap.size + 2) a len cap _ H.hc (by have := H.hB; have := H.lt; omega)).mono ?_
      rintro e V5 ⟨ka, na, ta, hna, rfl, hc, hg⟩
      replace H := H.turn hc hg
      clear hc hg
      have HNA := Lib.hid hna
      clear hna
      have h8 : W.heap.size + 2 < V5.heap.size := H.lt
      have r8 : ValAt (V5.alloc (.cells #[.int .i64 ka, .int .i64 na, .string ta] 27)) V5.heap.size ka na ta := heap_alloc_new V5 _
      replace H := H.alloc (.cells #[.int .i64 ka, .int .i64 na, .string ta] 27)
      go_wp2_with fail
      generalize V5.alloc (.cells #[.int .i64 ka, .int .i64 na, .string ta] 27) = V6 at r8 H ⊢
      generalize V5.heap.size = R8 at h8 r8 ⊢
      refine (typed_any (3) (.inr (.inr rfl)) B (W.heap.size + 2) a len cap _ H.hc (by have := H.hB; have := H.lt; omega)).mono ?_
      rintro e V7 ⟨kb, nb, tb, hnb, rfl, hc, hg⟩
      replace H := H.turn hc hg
      replace r8 := r8.turn hg (by omega)
      clear hc hg
      have HNB := Lib.hid hnb
      clear hnb
      have h9 : W.heap.size + 2 < V7.heap.size := H.lt
      have h89 : R8 < V7.heap.size := (Array.getElem?_eq_some_iff.1 r8).1
      have r9 : ValAt (V7.alloc (.cells #[.int .i64 kb, .int .i64 nb, .string tb] 27)) V7.heap.size kb nb tb := heap_alloc_new V7 _
      replace r8 : ValAt (V7.alloc (.cells #[.int .i64 kb, .int .i64 nb, .string tb] 27)) R8 ka na ta := (Below.heap_alloc V7 _ _ h89).trans r8
      replace H := H.alloc (.cells #[.int .i64 kb, .int .i64 nb, .string tb] 27)
      go_wp2_with fail
      generalize V7.alloc (.cells #[.int .i64 kb, .int .i64 nb, .string tb] 27) = V8 at r8 r9 H ⊢
      generalize V7.heap.size = R9 at h9 h89 r9 ⊢
      obtain ⟨p0, p1, p2⟩ := r8.cells
      obtain ⟨q0, q1, q2⟩ := r9.cells
      obtain ⟨⟨g0, g1, g2⟩, ⟨z0, z1, z2⟩, ⟨g3, g4, g5⟩, ⟨z3, z4, z5⟩⟩ := H.open
      go_wp2_with fail
      go_region_with (fail)
      all_goals
        go_wp2_with fail
        obtain ⟨fa, fb, hbF⟩ := H.fin (ka) (na) (ta) (kb) (nb) (tb)
        obtain ⟨fa0, fa1, fa2⟩ := fa.cells
        obtain ⟨fb0, fb1, fb2⟩ := fb.cells
        rw [put_eq, put_eq]
        generalize put _ (W.heap.size + 1) _ _ _ = wf at fa0 fa1 fa2 fb0 fb1 fb2 hbF ⊢
        refine bodyPost_ret (v := .tuple #[.int .i64 o2, .agg #[.int .i64 (ka), .int .i64 (na), .string (ta)], .agg #[.int .i64 (kb), .int .i64 (nb), .string (tb)]]) (by rw [HO.out]; simp [results, Try.results25, go_sem, fa0, fa1, fa2, fb0, fb1, fb2]) rfl ?_
        exact ⟨_, _, _, _, _, _, _, .of HNA.out (by omega), .of HNB.out (by omega), rfl, by first | exact hbF | exact hbF.drew⟩
  have q1 : (op == 1) = false := by simp; omega
  have q2 : (op == 2) = false := by simp; omega
  by_cases h9 : op = 9
  · subst h9
    go_wp2_with fail
    refine (typed_any (2) (.inr (.inl rfl)) B (W.heap.size + 2) a len cap _ H.hc (by have := H.hB; have := H.lt; omega)).mono ?_
    rintro e V5 ⟨ka, na, ta, hna, rfl, hc, hg⟩
    replace H := H.turn hc hg
    clear hc hg
    have HNA := Lib.hid hna
    clear hna
    have h8 : W.heap.size + 2 < V5.heap.size := H.lt
    have r8 : ValAt (V5.alloc (.cells #[.int .i64 ka, .int .i64 na, .string ta] 27)) V5.heap.size ka na ta := heap_alloc_new V5 _
    replace H := H.alloc (.cells #[.int .i64 ka, .int .i64 na, .string ta] 27)
    go_wp2_with fail
    generalize V5.alloc (.cells #[.int .i64 ka, .int .i64 na, .string ta] 27) = V6 at r8 H ⊢
    generalize V5.heap.size = R8 at h8 r8 ⊢
    refine (typed_any (2) (.inr (.inl rfl)) B (W.heap.size + 2) a len cap _ H.hc (by have := H.hB; have := H.lt; omega)).mono ?_
    rintro e V7 ⟨kb, nb, tb, hnb, rfl, hc, hg⟩
    replace H := H.turn hc hg
    replace r8 := r8.turn hg (by omega)
    clear hc hg
    have HNB := Lib.hid hnb
    clear hnb
    have h9 : W.heap.size + 2 < V7.heap.size := H.lt
    have h89 : R8 < V7.heap.size := (Array.getElem?_eq_some_iff.1 r8).1
    have r9 : ValAt (V7.alloc (.cells #[.int .i64 kb, .int .i64 nb, .string tb] 27)) V7.heap.size kb nb tb := heap_alloc_new V7 _
    replace r8 : ValAt (V7.alloc (.cells #[.int .i64 kb, .int .i64 nb, .string tb] 27)) R8 ka na ta := (Below.heap_alloc V7 _ _ h89).trans r8
    replace H := H.alloc (.cells #[.int .i64 kb, .int .i64 nb, .string tb] 27)
    go_wp2_with fail
    generalize V7.alloc (.cells #[.int .i64 kb, .int .i64 nb, .string tb] 27) = V8 at r8 r9 H ⊢
    generalize V7.heap.size = R9 at h9 h89 r9 ⊢
    refine (once_any 10 B (W.heap.size + 2) a len cap _ H.hc (by omega) (by omega)).mono ?_
    rintro e V9 ⟨b, rfl, hc, hg⟩
    replace H := H.turn hc hg
    replace r8 := r8.turn hg (by omega)
    replace r9 := r9.turn hg (by omega)
    clear hc hg
    cases b
    case false =>
      obtain ⟨p0, p1, p2⟩ := r8.cells
      obtain ⟨q0, q1, q2⟩ := r9.cells
      obtain ⟨⟨g0, g1, g2⟩, ⟨z0, z1, z2⟩, ⟨g3, g4, g5⟩, ⟨z3, z4, z5⟩⟩ := H.open
      go_wp2_with fail
      go_region_with (fail)
      all_goals
        go_wp2_with fail
        obtain ⟨fa, fb, hbF⟩ := H.fin (ka) (na) (ta) (kb) (nb) (tb)
        obtain ⟨fa0, fa1, fa2⟩ := fa.cells
        obtain ⟨fb0, fb1, fb2⟩ := fb.cells
        rw [put_eq, put_eq]
        generalize put _ (W.heap.size + 1) _ _ _ = wf at fa0 fa1 fa2 fb0 fb1 fb2 hbF ⊢
        refine bodyPost_ret (v := .tuple #[.int .i64 9, .agg #[.int .i64 (ka), .int .i64 (na), .string (ta)], .agg #[.int .i64 (kb), .int .i64 (nb), .string (tb)]]) (by simp [results, Try.results25, go_sem, fa0, fa1, fa2, fb0, fb1, fb2]) rfl ?_
        exact ⟨_, _, _, _, _, _, _, .of HNA.out (by omega), .of HNB.out (by omega), rfl, by first | exact hbF | exact hbF.drew⟩
    case true =>
      go_wp2_with fail
      go_loopw [] (fun wr => ∃ (k n : Int) (S : ByteArray), Nice 200 n S ∧ ValAt wr R8 k n S ∧ ValAt wr R9 kb nb tb ∧ DS B a len cap W wr) (fun wr => 100 - txtAt wr R8)
      case atStart => exact ⟨ka, na, ta, .of HNA.out (by omega), r8, r9, H⟩
      case round =>
        obtain ⟨k, n, S, hS, r8, r9, H⟩ := hrel
        have hm0 := txtAt_of r8
        have hlt := H.lt
        obtain ⟨p0, p1, p2⟩ := r8.cells
        by_cases hl : S.size < 100
        · have hd : decide ((S.size : Int) < 100) = true := by simp; omega
          have hd2 : S.size ≤ 9223372036854775807 := by omega
          go_wp2_with fail
          refine (textValue_spec _ _).mono ?_
          rintro e Va ⟨rfl, hba⟩
          generalize hS2 : (S ++ _ : ByteArray) = S2
          have hsz : S2.size = S.size + 10 := by rw [← hS2, ByteArray.size_append]; rfl
          clear hS2
          replace H := H.later hba
          replace r8 : ValAt Va R8 k n S := (hba.block _ ((Array.getElem?_eq_some_iff.1 r8).1)).trans r8
          replace r9 : ValAt Va R9 kb nb tb := (hba.block _ ((Array.getElem?_eq_some_iff.1 r9).1)).trans r9
          clear hba p0 p1 p2
          obtain ⟨p0, p1, p2⟩ := r8.cells
          obtain ⟨s0, s1, s2⟩ := r8.soft
          have r8n := r8.puts 2 0 S2
          have r9n := put_other r9 (R := R8) (by omega) 2 0 S2
          have Hn := H.puts (R := R8) h8 2 0 S2
          have hmn := txtAt_of r8n
          have hNn : Nice 200 0 S2 := ⟨by omega, by decide, by decide⟩
          go_wp2_with fail
          rw [put_eq]
          generalize put _ R8 2 0 S2 = wn at r8n r9n Hn hmn ⊢
          go_roundw
          case rel => exact ⟨2, 0, S2, hNn, r8n, r9n, Hn⟩
          case measure => rw [hmn, hm0]; omega
        · have hd : decide ((S.size : Int) < 100) = false := by simp; omega
          have hS200 := hS.1
          have HS := Lib.hid hS
          clear hS hl
          go_wp2_with fail
          have H0c := H
          have hR8 : R8 < wr.heap.size := (Array.getElem?_eq_some_iff.1 r8).1
          have hR9 : R9 < wr.heap.size := (Array.getElem?_eq_some_iff.1 r9).1
          have hP := fun (s1 s2 : ByteArray) (h1 : s1.size ≤ 8) (h2 : s2.size ≤ 8) => pick_any 8 wr.heap.size 2 B (W.heap.size + 2) a len cap ((wr.alloc (.cells #[.string s1, .string s2] 9)).drew) ((H0c.hc.alloc _).later (Below.refl _ _).drew) (by omega) (by omega) (by show wr.heap.size < (wr.alloc _).heap.size; simp) (by have := H0c.lt; omega) (fun j hj => by
            show ∃ S : ByteArray, S.size ≤ 8 ∧ (wr.alloc (.cells #[.string s1, .string s2] 9)).cell? ⟨wr.heap.size, j, none⟩ = some (.string S)
            rw [cell_of_row _ _ j _ 9 (0, 0) (heap_alloc_new _ _)]
            rcases (show j = 0 ∨ j = 1 by omega) with rfl | rfl
            · exact ⟨s1, h1, rfl⟩
            · exact ⟨s2, h2, rfl⟩)
          go_region_with (first
            | (go_at_call 68; refine (hP _ _ (by decide) (by decide)).mono ?_; rintro e Va ⟨Pk, hPk, rfl, hca, hga'⟩; have hga := grown_tr (grown_of_new (((Below.refl wr.heap.size wr).alloc (Nat.le_refl _) _).drew) (some (W.heap.size + 2))) hga'; have Ha := H0c.turn hca hga; have r8a := r8.turn hga (by omega); have r9a := r9.turn hga (by omega); obtain ⟨pa0, pa1, pa2⟩ := r8a.cells)
            | (go_at_call 57; refine (textValue_spec _ _).mono ?_; rintro e Vb ⟨rfl, hbb⟩; have Hb := Ha.later hbb; have r8b := r8a.later8 hbb; have r9b := r9a.later8 hbb; obtain ⟨s0, s1, s2⟩ := r9b.soft; obtain ⟨w0, w1, w2⟩ := r9b.cells))
          all_goals
            have r9n := r9b.puts 2 0 (S ++ Pk)
            have r8n := put_other r8b (R := R9) (by omega) 2 0 (S ++ Pk)
            replace H := Hb.puts (R := R9) h9 2 0 (S ++ Pk)
            have hNn : Nice 1000 0 (S ++ Pk) := ⟨by rw [ByteArray.size_append]; omega, by decide, by decide⟩
            have HNN := Lib.hid hNn
            clear hNn r9b r8b Hb Ha H0c hP r8a r9a r8 r9 w0 w1 w2 s0 s1 s2 pa0 pa1 pa2 p0 p1 p2 hPk hS200
            rw [put_eq]
            generalize (S ++ Pk : ByteArray) = S2 at r9n r8n H HNN ⊢
            generalize put _ R9 2 0 S2 = wn at r8n r9n H ⊢
            have r8 := r8n
            have r9 := r9n
            clear r8n r9n
            obtain ⟨p0, p1, p2⟩ := r8.cells
            obtain ⟨q0, q1, q2⟩ := r9.cells
            obtain ⟨⟨g0, g1, g2⟩, ⟨z0, z1, z2⟩, ⟨g3, g4, g5⟩, ⟨z3, z4, z5⟩⟩ := H.open
            go_wp2_with fail
            go_region_with (fail)
            all_goals
              go_wp2_with fail
              obtain ⟨fa, fb, hbF⟩ := H.fin (k) (n) (S) (2) (0) (S2)
              obtain ⟨fa0, fa1, fa2⟩ := fa.cells
              obtain ⟨fb0, fb1, fb2⟩ := fb.cells
              rw [put_eq, put_eq]
              generalize put _ (W.heap.size + 1) _ _ _ = wf at fa0 fa1 fa2 fb0 fb1 fb2 hbF ⊢
              refine bodyPost_ret (v := .tuple #[.int .i64 9, .agg #[.int .i64 (k), .int .i64 (n), .string (S)], .agg #[.int .i64 (2), .int .i64 (0), .string (S2)]]) (by simp [results, Try.results25, go_sem, fa0, fa1, fa2, fb0, fb1, fb2]) rfl ?_
              exact ⟨_, _, _, _, _, _, _, .of HS.out (by omega), HNN.out, rfl, by first | exact hbF | exact hbF.drew⟩
  have q9 : (op == 9) = false := by simpa using h9
  by_cases h10 : 9 < op
  · have d10 : decide (9 < op) = true := by simpa using h10
    go_wp2_with fail
    refine (typed_any (1) (.inl rfl) B (W.heap.size + 2) a len cap _ H.hc (by have := H.hB; have := H.lt; omega)).mono ?_
    rintro e V5 ⟨ka, na, ta, hna, rfl, hc, hg⟩
    replace H := H.turn hc hg
    clear hc hg
    have HNA := Lib.hid hna
    clear hna
    have h8 : W.heap.size + 2 < V5.heap.size := H.lt
    have r8 : ValAt (V5.alloc (.cells #[.int .i64 ka, .int .i64 na, .string ta] 27)) V5.heap.size ka na ta := heap_alloc_new V5 _
    replace H := H.alloc (.cells #[.int .i64 ka, .int .i64 na, .string ta] 27)
    go_wp2_with fail
    generalize V5.alloc (.cells #[.int .i64 ka, .int .i64 na, .string ta] 27) = V6 at r8 H ⊢
    generalize V5.heap.size = R8 at h8 r8 ⊢
    refine (typed_any (1) (.inl rfl) B (W.heap.size + 2) a len cap _ H.hc (by have := H.hB; have := H.lt; omega)).mono ?_
    rintro e V7 ⟨kb, nb, tb, hnb, rfl, hc, hg⟩
    replace H := H.turn hc hg
    replace r8 := r8.turn hg (by omega)
    clear hc hg
    have HNB := Lib.hid hnb
    clear hnb
    have h9 : W.heap.size + 2 < V7.heap.size := H.lt
    have h89 : R8 < V7.heap.size := (Array.getElem?_eq_some_iff.1 r8).1
    have r9 : ValAt (V7.alloc (.cells #[.int .i64 kb, .int .i64 nb, .string tb] 27)) V7.heap.size kb nb tb := heap_alloc_new V7 _
    replace r8 : ValAt (V7.alloc (.cells #[.int .i64 kb, .int .i64 nb, .string tb] 27)) R8 ka na ta := (Below.heap_alloc V7 _ _ h89).trans r8
    replace H := H.alloc (.cells #[.int .i64 kb, .int .i64 nb, .string tb] 27)
    go_wp2_with fail
    generalize V7.alloc (.cells #[.int .i64 kb, .int .i64 nb, .string tb] 27) = V8 at r8 r9 H ⊢
    generalize V7.heap.size = R9 at h9 h89 r9 ⊢
    refine (once_any 3 B (W.heap.size + 2) a len cap _ H.hc (by omega) (by omega)).mono ?_
    rintro e V9 ⟨b, rfl, hc, hg⟩
    replace H := H.turn hc hg
    replace r8 := r8.turn hg (by omega)
    replace r9 := r9.turn hg (by omega)
    clear hc hg
    cases b
    case false =>
      obtain ⟨p0, p1, p2⟩ := r8.cells
      obtain ⟨q0, q1, q2⟩ := r9.cells
      obtain ⟨⟨g0, g1, g2⟩, ⟨z0, z1, z2⟩, ⟨g3, g4, g5⟩, ⟨z3, z4, z5⟩⟩ := H.open
      go_wp2_with fail
      go_region_with (fail)
      all_goals
        go_wp2_with fail
        obtain ⟨fa, fb, hbF⟩ := H.fin (ka) (na) (ta) (kb) (nb) (tb)
        obtain ⟨fa0, fa1, fa2⟩ := fa.cells
        obtain ⟨fb0, fb1, fb2⟩ := fb.cells
        rw [put_eq, put_eq]
        generalize put _ (W.heap.size + 1) _ _ _ = wf at fa0 fa1 fa2 fb0 fb1 fb2 hbF ⊢
        refine bodyPost_ret (v := .tuple #[.int .i64 (op), .agg #[.int .i64 (ka), .int .i64 (na), .string (ta)], .agg #[.int .i64 (kb), .int .i64 (nb), .string (tb)]]) (by simp [results, Try.results25, go_sem, fa0, fa1, fa2, fb0, fb1, fb2]) rfl ?_
        exact ⟨_, _, _, _, _, _, _, .of HNA.out (by omega), .of HNB.out (by omega), rfl, by first | exact hbF | exact hbF.drew⟩
    case true =>
      go_wp2_with fail
      refine (pickInt_any V9.heap.size 5 (-9223372036854775808) 9223372036854775807 B (W.heap.size + 2) a len cap _ (H.hc.alloc _) (by omega) (by omega) (by simp) (by have := H.lt; omega) ?_).mono ?_
      · intro j hj
        rw [cell_of_row _ V9.heap.size j _ 3 (0, 0) (heap_alloc_new V9 _)]
        rcases (show j = 0 ∨ j = 1 ∨ j = 2 ∨ j = 3 ∨ j = 4 by omega) with rfl | rfl | rfl | rfl | rfl <;> exact ⟨_, by decide, by decide, rfl⟩
      · rintro e Va ⟨x, hx0, hx1, rfl, hca, hga'⟩
        have hga := grown_tr (grown_alloc V9 _ (some (W.heap.size + 2))) hga'
        replace H := H.turn hca hga
        replace r8 := r8.turn hga (by omega)
        replace r9 := r9.turn hga (by omega)
        have HX := Lib.hid (And.intro hx0 hx1)
        clear hca hga hga' hx0 hx1
        go_wp2_with fail
        refine (intValue_spec x _).mono ?_
        rintro e Vb ⟨rfl, hbb⟩
        replace H := H.later hbb
        replace r8 : ValAt Vb R8 ka na ta := (hbb.block _ ((Array.getElem?_eq_some_iff.1 r8).1)).trans r8
        replace r9 : ValAt Vb R9 kb nb tb := (hbb.block _ ((Array.getElem?_eq_some_iff.1 r9).1)).trans r9
        clear hbb
        obtain ⟨s0, s1, s2⟩ := r9.soft
        obtain ⟨w0, w1, w2⟩ := r9.cells
        have r9n := r9.puts 1 x ⟨#[]⟩
        have r8n := put_other r8 (R := R9) (by omega) 1 x ⟨#[]⟩
        replace H := H.puts (R := R9) h9 1 x ⟨#[]⟩
        go_wp2_with fail
        rw [put_eq]
        generalize put _ R9 1 x ⟨#[]⟩ = wn at r8n r9n H ⊢
        clear r8 r9 s0 s1 s2 w0 w1 w2
        have r8 := r8n
        have r9 := r9n
        clear r8n r9n
        obtain ⟨p0, p1, p2⟩ := r8.cells
        obtain ⟨q0, q1, q2⟩ := r9.cells
        obtain ⟨⟨g0, g1, g2⟩, ⟨z0, z1, z2⟩, ⟨g3, g4, g5⟩, ⟨z3, z4, z5⟩⟩ := H.open
        go_wp2_with fail
        go_region_with (fail)
        all_goals
          go_wp2_with fail
          obtain ⟨fa, fb, hbF⟩ := H.fin (ka) (na) (ta) (1) (x) (⟨#[]⟩)
          obtain ⟨fa0, fa1, fa2⟩ := fa.cells
          obtain ⟨fb0, fb1, fb2⟩ := fb.cells
          rw [put_eq, put_eq]
          generalize put _ (W.heap.size + 1) _ _ _ = wf at fa0 fa1 fa2 fb0 fb1 fb2 hbF ⊢
          refine bodyPost_ret (v := .tuple #[.int .i64 (op), .agg #[.int .i64 (ka), .int .i64 (na), .string (ta)], .agg #[.int .i64 (1), .int .i64 (x), .string (⟨#[]⟩)]]) (by simp [results, Try.results25, go_sem, fa0, fa1, fa2, fb0, fb1, fb2]) rfl ?_
          exact ⟨_, _, _, _, _, _, _, .of HNA.out (by omega), ⟨by decide, HX.out⟩, rfl, by first | exact hbF | exact hbF.drew⟩
  have d10 : decide (9 < op) = false := by simpa using h10
  go_wp2_with fail
  refine (typed_any (1 + m) (by omega) B (W.heap.size + 2) a len cap _ H.hc (by have := H.hB; have := H.lt; omega)).mono ?_
  rintro e V5 ⟨ka, na, ta, hna, rfl, hc, hg⟩
  replace H := H.turn hc hg
  clear hc hg
  have HNA := Lib.hid hna
  clear hna
  have h8 : W.heap.size + 2 < V5.heap.size := H.lt
  have r8 : ValAt (V5.alloc (.cells #[.int .i64 ka, .int .i64 na, .string ta] 27)) V5.heap.size ka na ta := heap_alloc_new V5 _
  replace H := H.alloc (.cells #[.int .i64 ka, .int .i64 na, .string ta] 27)
  go_wp2_with fail
  generalize V5.alloc (.cells #[.int .i64 ka, .int .i64 na, .string ta] 27) = V6 at r8 H ⊢
  generalize V5.heap.size = R8 at h8 r8 ⊢
  refine (typed_any (1 + m) (by omega) B (W.heap.size + 2) a len cap _ H.hc (by have := H.hB; have := H.lt; omega)).mono ?_
  rintro e V7 ⟨kb, nb, tb, hnb, rfl, hc, hg⟩
  replace H := H.turn hc hg
  replace r8 := r8.turn hg (by omega)
  clear hc hg
  have HNB := Lib.hid hnb
  clear hnb
  have h9 : W.heap.size + 2 < V7.heap.size := H.lt
  have h89 : R8 < V7.heap.size := (Array.getElem?_eq_some_iff.1 r8).1
  have r9 : ValAt (V7.alloc (.cells #[.int .i64 kb, .int .i64 nb, .string tb] 27)) V7.heap.size kb nb tb := heap_alloc_new V7 _
  replace r8 : ValAt (V7.alloc (.cells #[.int .i64 kb, .int .i64 nb, .string tb] 27)) R8 ka na ta := (Below.heap_alloc V7 _ _ h89).trans r8
  replace H := H.alloc (.cells #[.int .i64 kb, .int .i64 nb, .string tb] 27)
  go_wp2_with fail
  generalize V7.alloc (.cells #[.int .i64 kb, .int .i64 nb, .string tb] 27) = V8 at r8 r9 H ⊢
  generalize V7.heap.size = R9 at h9 h89 r9 ⊢
  obtain ⟨p0, p1, p2⟩ := r8.cells
  obtain ⟨q0, q1, q2⟩ := r9.cells
  obtain ⟨⟨g0, g1, g2⟩, ⟨z0, z1, z2⟩, ⟨g3, g4, g5⟩, ⟨z3, z4, z5⟩⟩ := H.open
  go_wp2_with fail
  go_region_with (fail)
  all_goals
    go_wp2_with fail
    obtain ⟨fa, fb, hbF⟩ := H.fin (ka) (na) (ta) (kb) (nb) (tb)
    obtain ⟨fa0, fa1, fa2⟩ := fa.cells
    obtain ⟨fb0, fb1, fb2⟩ := fb.cells
    rw [put_eq, put_eq]
    generalize put _ (W.heap.size + 1) _ _ _ = wf at fa0 fa1 fa2 fb0 fb1 fb2 hbF ⊢
    refine bodyPost_ret (v := .tuple #[.int .i64 (op), .agg #[.int .i64 (ka), .int .i64 (na), .string (ta)], .agg #[.int .i64 (kb), .int .i64 (nb), .string (tb)]]) (by simp [results, Try.results25, go_sem, fa0, fa1, fa2, fb0, fb1, fb2]) rfl ?_
    exact ⟨_, _, _, _, _, _, _, .of HNA.out (by omega), .of HNB.out (by omega), rfl, by first | exact hbF | exact hbF.drew⟩
end Go.Proofs.Ytjekhgekldkopaa

/- Slices of values that a call owns. -/
namespace Go.Proofs.Ytjekhgekldkopaa
open Go.RowKit

theorem Try.infoVl : (Try.prog.info? 27).map (fun i => (i.zero, i.size, i.bytes)) = some (some (.agg #[.int .i64 0, .int .i64 0, .string ByteArray.empty]), 3, 32) := by kernel_rfl

/-- a value's cells -/
def vlCells (v : Int × Int × ByteArray) : List Value := [.int .i64 v.1, .int .i64 v.2.1, .string v.2.2]
def vlsCells (L : List (Int × Int × ByteArray)) : List Value := L.flatMap vlCells
theorem vlsCells_snoc (L : List (Int × Int × ByteArray)) (v : Int × Int × ByteArray) : vlsCells (L ++ [v]) = vlsCells L ++ vlCells v := by simp [vlsCells]
theorem vlsCells_len : ∀ L : List (Int × Int × ByteArray), (vlsCells L).length = L.length * 3
  | [] => rfl
  | _ :: L => by simp only [vlsCells, List.flatMap_cons, List.length_append, vlCells, List.length_cons, List.length_nil]; have := vlsCells_len L; simp only [vlsCells] at this; omega
/-- the slice value v of the call's own holds the values L -/
def OwnVl (w : World) (B : Nat) (v : Value) (L : List (Int × Int × ByteArray)) : Prop := w.ownsRow B 27 3 v L.length (vlsCells L)

theorem appVl {ops : Array Oper} {rest : List Oper} {o : Oper} {a : Act} {Q : Exit → Act → World → Prop}
    (hgd : o.guard = none) (s x : Operand) (ho : o.op = .call { callee := .builtin .append, args := #[s, x], argTypes := #[32, 32] })
    (B : Nat) (v : Value) (L : List (Int × Int × ByteArray)) (t : Int × Int × ByteArray) (W : World) (nb : Nat) (hnb : W.heap.size = nb) (hs : a.eval s = v) (hx : a.eval x = .slice (some ⟨nb, 0, none⟩) 1 1)
    (hown : OwnVl W B v L) (hl : L.length ≤ 4000000) (hB : B ≤ W.heap.size)
    (h : ∀ (g cap : Nat) (w' : World), OwnVl w' B (.slice (some ⟨g, 0, none⟩) (L.length + 1) cap) (L ++ [t]) → Below B W w' → W.grownBy w' v.ownBlock → wpList Try.prog ops Q rest (a.put o.dst (.slice (some ⟨g, 0, none⟩) (L.length + 1) cap)) w') :
    wpList Try.prog ops Q (o :: rest) a (W.alloc (.cells #[.int .i64 t.1, .int .i64 t.2.1, .string t.2.2] 27)) := by
  subst hnb
  obtain ⟨i, hi, hz, hsize, hby⟩ := info_parts Try.infoVl
  have hrow := heap_alloc_new W (.cells #[.int .i64 t.1, .int .i64 t.2.1, .string t.2.2] 27)
  refine wpList_append_own _ hgd s x 32 ho B 27 i _ 3 32 Try.underlying32 hi hz hsize hby rfl (by decide) v L.length (vlsCells L) hs (World.ownsRow.alloc hown _) ⟨W.heap.size, 0, none⟩ 1 1 (vlCells t) hx rfl (fun j u hj => ?_) (fun u hu => by simp [vlCells] at hu; rcases hu with rfl | rfl | rfl <;> rfl) (by unfold maxLen; omega) (by omega) (by simp; omega) ?_
  · have hp : (⟨W.heap.size, 0, none⟩ : Addr).add j = ⟨W.heap.size, j, none⟩ := by unfold Addr.add; split <;> simp_all
    rw [hp, cell_of_row _ W.heap.size j _ 27 (0, 0) hrow]
    have hj3 : j < 3 := by
      have := (List.getElem?_eq_some_iff.1 hj).1
      simpa [vlCells] using this
    rcases (show j = 0 ∨ j = 1 ∨ j = 2 by omega) with rfl | rfl | rfl <;> exact hj
  · intro v' w' hown' hgrow hnil
    have hb : Below B W w' := ((Below.refl B W).alloc hB _).grown hgrow (by simp; omega) (fun q hq => (World.ownsRow.lt hown q hq).1)
    have hg2 : W.grownBy w' v.ownBlock := ⟨hgrow.os, hgrow.tape, hgrow.output, Nat.le_trans (by simp) hgrow.size, fun k hk hr => (hgrow.block k (by simp; omega) hr).trans (Below.heap_alloc _ _ _ hk)⟩
    obtain ⟨g, cap, rfl⟩ : ∃ g cap, v' = .slice (some ⟨g, 0, none⟩) (L.length + 1) cap := by
      rcases hown'.2 with ⟨_, h0⟩ | ⟨g, cap, _, h0, _⟩
      · omega
      · exact ⟨g, cap, h0⟩
    exact h g cap w' (by unfold OwnVl; rw [vlsCells_snoc, List.length_append]; exact hown') hb hg2
end Go.Proofs.Ytjekhgekldkopaa

/- Contracts of the functions that add, subtract and multiply, of the program and of the model. -/
namespace Go.Proofs.Ytjekhgekldkopaa
open Go.RowKit
set_option maxRecDepth 100000 in
set_option maxHeartbeats 1000000 in
theorem addNum_impl (a b : Int) (w : World) (ha0 : -9223372036854775808 ≤ a) (ha1 : a ≤ 9223372036854775807) (hb0 : -9223372036854775808 ≤ b) (hb1 : b ≤ 9223372036854775807) :
    Calls Try.prog 26 #[.int .i64 a, .int .i64 b] w (NumR (a + b) w) := by
  by_cases hf : -9223372036854775808 ≤ a + b ∧ a + b ≤ 9223372036854775807
  · have h0 := hf.1
    have h1 := hf.2
    have H := Lib.hid hf
    clear hf
    by_cases hb : b < 0
    · have d1 : decide (b < 0) = true := by simpa using hb
      have d2 : decide (a + b < a) = true := by simp; omega
      clear hb
      go_enter Try.func26, Try.ntmps26
      go_wp2_with fail
      go_ret2
      exact NumR.yes H.out rfl rfl
    · have d1 : decide (b < 0) = false := by simpa using hb
      have d2 : decide (a + b < a) = false := by simp; omega
      clear hb
      go_enter Try.func26, Try.ntmps26
      go_wp2_with fail
      go_ret2
      exact NumR.yes H.out rfl rfl
  · by_cases hb : b < 0
    · have hw : wrap64 (a + b) = a + b + 18446744073709551616 := by unfold wrap64; omega
      have d1 : decide (b < 0) = true := by simpa using hb
      have d2 : decide (a + b + 18446744073709551616 < a) = false := by simp; omega
      have H := Lib.hid hf
      clear hb hf
      go_enter Try.func26, Try.ntmps26
      go_wp2_with fail
      go_ret2
      exact NumR.no H.out rfl rfl
    · have hw : wrap64 (a + b) = a + b - 18446744073709551616 := by unfold wrap64; omega
      have d1 : decide (b < 0) = false := by simpa using hb
      have d2 : decide (a + b - 18446744073709551616 < a) = true := by simp; omega
      have H := Lib.hid hf
      clear hb hf
      go_enter Try.func26, Try.ntmps26
      go_wp2_with fail
      go_ret2
      exact NumR.no H.out rfl rfl
set_option maxRecDepth 100000 in
set_option maxHeartbeats 1000000 in
theorem subNum_impl (a b : Int) (w : World) (ha0 : -9223372036854775808 ≤ a) (ha1 : a ≤ 9223372036854775807) (hb0 : -9223372036854775808 ≤ b) (hb1 : b ≤ 9223372036854775807) :
    Calls Try.prog 28 #[.int .i64 a, .int .i64 b] w (NumR (a - b) w) := by
  by_cases hf : -9223372036854775808 ≤ a - b ∧ a - b ≤ 9223372036854775807
  · have h0 := hf.1
    have h1 := hf.2
    have H := Lib.hid hf
    clear hf
    by_cases hb : b < 0
    · have d1 : decide (b < 0) = true := by simpa using hb
      have d2 : decide (a < a - b) = true := by simp; omega
      clear hb
      go_enter Try.func28, Try.ntmps28
      go_wp2_with fail
      go_ret2
      exact NumR.yes H.out rfl rfl
    · have d1 : decide (b < 0) = false := by simpa using hb
      have d2 : decide (a < a - b) = false := by simp; omega
      clear hb
      go_enter Try.func28, Try.ntmps28
      go_wp2_with fail
      go_ret2
      exact NumR.yes H.out rfl rfl
  · by_cases hb : b < 0
    · have hw : wrap64 (a - b) = a - b - 18446744073709551616 := by unfold wrap64; omega
      have d1 : decide (b < 0) = true := by simpa using hb
      have d2 : decide (a < a - b - 18446744073709551616) = false := by simp; omega
      have H := Lib.hid hf
      clear hb hf
      go_enter Try.func28, Try.ntmps28
      go_wp2_with fail
      go_ret2
      exact NumR.no H.out rfl rfl
    · have hw : wrap64 (a - b) = a - b + 18446744073709551616 := by unfold wrap64; omega
      have d1 : decide (b < 0) = false := by simpa using hb
      have d2 : decide (a < a - b + 18446744073709551616) = true := by simp; omega
      have H := Lib.hid hf
      clear hb hf
      go_enter Try.func28, Try.ntmps28
      go_wp2_with fail
      go_ret2
      exact NumR.no H.out rfl rfl
set_option maxRecDepth 100000 in
set_option maxHeartbeats 1000000 in
theorem addNum_spec (a b : Int) (w : World) (ha0 : -9223372036854775808 ≤ a) (ha1 : a ≤ 9223372036854775807) (hb0 : -9223372036854775808 ≤ b) (hb1 : b ≤ 9223372036854775807) :
    Calls Try.prog 27 #[.int .i64 a, .int .i64 b] w (NumR (a + b) w) := by
  rcases (show b < 0 ∨ b = 0 ∨ 0 < b by omega) with hb | hb | hb
  · have d1 : decide (0 < b) = false := by simp; omega
    have d2 : decide (b < 0) = true := by simp; omega
    by_cases hf : -9223372036854775808 ≤ a + b ∧ a + b ≤ 9223372036854775807
    · have h0 := hf.1
      have h1 := hf.2
      have H := Lib.hid hf
      have d3 : decide (a < -9223372036854775808 - b) = false := by simp; omega
      clear hf
      go_enter Try.func27, Try.ntmps27
      go_wp2_with fail
      go_ret2
      exact NumR.yes H.out rfl rfl
    · have d3 : decide (a < -9223372036854775808 - b) = true := by simp; omega
      have H := Lib.hid hf
      clear hf
      go_enter Try.func27, Try.ntmps27
      go_wp2_with fail
      go_ret2
      exact NumR.no H.out rfl rfl
  · subst hb
    have H := Lib.hid (show -9223372036854775808 ≤ a + 0 ∧ a + 0 ≤ 9223372036854775807 by omega)
    go_enter Try.func27, Try.ntmps27
    go_wp2_with fail
    go_ret2
    exact NumR.yes H.out (by simp) rfl
  · have d1 : decide (0 < b) = true := by simp; omega
    have d2 : decide (b < 0) = false := by simp; omega
    by_cases hf : -9223372036854775808 ≤ a + b ∧ a + b ≤ 9223372036854775807
    · have h0 := hf.1
      have h1 := hf.2
      have H := Lib.hid hf
      have d3 : decide (9223372036854775807 - b < a) = false := by simp; omega
      clear hf
      go_enter Try.func27, Try.ntmps27
      go_wp2_with fail
      go_ret2
      exact NumR.yes H.out rfl rfl
    · have d3 : decide (9223372036854775807 - b < a) = true := by simp; omega
      have H := Lib.hid hf
      clear hf
      go_enter Try.func27, Try.ntmps27
      go_wp2_with fail
      go_ret2
      exact NumR.no H.out rfl rfl
set_option maxRecDepth 100000 in
set_option maxHeartbeats 1000000 in
theorem subNum_spec (a b : Int) (w : World) (ha0 : -9223372036854775808 ≤ a) (ha1 : a ≤ 9223372036854775807) (hb0 : -9223372036854775808 ≤ b) (hb1 : b ≤ 9223372036854775807) :
    Calls Try.prog 29 #[.int .i64 a, .int .i64 b] w (NumR (a - b) w) := by
  rcases (show b < 0 ∨ b = 0 ∨ 0 < b by omega) with hb | hb | hb
  · have d1 : decide (0 < b) = false := by simp; omega
    have d2 : decide (b < 0) = true := by simp; omega
    by_cases hf : -9223372036854775808 ≤ a - b ∧ a - b ≤ 9223372036854775807
    · have h0 := hf.1
      have h1 := hf.2
      have H := Lib.hid hf
      have d3 : decide (9223372036854775807 + b < a) = false := by simp; omega
      clear hf
      go_enter Try.func29, Try.ntmps29
      go_wp2_with fail
      go_ret2
      exact NumR.yes H.out rfl rfl
    · have d3 : decide (9223372036854775807 + b < a) = true := by simp; omega
      have H := Lib.hid hf
      clear hf
      go_enter Try.func29, Try.ntmps29
      go_wp2_with fail
      go_ret2
      exact NumR.no H.out rfl rfl
  · subst hb
    have H := Lib.hid (show -9223372036854775808 ≤ a - 0 ∧ a - 0 ≤ 9223372036854775807 by omega)
    go_enter Try.func29, Try.ntmps29
    go_wp2_with fail
    go_ret2
    exact NumR.yes H.out (by simp) rfl
  · have d1 : decide (0 < b) = true := by simp; omega
    have d2 : decide (b < 0) = false := by simp; omega
    by_cases hf : -9223372036854775808 ≤ a - b ∧ a - b ≤ 9223372036854775807
    · have h0 := hf.1
      have h1 := hf.2
      have H := Lib.hid hf
      have d3 : decide (a < -9223372036854775808 + b) = false := by simp; omega
      clear hf
      go_enter Try.func29, Try.ntmps29
      go_wp2_with fail
      go_ret2
      exact NumR.yes H.out rfl rfl
    · have d3 : decide (a < -9223372036854775808 + b) = true := by simp; omega
      have H := Lib.hid hf
      clear hf
      go_enter Try.func29, Try.ntmps29
      go_wp2_with fail
      go_ret2
      exact NumR.no H.out rfl rfl
set_option maxRecDepth 100000 in
set_option maxHeartbeats 1000000 in
theorem mulNum_impl (a b : Int) (w : World) (ha0 : -9223372036854775808 ≤ a) (ha1 : a ≤ 9223372036854775807) (hb0 : -9223372036854775808 ≤ b) (hb1 : b ≤ 9223372036854775807) :
    Calls Try.prog 31 #[.int .i64 a, .int .i64 b] w (NumR (a * b) w) := by
  by_cases h0 : b = 0
  · subst h0
    have H := Lib.hid (show -9223372036854775808 ≤ a * 0 ∧ a * 0 ≤ 9223372036854775807 by omega)
    go_enter Try.func31, Try.ntmps31
    go_wp2_with fail
    go_ret2
    exact NumR.yes H.out (by simp) rfl
  by_cases h1 : b = -1
  · subst h1
    have hS := fun w => subNum_impl 0 a w (by omega) (by omega) ha0 ha1
    have he : (0 : Int) - a = a * -1 := by omega
    rw [he] at hS
    unfold NumR at hS ⊢
    generalize outI (a * -1) = x at hS ⊢
    generalize fits (a * -1) = c at hS ⊢
    clear he
    go_enter Try.func31, Try.ntmps31
    go_wp2_with fail
    refine (hS _).mono ?_
    rintro e w1 ⟨rfl, rfl⟩
    go_wp2_with fail
    go_ret2
    exact ⟨rfl, rfl⟩
  have q0 : (b == 0) = false := by simpa using h0
  have q1 : (b == -1) = false := by simpa using h1
  have hm := mul_back (a := a) h0 hb0 hb1
  by_cases hf : -9223372036854775808 ≤ a * b ∧ a * b ≤ 9223372036854775807
  · have hw := IntWalk.wrap64_in _ hf
    have hd := hm.2 hf
    rw [hw] at hd
    have f0 := hf.1
    have f1 := hf.2
    have H := Lib.hid hf
    clear hf hm hw
    go_enter Try.func31, Try.ntmps31
    go_wp2_with fail
    go_ret2
    exact NumR.yes H.out (by first | rfl | (rw [← hw]; rfl) | simp) rfl
  · have hd : (wrap64 (a * b)).tdiv b ≠ a := fun h => hf (hm.1 h)
    have hq := IntWalk.wrap64_in _ (quo_fits (wrap64_range (a * b)) h0 h1)
    have hx : (wrap64 ((wrap64 (a * b)).tdiv b) != a) = true := by rw [hq]; simpa using hd
    have H := Lib.hid hf
    clear hf hm hd hq
    go_enter Try.func31, Try.ntmps31
    go_wp2_with fail
    go_ret2
    exact NumR.no H.out rfl rfl
set_option maxRecDepth 100000 in
set_option maxHeartbeats 1000000 in
theorem mulNum_spec (a b : Int) (w : World) (ha0 : -9223372036854775808 ≤ a) (ha1 : a ≤ 9223372036854775807) (hb0 : -9223372036854775808 ≤ b) (hb1 : b ≤ 9223372036854775807) :
    Calls Try.prog 32 #[.int .i64 a, .int .i64 b] w (NumR (a * b) w) := by
  by_cases h0 : a = 0
  · subst h0
    have H := Lib.hid (show -9223372036854775808 ≤ 0 * b ∧ 0 * b ≤ 9223372036854775807 by omega)
    go_enter Try.func32, Try.ntmps32
    go_wp2_with fail
    go_ret2
    exact NumR.yes H.out (by simp) rfl
  by_cases h1 : b = 0
  · subst h1
    have q0 : (a == 0) = false := by simpa using h0
    have H := Lib.hid (show -9223372036854775808 ≤ a * 0 ∧ a * 0 ≤ 9223372036854775807 by omega)
    go_enter Try.func32, Try.ntmps32
    go_wp2_with fail
    go_ret2
    exact NumR.yes H.out (by simp) rfl
  have q0 : (a == 0) = false := by simpa using h0
  have q1 : (b == 0) = false := by simpa using h1
  by_cases h3 : a = -1
  · subst h3
    by_cases h4 : b = -9223372036854775808
    · subst h4
      have H := Lib.hid (show ¬ (-9223372036854775808 ≤ (-1 : Int) * -9223372036854775808 ∧ (-1 : Int) * -9223372036854775808 ≤ 9223372036854775807) by omega)
      go_enter Try.func32, Try.ntmps32
      go_wp2_with fail
      go_ret2
      exact NumR.no H.out rfl rfl
    · have q4 : (b == -9223372036854775808) = false := by simpa using h4
      have hd : (-b).tdiv b = -1 := by rw [Int.neg_tdiv, Int.tdiv_self h1]
      have f0 : -9223372036854775808 ≤ -b := by omega
      have f1 : -b ≤ 9223372036854775807 := by omega
      have H := Lib.hid (show -9223372036854775808 ≤ -1 * b ∧ -1 * b ≤ 9223372036854775807 by omega)
      by_cases h5 : b = -1
      · subst h5
        clear hd
        go_enter Try.func32, Try.ntmps32
        go_wp2_with fail
        go_ret2
        exact NumR.yes H.out (by first | rfl | simp) rfl
      · have q5 : (b == -1) = false := by simpa using h5
        clear h4 h5 h0
        go_enter Try.func32, Try.ntmps32
        go_wp2_with fail
        go_ret2
        exact NumR.yes H.out (by first | rfl | simp) rfl
  have q3 : (a == -1) = false := by simpa using h3
  by_cases h2 : b = -1
  · subst h2
    by_cases h4 : a = -9223372036854775808
    · subst h4
      have H := Lib.hid (show ¬ (-9223372036854775808 ≤ (-9223372036854775808 : Int) * -1 ∧ (-9223372036854775808 : Int) * -1 ≤ 9223372036854775807) by omega)
      go_enter Try.func32, Try.ntmps32
      go_wp2_with fail
      go_ret2
      exact NumR.no H.out rfl rfl
    · have q4 : (a == -9223372036854775808) = false := by simpa using h4
      have f0 : -9223372036854775808 ≤ -a := by omega
      have f1 : -a ≤ 9223372036854775807 := by omega
      have H := Lib.hid (show -9223372036854775808 ≤ a * -1 ∧ a * -1 ≤ 9223372036854775807 by omega)
      clear h0 h1 h3 h4
      go_enter Try.func32, Try.ntmps32
      go_wp2_with fail
      go_ret2
      exact NumR.yes H.out (by first | rfl | simp) rfl
  have q2 : (b == -1) = false := by simpa using h2
  have hm := mul_back (a := a) h1 hb0 hb1
  by_cases hf : -9223372036854775808 ≤ a * b ∧ a * b ≤ 9223372036854775807
  · have hw := IntWalk.wrap64_in _ hf
    have hd := hm.2 hf
    rw [hw] at hd
    have f0 := hf.1
    have f1 := hf.2
    have H := Lib.hid hf
    clear hf hm hw h0 h2 h3
    go_enter Try.func32, Try.ntmps32
    go_wp2_with fail
    go_ret2
    exact NumR.yes H.out (by first | rfl | simp) rfl
  · have hd : (wrap64 (a * b)).tdiv b ≠ a := fun h => hf (hm.1 h)
    have hq := IntWalk.wrap64_in _ (quo_fits (wrap64_range (a * b)) h1 h2)
    have hx : (wrap64 ((wrap64 (a * b)).tdiv b) != a) = true := by rw [hq]; simpa using hd
    have H := Lib.hid hf
    clear hf hm hd hq
    go_enter Try.func32, Try.ntmps32
    go_wp2_with fail
    go_ret2
    exact NumR.no H.out rfl rfl
end Go.Proofs.Ytjekhgekldkopaa

/- Contracts of the model's operators. -/
namespace Go.Proofs.Ytjekhgekldkopaa
open Go.RowKit

set_option maxRecDepth 100000 in
set_option maxHeartbeats 1000000 in
theorem null_spec (k a : Int) (t : ByteArray) (w : World) : Calls Try.prog 56 #[.agg #[.int .i64 k, .int .i64 a, .string t]] w (BoolE (k == 0) w) := by
  have hbb := (Below.refl w.heap.size w).alloc (Nat.le_refl _) (.cells #[.int .i64 k, .int .i64 a, .string t] 27)
  go_enter Try.func56, Try.ntmps56
  go_wp2_with fail
  go_ret
  exact ⟨rfl, hbb⟩
set_option maxRecDepth 100000 in
set_option maxHeartbeats 1000000 in
theorem is_spec (k a c : Int) (t : ByteArray) (w : World) : Calls Try.prog 69 #[.agg #[.int .i64 k, .int .i64 a, .string t], .int .i64 c] w (BoolE (kindIn k c) w) := by
  have hbb := (Below.refl w.heap.size w).alloc (Nat.le_refl _) (.cells #[.int .i64 k, .int .i64 a, .string t] 27)
  have hN := fun w => null_spec k a t w
  have hV : kindIn k c = ((k == c) || (k == 0)) := rfl
  rw [hV]
  clear hV
  generalize (k == 0) = y at hN ⊢
  cases hc : (k == c)
  · go_enter Try.func69, Try.ntmps69
    go_wp2_with fail
    refine (hN _).mono ?_
    rintro e w1 ⟨rfl, hb1⟩
    have hB := hbb.trans (hb1.mono (by simp))
    go_wp2_with fail
    go_ret
    exact ⟨rfl, hB⟩
  · go_enter Try.func69, Try.ntmps69
    go_wp2_with fail
    go_ret
    exact ⟨rfl, hbb⟩
set_option maxRecDepth 100000 in
set_option maxHeartbeats 2000000 in
theorem types_spec (op : Int) (k a : Int) (t : ByteArray) (k' a' : Int) (t' : ByteArray) (w : World) (hop : 3 ≤ op) (hop2 : op ≤ 14) : Calls Try.prog 55 #[.int .i64 op, .agg #[.int .i64 k, .int .i64 a, .string t], .agg #[.int .i64 k', .int .i64 a', .string t']] w (BoolE (fitsOp op k k') w) := by
  by_cases h9 : op = 9
  · subst h9
    have hV : fitsOp 9 k k' = (kindIn k 2 && kindIn k' 2) := rfl
    rw [hV]
    clear hV
    have hA := fun w => is_spec k a 2 t w
    have hB := fun w => is_spec k' a' 2 t' w
    generalize kindIn k 2 = x at hA ⊢
    generalize kindIn k' 2 = y at hB ⊢
    cases x
    · go_enter Try.func55, Try.ntmps55
      go_wp2_with fail
      have H := fr2_new w k a t k' a' t'
      generalize ((w.alloc (.cells #[.int .i64 k, .int .i64 a, .string t] 27)).alloc (.cells #[.int .i64 k', .int .i64 a', .string t'] 27)) = V at H ⊢
      obtain ⟨ca0, ca1, ca2⟩ := H.a0.cells
      refine (hA _).mono ?_
      rintro e w1 ⟨rfl, hbn1⟩
      replace H := H.next hbn1
      clear hbn1
      clear ca0 ca1 ca2
      go_wp2_with fail
      go_ret
      exact ⟨rfl, H.b⟩
    · go_enter Try.func55, Try.ntmps55
      go_wp2_with fail
      have H := fr2_new w k a t k' a' t'
      generalize ((w.alloc (.cells #[.int .i64 k, .int .i64 a, .string t] 27)).alloc (.cells #[.int .i64 k', .int .i64 a', .string t'] 27)) = V at H ⊢
      obtain ⟨ca0, ca1, ca2⟩ := H.a0.cells
      refine (hA _).mono ?_
      rintro e w1 ⟨rfl, hbn1⟩
      replace H := H.next hbn1
      clear hbn1
      clear ca0 ca1 ca2
      obtain ⟨cb0, cb1, cb2⟩ := H.b0.cells
      go_wp2_with fail
      refine (hB _).mono ?_
      rintro e w2 ⟨rfl, hbn2⟩
      replace H := H.next hbn2
      clear hbn2
      clear cb0 cb1 cb2
      go_wp2_with fail
      go_ret
      exact ⟨rfl, H.b⟩
  have q9 : (op == 9) = false := by simpa using h9
  by_cases h10 : 10 ≤ op
  · have d10 : decide (10 ≤ op) = true := by simpa using h10
    have hV : fitsOp op k k' = (kindIn k 1 && kindIn k' 1) := by unfold fitsOp; rw [if_neg (by omega), if_neg (by omega), if_neg h9]
    rw [hV]
    clear hV
    have hA := fun w => is_spec k a 1 t w
    have hB := fun w => is_spec k' a' 1 t' w
    generalize kindIn k 1 = x at hA ⊢
    generalize kindIn k' 1 = y at hB ⊢
    cases x
    · go_enter Try.func55, Try.ntmps55
      go_wp2_with fail
      have H := fr2_new w k a t k' a' t'
      generalize ((w.alloc (.cells #[.int .i64 k, .int .i64 a, .string t] 27)).alloc (.cells #[.int .i64 k', .int .i64 a', .string t'] 27)) = V at H ⊢
      obtain ⟨ca0, ca1, ca2⟩ := H.a0.cells
      refine (hA _).mono ?_
      rintro e w1 ⟨rfl, hbn1⟩
      replace H := H.next hbn1
      clear hbn1
      clear ca0 ca1 ca2
      go_wp2_with fail
      go_ret
      exact ⟨rfl, H.b⟩
    · go_enter Try.func55, Try.ntmps55
      go_wp2_with fail
      have H := fr2_new w k a t k' a' t'
      generalize ((w.alloc (.cells #[.int .i64 k, .int .i64 a, .string t] 27)).alloc (.cells #[.int .i64 k', .int .i64 a', .string t'] 27)) = V at H ⊢
      obtain ⟨ca0, ca1, ca2⟩ := H.a0.cells
      refine (hA _).mono ?_
      rintro e w1 ⟨rfl, hbn1⟩
      replace H := H.next hbn1
      clear hbn1
      clear ca0 ca1 ca2
      obtain ⟨cb0, cb1, cb2⟩ := H.b0.cells
      go_wp2_with fail
      refine (hB _).mono ?_
      rintro e w2 ⟨rfl, hbn2⟩
      replace H := H.next hbn2
      clear hbn2
      clear cb0 cb1 cb2
      go_wp2_with fail
      go_ret
      exact ⟨rfl, H.b⟩
  have d10 : decide (10 ≤ op) = false := by simpa using h10
  have hV : fitsOp op k k' = ((k == k') || ((k == 0) || (k' == 0))) := by unfold fitsOp; rw [if_neg (by omega), if_pos (by omega)]
  rw [hV]
  clear hV
  have hA := fun w => null_spec k a t w
  have hB := fun w => null_spec k' a' t' w
  generalize (k == 0) = x at hA ⊢
  generalize (k' == 0) = y at hB ⊢
  cases hk : (k == k')
  · cases x
    · go_enter Try.func55, Try.ntmps55
      go_wp2_with fail
      have H := fr2_new w k a t k' a' t'
      generalize ((w.alloc (.cells #[.int .i64 k, .int .i64 a, .string t] 27)).alloc (.cells #[.int .i64 k', .int .i64 a', .string t'] 27)) = V at H ⊢
      obtain ⟨ca0, ca1, ca2⟩ := H.a0.cells
      refine (hA _).mono ?_
      rintro e w1 ⟨rfl, hbn1⟩
      replace H := H.next hbn1
      clear hbn1
      clear ca0 ca1 ca2
      obtain ⟨cb0, cb1, cb2⟩ := H.b0.cells
      go_wp2_with fail
      refine (hB _).mono ?_
      rintro e w2 ⟨rfl, hbn2⟩
      replace H := H.next hbn2
      clear hbn2
      clear cb0 cb1 cb2
      go_wp2_with fail
      go_ret
      exact ⟨rfl, H.b⟩
    · go_enter Try.func55, Try.ntmps55
      go_wp2_with fail
      have H := fr2_new w k a t k' a' t'
      generalize ((w.alloc (.cells #[.int .i64 k, .int .i64 a, .string t] 27)).alloc (.cells #[.int .i64 k', .int .i64 a', .string t'] 27)) = V at H ⊢
      obtain ⟨ca0, ca1, ca2⟩ := H.a0.cells
      refine (hA _).mono ?_
      rintro e w1 ⟨rfl, hbn1⟩
      replace H := H.next hbn1
      clear hbn1
      clear ca0 ca1 ca2
      obtain ⟨cb0, cb1, cb2⟩ := H.b0.cells
      go_wp2_with fail
      go_ret
      exact ⟨rfl, H.b⟩
  · have H := fr2_new w k a t k' a' t'
    go_enter Try.func55, Try.ntmps55
    go_wp2_with fail
    go_ret
    exact ⟨rfl, H.b⟩
set_option maxRecDepth 100000 in
set_option maxHeartbeats 1000000 in
theorem numC_spec (x : Int) (w : World) : Calls Try.prog 58 #[.int .i64 (outI x), .bool (fits x)] w (CalcE (numC x) w) := by
  cases hf : fits x
  · rw [numC_no hf]
    unfold errC
    generalize outI x = y
    have H := fr1_new w
    go_enter Try.func58, Try.ntmps58
    obtain ⟨f0, f1, f2⟩ := H.r0.cells
    have hbF := H.b
    go_wp2_with fail
    generalize w.alloc (.cells #[.int .i64 0, .int .i64 0, .string ⟨#[]⟩] 27) = wf at f0 f1 f2 hbF ⊢
    refine bodyPost_ret (v := .tuple #[.agg #[.int .i64 (0), .int .i64 (0), .string (⟨#[]⟩)], .int .i64 (2)]) (by simp [results, Try.results58, go_sem, f0, f1, f2]) rfl ?_
    exact ⟨rfl, hbF⟩
  · rw [numC_yes hf]
    have ho : outI x = x := by unfold outI; rw [if_pos hf]
    rw [ho]
    have hI := fun w => intValue_spec x w
    go_enter Try.func58, Try.ntmps58
    go_wp2_with fail
    have H := fr1_new w
    generalize w.alloc (.cells #[.int .i64 0, .int .i64 0, .string ⟨#[]⟩] 27) = V at H ⊢
    refine (hI _).mono ?_
    rintro e w1 ⟨rfl, hbn1⟩
    replace H := H.next hbn1
    clear hbn1
    obtain ⟨z0, z1, z2⟩ := H.r0.soft
    obtain ⟨g0, g1, g2⟩ := H.r0.cells
    obtain ⟨f0, f1, f2, hbF⟩ := H.fin (1) (x) (⟨#[]⟩)
    go_wp2_with fail
    rw [put_eq]
    generalize put _ (w.heap.size) (1) (x) (⟨#[]⟩) = wf at f0 f1 f2 hbF ⊢
    refine bodyPost_ret (v := .tuple #[.agg #[.int .i64 (1), .int .i64 (x), .string (⟨#[]⟩)], .int .i64 (0)]) (by simp [results, Try.results58, go_sem, f0, f1, f2]) rfl ?_
    exact ⟨rfl, hbF⟩
set_option maxRecDepth 100000 in
set_option maxHeartbeats 2000000 in
theorem compare_spec (op o : Int) (w : World) (h3 : 3 ≤ op) (h8 : op ≤ 8) (ho : o = -1 ∨ o = 0 ∨ o = 1) : Calls Try.prog 60 #[.int .i64 op, .int .i64 o] w (PureE (.bool (holdsB op o)) w) := by
  rcases (show op = 3 ∨ op = 4 ∨ op = 5 ∨ op = 6 ∨ op = 7 ∨ op = 8 by omega) with rfl | rfl | rfl | rfl | rfl | rfl <;> rcases ho with rfl | rfl | rfl <;>
  (go_enter Try.func60, Try.ntmps60
   go_wp2_with fail
   go_ret
   exact ⟨rfl, rfl⟩)
end Go.Proofs.Ytjekhgekldkopaa
