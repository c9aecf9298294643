
/- The contract of the model's list of a query's expressions. -/
import Derived.Test.YtgihklohhjhjbaaExprs
namespace Go.Proofs.Ytgihklohhjhjbaa
open Go.RowKit

theorem exItems_succ (j k : Nat) (f : Nat → Nat → Dat) : exItems (.sl (j + 1) k f) = exItems (.sl j k f) ++ (if (f j 0).tru then [] else [cut 2 (f j)]) := by
  unfold exItems Dat.els
  show List.map (cut 2) (List.filter _ (List.map f (List.range (j + 1)))) = List.map (cut 2) (List.filter _ (List.map f (List.range j))) ++ _
  rw [List.range_succ, List.map_append, List.filter_append, List.map_append]
  congr 1
  simp only [List.map_cons, List.map_nil, List.filter_cons, List.filter_nil]
  cases (f j 0).tru <;> rfl
theorem exFrom_succ (j k : Nat) (f : Nat → Nat → Dat) : exFrom (.sl (j + 1) k f) = exFrom (.sl j k f) ++ (f j 2).els := by
  unfold exFrom
  show List.flatMap _ (List.map f (List.range (j + 1))) = List.flatMap _ (List.map f (List.range j)) ++ _
  rw [List.range_succ, List.map_append, List.flatMap_append]
  simp
theorem els_succ (j k : Nat) (f : Nat → Nat → Dat) : (Dat.sl (j + 1) k f).els = (Dat.sl j k f).els ++ [f j] := by
  show List.map f (List.range (j + 1)) = List.map f (List.range j) ++ _
  rw [List.range_succ, List.map_append]; rfl
theorem exItems_mono (k : Nat) (f : Nat → Nat → Dat) {j n : Nat} (h : j ≤ n) : (exItems (.sl j k f)).length ≤ (exItems (.sl n k f)).length := by
  induction n with
  | zero => obtain rfl : j = 0 := by omega
            exact Nat.le_refl _
  | succ n ih =>
    by_cases e : j = n + 1
    · rw [e]; exact Nat.le_refl _
    · have := ih (by omega)
      rw [exItems_succ, List.length_append]; omega
theorem exFrom_mono (k : Nat) (f : Nat → Nat → Dat) {j n : Nat} (h : j ≤ n) : (exFrom (.sl j k f)).length ≤ (exFrom (.sl n k f)).length := by
  induction n with
  | zero => obtain rfl : j = 0 := by omega
            exact Nat.le_refl _
  | succ n ih =>
    by_cases e : j = n + 1
    · rw [e]; exact Nat.le_refl _
    · have := ih (by omega)
      rw [exFrom_succ, List.length_append]; omega
theorem els_len (n k : Nat) (f : Nat → Nat → Dat) : (Dat.sl n k f).els.length = n := by simp [Dat.els, Dat.len]
/-- the query's box and the list so far -/
structure LX (w wr : World) (arr : Array Value) (out : Value) (L : List (Nat → Dat)) : Prop where
  box : RowAt wr w.heap.size 38 arr
  own : OutE w wr (w.heap.size + 1) out L
  b : Below w.heap.size w wr
theorem LX.app {w wr w' : World} {arr : Array Value} {out out' : Value} {L L' : List (Nat → Dat)} (H : LX w wr arr out L) (h : OutE w w' (w.heap.size + 1) out' L') (hb : Below (w.heap.size + 1) wr w') : LX w w' arr out' L' :=
  ⟨(hb.block _ (Nat.lt_succ_self _)).trans H.box, h, H.b.trans (hb.mono (Nat.le_succ _))⟩
theorem LX.sz {w wr : World} {arr : Array Value} {out : Value} {L : List (Nat → Dat)} (H : LX w wr arr out L) : w.heap.size + 1 ≤ wr.heap.size := H.box.lt
def ExprsE (L : List (Nat → Dat)) (w : World) (e : Ending) (w' : World) : Prop := ∃ v : Value, e = .returned v ∧ OutE w w' (w.heap.size + 1) v L ∧ Below w.heap.size w w'
set_option maxRecDepth 100000 in
set_option maxHeartbeats 8000000 in
theorem exprs_spec (c0 : Bool) (a1 : Option Addr) (n1 p1 : Nat) (a2 : Option Addr) (n2 p2 : Nat) (a3 : Option Addr) (n3 p3 : Nat) (a4 : Option Addr) (n4 p4 : Nat) (c5 : Int) (f1 f2 f3 f4 : Nat → Nat → Dat) (w : World)
    (r1 : Rd w 0 (.slice a1 n1 p1) (.sl n1 13 f1)) (q1 : Fits (.sl n1 13 f1) .items) (r2 : Rd w 0 (.slice a2 n2 p2) (.sl n2 3 f2)) (q2 : Fits (.sl n2 3 f2) .sources)
    (r3 : Rd w 0 (.slice a3 n3 p3) (.sl n3 10 f3)) (q3 : Fits (.sl n3 10 f3) .exprs) (r4 : Rd w 0 (.slice a4 n4 p4) (.sl n4 11 f4)) (q4 : Fits (.sl n4 11 f4) .keys)
    (hN : (exItems (.sl n1 13 f1)).length + (exFrom (.sl n2 3 f2)).length + n3 + n4 ≤ 1048576) :
    Calls Try.prog 82 #[.agg #[.bool c0, .slice a1 n1 p1, .slice a2 n2 p2, .slice a3 n3 p3, .slice a4 n4 p4, .int .i64 c5]] w (ExprsE (((exItems (.sl n1 13 f1) ++ exFrom (.sl n2 3 f2)) ++ (Dat.sl n3 10 f3).els) ++ (Dat.sl n4 11 f4).els) w) := by
  have H0 : LX w ((w.alloc (.cells #[.bool c0, .slice a1 n1 p1, .slice a2 n2 p2, .slice a3 n3 p3, .slice a4 n4 p4, .int .i64 c5] 38)).alloc (.cells #[] 29)) #[.bool c0, .slice a1 n1 p1, .slice a2 n2 p2, .slice a3 n3 p3, .slice a4 n4 p4, .int .i64 c5] (.slice (some ⟨w.heap.size + 1, 0, none⟩) 0 0) (exItems (.sl 0 13 f1)) := ⟨(RowAt.new w _ _).alloc _, by
    have h := OutE.lit (w0 := w) (W := w.alloc (.cells #[.bool c0, .slice a1 n1 p1, .slice a2 n2 p2, .slice a3 n3 p3, .slice a4 n4 p4, .int .i64 c5] 38)) (B := w.heap.size + 1) (by simp)
    have e : (w.alloc (.cells #[.bool c0, .slice a1 n1 p1, .slice a2 n2 p2, .slice a3 n3 p3, .slice a4 n4 p4, .int .i64 c5] 38)).heap.size = w.heap.size + 1 := by simp
    rw [e] at h
    exact h, ((Below.refl _ _).alloc (Nat.le_refl _) _).alloc (by simp) _⟩
  have HN := Lib.hid hN
  clear hN
  have hn1 := q1.2.1
  have hn2 := q2.2.1
  have hn3 := q3.2.1
  have hn4 := q4.2.1
  go_enter Try.func82, Try.ntmps82
  go_wp2_with fail
  generalize ((w.alloc (.cells #[.bool c0, .slice a1 n1 p1, .slice a2 n2 p2, .slice a3 n3 p3, .slice a4 n4 p4, .int .i64 c5] 38)).alloc (.cells #[] 29)) = w0 at H0 ⊢
  go_loopw [3, 4] (fun out i wr => ∃ (j : Nat) (v : Value), j ≤ n1 ∧ i = .int .i64 (j : Int) ∧ v = out ∧ LX w wr #[.bool c0, .slice a1 n1 p1, .slice a2 n2 p2, .slice a3 n3 p3, .slice a4 n4 p4, .int .i64 c5] v (exItems (.sl j 13 f1))) (fun _ i _ => n1 - (intOf i).toNat)
  case atStart => exact ⟨0, _, by omega, rfl, rfl, H0⟩
  case round =>
    obtain ⟨j, v, hj, rfl, rfl, H⟩ := hrel
    have b1 := H.box.cell (i := 1) (v := .slice a1 n1 p1) rfl
    by_cases hlt : j < n1
    · have hlt2 : (j : Int) < (n1 : Int) := by omega
      obtain ⟨g, o, rfl, -, hg, x0, x1, x2, x3, x4, x5, x6, x7, x8, x9, x10, x11, x12, ⟨z0, z1, z2, z3, z4, z5, z6, z7, z8, z9, z10, z11, z12⟩, ⟨e0, ⟨e1, b1⟩, ⟨e2, b2⟩, ⟨e3, b3⟩, e4, ⟨e5, b5⟩, ⟨e6, b6⟩, ⟨e7, b7⟩, ⟨e8, b8⟩, ⟨e9, b9⟩, ⟨r10, q10⟩, ⟨r11, q11⟩, ⟨e12, b12⟩⟩⟩ := row_items r1 q1 hlt
      replace z0 := (H.b.cell (p := ⟨g, o + j * 13, none⟩) hg).trans z0
      replace z1 := (H.b.cell (p := ⟨g, o + j * 13 + 1, none⟩) hg).trans z1
      replace z2 := (H.b.cell (p := ⟨g, o + j * 13 + 2, none⟩) hg).trans z2
      replace z3 := (H.b.cell (p := ⟨g, o + j * 13 + 3, none⟩) hg).trans z3
      replace z4 := (H.b.cell (p := ⟨g, o + j * 13 + 4, none⟩) hg).trans z4
      replace z5 := (H.b.cell (p := ⟨g, o + j * 13 + 5, none⟩) hg).trans z5
      replace z6 := (H.b.cell (p := ⟨g, o + j * 13 + 6, none⟩) hg).trans z6
      replace z7 := (H.b.cell (p := ⟨g, o + j * 13 + 7, none⟩) hg).trans z7
      replace z8 := (H.b.cell (p := ⟨g, o + j * 13 + 8, none⟩) hg).trans z8
      replace z9 := (H.b.cell (p := ⟨g, o + j * 13 + 9, none⟩) hg).trans z9
      replace z10 := (H.b.cell (p := ⟨g, o + j * 13 + 10, none⟩) hg).trans z10
      replace z11 := (H.b.cell (p := ⟨g, o + j * 13 + 11, none⟩) hg).trans z11
      replace z12 := (H.b.cell (p := ⟨g, o + j * 13 + 12, none⟩) hg).trans z12
      cases x0
      case true =>
        have hs : exItems (.sl (j + 1) 13 f1) = exItems (.sl j 13 f1) := by rw [exItems_succ, e0]; simp [Dat.tru]
        have H2 : LX w wr #[.bool c0, .slice (some ⟨g, o, none⟩) n1 p1, .slice a2 n2 p2, .slice a3 n3 p3, .slice a4 n4 p4, .int .i64 c5] v (exItems (.sl (j + 1) 13 f1)) := by rw [hs]; exact H
        clear hs e0 e1 e2 e3 e4 e5 e6 e7 e8 e9 e12
        go_wp2_with fail
        go_roundw
        case rel => exact ⟨j + 1, _, by omega, by go_num, rfl, H2⟩
        case measure => simp [intOf]; omega
      case false =>
        have hs : exItems (.sl (j + 1) 13 f1) = exItems (.sl j 13 f1) ++ [cut 2 (f1 j)] := by rw [exItems_succ, e0]; rfl
        have HS := Lib.hid hs
        clear hs
        have hl := exItems_mono 13 f1 (show j ≤ n1 by omega)
        obtain ⟨ya, yn, yc, rfl⟩ := r10.slice_of q10 rfl
        obtain ⟨za, zn, zc, rfl⟩ := r11.slice_of q11 rfl
        have hc : OutP w [.int .i64 x2, .int .i64 x3, .bool x4, .int .i64 x5, .int .i64 x6, .string x7, .string x8, .string x9, .slice ya yn yc, .slice za zn zc] [cut 2 (f1 j)] := OutP.one rfl (fun m hm => match m, hm with
            | 0, _ => ⟨_, rfl, by show Rd w 0 _ (f1 j 2); rw [e2]; rfl, q1.2.2.2 j hlt 2 (by decide)⟩
            | 1, _ => ⟨_, rfl, by show Rd w 0 _ (f1 j 3); rw [e3]; rfl, q1.2.2.2 j hlt 3 (by decide)⟩
            | 2, _ => ⟨_, rfl, by show Rd w 0 _ (f1 j 4); rw [e4]; rfl, q1.2.2.2 j hlt 4 (by decide)⟩
            | 3, _ => ⟨_, rfl, by show Rd w 0 _ (f1 j 5); rw [e5]; rfl, q1.2.2.2 j hlt 5 (by decide)⟩
            | 4, _ => ⟨_, rfl, by show Rd w 0 _ (f1 j 6); rw [e6]; rfl, q1.2.2.2 j hlt 6 (by decide)⟩
            | 5, _ => ⟨_, rfl, by show Rd w 0 _ (f1 j 7); rw [e7]; rfl, q1.2.2.2 j hlt 7 (by decide)⟩
            | 6, _ => ⟨_, rfl, by show Rd w 0 _ (f1 j 8); rw [e8]; rfl, q1.2.2.2 j hlt 8 (by decide)⟩
            | 7, _ => ⟨_, rfl, by show Rd w 0 _ (f1 j 9); rw [e9]; rfl, q1.2.2.2 j hlt 9 (by decide)⟩
            | 8, _ => ⟨_, rfl, by exact r10, q1.2.2.2 j hlt 10 (by decide)⟩
            | 9, _ => ⟨_, rfl, by exact r11, q1.2.2.2 j hlt 11 (by decide)⟩
            | m + 10, hm => absurd hm (by simp [exprTy]))
        have HC := Lib.hid hc
        clear hc e0 e1 e2 e3 e4 e5 e6 e7 e8 e9 e12 r10 r11
        go_wp2_with (at_builtin; refine appE rfl (.tmp 22) (.tmp 29) rfl w (w.heap.size + 1) v (exItems (.sl j 13 f1)) (cut 2 (f1 j)) #[.int .i64 x2, .int .i64 x3, .bool x4, .int .i64 x5, .int .i64 x6, .string x7, .string x8, .string x9, .slice ya yn yc, .slice za zn zc] wr wr.heap.size rfl rfl rfl H.own HC.out (by have := HN.out; omega) H.sz ?_; intro v' w' hown' hb')
        have H2 := H.app hown' hb'
        rw [← HS.out] at H2
        go_roundw
        case rel => exact ⟨j + 1, _, by omega, by go_num, rfl, H2⟩
        case measure => simp [intOf]; omega
    · obtain rfl : n1 = j := by omega
      clear hlt hj
      go_wp2_with fail
      go_loopw [3, 5] (fun out i wr => ∃ (j : Nat) (v : Value), j ≤ n2 ∧ i = .int .i64 (j : Int) ∧ v = out ∧ LX w wr #[.bool c0, .slice a1 n1 p1, .slice a2 n2 p2, .slice a3 n3 p3, .slice a4 n4 p4, .int .i64 c5] v (exItems (.sl n1 13 f1) ++ exFrom (.sl j 3 f2))) (fun _ i _ => n2 - (intOf i).toNat)
      case atStart => exact ⟨0, _, by omega, rfl, rfl, by show LX w _ _ _ (_ ++ []); rw [List.append_nil]; exact H⟩
      case round =>
        obtain ⟨j, v, hj, rfl, rfl, H⟩ := hrel
        have b1 := H.box.cell (i := 2) (v := .slice a2 n2 p2) rfl
        by_cases hlt : j < n2
        · have hlt2 : (j : Int) < (n2 : Int) := by omega
          obtain ⟨g, o, rfl, -, hg, x0, x1, x2, ⟨z0, z1, z2⟩, ⟨⟨e0, b0⟩, ⟨e1, b1⟩, ⟨r2_, q2_⟩⟩⟩ := row_sources r2 q2 hlt
          replace z0 := (H.b.cell (p := ⟨g, o + j * 3, none⟩) hg).trans z0
          replace z1 := (H.b.cell (p := ⟨g, o + j * 3 + 1, none⟩) hg).trans z1
          replace z2 := (H.b.cell (p := ⟨g, o + j * 3 + 2, none⟩) hg).trans z2
          obtain ⟨nn, kk, ff, hsl⟩ := q2_.deep rfl
          obtain ⟨ya, yn, yc, rfl⟩ := r2_.slice_of q2_ rfl
          have hs : exItems (.sl n1 13 f1) ++ exFrom (.sl (j + 1) 3 f2) = (exItems (.sl n1 13 f1) ++ exFrom (.sl j 3 f2)) ++ (Dat.sl nn kk ff).els := by rw [exFrom_succ, hsl, List.append_assoc]
          have hl : (exItems (.sl n1 13 f1) ++ exFrom (.sl j 3 f2)).length ≤ 1048576 ∧ nn ≤ 1048576 := by
            have h1 := exFrom_mono 3 f2 (show j + 1 ≤ n2 by omega)
            have h2 := HN.out
            rw [exFrom_succ, hsl, List.length_append, els_len] at h1
            rw [List.length_append]
            omega
          rw [hsl] at r2_ q2_
          have HS := Lib.hid hs
          obtain ⟨hl1, hl2⟩ := hl
          clear hs hsl e0 e1
          go_wp2_with (at_builtin; refine appM rfl (.tmp 38) (.tmp 44) rfl w (w.heap.size + 1) v (exItems (.sl n1 13 f1) ++ exFrom (.sl j 3 f2)) ya yn yc nn kk ff wr rfl rfl H.own r2_ q2_ H.b (by omega) (by omega) H.sz ?_; intro v' w' hown' hb')
          have H2 := H.app hown' hb'
          rw [← HS.out] at H2
          go_roundw
          case rel => exact ⟨j + 1, _, by omega, by go_num, rfl, H2⟩
          case measure => simp [intOf]; omega
        · obtain rfl : n2 = j := by omega
          clear hlt hj
          have hl : (exItems (.sl n1 13 f1) ++ exFrom (.sl n2 3 f2)).length ≤ 1048576 ∧ n3 ≤ 1048576 := by
            have h2 := HN.out
            rw [List.length_append]
            omega
          obtain ⟨hl1, hl2⟩ := hl
          have b3 := H.box.cell (i := 3) (v := .slice a3 n3 p3) rfl
          go_wp2_with (at_builtin; refine appM rfl (.tmp 46) (.tmp 48) rfl w (w.heap.size + 1) v (exItems (.sl n1 13 f1) ++ exFrom (.sl n2 3 f2)) a3 n3 p3 n3 10 f3 _ rfl rfl H.own r3 q3 H.b (by omega) (by omega) H.sz ?_; intro v' w' hown' hb')
          replace H : LX w w' #[.bool c0, .slice a1 n1 p1, .slice a2 n2 p2, .slice a3 n3 p3, .slice a4 n4 p4, .int .i64 c5] v' ((exItems (.sl n1 13 f1) ++ exFrom (.sl n2 3 f2)) ++ (Dat.sl n3 10 f3).els) := H.app hown' hb'
          clear hown' hb' hl1 hl2 b1 b3
          go_loopw [3, 6] (fun out i wr => ∃ (j : Nat) (v : Value), j ≤ n4 ∧ i = .int .i64 (j : Int) ∧ v = out ∧ LX w wr #[.bool c0, .slice a1 n1 p1, .slice a2 n2 p2, .slice a3 n3 p3, .slice a4 n4 p4, .int .i64 c5] v (((exItems (.sl n1 13 f1) ++ exFrom (.sl n2 3 f2)) ++ (Dat.sl n3 10 f3).els) ++ (Dat.sl j 11 f4).els)) (fun _ i _ => n4 - (intOf i).toNat)
          case atStart => exact ⟨0, _, by omega, rfl, rfl, by show LX w _ _ _ (_ ++ []); rw [List.append_nil]; exact H⟩
          case round =>
            obtain ⟨j, v, hj, rfl, rfl, H⟩ := hrel
            have b1 := H.box.cell (i := 4) (v := .slice a4 n4 p4) rfl
            by_cases hlt : j < n4
            · have hlt2 : (j : Int) < (n4 : Int) := by omega
              obtain ⟨g, o, rfl, -, hg, x0, x1, x2, x3, x4, x5, x6, x7, x8, x9, x10, ⟨z0, z1, z2, z3, z4, z5, z6, z7, z8, z9, z10⟩, ⟨⟨e0, b0⟩, ⟨e1, b1⟩, e2, ⟨e3, b3⟩, ⟨e4, b4⟩, ⟨e5, b5⟩, ⟨e6, b6⟩, ⟨e7, b7⟩, ⟨r8, q8⟩, ⟨r9, q9⟩, e10⟩⟩ := row_keys r4 q4 hlt
              replace z0 := (H.b.cell (p := ⟨g, o + j * 11, none⟩) hg).trans z0
              replace z1 := (H.b.cell (p := ⟨g, o + j * 11 + 1, none⟩) hg).trans z1
              replace z2 := (H.b.cell (p := ⟨g, o + j * 11 + 2, none⟩) hg).trans z2
              replace z3 := (H.b.cell (p := ⟨g, o + j * 11 + 3, none⟩) hg).trans z3
              replace z4 := (H.b.cell (p := ⟨g, o + j * 11 + 4, none⟩) hg).trans z4
              replace z5 := (H.b.cell (p := ⟨g, o + j * 11 + 5, none⟩) hg).trans z5
              replace z6 := (H.b.cell (p := ⟨g, o + j * 11 + 6, none⟩) hg).trans z6
              replace z7 := (H.b.cell (p := ⟨g, o + j * 11 + 7, none⟩) hg).trans z7
              replace z8 := (H.b.cell (p := ⟨g, o + j * 11 + 8, none⟩) hg).trans z8
              replace z9 := (H.b.cell (p := ⟨g, o + j * 11 + 9, none⟩) hg).trans z9
              replace z10 := (H.b.cell (p := ⟨g, o + j * 11 + 10, none⟩) hg).trans z10
              obtain ⟨ya, yn, yc, rfl⟩ := r8.slice_of q8 rfl
              obtain ⟨za, zn, zc, rfl⟩ := r9.slice_of q9 rfl
              have hs : ((exItems (.sl n1 13 f1) ++ exFrom (.sl n2 3 f2)) ++ (Dat.sl n3 10 f3).els) ++ (Dat.sl (j + 1) 11 f4).els = (((exItems (.sl n1 13 f1) ++ exFrom (.sl n2 3 f2)) ++ (Dat.sl n3 10 f3).els) ++ (Dat.sl j 11 f4).els) ++ [f4 j] := by rw [els_succ, ← List.append_assoc]
              have hl : (((exItems (.sl n1 13 f1) ++ exFrom (.sl n2 3 f2)) ++ (Dat.sl n3 10 f3).els) ++ (Dat.sl j 11 f4).els).length ≤ 1048576 := by
                have h2 := HN.out
                simp only [List.length_append, els_len]
                omega
              have HS := Lib.hid hs
              clear hs
              have hc : OutP w [.int .i64 x0, .int .i64 x1, .bool x2, .int .i64 x3, .int .i64 x4, .string x5, .string x6, .string x7, .slice ya yn yc, .slice za zn zc] [f4 j] := OutP.one rfl (fun m hm => match m, hm with
                  | 0, _ => ⟨_, rfl, by show Rd w 0 _ (f4 j 0); rw [e0]; rfl, q4.2.2.2 j hlt 0 (by decide)⟩
                  | 1, _ => ⟨_, rfl, by show Rd w 0 _ (f4 j 1); rw [e1]; rfl, q4.2.2.2 j hlt 1 (by decide)⟩
                  | 2, _ => ⟨_, rfl, by show Rd w 0 _ (f4 j 2); rw [e2]; rfl, q4.2.2.2 j hlt 2 (by decide)⟩
                  | 3, _ => ⟨_, rfl, by show Rd w 0 _ (f4 j 3); rw [e3]; rfl, q4.2.2.2 j hlt 3 (by decide)⟩
                  | 4, _ => ⟨_, rfl, by show Rd w 0 _ (f4 j 4); rw [e4]; rfl, q4.2.2.2 j hlt 4 (by decide)⟩
                  | 5, _ => ⟨_, rfl, by show Rd w 0 _ (f4 j 5); rw [e5]; rfl, q4.2.2.2 j hlt 5 (by decide)⟩
                  | 6, _ => ⟨_, rfl, by show Rd w 0 _ (f4 j 6); rw [e6]; rfl, q4.2.2.2 j hlt 6 (by decide)⟩
                  | 7, _ => ⟨_, rfl, by show Rd w 0 _ (f4 j 7); rw [e7]; rfl, q4.2.2.2 j hlt 7 (by decide)⟩
                  | 8, _ => ⟨_, rfl, by exact r8, q4.2.2.2 j hlt 8 (by decide)⟩
                  | 9, _ => ⟨_, rfl, by exact r9, q4.2.2.2 j hlt 9 (by decide)⟩
                  | m + 10, hm => absurd hm (by simp [exprTy]))
              have HC := Lib.hid hc
              clear hc e0 e1 e2 e3 e4 e5 e6 e7 e10 r8 r9
              go_wp2_with (at_builtin; refine appE rfl (.tmp 57) (.tmp 64) rfl w (w.heap.size + 1) v (((exItems (.sl n1 13 f1) ++ exFrom (.sl n2 3 f2)) ++ (Dat.sl n3 10 f3).els) ++ (Dat.sl j 11 f4).els) (f4 j) #[.int .i64 x0, .int .i64 x1, .bool x2, .int .i64 x3, .int .i64 x4, .string x5, .string x6, .string x7, .slice ya yn yc, .slice za zn zc] wr wr.heap.size rfl rfl rfl H.own HC.out (by omega) H.sz ?_; intro v' w' hown' hb')
              have H2 := H.app hown' hb'
              rw [← HS.out] at H2
              go_roundw
              case rel => exact ⟨j + 1, _, by omega, by go_num, rfl, H2⟩
              case measure => simp [intOf]; omega
            · obtain rfl : n4 = j := by omega
              clear hlt hj
              go_wp2_with fail
              go_ret
              exact ⟨v, rfl, H.own, H.b⟩
end Go.Proofs.Ytgihklohhjhjbaa
