/- Joined texts: FoldS. -/
import Derived.Test.YtcliijfdlcagoaaGreatQZAF
import Derived.Test.YtcliijfdlcagoaaGreatQZAB
namespace Go.Proofs.YtcliijfdlcagoaaGreat
set_option linter.unusedVariables false
set_option linter.unusedSimpArgs false
open Go.RowKit
structure BX (w wr : World) (T : TypeId) (arr : Array Value) : Prop where
  box : RowAt wr w.heap.size T arr
  b : Below w.heap.size w wr
theorem BX.new (w : World) (T : TypeId) (arr : Array Value) : BX w (w.alloc (.cells arr T)) T arr := ⟨RowAt.new w T arr, (Below.refl _ _).alloc (Nat.le_refl _) _⟩
theorem BX.next {w wr w' : World} {T : TypeId} {arr : Array Value} (H : BX w wr T arr) (h : Below wr.heap.size wr w') : BX w w' T arr := ⟨H.box.later h, H.b.trans (h.mono H.b.size)⟩
theorem OutE.rd {w0 wr : World} {B : Nat} {v : Value} {L : List (Nat → Dat)} (h : OutE w0 wr B v L) (hb : Below w0.heap.size w0 wr) (hl : L.length ≤ 9223372036854775807) (z : Nat → Dat) :
    ∃ a cap, v = .slice a L.length cap ∧ Rd wr 0 v (.sl L.length 10 fun i => L.getD i z) ∧ Fits (.sl L.length 10 fun i => L.getD i z) .exprs := by
  obtain ⟨C, hC, hP⟩ := h
  have hfit : Fits (.sl L.length 10 fun i => L.getD i z) .exprs := ⟨rfl, hl, rfl, fun i hi j hj => by
    obtain ⟨y, _, _, hf⟩ := hP.2 i L[i] (List.getElem?_eq_getElem hi) j hj
    show Fits (L.getD i z j) _
    rw [show L.getD i z = L[i] by rw [List.getD_eq_getElem?_getD, List.getElem?_eq_getElem hi]; rfl]
    exact hf⟩
  rcases hC.2 with ⟨e, h0⟩ | ⟨g, cap, cur, e, hg, hrow, hnc, hcm, hsz, hcur⟩
  · refine ⟨none, 0, by rw [e, h0], ?_, hfit⟩
    exact ⟨none, 0, by rw [e, h0], by omega, fun _ => rfl, .inl h0⟩
  · refine ⟨_, _, e, ⟨_, cap, e, hnc, (fun h => by cases h), .inr ⟨g, 0, rfl, Nat.zero_le _, (Array.getElem?_eq_some_iff.1 hrow).1, fun i hi j hj => ?_⟩⟩, hfit⟩
    obtain ⟨y, hy, hr, _⟩ := hP.2 i L[i] (List.getElem?_eq_getElem hi) j hj
    refine ⟨y, ?_, ?_⟩
    · rw [Nat.zero_add]
      subst e
      have := World.ownsRow.cellAt (w := wr) (base := B) (e := 79) (size := 10) (g := g) (n := L.length) (cap := cap) (xs := C) hC (i * 10 + j) (by omega)
      rw [this]; exact hy
    · show Rd wr 0 y (L.getD i z j)
      rw [show L.getD i z = L[i] by rw [List.getD_eq_getElem?_getD, List.getElem?_eq_getElem hi]; rfl]
      exact hr.later hb
set_option maxRecDepth 100000 in
set_option maxHeartbeats 400000 in
theorem max_spec (a b : Nat) (w : World) (ha : a ≤ 4611686018427387904) (hb : b ≤ 4611686018427387904) : Calls Tryz.prog 39 #[.int .i64 (a : Int), .int .i64 (b : Int)] w (PureE (.int .i64 ((max a b : Nat) : Int)) w) := by
  by_cases h : b < a
  · have h2 : (b : Int) < (a : Int) := by omega
    rw [show max a b = a by omega]
    go_enter Tryz.func39, Tryz.ntmps39
    go_wp2_with fail
    go_ret
    exact ⟨rfl, rfl⟩
  · have h2 : ¬ (b : Int) < (a : Int) := by omega
    rw [show max a b = b by omega]
    go_enter Tryz.func39, Tryz.ntmps39
    go_wp2_with fail
    go_ret
    exact ⟨rfl, rfl⟩
theorem of_range {α : Type} (G : Alg α) (g : Nat → α) (j : Nat) : G.of ((List.range (j + 1)).map g) = G.up (G.of ((List.range j).map g)) (g j) := by
  rw [List.range_succ, List.map_append]; exact G.of_snoc _ _
theorem fold_ex {α : Type} (G : Alg α) (n k : Nat) (f : Nat → Nat → Dat) : fold G (.sl n k f) .exprs = G.of ((List.range n).map fun i => foldE G (f i)) := by rw [fold]; rfl
theorem fold_qu {α : Type} (G : Alg α) (n k : Nat) (f : Nat → Nat → Dat) : fold G (.sl n k f) .queries = G.of ((List.range n).map fun i => foldQ G (f i)) := by rw [fold]; rfl
theorem sizA_mono {g : Nat → Nat} {j n : Nat} (h : j ≤ n) : sizA.of ((List.range j).map g) ≤ sizA.of ((List.range n).map g) := by
  induction n with
  | zero => obtain rfl : j = 0 := by omega
            exact Nat.le_refl _
  | succ n ih =>
    by_cases e : j = n + 1
    · rw [e]; exact Nat.le_refl _
    · have := ih (by omega)
      rw [of_range]; exact Nat.le_trans this (Nat.le_add_right _ _)
theorem sizA_el {g : Nat → Nat} {j n : Nat} (h : j < n) : g j ≤ sizA.of ((List.range n).map g) := by
  refine Nat.le_trans ?_ (sizA_mono (g := g) (show j + 1 ≤ n by omega))
  rw [of_range]; exact Nat.le_add_left _ _
theorem dep_of_le {g h : Nat → Nat} : ∀ (j : Nat), (∀ i, i < j → g i ≤ h i) → depA.of ((List.range j).map g) ≤ sizA.of ((List.range j).map h)
  | 0, _ => Nat.le_refl _
  | j + 1, H => by
    rw [of_range, of_range]
    have h1 := dep_of_le j fun i hi => H i (by omega)
    have h2 := H j (by omega)
    show max _ _ ≤ _ + _
    omega
theorem dep_le : ∀ (d : Dat) (ty : Ty), fold depA d ty ≤ fold sizA d ty
  | .v _, ty => by cases ty <;> exact Nat.le_refl _
  | .sl n k f, ty => by
    have IH : ∀ i j ty, fold depA (f i j) ty ≤ fold sizA (f i j) ty := fun i j ty => dep_le (f i j) ty
    have HE : ∀ i a b, depA.node (f i) (depA.up (fold depA (f i a) .exprs) (fold depA (f i b) .queries)) ≤ sizA.node (f i) (sizA.up (fold sizA (f i a) .exprs) (fold sizA (f i b) .queries)) := fun i a b => by
      have h1 := IH i a .exprs
      have h2 := IH i b .queries
      show max _ _ + 1 ≤ (_ + _) + 1
      omega
    cases ty
    case int => exact Nat.le_refl _
    case bool => exact Nat.le_refl _
    case str => exact Nat.le_refl _
    case names => exact Nat.le_refl _
    case rows => rw [fold, fold]; exact dep_of_le n fun i _ => IH i 0 .exprs
    case exprs => rw [fold, fold]; exact dep_of_le n fun i _ => HE i 8 9
    case keys => rw [fold, fold]; exact dep_of_le n fun i _ => HE i 8 9
    case items =>
      rw [fold, fold]
      refine dep_of_le n fun i _ => ?_
      cases (f i 0).tru
      · exact HE i 10 11
      · exact Nat.le_refl _
    case sources => rw [fold, fold]; exact dep_of_le n fun i _ => IH i 2 .exprs
    case queries =>
      rw [fold, fold]
      refine dep_of_le n fun i _ => ?_
      have h1 := IH i 1 .items
      have h2 := IH i 2 .sources
      have h3 := IH i 3 .exprs
      have h4 := IH i 4 .keys
      show max (max (max _ _) _) _ ≤ _ + _ + _ + _
      omega
theorem depE_le (c : Nat → Dat) : foldE depA c ≤ foldE sizA c := by
  have h1 := dep_le (c 8) .exprs
  have h2 := dep_le (c 9) .queries
  show max _ _ + 1 ≤ (_ + _) + 1
  omega
theorem depQ_le (q : Nat → Dat) : foldQ depA q ≤ foldQ sizA q := by
  have h1 := dep_le (q 1) .items
  have h2 := dep_le (q 2) .sources
  have h3 := dep_le (q 3) .exprs
  have h4 := dep_le (q 4) .keys
  show max (max (max _ _) _) _ ≤ _ + _ + _ + _
  omega
theorem sizE_pos (c : Nat → Dat) : 1 ≤ foldE sizA c := Nat.le_add_left _ _
theorem siz_parts {c : Nat → Dat} {n8 n9 : Nat} {f8 f9 : Nat → Nat → Dat} (h8 : c 8 = .sl n8 10 f8) (h9 : c 9 = .sl n9 6 f9) :
    foldE sizA c = sizA.of ((List.range n8).map fun i => foldE sizA (f8 i)) + sizA.of ((List.range n9).map fun i => foldQ sizA (f9 i)) + 1 := by
  show (fold sizA (c 8) .exprs + fold sizA (c 9) .queries) + 1 = _
  rw [h8, h9, fold_ex, fold_qu]
theorem range_getD {β : Type} (g : (Nat → Dat) → β) (z : Nat → Dat) (L : List (Nat → Dat)) : (List.range L.length).map (fun i => g (L.getD i z)) = L.map g := by
  apply List.ext_getElem (by simp)
  intro i h1 h2
  simp at h1 h2 ⊢
  rw [List.getElem?_eq_getElem h2]; rfl
theorem exprs_len {q : Nat → Dat} (h1 : Fits (q 1) .items) (h2 : Fits (q 2) .sources) (h3 : Fits (q 3) .exprs) (h4 : Fits (q 4) .keys) : (exprsOf q).length ≤ foldQ sizA q := by
  rw [foldQ_is sizA_good h1 h2 h3 h4]
  show _ ≤ sizA.of _
  have h : ∀ L : List (Nat → Dat), L.length ≤ sizA.of (L.map (foldE sizA)) := fun L => by
    induction L with
    | nil => exact Nat.le_refl _
    | cons c L ih =>
      rw [List.map_cons, sizA_good.of_cons, List.length_cons]
      have := sizE_pos c
      show _ ≤ _ + _
      omega
  exact h _
def DepthOfP (c : Nat → Dat) : Prop := ∀ (c0 c1 : Int) (c2 : Bool) (c3 c4 : Int) (c5 c6 c7 : ByteArray) (x8 x9 : Value) (w : World), Rd w 0 x8 (c 8) → Fits (c 8) .exprs → Rd w 0 x9 (c 9) → Fits (c 9) .queries →
  Calls Tryz.prog 40 #[.agg #[.int .i64 c0, .int .i64 c1, .bool c2, .int .i64 c3, .int .i64 c4, .string c5, .string c6, .string c7, x8, x9]] w (IntE ((foldE depA c : Nat) : Int) w)
def QueryDepthP (q : Nat → Dat) : Prop := ∀ (c0 : Bool) (x1 x2 x3 x4 : Value) (c5 : Int) (w : World), Rd w 0 x1 (q 1) → Fits (q 1) .items → Rd w 0 x2 (q 2) → Fits (q 2) .sources → Rd w 0 x3 (q 3) → Fits (q 3) .exprs → Rd w 0 x4 (q 4) → Fits (q 4) .keys →
  Calls Tryz.prog 72 #[.agg #[.bool c0, x1, x2, x3, x4, .int .i64 c5]] w (IntE ((foldQ depA q : Nat) : Int) w)
set_option maxRecDepth 100000 in
set_option maxHeartbeats 8000000 in
theorem depthOf_step (c : Nat → Dat) (n8 n9 : Nat) (f8 f9 : Nat → Nat → Dat) (h8 : c 8 = .sl n8 10 f8) (h9 : c 9 = .sl n9 6 f9) (hN : foldE sizA c ≤ 1048577)
    (IHk : ∀ i, i < n8 → DepthOfP (f8 i)) (IHs : ∀ i, i < n9 → QueryDepthP (f9 i)) : DepthOfP c := by
  intro c0 c1 c2 c3 c4 c5 c6 c7 x8 x9 w r8 q8 r9 q9
  rw [h8] at r8 q8
  rw [h9] at r9 q9
  obtain ⟨a8, p8, rfl⟩ := r8.slice
  obtain ⟨a9, p9, rfl⟩ := r9.slice
  have hP := siz_parts h8 h9
  rw [hP] at hN
  have hU8 : ∀ {j : Nat}, j ≤ n8 → depA.of ((List.range j).map fun i => foldE depA (f8 i)) ≤ 1048577 := fun {j} hj => by
    have h2 := sizA_mono (g := fun i => foldE sizA (f8 i)) hj
    have h1 := dep_of_le j fun i _ => depE_le (f8 i)
    omega
  have hB8 : ∀ {j : Nat}, j < n8 → foldE depA (f8 j) ≤ 1048577 := fun {j} hj => by
    have h2 := sizA_el (g := fun i => foldE sizA (f8 i)) hj
    have h3 : (fun i => foldE sizA (f8 i)) j = foldE sizA (f8 j) := rfl
    have h4 := depE_le (f8 j)
    omega
  have hU9 : ∀ {j : Nat}, j ≤ n9 → depA.up (fold depA (.sl n8 10 f8) .exprs) (depA.of ((List.range j).map fun i => foldQ depA (f9 i))) ≤ 1048577 := fun {j} hj => by
    have h2 := sizA_mono (g := fun i => foldQ sizA (f9 i)) hj
    have h1 := dep_of_le j fun i _ => depQ_le (f9 i)
    have h3 := dep_of_le n8 fun i _ => depE_le (f8 i)
    rw [fold_ex]
    show max _ _ ≤ _
    omega
  have hB9 : ∀ {j : Nat}, j < n9 → foldQ depA (f9 j) ≤ 1048577 := fun {j} hj => by
    have h2 := sizA_el (g := fun i => foldQ sizA (f9 i)) hj
    have h3 : (fun i => foldQ sizA (f9 i)) j = foldQ sizA (f9 j) := rfl
    have h4 := depQ_le (f9 j)
    omega
  clear hP
  have hn8 := q8.2.1
  have hn9 := q9.2.1
  have H0 := BX.new w 79 #[.int .i64 c0, .int .i64 c1, .bool c2, .int .i64 c3, .int .i64 c4, .string c5, .string c6, .string c7, .slice a8 n8 p8, .slice a9 n9 p9]
  go_enter Tryz.func40, Tryz.ntmps40
  go_wp2_with fail
  generalize w.alloc (.cells #[.int .i64 c0, .int .i64 c1, .bool c2, .int .i64 c3, .int .i64 c4, .string c5, .string c6, .string c7, .slice a8 n8 p8, .slice a9 n9 p9] 79) = w0 at H0 ⊢
  go_loopw [3, 4] (fun m i wr => ∃ (j K : Nat), j ≤ n8 ∧ i = .int .i64 (j : Int) ∧ m = .int .i64 (K : Int) ∧ Hid (K = depA.of ((List.range j).map fun i => foldE depA (f8 i))) ∧ BX w wr 79 #[.int .i64 c0, .int .i64 c1, .bool c2, .int .i64 c3, .int .i64 c4, .string c5, .string c6, .string c7, .slice a8 n8 p8, .slice a9 n9 p9]) (fun _ i _ => n8 - (intOf i).toNat)
  case atStart => exact ⟨0, 0, by omega, rfl, rfl, rfl, H0⟩
  case round =>
    obtain ⟨j, K, hj, rfl, rfl, HK, H⟩ := hrel
    have b1 := H.box.cell (i := 8) (v := .slice a8 n8 p8) rfl
    by_cases hlt : j < n8
    · have hlt2 : (j : Int) < (n8 : Int) := by omega
      obtain ⟨g, o, rfl, -, hg, x0, x1, x2, x3, x4, x5, x6, x7, x8, x9, ⟨z0, z1, z2, z3, z4, z5, z6, z7, z8, z9⟩, ⟨⟨e0, b0⟩, ⟨e1, b1⟩, e2, ⟨e3, b3⟩, ⟨e4, b4⟩, ⟨e5, b5⟩, ⟨e6, b6⟩, ⟨e7, b7⟩, ⟨r8, q8_⟩, ⟨r9, q9_⟩⟩⟩ := row_exprs (r8.later H.b) q8 hlt
      have hS := fun w => IHk j hlt x0 x1 x2 x3 x4 x5 x6 x7 x8 x9 w
      have hle := hB8 (j := j) hlt
      generalize hV : foldE depA (f8 j) = V at hS hle
      have hK := HK.out
      have hKb : K ≤ 1048577 := by rw [hK]; exact hU8 (by omega)
      have HK2 : Hid (max K V = depA.of ((List.range (j + 1)).map fun i => foldE depA (f8 i))) := by
        show max K V = _
        rw [of_range, hK, hV]; all_goals rfl
      have hM := fun w => max_spec K V w (by omega) (by omega)
      generalize hMM : max K V = M at hM HK2
      clear hMM
      clear hV hK HK
      clear e0 e1 e2 e3 e4 e5 e6 e7
      go_wp2_with fail
      refine (hS _ (r8) q8_ (r9) q9_).mono ?_
      rintro e w1 ⟨rfl, hb⟩
      replace H := H.next hb
      clear hb hS
      go_wp2_with fail
      refine (hM _).mono ?_
      rintro e w2 ⟨rfl, rfl⟩
      go_wp2_with fail
      go_roundw
      case rel => exact ⟨j + 1, M, by omega, by go_num, rfl, HK2, H⟩
      case measure => simp [intOf]; omega
    · obtain rfl : n8 = j := by omega
      clear hlt hj
      go_wp2_with fail
      go_loopw [3, 5] (fun m i wr => ∃ (j K : Nat), j ≤ n9 ∧ i = .int .i64 (j : Int) ∧ m = .int .i64 (K : Int) ∧ Hid (K = depA.up (fold depA (.sl n8 10 f8) .exprs) (depA.of ((List.range j).map fun i => foldQ depA (f9 i)))) ∧ BX w wr 79 #[.int .i64 c0, .int .i64 c1, .bool c2, .int .i64 c3, .int .i64 c4, .string c5, .string c6, .string c7, .slice a8 n8 p8, .slice a9 n9 p9]) (fun _ i _ => n9 - (intOf i).toNat)
      case atStart => exact ⟨0, K, by omega, rfl, rfl, (by show K = depA.up _ (depA.of []); rw [fold_ex, HK.out]; show _ = max _ 0; omega), H⟩
      case round =>
        obtain ⟨j, K, hj, rfl, rfl, HK, H⟩ := hrel
        have b1 := H.box.cell (i := 9) (v := .slice a9 n9 p9) rfl
        by_cases hlt : j < n9
        · have hlt2 : (j : Int) < (n9 : Int) := by omega
          obtain ⟨g, o, rfl, -, hg, x0, x1, x2, x3, x4, x5, ⟨z0, z1, z2, z3, z4, z5⟩, ⟨e0, ⟨r1, q1_⟩, ⟨r2, q2_⟩, ⟨r3, q3_⟩, ⟨r4, q4_⟩, ⟨e5, b5⟩⟩⟩ := row_queries (r9.later H.b) q9 hlt
          have hS := fun w => IHs j hlt x0 x1 x2 x3 x4 x5 w
          have hle := hB9 (j := j) hlt
          generalize hV : foldQ depA (f9 j) = V at hS hle
          have hK := HK.out
          have hKb : K ≤ 1048577 := by rw [hK]; exact hU9 (by omega)
          have HK2 : Hid (max K V = depA.up (fold depA (.sl n8 10 f8) .exprs) (depA.of ((List.range (j + 1)).map fun i => foldQ depA (f9 i)))) := by
            show max K V = _
            rw [of_range, hK, hV]; all_goals (show max (max _ _) _ = max _ (max _ _); omega)
          have hM := fun w => max_spec K V w (by omega) (by omega)
          generalize hMM : max K V = M at hM HK2
          clear hMM
          clear hV hK HK
          clear e0 e5
          go_wp2_with fail
          refine (hS _ (r1) q1_ (r2) q2_ (r3) q3_ (r4) q4_).mono ?_
          rintro e w1 ⟨rfl, hb⟩
          replace H := H.next hb
          clear hb hS
          go_wp2_with fail
          refine (hM _).mono ?_
          rintro e w2 ⟨rfl, rfl⟩
          go_wp2_with fail
          go_roundw
          case rel => exact ⟨j + 1, M, by omega, by go_num, rfl, HK2, H⟩
          case measure => simp [intOf]; omega
        · obtain rfl : n9 = j := by omega
          have hK := HK.out
          have hKb : K ≤ 1048577 := by rw [hK]; exact hU9 (by omega)
          have HK3 : Hid (foldE depA c = K + 1) := by
            show foldE depA c = _
            rw [hK]; unfold foldE; rw [h8, h9, fold_qu]
            all_goals rfl
          clear hK HK hlt hj
          go_wp2_with fail
          go_ret
          exact ⟨ret_i64 (by rw [HK3.out] <;> omega), H.b⟩
set_option maxRecDepth 100000 in
set_option maxHeartbeats 8000000 in
theorem queryDepth_step (q : Nat → Dat) (n1 n2 n3 n4 : Nat) (f1 f2 f3 f4 : Nat → Nat → Dat) (h1 : q 1 = .sl n1 13 f1) (h2 : q 2 = .sl n2 3 f2) (h3 : q 3 = .sl n3 10 f3) (h4 : q 4 = .sl n4 11 f4) (hN : foldQ sizA q ≤ 1048576)
    (IH : ∀ e ∈ exprsOf q, DepthOfP e) : QueryDepthP q := by
  intro c0 x1 x2 x3 x4 c5 w r1 q1 r2 q2 r3 q3 r4 q4
  rw [h1] at r1 q1
  rw [h2] at r2 q2
  rw [h3] at r3 q3
  rw [h4] at r4 q4
  obtain ⟨a1, p1, rfl⟩ := r1.slice
  obtain ⟨a2, p2, rfl⟩ := r2.slice
  obtain ⟨a3, p3, rfl⟩ := r3.slice
  obtain ⟨a4, p4, rfl⟩ := r4.slice
  have hlen := exprs_len (q := q) (by rw [h1]; exact q1) (by rw [h2]; exact q2) (by rw [h3]; exact q3) (by rw [h4]; exact q4)
  have hfs := foldQ_is sizA_good (q := q) (by rw [h1]; exact q1) (by rw [h2]; exact q2) (by rw [h3]; exact q3) (by rw [h4]; exact q4)
  have hfd := foldQ_is depA_good (q := q) (by rw [h1]; exact q1) (by rw [h2]; exact q2) (by rw [h3]; exact q3) (by rw [h4]; exact q4)
  have hL : exprsOf q = ((exItems (.sl n1 13 f1) ++ exFrom (.sl n2 3 f2)) ++ (Dat.sl n3 10 f3).els) ++ (Dat.sl n4 11 f4).els := by unfold exprsOf; rw [h1, h2, h3, h4]
  have hcnt : (exItems (.sl n1 13 f1)).length + (exFrom (.sl n2 3 f2)).length + n3 + n4 ≤ 1048576 := by
    have := hL ▸ hlen
    simp only [List.length_append, els_len] at this
    omega
  have hX := fun w h => exprs_spec c0 a1 n1 p1 a2 n2 p2 a3 n3 p3 a4 n4 p4 c5 f1 f2 f3 f4 w (Rd.later r1 h) q1 (Rd.later r2 h) q2 (Rd.later r3 h) q3 (Rd.later r4 h) q4 hcnt
  rw [← hL] at hX
  have hz0 : ∃ z : Nat → Dat, z = fun _ => .v undef := ⟨_, rfl⟩
  obtain ⟨zz, -⟩ := hz0
  generalize exprsOf q = L at hlen hfs hfd hX IH
  have hLs : sizA.of ((List.range L.length).map fun i => foldE sizA (L.getD i zz)) ≤ 1048576 := by
    rw [range_getD (foldE sizA)]
    have : foldQ sizA q = sizA.of (L.map (foldE sizA)) := hfs
    omega
  have hfd2 : foldQ depA q = depA.of ((List.range L.length).map fun i => foldE depA (L.getD i zz)) := by rw [range_getD (foldE depA)]; exact hfd
  have hLl : L.length ≤ 1048576 := by omega
  have hin : ∀ j, j < L.length → DepthOfP (L.getD j zz) := fun j hj => IH _ (by rw [List.getD_eq_getElem?_getD, List.getElem?_eq_getElem hj]; exact List.getElem_mem hj)
  have hB : ∀ {j : Nat}, j < L.length → foldE depA (L.getD j zz) ≤ 1048576 := fun {j} hj => by
    have h2 := sizA_el (g := fun i => foldE sizA (L.getD i zz)) hj
    have h3 : (fun i => foldE sizA (L.getD i zz)) j = foldE sizA (L.getD j zz) := rfl
    have h4 := depE_le (L.getD j zz)
    omega
  have hU : ∀ {j : Nat}, j ≤ L.length → depA.of ((List.range j).map fun i => foldE depA (L.getD i zz)) ≤ 1048576 := fun {j} hj => by
    have h2 := sizA_mono (g := fun i => foldE sizA (L.getD i zz)) hj
    have h1 := dep_of_le j fun i _ => depE_le (L.getD i zz)
    omega
  have HFD := Lib.hid hfd2
  clear hfs hfd hfd2 hLs hlen hL IH h1 h2 h3 h4 hN hcnt
  have H0 := BX.new w 39 #[.bool c0, .slice a1 n1 p1, .slice a2 n2 p2, .slice a3 n3 p3, .slice a4 n4 p4, .int .i64 c5]
  go_enter Tryz.func72, Tryz.ntmps72
  go_wp2_with fail
  generalize w.alloc (.cells #[.bool c0, .slice a1 n1 p1, .slice a2 n2 p2, .slice a3 n3 p3, .slice a4 n4 p4, .int .i64 c5] 39) = w0 at H0 ⊢
  refine (hX _ H0.b).mono ?_
  rintro e w1 ⟨v, rfl, hO, hb⟩
  have H1 := H0.next hb
  obtain ⟨a, cap, rfl, hR, hF⟩ := hO.rd hb (by omega) zz
  clear hb hX hO
  go_wp2_with fail
  go_loopw [3, 5] (fun m i wr => ∃ (j K : Nat), j ≤ L.length ∧ i = .int .i64 (j : Int) ∧ m = .int .i64 (K : Int) ∧ Hid (K = depA.of ((List.range j).map fun i => foldE depA (L.getD i zz))) ∧ BX w wr 39 #[.bool c0, .slice a1 n1 p1, .slice a2 n2 p2, .slice a3 n3 p3, .slice a4 n4 p4, .int .i64 c5] ∧ Below w1.heap.size w1 wr) (fun _ i _ => L.length - (intOf i).toNat)
  case atStart => exact ⟨0, 0, by omega, rfl, rfl, rfl, H1, Below.refl _ _⟩
  case round =>
    obtain ⟨j, K, hj, rfl, rfl, HK, H, hB1⟩ := hrel
    by_cases hlt : j < L.length
    · have hlt2 : (j : Int) < (L.length : Int) := by omega
      obtain ⟨g, o, rfl, -, hg, x0, x1, x2, x3, x4, x5, x6, x7, x8, x9, ⟨z0, z1, z2, z3, z4, z5, z6, z7, z8, z9⟩, ⟨⟨e0, b0⟩, ⟨e1, b1⟩, e2, ⟨e3, b3⟩, ⟨e4, b4⟩, ⟨e5, b5⟩, ⟨e6, b6⟩, ⟨e7, b7⟩, ⟨r8, q8_⟩, ⟨r9, q9_⟩⟩⟩ := row_exprs (hR.later hB1) hF hlt
      have hS := fun w => hin j hlt x0 x1 x2 x3 x4 x5 x6 x7 x8 x9 w
      have hle := hB (j := j) hlt
      generalize hV : foldE depA (L.getD j zz) = V at hS hle
      have hK := HK.out
      have hKb : K ≤ 1048577 := by rw [hK]; have := hU (j := j) (by omega); omega
      have HK2 : Hid (max K V = depA.of ((List.range (j + 1)).map fun i => foldE depA (L.getD i zz))) := by
        show max K V = _
        rw [of_range, hK, hV]
        all_goals rfl
      have hM := fun w => max_spec K V w (by omega) (by omega)
      generalize hMM : max K V = M at hM HK2
      clear hMM
      clear hV hK HK e0 e1 e2 e3 e4 e5 e6 e7
      go_wp2_with fail
      refine (hS _ (r8) q8_ (r9) q9_).mono ?_
      rintro e w2 ⟨rfl, hb⟩
      replace H := H.next hb
      replace hB1 := hB1.trans (hb.mono hB1.size)
      clear hb hS
      go_wp2_with fail
      refine (hM _).mono ?_
      rintro e w3 ⟨rfl, rfl⟩
      go_wp2_with fail
      go_roundw
      case rel => exact ⟨j + 1, M, by omega, by go_num, rfl, HK2, H, hB1⟩
      case measure => simp [intOf]; omega
    · have ej : j = L.length := by omega
      subst ej
      have HK3 : Hid (foldQ depA q = K) := by
        show foldQ depA q = K
        rw [HFD.out, HK.out]
      clear HK hlt hj
      go_wp2_with fail
      go_ret
      exact ⟨ret_i64 (by rw [HK3.out]), H.b⟩
def SizeOfP (c : Nat → Dat) : Prop := ∀ (c0 c1 : Int) (c2 : Bool) (c3 c4 : Int) (c5 c6 c7 : ByteArray) (x8 x9 : Value) (w : World), Rd w 0 x8 (c 8) → Fits (c 8) .exprs → Rd w 0 x9 (c 9) → Fits (c 9) .queries →
  Calls Tryz.prog 41 #[.agg #[.int .i64 c0, .int .i64 c1, .bool c2, .int .i64 c3, .int .i64 c4, .string c5, .string c6, .string c7, x8, x9]] w (IntE ((foldE sizA c : Nat) : Int) w)
def QuerySizeP (q : Nat → Dat) : Prop := ∀ (c0 : Bool) (x1 x2 x3 x4 : Value) (c5 : Int) (w : World), Rd w 0 x1 (q 1) → Fits (q 1) .items → Rd w 0 x2 (q 2) → Fits (q 2) .sources → Rd w 0 x3 (q 3) → Fits (q 3) .exprs → Rd w 0 x4 (q 4) → Fits (q 4) .keys →
  Calls Tryz.prog 73 #[.agg #[.bool c0, x1, x2, x3, x4, .int .i64 c5]] w (IntE ((foldQ sizA q : Nat) : Int) w)
set_option maxRecDepth 100000 in
set_option maxHeartbeats 8000000 in
theorem sizeOf_step (c : Nat → Dat) (n8 n9 : Nat) (f8 f9 : Nat → Nat → Dat) (h8 : c 8 = .sl n8 10 f8) (h9 : c 9 = .sl n9 6 f9) (hN : foldE sizA c ≤ 1048577)
    (IHk : ∀ i, i < n8 → SizeOfP (f8 i)) (IHs : ∀ i, i < n9 → QuerySizeP (f9 i)) : SizeOfP c := by
  intro c0 c1 c2 c3 c4 c5 c6 c7 x8 x9 w r8 q8 r9 q9
  rw [h8] at r8 q8
  rw [h9] at r9 q9
  obtain ⟨a8, p8, rfl⟩ := r8.slice
  obtain ⟨a9, p9, rfl⟩ := r9.slice
  have hP := siz_parts h8 h9
  rw [hP] at hN
  have hU8 : ∀ {j : Nat}, j ≤ n8 → 1 + sizA.of ((List.range j).map fun i => foldE sizA (f8 i)) ≤ 1048577 := fun {j} hj => by
    have h2 := sizA_mono (g := fun i => foldE sizA (f8 i)) hj
    skip
    omega
  have hB8 : ∀ {j : Nat}, j < n8 → foldE sizA (f8 j) ≤ 1048577 := fun {j} hj => by
    have h2 := sizA_el (g := fun i => foldE sizA (f8 i)) hj
    have h3 : (fun i => foldE sizA (f8 i)) j = foldE sizA (f8 j) := rfl
    have h4 := depE_le (f8 j)
    omega
  have hU9 : ∀ {j : Nat}, j ≤ n9 → 1 + sizA.up (fold sizA (.sl n8 10 f8) .exprs) (sizA.of ((List.range j).map fun i => foldQ sizA (f9 i))) ≤ 1048577 := fun {j} hj => by
    have h2 := sizA_mono (g := fun i => foldQ sizA (f9 i)) hj
    rw [fold_ex]
    show 1 + (_ + _) ≤ _
    omega
  have hB9 : ∀ {j : Nat}, j < n9 → foldQ sizA (f9 j) ≤ 1048577 := fun {j} hj => by
    have h2 := sizA_el (g := fun i => foldQ sizA (f9 i)) hj
    have h3 : (fun i => foldQ sizA (f9 i)) j = foldQ sizA (f9 j) := rfl
    have h4 := depQ_le (f9 j)
    omega
  clear hP
  have hn8 := q8.2.1
  have hn9 := q9.2.1
  have H0 := BX.new w 79 #[.int .i64 c0, .int .i64 c1, .bool c2, .int .i64 c3, .int .i64 c4, .string c5, .string c6, .string c7, .slice a8 n8 p8, .slice a9 n9 p9]
  go_enter Tryz.func41, Tryz.ntmps41
  go_wp2_with fail
  generalize w.alloc (.cells #[.int .i64 c0, .int .i64 c1, .bool c2, .int .i64 c3, .int .i64 c4, .string c5, .string c6, .string c7, .slice a8 n8 p8, .slice a9 n9 p9] 79) = w0 at H0 ⊢
  go_loopw [3, 4] (fun m i wr => ∃ (j K : Nat), j ≤ n8 ∧ i = .int .i64 (j : Int) ∧ m = .int .i64 (K : Int) ∧ Hid (K = 1 + sizA.of ((List.range j).map fun i => foldE sizA (f8 i))) ∧ BX w wr 79 #[.int .i64 c0, .int .i64 c1, .bool c2, .int .i64 c3, .int .i64 c4, .string c5, .string c6, .string c7, .slice a8 n8 p8, .slice a9 n9 p9]) (fun _ i _ => n8 - (intOf i).toNat)
  case atStart => exact ⟨0, 1, by omega, rfl, rfl, rfl, H0⟩
  case round =>
    obtain ⟨j, K, hj, rfl, rfl, HK, H⟩ := hrel
    have b1 := H.box.cell (i := 8) (v := .slice a8 n8 p8) rfl
    by_cases hlt : j < n8
    · have hlt2 : (j : Int) < (n8 : Int) := by omega
      obtain ⟨g, o, rfl, -, hg, x0, x1, x2, x3, x4, x5, x6, x7, x8, x9, ⟨z0, z1, z2, z3, z4, z5, z6, z7, z8, z9⟩, ⟨⟨e0, b0⟩, ⟨e1, b1⟩, e2, ⟨e3, b3⟩, ⟨e4, b4⟩, ⟨e5, b5⟩, ⟨e6, b6⟩, ⟨e7, b7⟩, ⟨r8, q8_⟩, ⟨r9, q9_⟩⟩⟩ := row_exprs (r8.later H.b) q8 hlt
      have hS := fun w => IHk j hlt x0 x1 x2 x3 x4 x5 x6 x7 x8 x9 w
      have hle := hB8 (j := j) hlt
      generalize hV : foldE sizA (f8 j) = V at hS hle
      have hK := HK.out
      have hKb : K ≤ 1048577 := by rw [hK]; exact hU8 (by omega)
      have HK2 : Hid (K + V = 1 + sizA.of ((List.range (j + 1)).map fun i => foldE sizA (f8 i))) := by
        show K + V = _
        rw [of_range, hK, hV]; all_goals (show 1 + _ + _ = 1 + (_ + _); omega)
      clear hV hK HK
      clear e0 e1 e2 e3 e4 e5 e6 e7
      go_wp2_with fail
      refine (hS _ (r8) q8_ (r9) q9_).mono ?_
      rintro e w1 ⟨rfl, hb⟩
      replace H := H.next hb
      clear hb hS
      go_wp2_with fail
      go_roundw
      case rel => exact ⟨j + 1, K + V, by omega, by go_num, by go_num, HK2, H⟩
      case measure => simp [intOf]; omega
    · obtain rfl : n8 = j := by omega
      clear hlt hj
      go_wp2_with fail
      go_loopw [3, 5] (fun m i wr => ∃ (j K : Nat), j ≤ n9 ∧ i = .int .i64 (j : Int) ∧ m = .int .i64 (K : Int) ∧ Hid (K = 1 + sizA.up (fold sizA (.sl n8 10 f8) .exprs) (sizA.of ((List.range j).map fun i => foldQ sizA (f9 i)))) ∧ BX w wr 79 #[.int .i64 c0, .int .i64 c1, .bool c2, .int .i64 c3, .int .i64 c4, .string c5, .string c6, .string c7, .slice a8 n8 p8, .slice a9 n9 p9]) (fun _ i _ => n9 - (intOf i).toNat)
      case atStart => exact ⟨0, K, by omega, rfl, rfl, (by show K = 1 + sizA.up _ (sizA.of []); rw [fold_ex, HK.out]; show _ = 1 + (_ + 0); omega), H⟩
      case round =>
        obtain ⟨j, K, hj, rfl, rfl, HK, H⟩ := hrel
        have b1 := H.box.cell (i := 9) (v := .slice a9 n9 p9) rfl
        by_cases hlt : j < n9
        · have hlt2 : (j : Int) < (n9 : Int) := by omega
          obtain ⟨g, o, rfl, -, hg, x0, x1, x2, x3, x4, x5, ⟨z0, z1, z2, z3, z4, z5⟩, ⟨e0, ⟨r1, q1_⟩, ⟨r2, q2_⟩, ⟨r3, q3_⟩, ⟨r4, q4_⟩, ⟨e5, b5⟩⟩⟩ := row_queries (r9.later H.b) q9 hlt
          have hS := fun w => IHs j hlt x0 x1 x2 x3 x4 x5 w
          have hle := hB9 (j := j) hlt
          generalize hV : foldQ sizA (f9 j) = V at hS hle
          have hK := HK.out
          have hKb : K ≤ 1048577 := by rw [hK]; exact hU9 (by omega)
          have HK2 : Hid (K + V = 1 + sizA.up (fold sizA (.sl n8 10 f8) .exprs) (sizA.of ((List.range (j + 1)).map fun i => foldQ sizA (f9 i)))) := by
            show K + V = _
            rw [of_range, hK, hV]; all_goals (show 1 + (_ + _) + _ = 1 + (_ + (_ + _)); omega)
          clear hV hK HK
          clear e0 e5
          go_wp2_with fail
          refine (hS _ (r1) q1_ (r2) q2_ (r3) q3_ (r4) q4_).mono ?_
          rintro e w1 ⟨rfl, hb⟩
          replace H := H.next hb
          clear hb hS
          go_wp2_with fail
          go_roundw
          case rel => exact ⟨j + 1, K + V, by omega, by go_num, by go_num, HK2, H⟩
          case measure => simp [intOf]; omega
        · obtain rfl : n9 = j := by omega
          have hK := HK.out
          have hKb : K ≤ 1048577 := by rw [hK]; exact hU9 (by omega)
          have HK3 : Hid (foldE sizA c = K) := by
            show foldE sizA c = _
            rw [hK]; unfold foldE; rw [h8, h9, fold_qu]
            all_goals (show _ + 1 = 1 + _; omega)
          clear hK HK hlt hj
          go_wp2_with fail
          go_ret
          exact ⟨ret_i64 (by rw [HK3.out] <;> omega), H.b⟩
set_option maxRecDepth 100000 in
set_option maxHeartbeats 8000000 in
theorem querySize_step (q : Nat → Dat) (n1 n2 n3 n4 : Nat) (f1 f2 f3 f4 : Nat → Nat → Dat) (h1 : q 1 = .sl n1 13 f1) (h2 : q 2 = .sl n2 3 f2) (h3 : q 3 = .sl n3 10 f3) (h4 : q 4 = .sl n4 11 f4) (hN : foldQ sizA q ≤ 1048576)
    (IH : ∀ e ∈ exprsOf q, SizeOfP e) : QuerySizeP q := by
  intro c0 x1 x2 x3 x4 c5 w r1 q1 r2 q2 r3 q3 r4 q4
  rw [h1] at r1 q1
  rw [h2] at r2 q2
  rw [h3] at r3 q3
  rw [h4] at r4 q4
  obtain ⟨a1, p1, rfl⟩ := r1.slice
  obtain ⟨a2, p2, rfl⟩ := r2.slice
  obtain ⟨a3, p3, rfl⟩ := r3.slice
  obtain ⟨a4, p4, rfl⟩ := r4.slice
  have hlen := exprs_len (q := q) (by rw [h1]; exact q1) (by rw [h2]; exact q2) (by rw [h3]; exact q3) (by rw [h4]; exact q4)
  have hfs := foldQ_is sizA_good (q := q) (by rw [h1]; exact q1) (by rw [h2]; exact q2) (by rw [h3]; exact q3) (by rw [h4]; exact q4)
  have hfd := foldQ_is sizA_good (q := q) (by rw [h1]; exact q1) (by rw [h2]; exact q2) (by rw [h3]; exact q3) (by rw [h4]; exact q4)
  have hL : exprsOf q = ((exItems (.sl n1 13 f1) ++ exFrom (.sl n2 3 f2)) ++ (Dat.sl n3 10 f3).els) ++ (Dat.sl n4 11 f4).els := by unfold exprsOf; rw [h1, h2, h3, h4]
  have hcnt : (exItems (.sl n1 13 f1)).length + (exFrom (.sl n2 3 f2)).length + n3 + n4 ≤ 1048576 := by
    have := hL ▸ hlen
    simp only [List.length_append, els_len] at this
    omega
  have hX := fun w h => exprs_spec c0 a1 n1 p1 a2 n2 p2 a3 n3 p3 a4 n4 p4 c5 f1 f2 f3 f4 w (Rd.later r1 h) q1 (Rd.later r2 h) q2 (Rd.later r3 h) q3 (Rd.later r4 h) q4 hcnt
  rw [← hL] at hX
  have hz0 : ∃ z : Nat → Dat, z = fun _ => .v undef := ⟨_, rfl⟩
  obtain ⟨zz, -⟩ := hz0
  generalize exprsOf q = L at hlen hfs hfd hX IH
  have hLs : sizA.of ((List.range L.length).map fun i => foldE sizA (L.getD i zz)) ≤ 1048576 := by
    rw [range_getD (foldE sizA)]
    have : foldQ sizA q = sizA.of (L.map (foldE sizA)) := hfs
    omega
  have hfd2 : foldQ sizA q = sizA.of ((List.range L.length).map fun i => foldE sizA (L.getD i zz)) := by rw [range_getD (foldE sizA)]; exact hfd
  have hLl : L.length ≤ 1048576 := by omega
  have hin : ∀ j, j < L.length → SizeOfP (L.getD j zz) := fun j hj => IH _ (by rw [List.getD_eq_getElem?_getD, List.getElem?_eq_getElem hj]; exact List.getElem_mem hj)
  have hB : ∀ {j : Nat}, j < L.length → foldE sizA (L.getD j zz) ≤ 1048576 := fun {j} hj => by
    have h2 := sizA_el (g := fun i => foldE sizA (L.getD i zz)) hj
    have h3 : (fun i => foldE sizA (L.getD i zz)) j = foldE sizA (L.getD j zz) := rfl
    have h4 := depE_le (L.getD j zz)
    omega
  have hU : ∀ {j : Nat}, j ≤ L.length → sizA.of ((List.range j).map fun i => foldE sizA (L.getD i zz)) ≤ 1048576 := fun {j} hj => by
    have h2 := sizA_mono (g := fun i => foldE sizA (L.getD i zz)) hj
    have h1 := dep_of_le j fun i _ => depE_le (L.getD i zz)
    omega
  have HFD := Lib.hid hfd2
  clear hfs hfd hfd2 hLs hlen hL IH h1 h2 h3 h4 hN hcnt
  have H0 := BX.new w 39 #[.bool c0, .slice a1 n1 p1, .slice a2 n2 p2, .slice a3 n3 p3, .slice a4 n4 p4, .int .i64 c5]
  go_enter Tryz.func73, Tryz.ntmps73
  go_wp2_with fail
  generalize w.alloc (.cells #[.bool c0, .slice a1 n1 p1, .slice a2 n2 p2, .slice a3 n3 p3, .slice a4 n4 p4, .int .i64 c5] 39) = w0 at H0 ⊢
  refine (hX _ H0.b).mono ?_
  rintro e w1 ⟨v, rfl, hO, hb⟩
  have H1 := H0.next hb
  obtain ⟨a, cap, rfl, hR, hF⟩ := hO.rd hb (by omega) zz
  clear hb hX hO
  go_wp2_with fail
  go_loopw [3, 5] (fun m i wr => ∃ (j K : Nat), j ≤ L.length ∧ i = .int .i64 (j : Int) ∧ m = .int .i64 (K : Int) ∧ Hid (K = sizA.of ((List.range j).map fun i => foldE sizA (L.getD i zz))) ∧ BX w wr 39 #[.bool c0, .slice a1 n1 p1, .slice a2 n2 p2, .slice a3 n3 p3, .slice a4 n4 p4, .int .i64 c5] ∧ Below w1.heap.size w1 wr) (fun _ i _ => L.length - (intOf i).toNat)
  case atStart => exact ⟨0, 0, by omega, rfl, rfl, rfl, H1, Below.refl _ _⟩
  case round =>
    obtain ⟨j, K, hj, rfl, rfl, HK, H, hB1⟩ := hrel
    by_cases hlt : j < L.length
    · have hlt2 : (j : Int) < (L.length : Int) := by omega
      obtain ⟨g, o, rfl, -, hg, x0, x1, x2, x3, x4, x5, x6, x7, x8, x9, ⟨z0, z1, z2, z3, z4, z5, z6, z7, z8, z9⟩, ⟨⟨e0, b0⟩, ⟨e1, b1⟩, e2, ⟨e3, b3⟩, ⟨e4, b4⟩, ⟨e5, b5⟩, ⟨e6, b6⟩, ⟨e7, b7⟩, ⟨r8, q8_⟩, ⟨r9, q9_⟩⟩⟩ := row_exprs (hR.later hB1) hF hlt
      have hS := fun w => hin j hlt x0 x1 x2 x3 x4 x5 x6 x7 x8 x9 w
      have hle := hB (j := j) hlt
      generalize hV : foldE sizA (L.getD j zz) = V at hS hle
      have hK := HK.out
      have hKb : K ≤ 1048577 := by rw [hK]; have := hU (j := j) (by omega); omega
      have HK2 : Hid (K + V = sizA.of ((List.range (j + 1)).map fun i => foldE sizA (L.getD i zz))) := by
        show K + V = _
        rw [of_range, hK, hV]
        all_goals rfl
      clear hV hK HK e0 e1 e2 e3 e4 e5 e6 e7
      go_wp2_with fail
      refine (hS _ (r8) q8_ (r9) q9_).mono ?_
      rintro e w2 ⟨rfl, hb⟩
      replace H := H.next hb
      replace hB1 := hB1.trans (hb.mono hB1.size)
      clear hb hS
      go_wp2_with fail
      go_roundw
      case rel => exact ⟨j + 1, K + V, by omega, by go_num, by go_num, HK2, H, hB1⟩
      case measure => simp [intOf]; omega
    · have ej : j = L.length := by omega
      subst ej
      have HK3 : Hid (foldQ sizA q = K) := by
        show foldQ sizA q = K
        rw [HFD.out, HK.out]
      clear HK hlt hj
      go_wp2_with fail
      go_ret
      exact ⟨ret_i64 (by rw [HK3.out]), H.b⟩
theorem exprs_fits {q : Nat → Dat} (h1 : Fits (q 1) .items) (h2 : Fits (q 2) .sources) (h3 : Fits (q 3) .exprs) (h4 : Fits (q 4) .keys) : ∀ e ∈ exprsOf q, Fits (e 8) .exprs ∧ Fits (e 9) .queries := by
  have hE : ∀ {d : Dat}, Fits d .exprs → ∀ e ∈ d.els, Fits (e 8) .exprs ∧ Fits (e 9) .queries := fun {d} hd e he => by
    obtain ⟨n, k, f, rfl⟩ := hd.deep rfl
    obtain ⟨i, hi, rfl⟩ := List.mem_map.1 he
    replace hi := List.mem_range.1 hi
    exact ⟨hd.2.2.2 i hi 8 (by decide), hd.2.2.2 i hi 9 (by decide)⟩
  intro e he
  unfold exprsOf at he
  rcases List.mem_append.1 he with he | he
  · rcases List.mem_append.1 he with he | he
    · rcases List.mem_append.1 he with he | he
      · obtain ⟨n, k, f, hq⟩ := h1.deep rfl
        rw [hq] at h1 he
        obtain ⟨c, hc, rfl⟩ := List.mem_map.1 he
        obtain ⟨i, hi, rfl⟩ := List.mem_map.1 (List.mem_filter.1 hc).1
        replace hi := List.mem_range.1 hi
        exact ⟨h1.2.2.2 i hi 10 (by decide), h1.2.2.2 i hi 11 (by decide)⟩
      · obtain ⟨n, k, f, hq⟩ := h2.deep rfl
        rw [hq] at h2 he
        obtain ⟨c, hc, he⟩ := List.mem_flatMap.1 he
        obtain ⟨i, hi, rfl⟩ := List.mem_map.1 hc
        replace hi := List.mem_range.1 hi
        exact hE (h2.2.2.2 i hi 2 (by decide)) e he
    · exact hE h3 e he
  · obtain ⟨n, k, f, hq⟩ := h4.deep rfl
    rw [hq] at h4 he
    obtain ⟨i, hi, rfl⟩ := List.mem_map.1 he
    replace hi := List.mem_range.1 hi
    exact ⟨h4.2.2.2 i hi 8 (by decide), h4.2.2.2 i hi 9 (by decide)⟩
theorem exprs_siz {q : Nat → Dat} (h1 : Fits (q 1) .items) (h2 : Fits (q 2) .sources) (h3 : Fits (q 3) .exprs) (h4 : Fits (q 4) .keys) (e : Nat → Dat) (he : e ∈ exprsOf q) : foldE sizA e ≤ foldQ sizA q := by
  rw [foldQ_is sizA_good h1 h2 h3 h4]
  show _ ≤ sizA.of _
  have h : ∀ L : List (Nat → Dat), e ∈ L → foldE sizA e ≤ sizA.of (L.map (foldE sizA)) := fun L => by
    induction L with
    | nil => intro h; cases h
    | cons c L ih =>
      intro h
      rw [List.map_cons, sizA_good.of_cons]
      show _ ≤ _ + _
      rcases List.mem_cons.1 h with rfl | h
      · omega
      · have := ih h; omega
  exact h _ he
theorem knot_queryDepth (q : Nat → Dat) (hN : foldQ sizA q ≤ 1048576) (h1 : Fits (q 1) .items) (h2 : Fits (q 2) .sources) (h3 : Fits (q 3) .exprs) (h4 : Fits (q 4) .keys)
    (IH : ∀ e ∈ exprsOf q, Fits (e 8) .exprs → Fits (e 9) .queries → DepthOfP e) : QueryDepthP q := by
  have hx := exprs_fits h1 h2 h3 h4
  obtain ⟨n1, k1, f1, e1⟩ := h1.deep rfl
  obtain ⟨n2, k2, f2, e2⟩ := h2.deep rfl
  obtain ⟨n3, k3, f3, e3⟩ := h3.deep rfl
  obtain ⟨n4, k4, f4, e4⟩ := h4.deep rfl
  rw [e1] at h1
  rw [e2] at h2
  rw [e3] at h3
  rw [e4] at h4
  obtain rfl : k1 = 13 := h1.2.2.1
  obtain rfl : k2 = 3 := h2.2.2.1
  obtain rfl : k3 = 10 := h3.2.2.1
  obtain rfl : k4 = 11 := h4.2.2.1
  exact queryDepth_step q n1 n2 n3 n4 f1 f2 f3 f4 e1 e2 e3 e4 hN fun e he => IH e he (hx e he).1 (hx e he).2
theorem depthOf_all : ∀ N : Nat, (∀ c : Nat → Dat, foldE sizA c ≤ N → N ≤ 1048577 → Fits (c 8) .exprs → Fits (c 9) .queries → DepthOfP c) ∧
    (∀ q : Nat → Dat, foldQ sizA q ≤ N → N ≤ 1048576 → Fits (q 1) .items → Fits (q 2) .sources → Fits (q 3) .exprs → Fits (q 4) .keys → QueryDepthP q) := by
  intro N
  induction N with
  | zero =>
    have hE : ∀ c : Nat → Dat, foldE sizA c ≤ 0 → 0 ≤ 1048577 → Fits (c 8) .exprs → Fits (c 9) .queries → DepthOfP c := fun c h _ _ _ => by have := sizE_pos c; omega
    exact ⟨hE, fun q h _ h1 h2 h3 h4 => knot_queryDepth q (Nat.le_trans h (by omega)) h1 h2 h3 h4 fun e he hf8 hf9 => hE e (Nat.le_trans (exprs_siz h1 h2 h3 h4 e he) h) (by omega) hf8 hf9⟩
  | succ N ih =>
    have hE : ∀ c : Nat → Dat, foldE sizA c ≤ N + 1 → N + 1 ≤ 1048577 → Fits (c 8) .exprs → Fits (c 9) .queries → DepthOfP c := fun c h hb h8 h9 => by
      obtain ⟨n8, k8, f8, e8⟩ := h8.deep rfl
      obtain ⟨n9, k9, f9, e9⟩ := h9.deep rfl
      rw [e8] at h8
      rw [e9] at h9
      obtain rfl : k8 = 10 := h8.2.2.1
      obtain rfl : k9 = 6 := h9.2.2.1
      have hp := siz_parts e8 e9
      refine depthOf_step c n8 n9 f8 f9 e8 e9 (by omega) (fun i hi => ih.1 _ ?_ (by omega) (h8.2.2.2 i hi 8 (by decide)) (h8.2.2.2 i hi 9 (by decide))) (fun i hi => ih.2 _ ?_ (by omega) (h9.2.2.2 i hi 1 (by decide)) (h9.2.2.2 i hi 2 (by decide)) (h9.2.2.2 i hi 3 (by decide)) (h9.2.2.2 i hi 4 (by decide)))
      · have h2 := sizA_el (g := fun i => foldE sizA (f8 i)) hi
        have h3 : (fun i => foldE sizA (f8 i)) i = foldE sizA (f8 i) := rfl
        omega
      · have h2 := sizA_el (g := fun i => foldQ sizA (f9 i)) hi
        have h3 : (fun i => foldQ sizA (f9 i)) i = foldQ sizA (f9 i) := rfl
        omega
    exact ⟨hE, fun q h hb h1 h2 h3 h4 => knot_queryDepth q (Nat.le_trans h hb) h1 h2 h3 h4 fun e he hf8 hf9 => hE e (Nat.le_trans (exprs_siz h1 h2 h3 h4 e he) h) (by omega) hf8 hf9⟩
theorem knot_querySize (q : Nat → Dat) (hN : foldQ sizA q ≤ 1048576) (h1 : Fits (q 1) .items) (h2 : Fits (q 2) .sources) (h3 : Fits (q 3) .exprs) (h4 : Fits (q 4) .keys)
    (IH : ∀ e ∈ exprsOf q, Fits (e 8) .exprs → Fits (e 9) .queries → SizeOfP e) : QuerySizeP q := by
  have hx := exprs_fits h1 h2 h3 h4
  obtain ⟨n1, k1, f1, e1⟩ := h1.deep rfl
  obtain ⟨n2, k2, f2, e2⟩ := h2.deep rfl
  obtain ⟨n3, k3, f3, e3⟩ := h3.deep rfl
  obtain ⟨n4, k4, f4, e4⟩ := h4.deep rfl
  rw [e1] at h1
  rw [e2] at h2
  rw [e3] at h3
  rw [e4] at h4
  obtain rfl : k1 = 13 := h1.2.2.1
  obtain rfl : k2 = 3 := h2.2.2.1
  obtain rfl : k3 = 10 := h3.2.2.1
  obtain rfl : k4 = 11 := h4.2.2.1
  exact querySize_step q n1 n2 n3 n4 f1 f2 f3 f4 e1 e2 e3 e4 hN fun e he => IH e he (hx e he).1 (hx e he).2
theorem sizeOf_all : ∀ N : Nat, (∀ c : Nat → Dat, foldE sizA c ≤ N → N ≤ 1048577 → Fits (c 8) .exprs → Fits (c 9) .queries → SizeOfP c) ∧
    (∀ q : Nat → Dat, foldQ sizA q ≤ N → N ≤ 1048576 → Fits (q 1) .items → Fits (q 2) .sources → Fits (q 3) .exprs → Fits (q 4) .keys → QuerySizeP q) := by
  intro N
  induction N with
  | zero =>
    have hE : ∀ c : Nat → Dat, foldE sizA c ≤ 0 → 0 ≤ 1048577 → Fits (c 8) .exprs → Fits (c 9) .queries → SizeOfP c := fun c h _ _ _ => by have := sizE_pos c; omega
    exact ⟨hE, fun q h _ h1 h2 h3 h4 => knot_querySize q (Nat.le_trans h (by omega)) h1 h2 h3 h4 fun e he hf8 hf9 => hE e (Nat.le_trans (exprs_siz h1 h2 h3 h4 e he) h) (by omega) hf8 hf9⟩
  | succ N ih =>
    have hE : ∀ c : Nat → Dat, foldE sizA c ≤ N + 1 → N + 1 ≤ 1048577 → Fits (c 8) .exprs → Fits (c 9) .queries → SizeOfP c := fun c h hb h8 h9 => by
      obtain ⟨n8, k8, f8, e8⟩ := h8.deep rfl
      obtain ⟨n9, k9, f9, e9⟩ := h9.deep rfl
      rw [e8] at h8
      rw [e9] at h9
      obtain rfl : k8 = 10 := h8.2.2.1
      obtain rfl : k9 = 6 := h9.2.2.1
      have hp := siz_parts e8 e9
      refine sizeOf_step c n8 n9 f8 f9 e8 e9 (by omega) (fun i hi => ih.1 _ ?_ (by omega) (h8.2.2.2 i hi 8 (by decide)) (h8.2.2.2 i hi 9 (by decide))) (fun i hi => ih.2 _ ?_ (by omega) (h9.2.2.2 i hi 1 (by decide)) (h9.2.2.2 i hi 2 (by decide)) (h9.2.2.2 i hi 3 (by decide)) (h9.2.2.2 i hi 4 (by decide)))
      · have h2 := sizA_el (g := fun i => foldE sizA (f8 i)) hi
        have h3 : (fun i => foldE sizA (f8 i)) i = foldE sizA (f8 i) := rfl
        omega
      · have h2 := sizA_el (g := fun i => foldQ sizA (f9 i)) hi
        have h3 : (fun i => foldQ sizA (f9 i)) i = foldQ sizA (f9 i) := rfl
        omega
    exact ⟨hE, fun q h hb h1 h2 h3 h4 => knot_querySize q (Nat.le_trans h hb) h1 h2 h3 h4 fun e he hf8 hf9 => hE e (Nat.le_trans (exprs_siz h1 h2 h3 h4 e he) h) (by omega) hf8 hf9⟩
end Go.Proofs.YtcliijfdlcagoaaGreat
