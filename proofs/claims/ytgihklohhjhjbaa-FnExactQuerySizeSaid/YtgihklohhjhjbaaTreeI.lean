
/- The program's DepthOf, SizeOf, QueryDepth and QuerySize, as the laws take them. -/
import Derived.Test.YtgihklohhjhjbaaDeep
import Derived.Test.YtgihklohhjhjbaaExLaw
namespace Go.Proofs.Ytgihklohhjhjbaa
open Go.RowKit

/-- an expression as the contracts take it -/
def ndOf (c0 c1 : Int) (c2 : Bool) (c3 c4 : Int) (c5 c6 c7 : ByteArray) (c : Nd) : Nd := fun j => match j with
  | 0 => .v (.int .i64 c0) | 1 => .v (.int .i64 c1) | 2 => .v (.bool c2) | 3 => .v (.int .i64 c3) | 4 => .v (.int .i64 c4) | 5 => .v (.string c5) | 6 => .v (.string c6) | 7 => .v (.string c7) | j => c j
theorem ndOf_out {c0 c1 : Int} {c2 : Bool} {c3 c4 : Int} {c5 c6 c7 : ByteArray} {c : Nd} {x8 x9 : Value} {w : World} (b0 : I64 c0) (b1 : I64 c1) (b3 : I64 c3) (b4 : I64 c4) (b5 : c5.size ≤ 9223372036854775807) (b6 : c6.size ≤ 9223372036854775807) (b7 : c7.size ≤ 9223372036854775807)
    (r8 : Rd w 0 x8 (c 8)) (q8 : Fits (c 8) .exprs) (r9 : Rd w 0 x9 (c 9)) (q9 : Fits (c 9) .queries) :
    OutP w [.int .i64 c0, .int .i64 c1, .bool c2, .int .i64 c3, .int .i64 c4, .string c5, .string c6, .string c7, x8, x9] [ndOf c0 c1 c2 c3 c4 c5 c6 c7 c] := OutP.one rfl (fun m hm => match m, hm with
  | 0, _ => ⟨_, rfl, rfl, ⟨_, rfl, b0⟩⟩
  | 1, _ => ⟨_, rfl, rfl, ⟨_, rfl, b1⟩⟩
  | 2, _ => ⟨_, rfl, rfl, ⟨_, rfl⟩⟩
  | 3, _ => ⟨_, rfl, rfl, ⟨_, rfl, b3⟩⟩
  | 4, _ => ⟨_, rfl, rfl, ⟨_, rfl, b4⟩⟩
  | 5, _ => ⟨_, rfl, rfl, ⟨_, rfl, b5⟩⟩
  | 6, _ => ⟨_, rfl, rfl, ⟨_, rfl, b6⟩⟩
  | 7, _ => ⟨_, rfl, rfl, ⟨_, rfl, b7⟩⟩
  | 8, _ => ⟨_, rfl, r8, q8⟩
  | 9, _ => ⟨_, rfl, r9, q9⟩
  | m + 10, hm => absurd hm (by simp [exprTy]))

theorem mem_exprsOf_bd {d : Dat} {ty : Ty} {M : Nat} (hf : Fits d ty) (hm : msr d ≤ M) (hM : M ≤ 1048576) (nd : Nd) (p : Nat × Nd) (hp : p ∈ fold preA d ty) (he : p.2 = nd) : Bd nd := by
  obtain ⟨a, b, c, e⟩ := pre_bd d ty hf p hp
  subst he
  exact ⟨by omega, by omega, c, e⟩
theorem queryBd {c : Nd} (q1 : Fits (c 1) .items) (q2 : Fits (c 2) .sources) (q3 : Fits (c 3) .exprs) (q4 : Fits (c 4) .keys) (m1 : msr (c 1) ≤ 1048576) (m2 : msr (c 2) ≤ 1048576) (m3 : msr (c 3) ≤ 1048576) (m4 : msr (c 4) ≤ 1048576) : ∀ nd ∈ exprsOf c, Bd nd := by
  intro nd hnd
  have hq : foldQ preA c = (exprsOf c).flatMap (foldE preA) := by
    rw [foldQ_is preA_good q1 q2 q3 q4, preA_of]; rfl
  have h0 : (0, nd) ∈ foldQ preA c := by
    rw [hq, List.mem_flatMap]
    exact ⟨nd, hnd, by unfold foldE; exact List.mem_cons_self ..⟩
  unfold foldQ at h0
  simp only [preA, List.mem_append] at h0
  rcases h0 with ((h | h) | h) | h
  · exact mem_exprsOf_bd q1 (Nat.le_refl _) m1 nd _ h rfl
  · exact mem_exprsOf_bd q2 (Nat.le_refl _) m2 nd _ h rfl
  · exact mem_exprsOf_bd q3 (Nat.le_refl _) m3 nd _ h rfl
  · exact mem_exprsOf_bd q4 (Nat.le_refl _) m4 nd _ h rfl
set_option maxRecDepth 100000 in
set_option maxHeartbeats 2000000 in
theorem DepthOf_impl : ∀ c : Nat → Dat, msr (c 8) + msr (c 9) ≤ 1048576 → Fits (c 8) .exprs → Fits (c 9) .queries → DepthOfI c := by
  intro c hm _ _ c0 c1 c2 c3 c4 c5 c6 c7 x8 x9 W b0 b1 b3 b4 b5 b6 b7 r8 q8 r9 q9
  have hout := ndOf_out (c2 := c2) b0 b1 b3 b4 b5 b6 b7 r8 q8 r9 q9
  have hbd : Bd (ndOf c0 c1 c2 c3 c4 c5 c6 c7 c) := ⟨by show msr (c 8) ≤ _; omega, by show msr (c 9) ≤ _; omega, q8, q9⟩
  have hfold : foldE depA (ndOf c0 c1 c2 c3 c4 c5 c6 c7 c) = foldE depA c := rfl
  have hsz : foldE sizA (ndOf c0 c1 c2 c3 c4 c5 c6 c7 c) ≤ 1048577 := by
    have g8 := siz_le (c 8) _ q8
    have g9 := siz_le (c 9) _ q9
    show (fold sizA (c 8) .exprs + fold sizA (c 9) .queries) + 1 ≤ _
    omega
  obtain ⟨a8, n8, p8, rfl⟩ := r8.slice_of q8 rfl
  obtain ⟨a9, n9, p9, rfl⟩ := r9.slice_of q9 rfl
  have HB := BX.new W 29 #[.int .i64 c0, .int .i64 c1, .bool c2, .int .i64 c3, .int .i64 c4, .string c5, .string c6, .string c7, .slice a8 n8 p8, .slice a9 n9 p9]
  rw [← hfold]
  generalize ndOf c0 c1 c2 c3 c4 c5 c6 c7 c = nd at hout hbd hsz ⊢
  have x0 := HB.box.cell (i := 0) (v := .int .i64 c0) rfl
  have x1 := HB.box.cell (i := 1) (v := .int .i64 c1) rfl
  have x2 := HB.box.cell (i := 2) (v := .bool c2) rfl
  have x3 := HB.box.cell (i := 3) (v := .int .i64 c3) rfl
  have x4 := HB.box.cell (i := 4) (v := .int .i64 c4) rfl
  have x5 := HB.box.cell (i := 5) (v := .string c5) rfl
  have x6 := HB.box.cell (i := 6) (v := .string c6) rfl
  have x7 := HB.box.cell (i := 7) (v := .string c7) rfl
  have x8 := HB.box.cell (i := 8) (v := .slice a8 n8 p8) rfl
  have x9 := HB.box.cell (i := 9) (v := .slice a9 n9 p9) rfl
  go_enter Try.func17, Try.ntmps17
  have s1 : (W.alloc (.cells #[.int .i64 c0, .int .i64 c1, .bool c2, .int .i64 c3, .int .i64 c4, .string c5, .string c6, .string c7, .slice a8 n8 p8, .slice a9 n9 p9] 29)).heap.size = W.heap.size + 1 := by simp
  go_wp2_with fail
  generalize W.alloc (.cells #[.int .i64 c0, .int .i64 c1, .bool c2, .int .i64 c3, .int .i64 c4, .string c5, .string c6, .string c7, .slice a8 n8 p8, .slice a9 n9 p9] 29) = w1 at HB s1 ⊢
  have h2 := RowAt.new w1 29 #[.int .i64 c0, .int .i64 c1, .bool c2, .int .i64 c3, .int .i64 c4, .string c5, .string c6, .string c7, .slice a8 n8 p8, .slice a9 n9 p9]
  have hal : Below w1.heap.size w1 (w1.alloc (.cells #[.int .i64 c0, .int .i64 c1, .bool c2, .int .i64 c3, .int .i64 c4, .string c5, .string c6, .string c7, .slice a8 n8 p8, .slice a9 n9 p9] 29)) := (Below.refl _ _).alloc (Nat.le_refl _) _
  rw [s1] at h2
  generalize w1.alloc (.cells #[.int .i64 c0, .int .i64 c1, .bool c2, .int .i64 c3, .int .i64 c4, .string c5, .string c6, .string c7, .slice a8 n8 p8, .slice a9 n9 p9] 29) = w2 at h2 hal ⊢
  have hB2 := HB.b.trans (hal.mono HB.b.size)
  have hlk : LK exprTy W w2 (fun _ => True) (.slice (some ⟨W.heap.size + 1, 0, none⟩) 1 1) [nd] :=
    ⟨_, 1, _, rfl, hout, .inr ⟨W.heap.size + 1, 0, rfl, Nat.le_refl _, trivial, h2.lt, fun j u hj => by rw [Nat.zero_add]; exact h2.cell (by simpa using hj)⟩⟩
  have hlen : ([nd].flatMap (pre 1)).length ≤ 2000000 := by
    rw [len_flat]
    show sizA.of [foldE sizA nd] ≤ _
    rw [sizA_good.of_cons]
    show _ + 0 ≤ _
    omega
  refine (deepest_any W w2 [nd] _ hB2 hlk (fun c hc => by rw [List.mem_singleton.1 hc]; exact hbd) hlen).mono ?_
  rintro e w3 ⟨rfl, hb3⟩
  have hval : mx ([nd].flatMap (pre 1)) = foldE depA nd := by
    rw [mx_flat]; show depA.of [foldE depA nd] = _; rw [depA_good.of_cons]; show max _ 0 = _; omega
  rw [hval]
  have hfb := hB2.trans (hb3.mono hB2.size)
  clear x0 x1 x2 x3 x4 x5 x6 x7 x8 x9
  go_wp2_with fail
  go_ret
  exact ⟨rfl, hfb⟩
set_option maxRecDepth 100000 in
set_option maxHeartbeats 2000000 in
theorem SizeOf_impl : ∀ c : Nat → Dat, msr (c 8) + msr (c 9) ≤ 1048576 → Fits (c 8) .exprs → Fits (c 9) .queries → SizeOfI c := by
  intro c hm _ _ c0 c1 c2 c3 c4 c5 c6 c7 x8 x9 W b0 b1 b3 b4 b5 b6 b7 r8 q8 r9 q9
  have hout := ndOf_out (c2 := c2) b0 b1 b3 b4 b5 b6 b7 r8 q8 r9 q9
  have hbd : Bd (ndOf c0 c1 c2 c3 c4 c5 c6 c7 c) := ⟨by show msr (c 8) ≤ _; omega, by show msr (c 9) ≤ _; omega, q8, q9⟩
  have hfold : foldE sizA (ndOf c0 c1 c2 c3 c4 c5 c6 c7 c) = foldE sizA c := rfl
  have hsz : foldE sizA (ndOf c0 c1 c2 c3 c4 c5 c6 c7 c) ≤ 1048577 := by
    have g8 := siz_le (c 8) _ q8
    have g9 := siz_le (c 9) _ q9
    show (fold sizA (c 8) .exprs + fold sizA (c 9) .queries) + 1 ≤ _
    omega
  obtain ⟨a8, n8, p8, rfl⟩ := r8.slice_of q8 rfl
  obtain ⟨a9, n9, p9, rfl⟩ := r9.slice_of q9 rfl
  have HB := BX.new W 29 #[.int .i64 c0, .int .i64 c1, .bool c2, .int .i64 c3, .int .i64 c4, .string c5, .string c6, .string c7, .slice a8 n8 p8, .slice a9 n9 p9]
  rw [← hfold]
  generalize ndOf c0 c1 c2 c3 c4 c5 c6 c7 c = nd at hout hbd hsz ⊢
  have x0 := HB.box.cell (i := 0) (v := .int .i64 c0) rfl
  have x1 := HB.box.cell (i := 1) (v := .int .i64 c1) rfl
  have x2 := HB.box.cell (i := 2) (v := .bool c2) rfl
  have x3 := HB.box.cell (i := 3) (v := .int .i64 c3) rfl
  have x4 := HB.box.cell (i := 4) (v := .int .i64 c4) rfl
  have x5 := HB.box.cell (i := 5) (v := .string c5) rfl
  have x6 := HB.box.cell (i := 6) (v := .string c6) rfl
  have x7 := HB.box.cell (i := 7) (v := .string c7) rfl
  have x8 := HB.box.cell (i := 8) (v := .slice a8 n8 p8) rfl
  have x9 := HB.box.cell (i := 9) (v := .slice a9 n9 p9) rfl
  go_enter Try.func18, Try.ntmps18
  have s1 : (W.alloc (.cells #[.int .i64 c0, .int .i64 c1, .bool c2, .int .i64 c3, .int .i64 c4, .string c5, .string c6, .string c7, .slice a8 n8 p8, .slice a9 n9 p9] 29)).heap.size = W.heap.size + 1 := by simp
  go_wp2_with fail
  generalize W.alloc (.cells #[.int .i64 c0, .int .i64 c1, .bool c2, .int .i64 c3, .int .i64 c4, .string c5, .string c6, .string c7, .slice a8 n8 p8, .slice a9 n9 p9] 29) = w1 at HB s1 ⊢
  have h2 := RowAt.new w1 29 #[.int .i64 c0, .int .i64 c1, .bool c2, .int .i64 c3, .int .i64 c4, .string c5, .string c6, .string c7, .slice a8 n8 p8, .slice a9 n9 p9]
  have hal : Below w1.heap.size w1 (w1.alloc (.cells #[.int .i64 c0, .int .i64 c1, .bool c2, .int .i64 c3, .int .i64 c4, .string c5, .string c6, .string c7, .slice a8 n8 p8, .slice a9 n9 p9] 29)) := (Below.refl _ _).alloc (Nat.le_refl _) _
  rw [s1] at h2
  generalize w1.alloc (.cells #[.int .i64 c0, .int .i64 c1, .bool c2, .int .i64 c3, .int .i64 c4, .string c5, .string c6, .string c7, .slice a8 n8 p8, .slice a9 n9 p9] 29) = w2 at h2 hal ⊢
  have hB2 := HB.b.trans (hal.mono HB.b.size)
  have hlk : LK exprTy W w2 (fun _ => True) (.slice (some ⟨W.heap.size + 1, 0, none⟩) 1 1) [nd] :=
    ⟨_, 1, _, rfl, hout, .inr ⟨W.heap.size + 1, 0, rfl, Nat.le_refl _, trivial, h2.lt, fun j u hj => by rw [Nat.zero_add]; exact h2.cell (by simpa using hj)⟩⟩
  have hlen : ([nd].flatMap (pre 1)).length ≤ 2000000 := by
    rw [len_flat]
    show sizA.of [foldE sizA nd] ≤ _
    rw [sizA_good.of_cons]
    show _ + 0 ≤ _
    omega
  refine (total_any W w2 [nd] _ hB2 hlk (fun c hc => by rw [List.mem_singleton.1 hc]; exact hbd) hlen).mono ?_
  rintro e w3 ⟨rfl, hb3⟩
  have hval : ([nd].flatMap (pre 1)).length = foldE sizA nd := by
    rw [len_flat]; show sizA.of [foldE sizA nd] = _; rw [sizA_good.of_cons]; rfl
  rw [hval]
  have hfb := hB2.trans (hb3.mono hB2.size)
  clear x0 x1 x2 x3 x4 x5 x6 x7 x8 x9
  go_wp2_with fail
  go_ret
  exact ⟨rfl, hfb⟩
set_option maxRecDepth 100000 in
set_option maxHeartbeats 2000000 in
theorem QueryDepth_impl : ∀ c : Nat → Dat, msr (c 1) + msr (c 2) + msr (c 3) + msr (c 4) ≤ 1048576 → Fits (c 1) .items → Fits (c 2) .sources → Fits (c 3) .exprs → Fits (c 4) .keys → QueryDepthI c := by
  intro c hm _ _ _ _ c0 x1 x2 x3 x4 c5 W b5 r1 q1 r2 q2 r3 q3 r4 q4
  have hbd : ∀ nd ∈ exprsOf c, Bd nd := queryBd q1 q2 q3 q4 (by omega) (by omega) (by omega) (by omega)
  have hsz : foldQ sizA c ≤ 1048576 := by
    have g1 := siz_le (c 1) _ q1
    have g2 := siz_le (c 2) _ q2
    have g3 := siz_le (c 3) _ q3
    have g4 := siz_le (c 4) _ q4
    show _ + _ + _ + _ ≤ _
    omega
  have hfq := foldQ_is depA_good q1 q2 q3 q4
  have hfs := foldQ_is sizA_good q1 q2 q3 q4
  rw [hfq]
  rw [hfs] at hsz
  clear hfq hfs
  obtain ⟨a1, n1, p1, rfl⟩ := r1.slice_of q1 rfl
  obtain ⟨a2, n2, p2, rfl⟩ := r2.slice_of q2 rfl
  obtain ⟨a3, n3, p3, rfl⟩ := r3.slice_of q3 rfl
  obtain ⟨a4, n4, p4, rfl⟩ := r4.slice_of q4 rfl
  obtain ⟨h1, E1, r1, q1⟩ := r1.openS q1 rfl
  obtain ⟨h2, E2, r2, q2⟩ := r2.openS q2 rfl
  obtain ⟨h3, E3, r3, q3⟩ := r3.openS q3 rfl
  obtain ⟨h4, E4, r4, q4⟩ := r4.openS q4 rfl
  have hN : n1 + (exFrom (.sl n2 3 h2)).length + n3 + n4 ≤ 1048576 := by
    rw [E1, E2, E3, E4] at hm
    replace hm : msr (.sl n1 13 h1) + msr (.sl n2 3 h2) + msr (.sl n3 10 h3) + msr (.sl n4 11 h4) ≤ 1048576 := hm
    have k1 := msr_n n1 13 h1
    have k2 := exFrom_msr q2
    have k3 := msr_n n3 10 h3
    have k4 := msr_n n4 11 h4
    omega
  have hex : exprsOf c = ((exItems (.sl n1 13 h1) ++ exFrom (.sl n2 3 h2)) ++ (Dat.sl n3 10 h3).els) ++ (Dat.sl n4 11 h4).els := by
    unfold exprsOf
    rw [E1, E2, E3, E4]
    rfl
  have HB := BX.new W 38 #[.bool c0, .slice a1 n1 p1, .slice a2 n2 p2, .slice a3 n3 p3, .slice a4 n4 p4, .int .i64 c5]
  have hcall := exprsIn_any W (W.alloc (.cells #[.bool c0, .slice a1 n1 p1, .slice a2 n2 p2, .slice a3 n3 p3, .slice a4 n4 p4, .int .i64 c5] 38)) c0 a1 n1 p1 a2 n2 p2 a3 n3 p3 a4 n4 p4 c5 h1 h2 h3 h4 HB.b r1 q1 r2 q2 r3 q3 r4 q4 hN
  rw [← hex] at hcall
  clear E1 E2 E3 E4 r1 r2 r3 r4 q1 q2 q3 q4 hN hm hex
  generalize exprsOf c = L at *
  have x0 := HB.box.cell (i := 0) (v := .bool c0) rfl
  have x1 := HB.box.cell (i := 1) (v := .slice a1 n1 p1) rfl
  have x2 := HB.box.cell (i := 2) (v := .slice a2 n2 p2) rfl
  have x3 := HB.box.cell (i := 3) (v := .slice a3 n3 p3) rfl
  have x4 := HB.box.cell (i := 4) (v := .slice a4 n4 p4) rfl
  have x5 := HB.box.cell (i := 5) (v := .int .i64 c5) rfl
  go_enter Try.func19, Try.ntmps19
  go_wp2_with fail
  refine hcall.mono ?_
  clear hcall x0 x1 x2 x3 x4 x5
  rintro e w2 ⟨v, rfl, ho, hb2⟩
  have hB2 := HB.b.trans (hb2.mono HB.b.size)
  have hlk : LK exprTy W w2 (fun _ => True) v L := ho.lk fun _ _ _ => trivial
  have hlen : (L.flatMap (pre 1)).length ≤ 2000000 := by rw [len_flat]; show sizA.of _ ≤ _; have : sizA.of (L.map (foldE sizA)) ≤ 1048576 := hsz; omega
  obtain ⟨vv, hvv⟩ : ∃ vv, vv = v := ⟨_, rfl⟩
  rw [← hvv] at hlk ⊢
  clear hvv
  have hD := deepest_any W w2 L vv hB2 hlk hbd hlen
  go_wp2_with fail
  refine hD.mono ?_
  clear hD
  rintro e w3 ⟨rfl, hb3⟩
  have hval : mx (L.flatMap (pre 1)) = depA.qn c (depA.of (L.map (foldE depA))) := by
    rw [mx_flat]; rfl
  rw [hval]
  have hfb := hB2.trans (hb3.mono hB2.size)
  go_wp2_with fail
  go_ret
  exact ⟨rfl, hfb⟩
set_option maxRecDepth 100000 in
set_option maxHeartbeats 2000000 in
theorem QuerySize_impl : ∀ c : Nat → Dat, msr (c 1) + msr (c 2) + msr (c 3) + msr (c 4) ≤ 1048576 → Fits (c 1) .items → Fits (c 2) .sources → Fits (c 3) .exprs → Fits (c 4) .keys → QuerySizeI c := by
  intro c hm _ _ _ _ c0 x1 x2 x3 x4 c5 W b5 r1 q1 r2 q2 r3 q3 r4 q4
  have hbd : ∀ nd ∈ exprsOf c, Bd nd := queryBd q1 q2 q3 q4 (by omega) (by omega) (by omega) (by omega)
  have hsz : foldQ sizA c ≤ 1048576 := by
    have g1 := siz_le (c 1) _ q1
    have g2 := siz_le (c 2) _ q2
    have g3 := siz_le (c 3) _ q3
    have g4 := siz_le (c 4) _ q4
    show _ + _ + _ + _ ≤ _
    omega
  have hfq := foldQ_is sizA_good q1 q2 q3 q4
  have hfs := foldQ_is sizA_good q1 q2 q3 q4
  rw [hfq]
  rw [hfs] at hsz
  clear hfq hfs
  obtain ⟨a1, n1, p1, rfl⟩ := r1.slice_of q1 rfl
  obtain ⟨a2, n2, p2, rfl⟩ := r2.slice_of q2 rfl
  obtain ⟨a3, n3, p3, rfl⟩ := r3.slice_of q3 rfl
  obtain ⟨a4, n4, p4, rfl⟩ := r4.slice_of q4 rfl
  obtain ⟨h1, E1, r1, q1⟩ := r1.openS q1 rfl
  obtain ⟨h2, E2, r2, q2⟩ := r2.openS q2 rfl
  obtain ⟨h3, E3, r3, q3⟩ := r3.openS q3 rfl
  obtain ⟨h4, E4, r4, q4⟩ := r4.openS q4 rfl
  have hN : n1 + (exFrom (.sl n2 3 h2)).length + n3 + n4 ≤ 1048576 := by
    rw [E1, E2, E3, E4] at hm
    replace hm : msr (.sl n1 13 h1) + msr (.sl n2 3 h2) + msr (.sl n3 10 h3) + msr (.sl n4 11 h4) ≤ 1048576 := hm
    have k1 := msr_n n1 13 h1
    have k2 := exFrom_msr q2
    have k3 := msr_n n3 10 h3
    have k4 := msr_n n4 11 h4
    omega
  have hex : exprsOf c = ((exItems (.sl n1 13 h1) ++ exFrom (.sl n2 3 h2)) ++ (Dat.sl n3 10 h3).els) ++ (Dat.sl n4 11 h4).els := by
    unfold exprsOf
    rw [E1, E2, E3, E4]
    rfl
  have HB := BX.new W 38 #[.bool c0, .slice a1 n1 p1, .slice a2 n2 p2, .slice a3 n3 p3, .slice a4 n4 p4, .int .i64 c5]
  have hcall := exprsIn_any W (W.alloc (.cells #[.bool c0, .slice a1 n1 p1, .slice a2 n2 p2, .slice a3 n3 p3, .slice a4 n4 p4, .int .i64 c5] 38)) c0 a1 n1 p1 a2 n2 p2 a3 n3 p3 a4 n4 p4 c5 h1 h2 h3 h4 HB.b r1 q1 r2 q2 r3 q3 r4 q4 hN
  rw [← hex] at hcall
  clear E1 E2 E3 E4 r1 r2 r3 r4 q1 q2 q3 q4 hN hm hex
  generalize exprsOf c = L at *
  have x0 := HB.box.cell (i := 0) (v := .bool c0) rfl
  have x1 := HB.box.cell (i := 1) (v := .slice a1 n1 p1) rfl
  have x2 := HB.box.cell (i := 2) (v := .slice a2 n2 p2) rfl
  have x3 := HB.box.cell (i := 3) (v := .slice a3 n3 p3) rfl
  have x4 := HB.box.cell (i := 4) (v := .slice a4 n4 p4) rfl
  have x5 := HB.box.cell (i := 5) (v := .int .i64 c5) rfl
  go_enter Try.func20, Try.ntmps20
  go_wp2_with fail
  refine hcall.mono ?_
  clear hcall x0 x1 x2 x3 x4 x5
  rintro e w2 ⟨v, rfl, ho, hb2⟩
  have hB2 := HB.b.trans (hb2.mono HB.b.size)
  have hlk : LK exprTy W w2 (fun _ => True) v L := ho.lk fun _ _ _ => trivial
  have hlen : (L.flatMap (pre 1)).length ≤ 2000000 := by rw [len_flat]; show sizA.of _ ≤ _; have : sizA.of (L.map (foldE sizA)) ≤ 1048576 := hsz; omega
  obtain ⟨vv, hvv⟩ : ∃ vv, vv = v := ⟨_, rfl⟩
  rw [← hvv] at hlk ⊢
  clear hvv
  have hD := total_any W w2 L vv hB2 hlk hbd hlen
  go_wp2_with fail
  refine hD.mono ?_
  clear hD
  rintro e w3 ⟨rfl, hb3⟩
  have hval : (L.flatMap (pre 1)).length = sizA.qn c (sizA.of (L.map (foldE sizA))) := by
    rw [len_flat]; rfl
  rw [hval]
  have hfb := hB2.trans (hb3.mono hB2.size)
  go_wp2_with fail
  go_ret
  exact ⟨rfl, hfb⟩
end Go.Proofs.Ytgihklohhjhjbaa
