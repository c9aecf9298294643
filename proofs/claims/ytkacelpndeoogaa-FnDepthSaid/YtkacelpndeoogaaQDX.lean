/- Joined texts: TreeI Rs Dig Mark. -/
import Derived.Test.YtkacelpndeoogaaQDK
import Derived.Test.YtkacelpndeoogaaQHExLaw
import Derived.Test.YtkacelpndeoogaaQDF
import Derived.Test.YtkacelpndeoogaaQDA
import Derived.Test.YtkacelpndeoogaaQDC
import Derived.Test.YtkacelpndeoogaaQDD
import Derived.Deep.QuietTactic
import Derived.BigQuiet
import Derived.Deep.RegionWith
/- The program's DepthOf, SizeOf, QueryDepth and QuerySize, as the laws take them. -/
namespace Go.Proofs.Ytkacelpndeoogaa
open Go.RowKit

/-- an expression as the contracts take it -/
def ndOf (c0 c1 : Int) (c2 : Bool) (c3 c4 : Int) (c5 c6 c7 : ByteArray) (c : Nd) : Nd := fun j => match j with
  | 0 => .v (.int .i64 c0) | 1 => .v (.int .i64 c1) | 2 => .v (.bool c2) | 3 => .v (.int .i64 c3) | 4 => .v (.int .i64 c4) | 5 => .v (.string c5) | 6 => .v (.string c6) | 7 => .v (.string c7) | j => c j
theorem ndOf_out {c0 c1 : Int} {c2 : Bool} {c3 c4 : Int} {c5 c6 c7 : ByteArray} {c : Nd} {x8 x9 : Value} {w : World} (b0 : I64 c0) (b1 : I64 c1) (b3 : I64 c3) (b4 : I64 c4) (b5 : c5.size ≤ 9223372036854775807) (b6 : c6.size ≤ 9223372036854775807) (b7 : c7.size ≤ 9223372036854775807)
    (r8 : Rd w 0 x8 (c 8)) (q8 : Fits (c 8) .exprs) (r9 : Rd w 0 x9 (c 9)) (q9 : Fits (c 9) .queries) :
    OutP w [.int .i64 c0, .int .i64 c1, .bool c2, .int .i64 c3, .int .i64 c4, .string c5, .string c6, .string c7, x8, x9] [ndOf c0 c1 c2 c3 c4 c5 c6 c7 c] := OutP.one rfl (fun m hm => match m, hm with
  | 0, _ => ⟨_, rfl, rfl, ⟨_, rfl, b0⟩⟩
  | 1, _ => ⟨_, rfl, rfl, ⟨_, rfl, b1⟩⟩
  | 2, _ => ⟨_, rfl, rfl, ⟨_, rfl⟩⟩
  | 3, _ => ⟨_, rfl, rfl, ⟨_, rfl, b3⟩⟩
  | 4, _ => ⟨_, rfl, rfl, ⟨_, rfl, b4⟩⟩
  | 5, _ => ⟨_, rfl, rfl, ⟨_, rfl, b5⟩⟩
  | 6, _ => ⟨_, rfl, rfl, ⟨_, rfl, b6⟩⟩
  | 7, _ => ⟨_, rfl, rfl, ⟨_, rfl, b7⟩⟩
  | 8, _ => ⟨_, rfl, r8, q8⟩
  | 9, _ => ⟨_, rfl, r9, q9⟩
  | m + 10, hm => absurd hm (by simp [exprTy]))

theorem mem_exprsOf_bd {d : Dat} {ty : Ty} {M : Nat} (hf : Fits d ty) (hm : msr d ≤ M) (hM : M ≤ 1048576) (nd : Nd) (p : Nat × Nd) (hp : p ∈ fold preA d ty) (he : p.2 = nd) : Bd nd := by
  obtain ⟨a, b, c, e⟩ := pre_bd d ty hf p hp
  subst he
  exact ⟨by omega, by omega, c, e⟩
theorem queryBd {c : Nd} (q1 : Fits (c 1) .items) (q2 : Fits (c 2) .sources) (q3 : Fits (c 3) .exprs) (q4 : Fits (c 4) .keys) (m1 : msr (c 1) ≤ 1048576) (m2 : msr (c 2) ≤ 1048576) (m3 : msr (c 3) ≤ 1048576) (m4 : msr (c 4) ≤ 1048576) : ∀ nd ∈ exprsOf c, Bd nd := by
  intro nd hnd
  have hq : foldQ preA c = (exprsOf c).flatMap (foldE preA) := by
    rw [foldQ_is preA_good q1 q2 q3 q4, preA_of]; rfl
  have h0 : (0, nd) ∈ foldQ preA c := by
    rw [hq, List.mem_flatMap]
    exact ⟨nd, hnd, by unfold foldE; exact List.mem_cons_self ..⟩
  unfold foldQ at h0
  simp only [preA, List.mem_append] at h0
  rcases h0 with ((h | h) | h) | h
  · exact mem_exprsOf_bd q1 (Nat.le_refl _) m1 nd _ h rfl
  · exact mem_exprsOf_bd q2 (Nat.le_refl _) m2 nd _ h rfl
  · exact mem_exprsOf_bd q3 (Nat.le_refl _) m3 nd _ h rfl
  · exact mem_exprsOf_bd q4 (Nat.le_refl _) m4 nd _ h rfl
set_option maxRecDepth 100000 in
set_option maxHeartbeats 2000000 in
theorem DepthOf_impl : ∀ c : Nat → Dat, msr (c 8) + msr (c 9) ≤ 1048576 → Fits (c 8) .exprs → Fits (c 9) .queries → DepthOfI c := by
  intro c hm _ _ c0 c1 c2 c3 c4 c5 c6 c7 x8 x9 W b0 b1 b3 b4 b5 b6 b7 r8 q8 r9 q9
  have hout := ndOf_out (c2 := c2) b0 b1 b3 b4 b5 b6 b7 r8 q8 r9 q9
  have hbd : Bd (ndOf c0 c1 c2 c3 c4 c5 c6 c7 c) := ⟨by show msr (c 8) ≤ _; omega, by show msr (c 9) ≤ _; omega, q8, q9⟩
  have hfold : foldE depA (ndOf c0 c1 c2 c3 c4 c5 c6 c7 c) = foldE depA c := rfl
  have hsz : foldE sizA (ndOf c0 c1 c2 c3 c4 c5 c6 c7 c) ≤ 1048577 := by
    have g8 := siz_le (c 8) _ q8
    have g9 := siz_le (c 9) _ q9
    show (fold sizA (c 8) .exprs + fold sizA (c 9) .queries) + 1 ≤ _
    omega
  obtain ⟨a8, n8, p8, rfl⟩ := r8.slice_of q8 rfl
  obtain ⟨a9, n9, p9, rfl⟩ := r9.slice_of q9 rfl
  have HB := BX.new W 29 #[.int .i64 c0, .int .i64 c1, .bool c2, .int .i64 c3, .int .i64 c4, .string c5, .string c6, .string c7, .slice a8 n8 p8, .slice a9 n9 p9]
  rw [← hfold]
  generalize ndOf c0 c1 c2 c3 c4 c5 c6 c7 c = nd at hout hbd hsz ⊢
  have x0 := HB.box.cell (i := 0) (v := .int .i64 c0) rfl
  have x1 := HB.box.cell (i := 1) (v := .int .i64 c1) rfl
  have x2 := HB.box.cell (i := 2) (v := .bool c2) rfl
  have x3 := HB.box.cell (i := 3) (v := .int .i64 c3) rfl
  have x4 := HB.box.cell (i := 4) (v := .int .i64 c4) rfl
  have x5 := HB.box.cell (i := 5) (v := .string c5) rfl
  have x6 := HB.box.cell (i := 6) (v := .string c6) rfl
  have x7 := HB.box.cell (i := 7) (v := .string c7) rfl
  have x8 := HB.box.cell (i := 8) (v := .slice a8 n8 p8) rfl
  have x9 := HB.box.cell (i := 9) (v := .slice a9 n9 p9) rfl
  go_enter Try.func12, Try.ntmps12
  have s1 : (W.alloc (.cells #[.int .i64 c0, .int .i64 c1, .bool c2, .int .i64 c3, .int .i64 c4, .string c5, .string c6, .string c7, .slice a8 n8 p8, .slice a9 n9 p9] 29)).heap.size = W.heap.size + 1 := by simp
  go_wp2_with fail
  generalize W.alloc (.cells #[.int .i64 c0, .int .i64 c1, .bool c2, .int .i64 c3, .int .i64 c4, .string c5, .string c6, .string c7, .slice a8 n8 p8, .slice a9 n9 p9] 29) = w1 at HB s1 ⊢
  have h2 := RowAt.new w1 29 #[.int .i64 c0, .int .i64 c1, .bool c2, .int .i64 c3, .int .i64 c4, .string c5, .string c6, .string c7, .slice a8 n8 p8, .slice a9 n9 p9]
  have hal : Below w1.heap.size w1 (w1.alloc (.cells #[.int .i64 c0, .int .i64 c1, .bool c2, .int .i64 c3, .int .i64 c4, .string c5, .string c6, .string c7, .slice a8 n8 p8, .slice a9 n9 p9] 29)) := (Below.refl _ _).alloc (Nat.le_refl _) _
  rw [s1] at h2
  generalize w1.alloc (.cells #[.int .i64 c0, .int .i64 c1, .bool c2, .int .i64 c3, .int .i64 c4, .string c5, .string c6, .string c7, .slice a8 n8 p8, .slice a9 n9 p9] 29) = w2 at h2 hal ⊢
  have hB2 := HB.b.trans (hal.mono HB.b.size)
  have hlk : LK exprTy W w2 (fun _ => True) (.slice (some ⟨W.heap.size + 1, 0, none⟩) 1 1) [nd] :=
    ⟨_, 1, _, rfl, hout, .inr ⟨W.heap.size + 1, 0, rfl, Nat.le_refl _, trivial, h2.lt, fun j u hj => by rw [Nat.zero_add]; exact h2.cell (by simpa using hj)⟩⟩
  have hlen : ([nd].flatMap (pre 1)).length ≤ 2000000 := by
    rw [len_flat]
    show sizA.of [foldE sizA nd] ≤ _
    rw [sizA_good.of_cons]
    show _ + 0 ≤ _
    omega
  refine (deepest_any W w2 [nd] _ hB2 hlk (fun c hc => by rw [List.mem_singleton.1 hc]; exact hbd) hlen).mono ?_
  rintro e w3 ⟨rfl, hb3⟩
  have hval : mx ([nd].flatMap (pre 1)) = foldE depA nd := by
    rw [mx_flat]; show depA.of [foldE depA nd] = _; rw [depA_good.of_cons]; show max _ 0 = _; omega
  rw [hval]
  have hfb := hB2.trans (hb3.mono hB2.size)
  clear x0 x1 x2 x3 x4 x5 x6 x7 x8 x9
  go_wp2_with fail
  go_ret
  exact ⟨rfl, hfb⟩
set_option maxRecDepth 100000 in
set_option maxHeartbeats 2000000 in
theorem SizeOf_impl : ∀ c : Nat → Dat, msr (c 8) + msr (c 9) ≤ 1048576 → Fits (c 8) .exprs → Fits (c 9) .queries → SizeOfI c := by
  intro c hm _ _ c0 c1 c2 c3 c4 c5 c6 c7 x8 x9 W b0 b1 b3 b4 b5 b6 b7 r8 q8 r9 q9
  have hout := ndOf_out (c2 := c2) b0 b1 b3 b4 b5 b6 b7 r8 q8 r9 q9
  have hbd : Bd (ndOf c0 c1 c2 c3 c4 c5 c6 c7 c) := ⟨by show msr (c 8) ≤ _; omega, by show msr (c 9) ≤ _; omega, q8, q9⟩
  have hfold : foldE sizA (ndOf c0 c1 c2 c3 c4 c5 c6 c7 c) = foldE sizA c := rfl
  have hsz : foldE sizA (ndOf c0 c1 c2 c3 c4 c5 c6 c7 c) ≤ 1048577 := by
    have g8 := siz_le (c 8) _ q8
    have g9 := siz_le (c 9) _ q9
    show (fold sizA (c 8) .exprs + fold sizA (c 9) .queries) + 1 ≤ _
    omega
  obtain ⟨a8, n8, p8, rfl⟩ := r8.slice_of q8 rfl
  obtain ⟨a9, n9, p9, rfl⟩ := r9.slice_of q9 rfl
  have HB := BX.new W 29 #[.int .i64 c0, .int .i64 c1, .bool c2, .int .i64 c3, .int .i64 c4, .string c5, .string c6, .string c7, .slice a8 n8 p8, .slice a9 n9 p9]
  rw [← hfold]
  generalize ndOf c0 c1 c2 c3 c4 c5 c6 c7 c = nd at hout hbd hsz ⊢
  have x0 := HB.box.cell (i := 0) (v := .int .i64 c0) rfl
  have x1 := HB.box.cell (i := 1) (v := .int .i64 c1) rfl
  have x2 := HB.box.cell (i := 2) (v := .bool c2) rfl
  have x3 := HB.box.cell (i := 3) (v := .int .i64 c3) rfl
  have x4 := HB.box.cell (i := 4) (v := .int .i64 c4) rfl
  have x5 := HB.box.cell (i := 5) (v := .string c5) rfl
  have x6 := HB.box.cell (i := 6) (v := .string c6) rfl
  have x7 := HB.box.cell (i := 7) (v := .string c7) rfl
  have x8 := HB.box.cell (i := 8) (v := .slice a8 n8 p8) rfl
  have x9 := HB.box.cell (i := 9) (v := .slice a9 n9 p9) rfl
  go_enter Try.func13, Try.ntmps13
  have s1 : (W.alloc (.cells #[.int .i64 c0, .int .i64 c1, .bool c2, .int .i64 c3, .int .i64 c4, .string c5, .string c6, .string c7, .slice a8 n8 p8, .slice a9 n9 p9] 29)).heap.size = W.heap.size + 1 := by simp
  go_wp2_with fail
  generalize W.alloc (.cells #[.int .i64 c0, .int .i64 c1, .bool c2, .int .i64 c3, .int .i64 c4, .string c5, .string c6, .string c7, .slice a8 n8 p8, .slice a9 n9 p9] 29) = w1 at HB s1 ⊢
  have h2 := RowAt.new w1 29 #[.int .i64 c0, .int .i64 c1, .bool c2, .int .i64 c3, .int .i64 c4, .string c5, .string c6, .string c7, .slice a8 n8 p8, .slice a9 n9 p9]
  have hal : Below w1.heap.size w1 (w1.alloc (.cells #[.int .i64 c0, .int .i64 c1, .bool c2, .int .i64 c3, .int .i64 c4, .string c5, .string c6, .string c7, .slice a8 n8 p8, .slice a9 n9 p9] 29)) := (Below.refl _ _).alloc (Nat.le_refl _) _
  rw [s1] at h2
  generalize w1.alloc (.cells #[.int .i64 c0, .int .i64 c1, .bool c2, .int .i64 c3, .int .i64 c4, .string c5, .string c6, .string c7, .slice a8 n8 p8, .slice a9 n9 p9] 29) = w2 at h2 hal ⊢
  have hB2 := HB.b.trans (hal.mono HB.b.size)
  have hlk : LK exprTy W w2 (fun _ => True) (.slice (some ⟨W.heap.size + 1, 0, none⟩) 1 1) [nd] :=
    ⟨_, 1, _, rfl, hout, .inr ⟨W.heap.size + 1, 0, rfl, Nat.le_refl _, trivial, h2.lt, fun j u hj => by rw [Nat.zero_add]; exact h2.cell (by simpa using hj)⟩⟩
  have hlen : ([nd].flatMap (pre 1)).length ≤ 2000000 := by
    rw [len_flat]
    show sizA.of [foldE sizA nd] ≤ _
    rw [sizA_good.of_cons]
    show _ + 0 ≤ _
    omega
  refine (total_any W w2 [nd] _ hB2 hlk (fun c hc => by rw [List.mem_singleton.1 hc]; exact hbd) hlen).mono ?_
  rintro e w3 ⟨rfl, hb3⟩
  have hval : ([nd].flatMap (pre 1)).length = foldE sizA nd := by
    rw [len_flat]; show sizA.of [foldE sizA nd] = _; rw [sizA_good.of_cons]; rfl
  rw [hval]
  have hfb := hB2.trans (hb3.mono hB2.size)
  clear x0 x1 x2 x3 x4 x5 x6 x7 x8 x9
  go_wp2_with fail
  go_ret
  exact ⟨rfl, hfb⟩
set_option maxRecDepth 100000 in
set_option maxHeartbeats 2000000 in
theorem QueryDepth_impl : ∀ c : Nat → Dat, msr (c 1) + msr (c 2) + msr (c 3) + msr (c 4) ≤ 1048576 → Fits (c 1) .items → Fits (c 2) .sources → Fits (c 3) .exprs → Fits (c 4) .keys → QueryDepthI c := by
  intro c hm _ _ _ _ c0 x1 x2 x3 x4 c5 W b5 r1 q1 r2 q2 r3 q3 r4 q4
  have hbd : ∀ nd ∈ exprsOf c, Bd nd := queryBd q1 q2 q3 q4 (by omega) (by omega) (by omega) (by omega)
  have hsz : foldQ sizA c ≤ 1048576 := by
    have g1 := siz_le (c 1) _ q1
    have g2 := siz_le (c 2) _ q2
    have g3 := siz_le (c 3) _ q3
    have g4 := siz_le (c 4) _ q4
    show _ + _ + _ + _ ≤ _
    omega
  have hfq := foldQ_is depA_good q1 q2 q3 q4
  have hfs := foldQ_is sizA_good q1 q2 q3 q4
  rw [hfq]
  rw [hfs] at hsz
  clear hfq hfs
  obtain ⟨a1, n1, p1, rfl⟩ := r1.slice_of q1 rfl
  obtain ⟨a2, n2, p2, rfl⟩ := r2.slice_of q2 rfl
  obtain ⟨a3, n3, p3, rfl⟩ := r3.slice_of q3 rfl
  obtain ⟨a4, n4, p4, rfl⟩ := r4.slice_of q4 rfl
  obtain ⟨h1, E1, r1, q1⟩ := r1.openS q1 rfl
  obtain ⟨h2, E2, r2, q2⟩ := r2.openS q2 rfl
  obtain ⟨h3, E3, r3, q3⟩ := r3.openS q3 rfl
  obtain ⟨h4, E4, r4, q4⟩ := r4.openS q4 rfl
  have hN : n1 + (exFrom (.sl n2 3 h2)).length + n3 + n4 ≤ 1048576 := by
    rw [E1, E2, E3, E4] at hm
    replace hm : msr (.sl n1 13 h1) + msr (.sl n2 3 h2) + msr (.sl n3 10 h3) + msr (.sl n4 11 h4) ≤ 1048576 := hm
    have k1 := msr_n n1 13 h1
    have k2 := exFrom_msr q2
    have k3 := msr_n n3 10 h3
    have k4 := msr_n n4 11 h4
    omega
  have hex : exprsOf c = ((exItems (.sl n1 13 h1) ++ exFrom (.sl n2 3 h2)) ++ (Dat.sl n3 10 h3).els) ++ (Dat.sl n4 11 h4).els := by
    unfold exprsOf
    rw [E1, E2, E3, E4]
    rfl
  have HB := BX.new W 38 #[.bool c0, .slice a1 n1 p1, .slice a2 n2 p2, .slice a3 n3 p3, .slice a4 n4 p4, .int .i64 c5]
  have hcall := exprsIn_any W (W.alloc (.cells #[.bool c0, .slice a1 n1 p1, .slice a2 n2 p2, .slice a3 n3 p3, .slice a4 n4 p4, .int .i64 c5] 38)) c0 a1 n1 p1 a2 n2 p2 a3 n3 p3 a4 n4 p4 c5 h1 h2 h3 h4 HB.b r1 q1 r2 q2 r3 q3 r4 q4 hN
  rw [← hex] at hcall
  clear E1 E2 E3 E4 r1 r2 r3 r4 q1 q2 q3 q4 hN hm hex
  generalize exprsOf c = L at *
  have x0 := HB.box.cell (i := 0) (v := .bool c0) rfl
  have x1 := HB.box.cell (i := 1) (v := .slice a1 n1 p1) rfl
  have x2 := HB.box.cell (i := 2) (v := .slice a2 n2 p2) rfl
  have x3 := HB.box.cell (i := 3) (v := .slice a3 n3 p3) rfl
  have x4 := HB.box.cell (i := 4) (v := .slice a4 n4 p4) rfl
  have x5 := HB.box.cell (i := 5) (v := .int .i64 c5) rfl
  go_enter Try.func14, Try.ntmps14
  go_wp2_with fail
  refine hcall.mono ?_
  clear hcall x0 x1 x2 x3 x4 x5
  rintro e w2 ⟨v, rfl, ho, hb2⟩
  have hB2 := HB.b.trans (hb2.mono HB.b.size)
  have hlk : LK exprTy W w2 (fun _ => True) v L := ho.lk fun _ _ _ => trivial
  have hlen : (L.flatMap (pre 1)).length ≤ 2000000 := by rw [len_flat]; show sizA.of _ ≤ _; have : sizA.of (L.map (foldE sizA)) ≤ 1048576 := hsz; omega
  obtain ⟨vv, hvv⟩ : ∃ vv, vv = v := ⟨_, rfl⟩
  rw [← hvv] at hlk ⊢
  clear hvv
  have hD := deepest_any W w2 L vv hB2 hlk hbd hlen
  go_wp2_with fail
  refine hD.mono ?_
  clear hD
  rintro e w3 ⟨rfl, hb3⟩
  have hval : mx (L.flatMap (pre 1)) = depA.qn c (depA.of (L.map (foldE depA))) := by
    rw [mx_flat]; rfl
  rw [hval]
  have hfb := hB2.trans (hb3.mono hB2.size)
  go_wp2_with fail
  go_ret
  exact ⟨rfl, hfb⟩
set_option maxRecDepth 100000 in
set_option maxHeartbeats 2000000 in
theorem QuerySize_impl : ∀ c : Nat → Dat, msr (c 1) + msr (c 2) + msr (c 3) + msr (c 4) ≤ 1048576 → Fits (c 1) .items → Fits (c 2) .sources → Fits (c 3) .exprs → Fits (c 4) .keys → QuerySizeI c := by
  intro c hm _ _ _ _ c0 x1 x2 x3 x4 c5 W b5 r1 q1 r2 q2 r3 q3 r4 q4
  have hbd : ∀ nd ∈ exprsOf c, Bd nd := queryBd q1 q2 q3 q4 (by omega) (by omega) (by omega) (by omega)
  have hsz : foldQ sizA c ≤ 1048576 := by
    have g1 := siz_le (c 1) _ q1
    have g2 := siz_le (c 2) _ q2
    have g3 := siz_le (c 3) _ q3
    have g4 := siz_le (c 4) _ q4
    show _ + _ + _ + _ ≤ _
    omega
  have hfq := foldQ_is sizA_good q1 q2 q3 q4
  have hfs := foldQ_is sizA_good q1 q2 q3 q4
  rw [hfq]
  rw [hfs] at hsz
  clear hfq hfs
  obtain ⟨a1, n1, p1, rfl⟩ := r1.slice_of q1 rfl
  obtain ⟨a2, n2, p2, rfl⟩ := r2.slice_of q2 rfl
  obtain ⟨a3, n3, p3, rfl⟩ := r3.slice_of q3 rfl
  obtain ⟨a4, n4, p4, rfl⟩ := r4.slice_of q4 rfl
  obtain ⟨h1, E1, r1, q1⟩ := r1.openS q1 rfl
  obtain ⟨h2, E2, r2, q2⟩ := r2.openS q2 rfl
  obtain ⟨h3, E3, r3, q3⟩ := r3.openS q3 rfl
  obtain ⟨h4, E4, r4, q4⟩ := r4.openS q4 rfl
  have hN : n1 + (exFrom (.sl n2 3 h2)).length + n3 + n4 ≤ 1048576 := by
    rw [E1, E2, E3, E4] at hm
    replace hm : msr (.sl n1 13 h1) + msr (.sl n2 3 h2) + msr (.sl n3 10 h3) + msr (.sl n4 11 h4) ≤ 1048576 := hm
    have k1 := msr_n n1 13 h1
    have k2 := exFrom_msr q2
    have k3 := msr_n n3 10 h3
    have k4 := msr_n n4 11 h4
    omega
  have hex : exprsOf c = ((exItems (.sl n1 13 h1) ++ exFrom (.sl n2 3 h2)) ++ (Dat.sl n3 10 h3).els) ++ (Dat.sl n4 11 h4).els := by
    unfold exprsOf
    rw [E1, E2, E3, E4]
    rfl
  have HB := BX.new W 38 #[.bool c0, .slice a1 n1 p1, .slice a2 n2 p2, .slice a3 n3 p3, .slice a4 n4 p4, .int .i64 c5]
  have hcall := exprsIn_any W (W.alloc (.cells #[.bool c0, .slice a1 n1 p1, .slice a2 n2 p2, .slice a3 n3 p3, .slice a4 n4 p4, .int .i64 c5] 38)) c0 a1 n1 p1 a2 n2 p2 a3 n3 p3 a4 n4 p4 c5 h1 h2 h3 h4 HB.b r1 q1 r2 q2 r3 q3 r4 q4 hN
  rw [← hex] at hcall
  clear E1 E2 E3 E4 r1 r2 r3 r4 q1 q2 q3 q4 hN hm hex
  generalize exprsOf c = L at *
  have x0 := HB.box.cell (i := 0) (v := .bool c0) rfl
  have x1 := HB.box.cell (i := 1) (v := .slice a1 n1 p1) rfl
  have x2 := HB.box.cell (i := 2) (v := .slice a2 n2 p2) rfl
  have x3 := HB.box.cell (i := 3) (v := .slice a3 n3 p3) rfl
  have x4 := HB.box.cell (i := 4) (v := .slice a4 n4 p4) rfl
  have x5 := HB.box.cell (i := 5) (v := .int .i64 c5) rfl
  go_enter Try.func15, Try.ntmps15
  go_wp2_with fail
  refine hcall.mono ?_
  clear hcall x0 x1 x2 x3 x4 x5
  rintro e w2 ⟨v, rfl, ho, hb2⟩
  have hB2 := HB.b.trans (hb2.mono HB.b.size)
  have hlk : LK exprTy W w2 (fun _ => True) v L := ho.lk fun _ _ _ => trivial
  have hlen : (L.flatMap (pre 1)).length ≤ 2000000 := by rw [len_flat]; show sizA.of _ ≤ _; have : sizA.of (L.map (foldE sizA)) ≤ 1048576 := hsz; omega
  obtain ⟨vv, hvv⟩ : ∃ vv, vv = v := ⟨_, rfl⟩
  rw [← hvv] at hlk ⊢
  clear hvv
  have hD := total_any W w2 L vv hB2 hlk hbd hlen
  go_wp2_with fail
  refine hD.mono ?_
  clear hD
  rintro e w3 ⟨rfl, hb3⟩
  have hval : (L.flatMap (pre 1)).length = sizA.qn c (sizA.of (L.map (foldE sizA))) := by
    rw [len_flat]; rfl
  rw [hval]
  have hfb := hB2.trans (hb3.mono hB2.size)
  go_wp2_with fail
  go_ret
  exact ⟨rfl, hfb⟩
end Go.Proofs.Ytkacelpndeoogaa

/- Data with depth whose cells may be written. -/
namespace Go.Proofs.Ytkacelpndeoogaa
open Go.RowKit

/-- x reads as the datum in w, through blocks from L on, and no cell of it is frozen -/
def Rs (w : World) (L : Nat) : Value → Dat → Prop
  | x, .v y => x = y
  | x, .sl n k f => ∃ (a : Option Addr) (cap : Nat), x = .slice a n cap ∧ n ≤ cap ∧ (a = none → cap = 0) ∧ (n = 0 ∨ ∃ (g o : Nat), a = some ⟨g, o, none⟩ ∧ L ≤ g ∧ g < w.heap.size ∧
      ∀ i, i < n → ∀ j, j < k → w.frozen? ⟨g, o + i * k + j, none⟩ = false ∧ ∃ y, w.cell? ⟨g, o + i * k + j, none⟩ = some y ∧ Rs w L y (f i j))
theorem Rs.rd {w : World} {L : Nat} : ∀ {d : Dat} {x : Value}, Rs w L x d → Rd w L x d
  | .v _, _, h => h
  | .sl n k f, x, h => by
    obtain ⟨a, cap, e, hc, hz, h⟩ := h
    refine ⟨a, cap, e, hc, hz, h.imp id ?_⟩
    rintro ⟨g, o, ea, hg, hlt, hc⟩
    refine ⟨g, o, ea, hg, hlt, fun i hi j hj => ?_⟩
    obtain ⟨_, y, hy, hr⟩ := hc i hi j hj
    exact ⟨y, hy, hr.rd⟩
theorem Rs.keep {w w' : World} {L : Nat} : ∀ {d : Dat} {x : Value}, Rs w L x d → w.heap.size ≤ w'.heap.size → (∀ g, L ≤ g → g < w.heap.size → w'.heap[g]? = w.heap[g]?) → Rs w' L x d
  | .v _, _, h, _, _ => h
  | .sl n k f, x, h, hs, hk => by
    obtain ⟨a, cap, e, hc, hz, h⟩ := h
    refine ⟨a, cap, e, hc, hz, h.imp id ?_⟩
    rintro ⟨g, o, ea, hg, hlt, hc⟩
    refine ⟨g, o, ea, hg, Nat.lt_of_lt_of_le hlt hs, fun i hi j hj => ?_⟩
    obtain ⟨hz, y, hy, hr⟩ := hc i hi j hj
    exact ⟨(World.frozen?_of_block (w := w) (a := ⟨g, o + i * k + j, none⟩) (hk g hg hlt)).trans hz, y, (World.cell?_of_block (w := w) (a := ⟨g, o + i * k + j, none⟩) (hk g hg hlt)).trans hy, hr.keep hs hk⟩
theorem Rs.later {w w' : World} {L : Nat} {d : Dat} {x : Value} (h : Rs w L x d) (g : Below w.heap.size w w') : Rs w' L x d := h.keep g.size fun i _ hi => g.block i hi
theorem Rs.set {w : World} {L : Nat} {d : Dat} {x : Value} (h : Rs w L x d) {p : Addr} (hp : p.block < L) (u : Value) : Rs (w.setCell p u) L x d :=
  h.keep (by simp) fun i hi _ => heap_setCell_other w p i u (by omega)
theorem Rs.low {w : World} {L L' : Nat} (hL : L' ≤ L) : ∀ {d : Dat} {x : Value}, Rs w L x d → Rs w L' x d
  | .v _, _, h => h
  | .sl n k f, x, h => by
    obtain ⟨a, cap, e, hc, hz, h⟩ := h
    refine ⟨a, cap, e, hc, hz, h.imp id ?_⟩
    rintro ⟨g, o, ea, hg, hlt, hc⟩
    refine ⟨g, o, ea, Nat.le_trans hL hg, hlt, fun i hi j hj => ?_⟩
    obtain ⟨hz, y, hy, hr⟩ := hc i hi j hj
    exact ⟨hz, y, hy, hr.low hL⟩
theorem Rs.slice_of {w : World} {L : Nat} {d : Dat} {x : Value} {ty : Ty} (h : Rs w L x d) (hf : Fits d ty) (hd : deep ty = true) : ∃ a n cap, x = .slice a n cap := h.rd.slice_of hf hd
theorem puts_rs {L B : Nat} (hB : B < L) (ys : List Value) (o : Nat) {W : World} {x : Value} {d : Dat} (h : Rs W L x d) : Rs (puts B o ys W) L x d :=
  h.keep (by rw [puts_size]; exact Nat.le_refl _) fun g hg _ => puts_heap ys W B o g (by omega)
theorem TF.finW {w V : World} {TA TR : TypeId} {a r o : Array Value} (H : TF w V TA TR a r o) (ys : List Value) (hl : ys.length ≤ r.size) :
    (∀ (i : Nat) (v : Value), ys[i]? = some v → (puts (w.heap.size + 1) 0 ys V).cell? ⟨w.heap.size + 1, i, none⟩ = some v) ∧ Below w.heap.size w (puts (w.heap.size + 1) 0 ys V) ∧
    ∀ {x : Value} {d : Dat}, Rs V (w.heap.size + 3) x d → Rs (puts (w.heap.size + 1) 0 ys V) w.heap.size x d :=
  ⟨(H.fin ys hl).1, (H.fin ys hl).2.1, fun h => (puts_rs (by omega) ys 0 h).low (by omega)⟩
/-- block B holds n elements of k cells; the first i of them read as f tells, through blocks behind B -/
def FillW (w : World) (B : Nat) (T : TypeId) (n k : Nat) (f : Nat → Nat → Dat) (i : Nat) : Prop :=
  ∃ cs : Array Value, RowAt w B T cs ∧ cs.size = n * k ∧ ∀ j, j < i → ∀ m, m < k → ∃ y, cs[j * k + m]? = some y ∧ Rs w (B + 1) y (f j m)
theorem FillW.later {w w' : World} {B : Nat} {T : TypeId} {n k i : Nat} {f : Nat → Nat → Dat} (h : FillW w B T n k f i) (g : Below w.heap.size w w') : FillW w' B T n k f i := by
  obtain ⟨cs, h1, h2, h3⟩ := h
  refine ⟨cs, h1.later g, h2, fun j hj m hm => ?_⟩
  obtain ⟨y, hy, hr⟩ := h3 j hj m hm
  exact ⟨y, hy, hr.later g⟩
theorem FillW.new (w : World) (T : TypeId) (n k : Nat) (f : Nat → Nat → Dat) (cs : Array Value) (h : cs.size = n * k) : FillW (w.alloc (.cells cs T)) w.heap.size T n k f 0 :=
  ⟨cs, RowAt.new w T cs, h, fun j hj => absurd hj (Nat.not_lt_zero j)⟩
theorem FillW.at {w : World} {B : Nat} {T : TypeId} {n k i j m : Nat} {f : Nat → Nat → Dat} (h : FillW w B T n k f i) (hj : j < n) (hm : m < k) :
    ∃ u, w.cell? ⟨B, j * k + m, none⟩ = some u ∧ w.frozen? ⟨B, j * k + m, none⟩ = false := by
  obtain ⟨cs, h1, h2, _⟩ := h
  have hlt : j * k + m < cs.size := by
    rw [h2]
    have : (j + 1) * k ≤ n * k := Nat.mul_le_mul_right k hj
    rw [Nat.add_mul, Nat.one_mul] at this
    omega
  exact ⟨cs[j * k + m], h1.cell (Array.getElem?_eq_getElem hlt), h1.soft _⟩
theorem FillW.step {w : World} {B : Nat} {T : TypeId} {n k i : Nat} {f : Nat → Nat → Dat} (h : FillW w B T n k f i) (hi : i < n) (ys : List Value) (hl : ys.length = k)
    (hy : ∀ m, m < k → ∃ y, ys[m]? = some y ∧ Rs w (B + 1) y (f i m)) : FillW (puts B (i * k) ys w) B T n k f (i + 1) := by
  obtain ⟨cs, h1, h2, h3⟩ := h
  have hle : i * k + ys.length ≤ cs.size := by
    rw [h2, hl]
    have : (i + 1) * k ≤ n * k := Nat.mul_le_mul_right k hi
    rw [Nat.add_mul, Nat.one_mul] at this
    exact this
  refine ⟨putsA (i * k) ys cs, puts_row ys _ h1, by rw [putsA_size, h2], fun j hj m hm => ?_⟩
  by_cases e : j = i
  · subst e
    obtain ⟨y, hy1, hy2⟩ := hy m hm
    exact ⟨y, by rw [putsA_in ys _ cs m (by omega) hle]; exact hy1, puts_rs (Nat.lt_succ_self B) ys _ hy2⟩
  · obtain ⟨y, hy1, hy2⟩ := h3 j (by omega) m hm
    have hlo : j * k + m < i * k := by
      have : (j + 1) * k ≤ i * k := Nat.mul_le_mul_right k (by omega)
      rw [Nat.add_mul, Nat.one_mul] at this
      omega
    exact ⟨y, by rw [putsA_low ys _ cs _ hlo]; exact hy1, puts_rs (Nat.lt_succ_self B) ys _ hy2⟩
theorem FillW.rd {w : World} {B : Nat} {T : TypeId} {n k : Nat} {f : Nat → Nat → Dat} (h : FillW w B T n k f n) : Rs w B (.slice (some ⟨B, 0, none⟩) n n) (.sl n k f) := by
  obtain ⟨cs, h1, h2, h3⟩ := h
  refine ⟨_, n, rfl, Nat.le_refl _, (fun h => by cases h), .inr ⟨B, 0, rfl, Nat.le_refl _, h1.lt, fun i hi j hj => ?_⟩⟩
  obtain ⟨y, hy, hr⟩ := h3 i hi j hj
  exact ⟨h1.soft _, y, by rw [Nat.zero_add]; exact h1.cell hy, hr.low (Nat.le_succ B)⟩
end Go.Proofs.Ytkacelpndeoogaa

/- The contract of the model Digits. -/
namespace Go.Proofs.Ytkacelpndeoogaa
open Go.RowKit
open Go.Lib (decDigits itoa)

/-- the byte of a digit -/
def dgB (d : Nat) : UInt8 := UInt8.ofNat (48 + d)
theorem dgB_nat {d : Nat} (h : d < 10) : (dgB d).toNat = 48 + d := nat_dig h
/-- what is still to be written -/
def decR (y : Nat) : List UInt8 := if y = 0 then [] else decDigits y
theorem decR_step {y : Nat} (h : 0 < y) : decR y = decR (y / 10) ++ [dgB (y % 10)] := by
  unfold decR
  rw [if_neg (by omega)]
  by_cases hs : y < 10
  · rw [dec_small hs, if_pos (by omega), Nat.mod_eq_of_lt hs]; rfl
  · rw [dec_big hs, if_neg (by omega)]; rfl
theorem dig_step {m y : Nat} {out : ByteArray} (hy : 0 < y) (h : decDigits m = decR y ++ out.data.toList) : decDigits m = decR (y / 10) ++ (⟨#[dgB (y % 10)]⟩ ++ out : ByteArray).data.toList := by
  rw [h, decR_step hy]; simp
theorem dig_len {m y : Nat} {out : ByteArray} (hm : m < 10 ^ 19) (h : decDigits m = decR y ++ out.data.toList) : out.size ≤ 19 := by
  have h1 := dec_len 18 m hm
  rw [h, List.length_append] at h1
  have : out.data.toList.length = out.size := rfl
  omega
theorem ret_ba {a : ByteArray} {l : List UInt8} (h : l = a.data.toList) : Ending.returned (.string a) = .returned (.string ⟨l.toArray⟩) := by rw [h]
theorem tmod_neg (y : Nat) : (-(y : Int)).tmod 10 = -((y : Int) % 10) := by rw [Int.neg_tmod]; rfl
theorem tdiv_neg (y : Nat) : (-(y : Int)).tdiv 10 = -((y : Int) / 10) := by rw [Int.neg_tdiv]; rfl

set_option maxRecDepth 100000 in
set_option maxHeartbeats 800000 in
theorem digits_pos (m : Nat) (w : World) (h0 : 0 < m) (h1 : m ≤ 9223372036854775807) :
    Calls Try.prog 191 #[.int .i64 (m : Int)] w (StrE (decDigits m) w) := by
  have hq : ((m : Int) == 0) = false := by simp; omega
  have hq2 : decide ((m : Int) < 0) = false := by simp
  go_enter Try.func191, Try.ntmps191
  go_wp2
  clear hq hq2
  go_loopw [0, 4, 5] (fun x o _ wr => ∃ (y : Nat) (out : ByteArray), y ≤ m ∧ x = .int .i64 (y : Int) ∧ o = .string out ∧ out.size ≤ 19 ∧ Hid (decDigits m = decR y ++ out.data.toList) ∧ Below w.heap.size w wr) (fun x _ _ _ => (intOf x).toNat)
  case atStart => exact ⟨m, ⟨#[]⟩, Nat.le_refl _, rfl, rfl, by decide, by unfold Hid decR; rw [if_neg (by omega)]; simp, Below.refl _ _⟩
  case round =>
    obtain ⟨y, out, hy, rfl, rfl, hos, HD, hbel⟩ := hrel
    by_cases hy0 : 0 < y
    · have hne : ((y : Int) != 0) = true := by simp; omega
      have hcv := conv_one (P := Try.prog) wr (dgB (y % 10)) (48 + (y : Int) % 10) (by rw [dgB_nat (by omega)]; omega) Try.underlying22 Try.underlying5 Try.underlying9
      have hsz := hbel.size
      go_wp2_with fail
      go_roundw
      case rel => exact ⟨y / 10, _, by omega, by go_num, rfl, dig_len (m := m) (by omega) (dig_step hy0 HD.out), dig_step hy0 HD.out, hbel.alloc hsz _⟩
      case measure => simp [intOf]; omega
    · have hne : ((y : Int) != 0) = false := by simp; omega
      go_wp2_with fail
      go_ret
      exact ⟨ret_ba (by rw [HD.out, decR, if_pos (by omega)]; rfl), hbel⟩

set_option maxRecDepth 100000 in
set_option maxHeartbeats 800000 in
theorem digits_neg (m : Nat) (w : World) (h0 : 0 < m) (h1 : m ≤ 9223372036854775808) :
    Calls Try.prog 191 #[.int .i64 (-(m : Int))] w (StrE (45 :: decDigits m) w) := by
  have hq : (-(m : Int) == 0) = false := by simp; omega
  have hq2 : decide (-(m : Int) < 0) = true := by simp; omega
  go_enter Try.func191, Try.ntmps191
  go_wp2
  clear hq hq2
  go_loopw [0, 4, 5] (fun x o _ wr => ∃ (y : Nat) (out : ByteArray), y ≤ m ∧ x = .int .i64 (-(y : Int)) ∧ o = .string out ∧ out.size ≤ 19 ∧ Hid (decDigits m = decR y ++ out.data.toList) ∧ Below w.heap.size w wr) (fun x _ _ _ => (-(intOf x)).toNat)
  case atStart => exact ⟨m, ⟨#[]⟩, Nat.le_refl _, rfl, rfl, by decide, by unfold Hid decR; rw [if_neg (by omega)]; simp, Below.refl _ _⟩
  case round =>
    obtain ⟨y, out, hy, rfl, rfl, hos, HD, hbel⟩ := hrel
    by_cases hy0 : 0 < y
    · have hne : (-(y : Int) != 0) = true := by simp; omega
      have hsz := hbel.size
      have t2 := tdiv_neg y
      by_cases hr : y % 10 = 0
      · have t1 : (-(y : Int)).tmod 10 = 0 := by rw [tmod_neg]; omega
        have HS : Hid (decDigits m = decR (y / 10) ++ (⟨#[dgB 0]⟩ ++ out : ByteArray).data.toList) := by have := dig_step hy0 HD.out; rw [hr] at this; exact this
        clear hr
        have hcv := conv_one (P := Try.prog) wr (dgB 0) 48 (by rw [dgB_nat (by omega)]; omega) Try.underlying22 Try.underlying5 Try.underlying9
        go_wp2_with fail
        go_roundw
        case rel => exact ⟨y / 10, _, by omega, by rw [Int.natCast_ediv]; rfl, rfl, dig_len (m := m) (by omega) (HS.out), HS.out, hbel.alloc hsz _⟩
        case measure => simp [intOf]; omega
      · have t1 := tmod_neg y
        have hcv := conv_one (P := Try.prog) wr (dgB (y % 10)) (48 + (y : Int) % 10) (by rw [dgB_nat (by omega)]; omega) Try.underlying22 Try.underlying5 Try.underlying9
        have hr2 : decide (-((y : Int) % 10) < 0) = true := by simp; omega
        go_wp2_with fail
        go_roundw
        case rel => exact ⟨y / 10, _, by omega, by rw [Int.natCast_ediv]; rfl, rfl, dig_len (m := m) (by omega) (dig_step hy0 HD.out), dig_step hy0 HD.out, hbel.alloc hsz _⟩
        case measure => simp [intOf]; omega
    · have hne : (-(y : Int) != 0) = false := by simp; omega
      go_wp2_with fail
      go_ret
      exact ⟨ret_ba (by rw [HD.out, decR, if_pos (by omega)]; rfl), hbel⟩

theorem digits_spec (n : Int) (w : World) (h0 : -9223372036854775808 ≤ n) (h1 : n ≤ 9223372036854775807) :
    Calls Try.prog 191 #[.int .i64 n] w (StrE (itoa n) w) := by
  by_cases hz : n = 0
  · subst hz
    have e : itoa 0 = [48] := by unfold itoa; rw [if_neg (by omega)]; exact dec_small (by omega)
    rw [e]
    go_enter Try.func191, Try.ntmps191
    go_wp2
    go_ret
    exact ⟨rfl, Below.refl _ _⟩
  · by_cases hp : 0 < n
    · have e : itoa n = decDigits n.toNat := by unfold itoa; rw [if_neg (by omega)]
      have e2 : n = ((n.toNat : Nat) : Int) := by omega
      rw [e, e2]
      exact digits_pos n.toNat w (by omega) (by omega)
    · have e : itoa n = 45 :: decDigits n.natAbs := by unfold itoa; rw [if_pos (by omega)]
      have e2 : n = -((n.natAbs : Nat) : Int) := by omega
      rw [e]
      have h := digits_neg n.natAbs w (by omega) (by omega)
      rw [← e2] at h
      exact h
end Go.Proofs.Ytkacelpndeoogaa

/- The contract of the text that marks a number. -/
namespace Go.Proofs.Ytkacelpndeoogaa
open Go.RowKit
open Go.Lib (decDigits)

/-- the mark of a number -/
def mk (k : Nat) : ByteArray := ⟨(109 :: decDigits k).toArray⟩
theorem mk_ret {m : Nat} {out : ByteArray} (h : decDigits m = out.data.toList) : Ending.returned (.string (⟨#[109]⟩ ++ out)) = .returned (.string (mk m)) := by
  have : (⟨#[109]⟩ : ByteArray) ++ out = mk m := by
    apply WideShapes.bytes_inj
    rw [ByteArray.data_append]
    simp [mk, h]
  rw [this]

set_option maxRecDepth 100000 in
set_option maxHeartbeats 400000 in
theorem markText_any (m : Nat) (w : World) (h0 : 0 < m) (h1 : m ≤ 9223372036854775807) :
    Calls Try.prog 79 #[.int .i64 (m : Int)] w fun e w' => e = .returned (.string (mk m)) ∧ Below w.heap.size w w' := by
  have hq : ¬ (m : Int) ≤ 0 := by omega
  go_enter Try.func79, Try.ntmps79
  go_wp2
  go_loopw [0, 3] (fun x o wr => ∃ (y : Nat) (out : ByteArray), y ≤ m ∧ x = .int .i64 (y : Int) ∧ o = .string out ∧ out.size ≤ 19 ∧ Hid (decDigits m = decR y ++ out.data.toList) ∧ Below w.heap.size w wr) (fun x _ _ => (intOf x).toNat)
  case atStart => exact ⟨m, ⟨#[]⟩, Nat.le_refl _, rfl, rfl, by decide, by unfold Hid decR; rw [if_neg (by omega)]; simp, Below.refl _ _⟩
  case round =>
    obtain ⟨y, out, hy, rfl, rfl, hos, HD, hbel⟩ := hrel
    by_cases hy0 : 0 < y
    · have hne : (0 : Int) < (y : Int) := by omega
      have hcv := conv_one (P := Try.prog) wr (dgB (y % 10)) (48 + (y : Int) % 10) (by rw [dgB_nat (by omega)]; omega) Try.underlying22 Try.underlying5 Try.underlying9
      have hsz := hbel.size
      go_wp2_with fail
      go_roundw
      case rel => exact ⟨y / 10, _, by omega, by go_num, rfl, dig_len (m := m) (by omega) (dig_step hy0 HD.out), dig_step hy0 HD.out, hbel.alloc hsz _⟩
      case measure => simp [intOf]; omega
    · go_wp2_with fail
      go_ret
      exact ⟨mk_ret (by rw [HD.out, decR, if_pos (by omega)]; rfl), hbel⟩
end Go.Proofs.Ytkacelpndeoogaa
