/- Joined texts: TreeI ExprsQ WrapsX WrapsS. -/
import Derived.Test.YtfmgkinindkedaaQWRN
import Derived.Test.YtfmgkinindkedaaQHExLaw
import Derived.Test.YtfmgkinindkedaaQHSameQX
import Derived.Test.YtfmgkinindkedaaQWRR
import Derived.Test.YtfmgkinindkedaaQWRJ
/- The program's DepthOf, SizeOf, QueryDepth and QuerySize, as the laws take them. -/
namespace Go.Proofs.Ytfmgkinindkedaa
open Go.RowKit

/-- an expression as the contracts take it -/
def ndOf (c0 c1 : Int) (c2 : Bool) (c3 c4 : Int) (c5 c6 c7 : ByteArray) (c : Nd) : Nd := fun j => match j with
  | 0 => .v (.int .i64 c0) | 1 => .v (.int .i64 c1) | 2 => .v (.bool c2) | 3 => .v (.int .i64 c3) | 4 => .v (.int .i64 c4) | 5 => .v (.string c5) | 6 => .v (.string c6) | 7 => .v (.string c7) | j => c j
theorem ndOf_out {c0 c1 : Int} {c2 : Bool} {c3 c4 : Int} {c5 c6 c7 : ByteArray} {c : Nd} {x8 x9 : Value} {w : World} (b0 : I64 c0) (b1 : I64 c1) (b3 : I64 c3) (b4 : I64 c4) (b5 : c5.size ≤ 9223372036854775807) (b6 : c6.size ≤ 9223372036854775807) (b7 : c7.size ≤ 9223372036854775807)
    (r8 : Rd w 0 x8 (c 8)) (q8 : Fits (c 8) .exprs) (r9 : Rd w 0 x9 (c 9)) (q9 : Fits (c 9) .queries) :
    OutP w [.int .i64 c0, .int .i64 c1, .bool c2, .int .i64 c3, .int .i64 c4, .string c5, .string c6, .string c7, x8, x9] [ndOf c0 c1 c2 c3 c4 c5 c6 c7 c] := OutP.one rfl (fun m hm => match m, hm with
  | 0, _ => ⟨_, rfl, rfl, ⟨_, rfl, b0⟩⟩
  | 1, _ => ⟨_, rfl, rfl, ⟨_, rfl, b1⟩⟩
  | 2, _ => ⟨_, rfl, rfl, ⟨_, rfl⟩⟩
  | 3, _ => ⟨_, rfl, rfl, ⟨_, rfl, b3⟩⟩
  | 4, _ => ⟨_, rfl, rfl, ⟨_, rfl, b4⟩⟩
  | 5, _ => ⟨_, rfl, rfl, ⟨_, rfl, b5⟩⟩
  | 6, _ => ⟨_, rfl, rfl, ⟨_, rfl, b6⟩⟩
  | 7, _ => ⟨_, rfl, rfl, ⟨_, rfl, b7⟩⟩
  | 8, _ => ⟨_, rfl, r8, q8⟩
  | 9, _ => ⟨_, rfl, r9, q9⟩
  | m + 10, hm => absurd hm (by simp [exprTy]))

theorem mem_exprsOf_bd {d : Dat} {ty : Ty} {M : Nat} (hf : Fits d ty) (hm : msr d ≤ M) (hM : M ≤ 1048576) (nd : Nd) (p : Nat × Nd) (hp : p ∈ fold preA d ty) (he : p.2 = nd) : Bd nd := by
  obtain ⟨a, b, c, e⟩ := pre_bd d ty hf p hp
  subst he
  exact ⟨by omega, by omega, c, e⟩
theorem queryBd {c : Nd} (q1 : Fits (c 1) .items) (q2 : Fits (c 2) .sources) (q3 : Fits (c 3) .exprs) (q4 : Fits (c 4) .keys) (m1 : msr (c 1) ≤ 1048576) (m2 : msr (c 2) ≤ 1048576) (m3 : msr (c 3) ≤ 1048576) (m4 : msr (c 4) ≤ 1048576) : ∀ nd ∈ exprsOf c, Bd nd := by
  intro nd hnd
  have hq : foldQ preA c = (exprsOf c).flatMap (foldE preA) := by
    rw [foldQ_is preA_good q1 q2 q3 q4, preA_of]; rfl
  have h0 : (0, nd) ∈ foldQ preA c := by
    rw [hq, List.mem_flatMap]
    exact ⟨nd, hnd, by unfold foldE; exact List.mem_cons_self ..⟩
  unfold foldQ at h0
  simp only [preA, List.mem_append] at h0
  rcases h0 with ((h | h) | h) | h
  · exact mem_exprsOf_bd q1 (Nat.le_refl _) m1 nd _ h rfl
  · exact mem_exprsOf_bd q2 (Nat.le_refl _) m2 nd _ h rfl
  · exact mem_exprsOf_bd q3 (Nat.le_refl _) m3 nd _ h rfl
  · exact mem_exprsOf_bd q4 (Nat.le_refl _) m4 nd _ h rfl
end Go.Proofs.Ytfmgkinindkedaa

/- The program's expressions of a query. -/
namespace Go.Proofs.Ytfmgkinindkedaa
open Go.RowKit

/-- the expressions of a query -/
theorem exprsInQ_any (w0 W : World) (q : Nd) (ys : List Value) (hys : OutK (rowTy .queries) w0 ys [q]) (hb0 : Below w0.heap.size w0 W) (hq : BdQ q) :
    Calls Try.prog 79 #[.agg ys.toArray] W fun e w' => ∃ v, e = .returned v ∧ OutE w0 w' (W.heap.size + 1) v (exprsOf q) ∧ Below W.heap.size W w' := by
  obtain ⟨c0, a1, n1, p1, a2, n2, p2, a3, n3, p3, a4, n4, p4, c5, rfl, -, ⟨r1, q1⟩, ⟨r2, q2⟩, ⟨r3, q3⟩, ⟨r4, q4⟩, -⟩ := hys.queryRow
  have hm := hq.m
  obtain ⟨f1, e1, r1, q1⟩ := r1.openS q1 rfl
  obtain ⟨f2, e2, r2, q2⟩ := r2.openS q2 rfl
  obtain ⟨f3, e3, r3, q3⟩ := r3.openS q3 rfl
  obtain ⟨f4, e4, r4, q4⟩ := r4.openS q4 rfl
  have hs : exprsOf q = ((exItems (.sl n1 13 f1) ++ exFrom (.sl n2 3 f2)) ++ (Dat.sl n3 10 f3).els) ++ (Dat.sl n4 11 f4).els := by
    unfold exprsOf; rw [e1, e2, e3, e4]; rfl
  have hN : n1 + (exFrom (.sl n2 3 f2)).length + n3 + n4 ≤ 1048576 := by
    rw [e1, e2, e3, e4] at hm
    replace hm : msr (.sl n1 13 f1) + msr (.sl n2 3 f2) + msr (.sl n3 10 f3) + msr (.sl n4 11 f4) ≤ 1048576 := hm
    have k1 := msr_n n1 13 f1
    have k2 := exFrom_msr q2
    have k3 := msr_n n3 10 f3
    have k4 := msr_n n4 11 f4
    omega
  have h := exprsIn_any w0 W c0 a1 n1 p1 a2 n2 p2 a3 n3 p3 a4 n4 p4 c5 f1 f2 f3 f4 hb0 r1 q1 r2 q2 r3 q3 r4 q4 hN
  rw [← hs] at h
  exact h
theorem BdQ.exprs {q : Nd} (h : BdQ q) : ∀ x ∈ exprsOf q, Bd x := by
  have hm := h.m
  exact queryBd h.f.1 h.f.2.1 h.f.2.2.1 h.f.2.2.2 (by omega) (by omega) (by omega) (by omega)
theorem BdQ.len {q : Nd} (h : BdQ q) : ((exprsOf q).flatMap (pre 1)).length ≤ 2000000 := by
  have hm := h.m
  have g1 := siz_le (q 1) _ h.f.1
  have g2 := siz_le (q 2) _ h.f.2.1
  have g3 := siz_le (q 3) _ h.f.2.2.1
  have g4 := siz_le (q 4) _ h.f.2.2.2
  have hs : foldQ sizA q ≤ 1048576 := by show _ + _ + _ + _ ≤ _; omega
  rw [foldQ_is sizA_good h.f.1 h.f.2.1 h.f.2.2.1 h.f.2.2.2] at hs
  rw [len_flat]
  have : sizA.of ((exprsOf q).map (foldE sizA)) ≤ 1048576 := hs
  omega
end Go.Proofs.Ytfmgkinindkedaa

/- The program's Wraps and WrapsIn. -/
namespace Go.Proofs.Ytfmgkinindkedaa
open Go.RowKit

set_option maxRecDepth 100000 in
set_option maxHeartbeats 8000000 in
theorem Wraps_any (w0 : World) (c : Nd) (us : List Value) (W : World) (hx : OutK exprTy w0 us [c]) (hb0 : Below w0.heap.size w0 W) (hc : Bd c) (hw : wt c ≤ 2000000) :
    Calls Try.prog 28 #[.agg us.toArray] W (IntE ((foldE wrapA c : Nat) : Int) W) := by
  have hout := hx
  have hlen : ([c].flatMap (pre 1)).length ≤ 2000000 := by
    rw [len_flat]
    show sizA.of [foldE sizA c] ≤ _
    rw [sizA_good.of_cons]
    have g8 := siz_le (c 8) _ hc.f8
    have g9 := siz_le (c 9) _ hc.f9
    have : foldE sizA c ≤ wt c := by show (_ + _) + 1 ≤ msr (c 8) + msr (c 9) + 1; omega
    show foldE sizA c + 0 ≤ _
    omega
  obtain ⟨x0, x1, x2, x3, x4, x5, x6, x7, ax8, nx8, px8, ax9, nx9, px9, rfl, -⟩ := hx.ten
  have hB : Below W.heap.size W (W.alloc (.cells #[.int .i64 x0, .int .i64 x1, .bool x2, .int .i64 x3, .int .i64 x4, .string x5, .string x6, .string x7, .slice ax8 nx8 px8, .slice ax9 nx9 px9] 56)) := (Below.refl _ _).alloc (Nat.le_refl _) _
  have s2 : (W.alloc (.cells #[.int .i64 x0, .int .i64 x1, .bool x2, .int .i64 x3, .int .i64 x4, .string x5, .string x6, .string x7, .slice ax8 nx8 px8, .slice ax9 nx9 px9] 56)).heap.size = W.heap.size + 1 := by simp
  have R0 := RowAt.new W 56 #[.int .i64 x0, .int .i64 x1, .bool x2, .int .i64 x3, .int .i64 x4, .string x5, .string x6, .string x7, .slice ax8 nx8 px8, .slice ax9 nx9 px9]
  clear hx
  go_enter Try.func28, Try.ntmps28
  go_wp2_with fail
  generalize (W.alloc (.cells #[.int .i64 x0, .int .i64 x1, .bool x2, .int .i64 x3, .int .i64 x4, .string x5, .string x6, .string x7, .slice ax8 nx8 px8, .slice ax9 nx9 px9] 56)) = w2 at hB s2 R0 ⊢
  have R := RowAt.new w2 56 #[.int .i64 x0, .int .i64 x1, .bool x2, .int .i64 x3, .int .i64 x4, .string x5, .string x6, .string x7, .slice ax8 nx8 px8, .slice ax9 nx9 px9]
  have hal : Below w2.heap.size w2 (w2.alloc (.cells #[.int .i64 x0, .int .i64 x1, .bool x2, .int .i64 x3, .int .i64 x4, .string x5, .string x6, .string x7, .slice ax8 nx8 px8, .slice ax9 nx9 px9] 56)) := (Below.refl _ _).alloc (Nat.le_refl _) _
  rw [s2] at R
  generalize w2.alloc (.cells #[.int .i64 x0, .int .i64 x1, .bool x2, .int .i64 x3, .int .i64 x4, .string x5, .string x6, .string x7, .slice ax8 nx8 px8, .slice ax9 nx9 px9] 56) = w3 at R hal ⊢
  have hB3 := hB.trans (hal.mono hB.size)
  have hlk : LK exprTy w0 w3 (fun _ => True) (.slice (some ⟨W.heap.size + 1, 0, none⟩) 1 1) [c] :=
    ⟨_, 1, _, rfl, hout, .inr ⟨W.heap.size + 1, 0, rfl, Nat.le_refl _, trivial, R.lt, fun j u hj => by rw [Nat.zero_add]; exact R.cell (by simpa using hj)⟩⟩
  refine (among_any w0 w3 [c] _ (hb0.trans (hB3.mono hb0.size)) hlk (fun t ht => by rw [List.mem_singleton.1 ht]; exact hc) hlen).mono ?_
  rintro e w4 ⟨rfl, hb4⟩
  have hval : wsums ([c].flatMap (pre 1)) = foldE wrapA c := by
    rw [wsums_flat]; show wrapA.of [foldE wrapA c] = _; rw [wrapA_good.of_cons]; rfl
  rw [hval]
  have hf := hB3.trans (hb4.mono hB3.size)
  go_wp2_with fail
  go_ret
  exact ⟨rfl, hf⟩
set_option maxRecDepth 100000 in
set_option maxHeartbeats 8000000 in
theorem WrapsIn_any (w0 : World) (q : Nd) (ys : List Value) (W : World) (hys : OutK (rowTy .queries) w0 ys [q]) (hb0 : Below w0.heap.size w0 W) (hq : BdQ q) :
    Calls Try.prog 32 #[.agg ys.toArray] W (IntE ((foldQ wrapA q : Nat) : Int) W) := by
  have hE := fun w h => exprsInQ_any w0 w q ys hys h hq
  have hO := fun w v h hv => among_any w0 w (exprsOf q) v h hv hq.exprs hq.len
  have hval : wsums ((exprsOf q).flatMap (pre 1)) = foldQ wrapA q := by
    rw [wsums_flat, foldQ_is wrapA_good hq.f.1 hq.f.2.1 hq.f.2.2.1 hq.f.2.2.2]; rfl
  rw [hval] at hO
  obtain ⟨c0, a1, n1, p1, a2, n2, p2, a3, n3, p3, a4, n4, p4, c5, rfl, -⟩ := hys.queryRow
  have R := RowAt.new W 39 #[.bool c0, .slice a1 n1 p1, .slice a2 n2 p2, .slice a3 n3 p3, .slice a4 n4 p4, .int .i64 c5]
  have hB : Below W.heap.size W (W.alloc (.cells #[.bool c0, .slice a1 n1 p1, .slice a2 n2 p2, .slice a3 n3 p3, .slice a4 n4 p4, .int .i64 c5] 39)) := (Below.refl _ _).alloc (Nat.le_refl _) _
  have HB := Lib.hid hB
  have hz := hb0.trans (hB.mono hb0.size)
  have z0 := R.cell (i := 0) (v := .bool c0) rfl
  have z1 := R.cell (i := 1) (v := .slice a1 n1 p1) rfl
  have z2 := R.cell (i := 2) (v := .slice a2 n2 p2) rfl
  have z3 := R.cell (i := 3) (v := .slice a3 n3 p3) rfl
  have z4 := R.cell (i := 4) (v := .slice a4 n4 p4) rfl
  have z5 := R.cell (i := 5) (v := .int .i64 c5) rfl
  clear hys hB R hq hval
  generalize foldQ wrapA q = V at hO ⊢
  generalize exprsOf q = L at hE hO
  go_enter Try.func32, Try.ntmps32
  go_wp2_with fail
  refine (hE _ hz).mono ?_
  rintro e w3 ⟨v, rfl, hoe, hb3⟩
  have hB3 := HB.out.trans (hb3.mono HB.out.size)
  have hz3 := hz.trans (hb3.mono hz.size)
  have hlk : LK exprTy w0 w3 (fun _ => True) v L := hoe.lk fun _ _ _ => trivial
  obtain ⟨av, cv, rfl⟩ := hoe.slice
  have hcall := hO w3 _ hz3 hlk
  clear z0 z1 z2 z3 z4 z5 hE hO hb3 hoe hlk
  go_wp2_with fail
  refine hcall.mono ?_
  rintro e w4 ⟨rfl, hb4⟩
  have hf := hB3.trans (hb4.mono hB3.size)
  go_wp2_with fail
  go_ret
  exact ⟨rfl, hf⟩
end Go.Proofs.Ytfmgkinindkedaa

/- The model's Wraps and WrapsIn. -/
namespace Go.Proofs.Ytfmgkinindkedaa
open Go.RowKit

/-- what the model's Wraps and WrapsIn are known to give -/
def WrapsP (c : Nat → Dat) : Prop := ∀ (c0 c1 : Int) (c2 : Bool) (c3 c4 : Int) (c5 c6 c7 : ByteArray) (x8 x9 : Value) (w : World), c 0 = .v (.int .i64 c0) → c 1 = .v (.int .i64 c1) → Rd w 0 x8 (c 8) → Fits (c 8) .exprs → Rd w 0 x9 (c 9) → Fits (c 9) .queries →
  Calls Try.prog 27 #[.agg #[.int .i64 c0, .int .i64 c1, .bool c2, .int .i64 c3, .int .i64 c4, .string c5, .string c6, .string c7, x8, x9]] w (IntE ((foldE wrapA c : Nat) : Int) w)
def WrapsInP (q : Nat → Dat) : Prop := ∀ (c0 : Bool) (x1 x2 x3 x4 : Value) (c5 : Int) (w : World), Rd w 0 x1 (q 1) → Fits (q 1) .items → Rd w 0 x2 (q 2) → Fits (q 2) .sources → Rd w 0 x3 (q 3) → Fits (q 3) .exprs → Rd w 0 x4 (q 4) → Fits (q 4) .keys →
  Calls Try.prog 30 #[.agg #[.bool c0, x1, x2, x3, x4, .int .i64 c5]] w (IntE ((foldQ wrapA q : Nat) : Int) w)
set_option maxRecDepth 100000 in
set_option maxHeartbeats 8000000 in
theorem wraps_step (c : Nat → Dat) (n8 n9 : Nat) (f8 f9 : Nat → Nat → Dat) (h8 : c 8 = .sl n8 10 f8) (h9 : c 9 = .sl n9 6 f9) (hN : foldE sizA c ≤ 1048577)
    (IHk : ∀ i, i < n8 → WrapsP (f8 i)) (IHs : ∀ i, i < n9 → WrapsInP (f9 i)) : WrapsP c := by
  intro c0 c1 c2 c3 c4 c5 c6 c7 x8 x9 w e0 e1 r8 q8 r9 q9
  rw [h8] at r8 q8
  rw [h9] at r9 q9
  obtain ⟨a8, p8, rfl⟩ := r8.slice
  obtain ⟨a9, p9, rfl⟩ := r9.slice
  have hP := siz_parts h8 h9
  rw [hP] at hN
  have hW := fun (k : Int) w' (h : Below w.heap.size w w') => wrapped_spec c c0 c1 c2 c3 c4 c5 c6 c7 a8 n8 p8 a9 n9 p9 k w' e0 e1 f8 h8 (r8.later h) q8
  have hU8 : ∀ {j : Nat}, j ≤ n8 → wupto c j + wrapA.of ((List.range j).map fun i => foldE wrapA (f8 i)) ≤ 2097154 := fun {j} hj => by
    have h2 := sizA_mono (g := fun i => foldE sizA (f8 i)) hj
    have h1 := wr_of_le1 j fun i _ => wrE_le (f8 i)
    have h3 := wupto_le c j
    omega
  have hB8 : ∀ {j : Nat}, j < n8 → foldE wrapA (f8 j) ≤ 1048577 := fun {j} hj => by
    have h2 := sizA_el (g := fun i => foldE sizA (f8 i)) hj
    have h3 : (fun i => foldE sizA (f8 i)) j = foldE sizA (f8 j) := rfl
    have h4 := wrE_le (f8 j)
    omega
  have hU9 : ∀ {j : Nat}, j ≤ n9 → (wcnt c + fold wrapA (.sl n8 10 f8) .exprs) + wrapA.of ((List.range j).map fun i => foldQ wrapA (f9 i)) ≤ 2097154 := fun {j} hj => by
    have h2 := sizA_mono (g := fun i => foldQ sizA (f9 i)) hj
    have h1 := wr_of_le j fun i _ => wrQ_le (f9 i)
    have h3 := wr_of_le1 n8 fun i _ => wrE_le (f8 i)
    have h4 : wcnt c ≤ (c 8).len := wupto_le c _
    have h5 : (c 8).len = n8 := by rw [h8]; rfl
    rw [fold_ex]
    omega
  have hB9 : ∀ {j : Nat}, j < n9 → foldQ wrapA (f9 j) ≤ 1048577 := fun {j} hj => by
    have h2 := sizA_el (g := fun i => foldQ sizA (f9 i)) hj
    have h3 : (fun i => foldQ sizA (f9 i)) j = foldQ sizA (f9 j) := rfl
    have h4 := wrQ_le (f9 j)
    omega
  have hwn : wcnt c = wupto c n8 := by unfold wcnt; rw [h8]; rfl
  clear hP e0 e1
  have hn8 := q8.2.1
  have hn9 := q9.2.1
  have H0 := BX.new w 56 #[.int .i64 c0, .int .i64 c1, .bool c2, .int .i64 c3, .int .i64 c4, .string c5, .string c6, .string c7, .slice a8 n8 p8, .slice a9 n9 p9]
  go_enter Try.func27, Try.ntmps27
  go_wp2_with fail
  generalize w.alloc (.cells #[.int .i64 c0, .int .i64 c1, .bool c2, .int .i64 c3, .int .i64 c4, .string c5, .string c6, .string c7, .slice a8 n8 p8, .slice a9 n9 p9] 56) = w0 at H0 ⊢
  go_loopw [3, 4] (fun m i wr => ∃ (j K : Nat), j ≤ n8 ∧ i = .int .i64 (j : Int) ∧ m = .int .i64 (K : Int) ∧ Hid (K = wupto c j + wrapA.of ((List.range j).map fun i => foldE wrapA (f8 i))) ∧ BX w wr 56 #[.int .i64 c0, .int .i64 c1, .bool c2, .int .i64 c3, .int .i64 c4, .string c5, .string c6, .string c7, .slice a8 n8 p8, .slice a9 n9 p9]) (fun _ i _ => n8 - (intOf i).toNat)
  case atStart => exact ⟨0, 0, by omega, rfl, rfl, rfl, H0⟩
  case round =>
    obtain ⟨j, K, hj, rfl, rfl, HK, H⟩ := hrel
    have b0 := H.box.cell (i := 0) (v := .int .i64 c0) rfl
    have b1 := H.box.cell (i := 1) (v := .int .i64 c1) rfl
    have b2 := H.box.cell (i := 2) (v := .bool c2) rfl
    have b3 := H.box.cell (i := 3) (v := .int .i64 c3) rfl
    have b4 := H.box.cell (i := 4) (v := .int .i64 c4) rfl
    have b5 := H.box.cell (i := 5) (v := .string c5) rfl
    have b6 := H.box.cell (i := 6) (v := .string c6) rfl
    have b7 := H.box.cell (i := 7) (v := .string c7) rfl
    have b8 := H.box.cell (i := 8) (v := .slice a8 n8 p8) rfl
    have b9 := H.box.cell (i := 9) (v := .slice a9 n9 p9) rfl
    by_cases hlt : j < n8
    · have hlt2 : (j : Int) < (n8 : Int) := by omega
      go_wp2_with fail
      refine (hW (j : Int) _ H.b).mono ?_
      rintro e w1 ⟨rfl, hb⟩
      replace H := H.next hb
      clear hb
      clear b0 b1 b2 b3 b4 b5 b6 b7 b8 b9
      obtain ⟨g, o, rfl, -, hg, x0, x1, x2, x3, x4, x5, x6, x7, x8, x9, ⟨z0, z1, z2, z3, z4, z5, z6, z7, z8, z9⟩, ⟨⟨e0, b0⟩, ⟨e1, b1⟩, e2, ⟨e3, b3⟩, ⟨e4, b4⟩, ⟨e5, b5⟩, ⟨e6, b6⟩, ⟨e7, b7⟩, ⟨r8, q8_⟩, ⟨r9, q9_⟩⟩⟩ := row_exprs (r8.later H.b) q8 hlt
      have b8 := H.box.cell (i := 8) (v := .slice (some ⟨g, o, none⟩) n8 p8) rfl
      have hS := fun w => IHk j hlt x0 x1 x2 x3 x4 x5 x6 x7 x8 x9 w e0 e1
      have hle := hB8 (j := j) hlt
      generalize hV : foldE wrapA (f8 j) = V at hS hle
      have hK := HK.out
      have hKb : K ≤ 2097154 := by rw [hK]; exact hU8 (by omega)
      have HK2 : Hid ((K + (if wrapB c (j : Int) then 1 else 0)) + V = (wupto c j + (if wrapB c (j : Int) then 1 else 0)) + wrapA.of ((List.range (j + 1)).map fun i => foldE wrapA (f8 i))) := by
        show _ = _
        rw [of_range, hK, hV]
        show _ = _ + (_ + V)
        omega
      clear hV hK HK
      clear e0 e1 e2 e3 e4 e5 e6 e7
      cases hwb : wrapB c (j : Int)
      · have HK3 : Hid (K + V = wupto c (j + 1) + wrapA.of ((List.range (j + 1)).map fun i => foldE wrapA (f8 i))) := by
          show _ = (wupto c j + (if wrapB c (j : Int) then 1 else 0)) + _
          rw [← HK2.out, hwb]; simp
        clear hwb HK2
        go_wp2_with fail
        refine (hS _ (r8) q8_ (r9) q9_).mono ?_
        rintro e w2 ⟨rfl, hb⟩
        replace H := H.next hb
        clear hb hS
        go_wp2_with fail
        go_roundw
        case rel => exact ⟨j + 1, K + V, by omega, by go_num, by go_num, HK3, H⟩
        case measure => simp [intOf]; omega
      · have HK3 : Hid (K + 1 + V = wupto c (j + 1) + wrapA.of ((List.range (j + 1)).map fun i => foldE wrapA (f8 i))) := by
          show _ = (wupto c j + (if wrapB c (j : Int) then 1 else 0)) + _
          rw [← HK2.out, hwb]; simp
        clear hwb HK2
        go_wp2_with fail
        refine (hS _ (r8) q8_ (r9) q9_).mono ?_
        rintro e w2 ⟨rfl, hb⟩
        replace H := H.next hb
        clear hb hS
        go_wp2_with fail
        go_roundw
        case rel => exact ⟨j + 1, K + 1 + V, by omega, by go_num, by go_num, HK3, H⟩
        case measure => simp [intOf]; omega
    · obtain rfl : n8 = j := by omega
      clear hlt hj
      go_wp2_with fail
      go_loopw [3, 5] (fun m i wr => ∃ (j K : Nat), j ≤ n9 ∧ i = .int .i64 (j : Int) ∧ m = .int .i64 (K : Int) ∧ Hid (K = (wcnt c + fold wrapA (.sl n8 10 f8) .exprs) + wrapA.of ((List.range j).map fun i => foldQ wrapA (f9 i))) ∧ BX w wr 56 #[.int .i64 c0, .int .i64 c1, .bool c2, .int .i64 c3, .int .i64 c4, .string c5, .string c6, .string c7, .slice a8 n8 p8, .slice a9 n9 p9]) (fun _ i _ => n9 - (intOf i).toNat)
      case atStart => exact ⟨0, K, by omega, rfl, rfl, (by show K = (wcnt c + fold wrapA (.sl n8 10 f8) .exprs) + 0; rw [fold_ex, HK.out, hwn]; rfl), H⟩
      case round =>
        obtain ⟨j, K, hj, rfl, rfl, HK, H⟩ := hrel
        have b0 := H.box.cell (i := 0) (v := .int .i64 c0) rfl
        have b1 := H.box.cell (i := 1) (v := .int .i64 c1) rfl
        have b2 := H.box.cell (i := 2) (v := .bool c2) rfl
        have b3 := H.box.cell (i := 3) (v := .int .i64 c3) rfl
        have b4 := H.box.cell (i := 4) (v := .int .i64 c4) rfl
        have b5 := H.box.cell (i := 5) (v := .string c5) rfl
        have b6 := H.box.cell (i := 6) (v := .string c6) rfl
        have b7 := H.box.cell (i := 7) (v := .string c7) rfl
        have b8 := H.box.cell (i := 8) (v := .slice a8 n8 p8) rfl
        have b9 := H.box.cell (i := 9) (v := .slice a9 n9 p9) rfl
        by_cases hlt : j < n9
        · have hlt2 : (j : Int) < (n9 : Int) := by omega
          obtain ⟨g, o, rfl, -, hg, x0, x1, x2, x3, x4, x5, ⟨z0, z1, z2, z3, z4, z5⟩, ⟨e0, ⟨r1, q1_⟩, ⟨r2, q2_⟩, ⟨r3, q3_⟩, ⟨r4, q4_⟩, ⟨e5, b5⟩⟩⟩ := row_queries (r9.later H.b) q9 hlt
          have hS := fun w => IHs j hlt x0 x1 x2 x3 x4 x5 w
          have hle := hB9 (j := j) hlt
          generalize hV : foldQ wrapA (f9 j) = V at hS hle
          have hK := HK.out
          have hKb : K ≤ 2097154 := by rw [hK]; exact hU9 (by omega)
          have HK2 : Hid (K + V = (wcnt c + fold wrapA (.sl n8 10 f8) .exprs) + wrapA.of ((List.range (j + 1)).map fun i => foldQ wrapA (f9 i))) := by
            show _ = _
            rw [of_range, hK, hV]
            show _ = _ + (_ + V)
            omega
          clear hV hK HK
          clear e0 e5
          go_wp2_with fail
          refine (hS _ (r1) q1_ (r2) q2_ (r3) q3_ (r4) q4_).mono ?_
          rintro e w1 ⟨rfl, hb⟩
          replace H := H.next hb
          clear hb hS
          go_wp2_with fail
          go_roundw
          case rel => exact ⟨j + 1, K + V, by omega, by go_num, by go_num, HK2, H⟩
          case measure => simp [intOf]; omega
        · obtain rfl : n9 = j := by omega
          have hK := HK.out
          have hKb : K ≤ 2097154 := by rw [hK]; exact hU9 (by omega)
          have HK3 : Hid (foldE wrapA c = K) := by
            show foldE wrapA c = _
            rw [hK]; unfold foldE; rw [h8, h9, fold_qu]
            show wcnt c + (_ + _) = _
            omega
          clear hK HK hlt hj
          go_wp2_with fail
          go_ret
          exact ⟨ret_i64 (by rw [HK3.out] <;> omega), H.b⟩
set_option maxRecDepth 100000 in
set_option maxHeartbeats 8000000 in
theorem wrapsIn_step (q : Nat → Dat) (n1 n2 n3 n4 : Nat) (f1 f2 f3 f4 : Nat → Nat → Dat) (h1 : q 1 = .sl n1 13 f1) (h2 : q 2 = .sl n2 3 f2) (h3 : q 3 = .sl n3 10 f3) (h4 : q 4 = .sl n4 11 f4) (hN : foldQ sizA q ≤ 1048576)
    (IH : ∀ e ∈ exprsOf q, WrapsP e) : WrapsInP q := by
  intro c0 x1 x2 x3 x4 c5 w r1 q1 r2 q2 r3 q3 r4 q4
  rw [h1] at r1 q1
  rw [h2] at r2 q2
  rw [h3] at r3 q3
  rw [h4] at r4 q4
  obtain ⟨a1, p1, rfl⟩ := r1.slice
  obtain ⟨a2, p2, rfl⟩ := r2.slice
  obtain ⟨a3, p3, rfl⟩ := r3.slice
  obtain ⟨a4, p4, rfl⟩ := r4.slice
  have hlen := exprs_len (q := q) (by rw [h1]; exact q1) (by rw [h2]; exact q2) (by rw [h3]; exact q3) (by rw [h4]; exact q4)
  have hfs := foldQ_is sizA_good (q := q) (by rw [h1]; exact q1) (by rw [h2]; exact q2) (by rw [h3]; exact q3) (by rw [h4]; exact q4)
  have hfd := foldQ_is wrapA_good (q := q) (by rw [h1]; exact q1) (by rw [h2]; exact q2) (by rw [h3]; exact q3) (by rw [h4]; exact q4)
  have hL : exprsOf q = ((exItems (.sl n1 13 f1) ++ exFrom (.sl n2 3 f2)) ++ (Dat.sl n3 10 f3).els) ++ (Dat.sl n4 11 f4).els := by unfold exprsOf; rw [h1, h2, h3, h4]
  have hcnt : (exItems (.sl n1 13 f1)).length + (exFrom (.sl n2 3 f2)).length + n3 + n4 ≤ 1048576 := by
    have := hL ▸ hlen
    simp only [List.length_append, els_len] at this
    omega
  have hX := fun w h => exprs_spec c0 a1 n1 p1 a2 n2 p2 a3 n3 p3 a4 n4 p4 c5 f1 f2 f3 f4 w (Rd.later r1 h) q1 (Rd.later r2 h) q2 (Rd.later r3 h) q3 (Rd.later r4 h) q4 hcnt
  rw [← hL] at hX
  have hz0 : ∃ z : Nat → Dat, z = fun _ => .v undef := ⟨_, rfl⟩
  obtain ⟨zz, -⟩ := hz0
  generalize exprsOf q = L at hlen hfs hfd hX IH
  have hLs : sizA.of ((List.range L.length).map fun i => foldE sizA (L.getD i zz)) ≤ 1048576 := by
    rw [range_getD (foldE sizA)]
    have : foldQ sizA q = sizA.of (L.map (foldE sizA)) := hfs
    omega
  have hfd2 : foldQ wrapA q = wrapA.of ((List.range L.length).map fun i => foldE wrapA (L.getD i zz)) := by rw [range_getD (foldE wrapA)]; exact hfd
  have hLl : L.length ≤ 1048576 := by omega
  have hin : ∀ j, j < L.length → WrapsP (L.getD j zz) := fun j hj => IH _ (by rw [List.getD_eq_getElem?_getD, List.getElem?_eq_getElem hj]; exact List.getElem_mem hj)
  have hB : ∀ {j : Nat}, j < L.length → foldE wrapA (L.getD j zz) ≤ 1048576 := fun {j} hj => by
    have h2 := sizA_el (g := fun i => foldE sizA (L.getD i zz)) hj
    have h3 : (fun i => foldE sizA (L.getD i zz)) j = foldE sizA (L.getD j zz) := rfl
    have h4 := wrE_le (L.getD j zz)
    omega
  have hU : ∀ {j : Nat}, j ≤ L.length → wrapA.of ((List.range j).map fun i => foldE wrapA (L.getD i zz)) ≤ 1048576 := fun {j} hj => by
    have h2 := sizA_mono (g := fun i => foldE sizA (L.getD i zz)) hj
    have h1 := wr_of_le j fun i _ => Nat.le_trans (Nat.le_succ _) (wrE_le (L.getD i zz))
    omega
  have HFD := Lib.hid hfd2
  clear hfs hfd hfd2 hLs hlen hL IH h1 h2 h3 h4 hN hcnt
  have H0 := BX.new w 39 #[.bool c0, .slice a1 n1 p1, .slice a2 n2 p2, .slice a3 n3 p3, .slice a4 n4 p4, .int .i64 c5]
  go_enter Try.func30, Try.ntmps30
  go_wp2_with fail
  generalize w.alloc (.cells #[.bool c0, .slice a1 n1 p1, .slice a2 n2 p2, .slice a3 n3 p3, .slice a4 n4 p4, .int .i64 c5] 39) = w0 at H0 ⊢
  refine (hX _ H0.b).mono ?_
  rintro e w1 ⟨v, rfl, hO, hb⟩
  have H1 := H0.next hb
  obtain ⟨a, cap, rfl, hR, hF⟩ := hO.rd hb (by omega) zz
  clear hb hX hO
  go_wp2_with fail
  go_loopw [3, 5] (fun m i wr => ∃ (j K : Nat), j ≤ L.length ∧ i = .int .i64 (j : Int) ∧ m = .int .i64 (K : Int) ∧ Hid (K = wrapA.of ((List.range j).map fun i => foldE wrapA (L.getD i zz))) ∧ BX w wr 39 #[.bool c0, .slice a1 n1 p1, .slice a2 n2 p2, .slice a3 n3 p3, .slice a4 n4 p4, .int .i64 c5] ∧ Below w1.heap.size w1 wr) (fun _ i _ => L.length - (intOf i).toNat)
  case atStart => exact ⟨0, 0, by omega, rfl, rfl, rfl, H1, Below.refl _ _⟩
  case round =>
    obtain ⟨j, K, hj, rfl, rfl, HK, H, hB1⟩ := hrel
    by_cases hlt : j < L.length
    · have hlt2 : (j : Int) < (L.length : Int) := by omega
      obtain ⟨g, o, rfl, -, hg, x0, x1, x2, x3, x4, x5, x6, x7, x8, x9, ⟨z0, z1, z2, z3, z4, z5, z6, z7, z8, z9⟩, ⟨⟨e0, b0⟩, ⟨e1, b1⟩, e2, ⟨e3, b3⟩, ⟨e4, b4⟩, ⟨e5, b5⟩, ⟨e6, b6⟩, ⟨e7, b7⟩, ⟨r8, q8_⟩, ⟨r9, q9_⟩⟩⟩ := row_exprs (hR.later hB1) hF hlt
      have hS := fun w => hin j hlt x0 x1 x2 x3 x4 x5 x6 x7 x8 x9 w e0 e1
      have hle := hB (j := j) hlt
      generalize hV : foldE wrapA (L.getD j zz) = V at hS hle
      have hK := HK.out
      have hKb : K ≤ 1048577 := by rw [hK]; have := hU (j := j) (by omega); omega
      have HK2 : Hid (K + V = wrapA.of ((List.range (j + 1)).map fun i => foldE wrapA (L.getD i zz))) := by
        show K + V = _
        rw [of_range, hK, hV]
        all_goals rfl
      clear hV hK HK e0 e1 e2 e3 e4 e5 e6 e7
      go_wp2_with fail
      refine (hS _ (r8) q8_ (r9) q9_).mono ?_
      rintro e w2 ⟨rfl, hb⟩
      replace H := H.next hb
      replace hB1 := hB1.trans (hb.mono hB1.size)
      clear hb hS
      go_wp2_with fail
      go_roundw
      case rel => exact ⟨j + 1, K + V, by omega, by go_num, by go_num, HK2, H, hB1⟩
      case measure => simp [intOf]; omega
    · have ej : j = L.length := by omega
      subst ej
      have HK3 : Hid (foldQ wrapA q = K) := by
        show foldQ wrapA q = K
        rw [HFD.out, HK.out]
      clear HK hlt hj
      go_wp2_with fail
      go_ret
      exact ⟨ret_i64 (by rw [HK3.out]), H.b⟩
theorem knot_wrapsIn (q : Nat → Dat) (hN : foldQ sizA q ≤ 1048576) (h1 : Fits (q 1) .items) (h2 : Fits (q 2) .sources) (h3 : Fits (q 3) .exprs) (h4 : Fits (q 4) .keys)
    (IH : ∀ e ∈ exprsOf q, Fits (e 8) .exprs → Fits (e 9) .queries → WrapsP e) : WrapsInP q := by
  have hx := exprs_fits h1 h2 h3 h4
  obtain ⟨n1, k1, f1, e1⟩ := h1.deep rfl
  obtain ⟨n2, k2, f2, e2⟩ := h2.deep rfl
  obtain ⟨n3, k3, f3, e3⟩ := h3.deep rfl
  obtain ⟨n4, k4, f4, e4⟩ := h4.deep rfl
  rw [e1] at h1
  rw [e2] at h2
  rw [e3] at h3
  rw [e4] at h4
  obtain rfl : k1 = 13 := h1.2.2.1
  obtain rfl : k2 = 3 := h2.2.2.1
  obtain rfl : k3 = 10 := h3.2.2.1
  obtain rfl : k4 = 11 := h4.2.2.1
  exact wrapsIn_step q n1 n2 n3 n4 f1 f2 f3 f4 e1 e2 e3 e4 hN fun e he => IH e he (hx e he).1 (hx e he).2
theorem wraps_all : ∀ N : Nat, (∀ c : Nat → Dat, foldE sizA c ≤ N → N ≤ 1048577 → Fits (c 8) .exprs → Fits (c 9) .queries → WrapsP c) ∧
    (∀ q : Nat → Dat, foldQ sizA q ≤ N → N ≤ 1048576 → Fits (q 1) .items → Fits (q 2) .sources → Fits (q 3) .exprs → Fits (q 4) .keys → WrapsInP q) := by
  intro N
  induction N with
  | zero =>
    have hE : ∀ c : Nat → Dat, foldE sizA c ≤ 0 → 0 ≤ 1048577 → Fits (c 8) .exprs → Fits (c 9) .queries → WrapsP c := fun c h _ _ _ => by have := sizE_pos c; omega
    exact ⟨hE, fun q h _ h1 h2 h3 h4 => knot_wrapsIn q (Nat.le_trans h (by omega)) h1 h2 h3 h4 fun e he hf8 hf9 => hE e (Nat.le_trans (exprs_siz h1 h2 h3 h4 e he) h) (by omega) hf8 hf9⟩
  | succ N ih =>
    have hE : ∀ c : Nat → Dat, foldE sizA c ≤ N + 1 → N + 1 ≤ 1048577 → Fits (c 8) .exprs → Fits (c 9) .queries → WrapsP c := fun c h hb h8 h9 => by
      obtain ⟨n8, k8, f8, e8⟩ := h8.deep rfl
      obtain ⟨n9, k9, f9, e9⟩ := h9.deep rfl
      rw [e8] at h8
      rw [e9] at h9
      obtain rfl : k8 = 10 := h8.2.2.1
      obtain rfl : k9 = 6 := h9.2.2.1
      have hp := siz_parts e8 e9
      refine wraps_step c n8 n9 f8 f9 e8 e9 (by omega) (fun i hi => ih.1 _ ?_ (by omega) (h8.2.2.2 i hi 8 (by decide)) (h8.2.2.2 i hi 9 (by decide))) (fun i hi => ih.2 _ ?_ (by omega) (h9.2.2.2 i hi 1 (by decide)) (h9.2.2.2 i hi 2 (by decide)) (h9.2.2.2 i hi 3 (by decide)) (h9.2.2.2 i hi 4 (by decide)))
      · have h2 := sizA_el (g := fun i => foldE sizA (f8 i)) hi
        have h3 : (fun i => foldE sizA (f8 i)) i = foldE sizA (f8 i) := rfl
        omega
      · have h2 := sizA_el (g := fun i => foldQ sizA (f9 i)) hi
        have h3 : (fun i => foldQ sizA (f9 i)) i = foldQ sizA (f9 i) := rfl
        omega
    exact ⟨hE, fun q h hb h1 h2 h3 h4 => knot_wrapsIn q (Nat.le_trans h hb) h1 h2 h3 h4 fun e he hf8 hf9 => hE e (Nat.le_trans (exprs_siz h1 h2 h3 h4 e he) h) (by omega) hf8 hf9⟩
end Go.Proofs.Ytfmgkinindkedaa
