/- Joined texts: Paired BelowS PreT. -/
import Derived.Test.YtcliijfdlcagoaaGreatQHAlone
import Derived.Test.YtcliijfdlcagoaaGreatQZAK
namespace Go.Proofs.YtcliijfdlcagoaaGreat
set_option linter.unusedVariables false
set_option linter.unusedSimpArgs false
open Go.RowKit
theorem Tryz.infoTw : (Tryz.prog.info? 127).map (fun i => (i.zero, i.size, i.bytes)) = some (some (.agg #[.int .i64 0, .int .i64 0, .bool false, .int .i64 0, .int .i64 0, .string ByteArray.empty, .string ByteArray.empty, .string ByteArray.empty, .slice none 0 0, .slice none 0 0, .int .i64 0, .int .i64 0, .bool false, .int .i64 0, .int .i64 0, .string ByteArray.empty, .string ByteArray.empty, .string ByteArray.empty, .slice none 0 0, .slice none 0 0]), 20, 272) := by kernel_rfl
theorem make_Twins (w : World) (n : Nat) (hn : n ≤ 4000000) : (Instr.makeSlice 85 (.int .i64 (n : Int)) (.int .i64 (n : Int))).run Tryz.prog w = .ok (.slice (some ⟨w.heap.size, 0, none⟩) n n) (w.alloc (.cells (madeCells #[.int .i64 0, .int .i64 0, .bool false, .int .i64 0, .int .i64 0, .string ⟨#[]⟩, .string ⟨#[]⟩, .string ⟨#[]⟩, .slice none 0 0, .slice none 0 0, .int .i64 0, .int .i64 0, .bool false, .int .i64 0, .int .i64 0, .string ⟨#[]⟩, .string ⟨#[]⟩, .string ⟨#[]⟩, .slice none 0 0, .slice none 0 0] (n * 20)) 127)) := by
  obtain ⟨i, hi, hz, hsize, hby⟩ := info_parts Tryz.infoTw
  have h := run_make (P := Tryz.prog) w 85 127 i _ Tryz.underlying85 hi hz .i64 .i64 (n : Int) (n : Int) (by omega) (by omega) (by rw [hby]; omega) (by omega)
  rw [hsize, Int.toNat_natCast] at h
  exact h
def bdX (T : TypeId) (parts : Array (Nat × Value)) : Sem Next := do pure (.value (← Instr.build T parts))
def stX (T : TypeId) (a v : Value) : Sem Next := do Instr.storeAt T a v; pure .skip
theorem execOp_bdX (ρ : Operand → Value) (dst : Option Tmp) (x y : Operand) (ty : TypeId) (pos : String) (after : Array Edge) (guard : Option (Nat × Bool)) :
    execOp ρ { dst := dst, op := .build 127 #[(0, x), (1, y)], type := ty, pos := pos, after := after, guard := guard } = bdX 127 #[(0, ρ x), (1, ρ y)] := by simp [execOp, bdX]
theorem execOp_stX (ρ : Operand → Value) (dst : Option Tmp) (x y : Operand) (ty : TypeId) (pos : String) (after : Array Edge) (guard : Option (Nat × Bool)) :
    execOp ρ { dst := dst, op := .store 127 x y, type := ty, pos := pos, after := after, guard := guard } = stX 127 (ρ x) (ρ y) := rfl
theorem run_bdX {w0 : World} {a b : Nd} {ys ys' : List Value} (h : OutK exprTy w0 ys [a]) (h' : OutK exprTy w0 ys' [b]) (w : World) :
    (bdX 127 #[(0, .agg ys.toArray), (1, .agg ys'.toArray)]).run Tryz.prog w = .ok (.value (.agg (ys ++ ys').toArray)) w := by
  obtain ⟨x0, x1, x2, x3, x4, x5, x6, x7, ax8, nx8, px8, ax9, nx9, px9, rfl, -⟩ := h.ten
  obtain ⟨y0, y1, y2, y3, y4, y5, y6, y7, ay8, ny8, py8, ay9, ny9, py9, rfl, -⟩ := h'.ten
  simp [bdX, go_sem]
theorem out_pair {w0 : World} {a b : Nd} {ys ys' : List Value} (h : OutK exprTy w0 ys [a]) (h' : OutK exprTy w0 ys' [b]) : OutK twTy w0 (ys ++ ys') [pairT a b] := by
  have hl : ys.length = 10 := h.1
  have hl' : ys'.length = 10 := h'.1
  refine OutK.one (by rw [List.length_append, hl, hl']; rfl) fun j hj => ?_
  have hj20 : j < 20 := hj
  by_cases e : j < 10
  · obtain ⟨y, hy, hr, hf⟩ := h.cellOf j e
    refine ⟨y, by rw [List.getElem?_append_left (by omega)]; exact hy, by rw [pairT_a a b e]; exact hr, ?_⟩
    have ht : twTy[j] = exprTy[j]'e := by show (exprTy ++ exprTy)[j]'hj = _; exact List.getElem_append_left e
    rw [pairT_a a b e]; exact (congrArg (Fits (a j)) ht).mpr hf
  · obtain ⟨y, hy, hr, hf⟩ := h'.cellOf (j - 10) (by show j - 10 < 10; omega)
    have hp : pairT a b j = b (j - 10) := if_neg e
    refine ⟨y, by rw [List.getElem?_append_right (by omega), hl]; exact hy, by rw [hp]; exact hr, ?_⟩
    have ht : twTy[j] = exprTy[j - 10]'(by show j - 10 < 10; omega) := by show (exprTy ++ exprTy)[j]'hj = _; exact List.getElem_append_right (by show 10 ≤ j; omega)
    rw [hp]; exact (congrArg (Fits (b (j - 10))) ht).mpr hf
theorem RowK.snoc {tys : List Ty} {T : TypeId} {w0 w w' : World} {g cap : Nat} {R : List Nd} {c : Nd} {zs : List Value} (h : RowK tys T w0 w g cap R) (hi : R.length < cap) (hz : OutK tys w0 zs [c])
    (hw : ∀ cs, RowAt w g T cs → ∃ cs', RowAt w' g T cs' ∧ cs'.size = cs.size ∧ (∀ x, x < R.length * tys.length → cs'[x]? = cs[x]?) ∧ ∀ m u, zs[m]? = some u → cs'[R.length * tys.length + m]? = some u) :
    RowK tys T w0 w' g cap (R ++ [c]) := by
  obtain ⟨cs, h1, h2, h3, h4⟩ := h
  obtain ⟨cs', k1, k2, k3, k4⟩ := hw cs h1
  refine ⟨cs', k1, by rw [k2, h2], by rw [List.length_append]; simp; omega, fun k c' hk => ?_⟩
  by_cases e : k < R.length
  · rw [List.getElem?_append_left e] at hk
    obtain ⟨ys, hy, hc⟩ := h4 k c' hk
    refine ⟨ys, hy, fun m u hm => ?_⟩
    have hyl : ys.length = tys.length := by have := hy.1; simpa using this
    have hml : m < tys.length := by have := (List.getElem?_eq_some_iff.1 hm).1; omega
    rw [k3 _ (mul_lt_of e hml)]
    exact hc m u hm
  · have hkl := (List.getElem?_eq_some_iff.1 hk).1
    rw [List.length_append] at hkl
    simp at hkl
    obtain rfl : k = R.length := by omega
    rw [List.getElem?_append_right (Nat.le_refl _), Nat.sub_self] at hk
    obtain rfl : c = c' := by simpa using hk
    exact ⟨zs, hz, k4⟩
theorem run_stX {w w0 : World} {B i cap : Nat} {R : List Nd} {c : Nd} {zs : List Value} (h : RowK twTy 127 w0 w B cap R) (hi : R.length < cap) (hz : OutK twTy w0 zs [c]) (e : i = R.length) :
    ∃ w', (stX 127 (.pointer (some ⟨B, i * 20, none⟩)) (.agg zs.toArray)).run Tryz.prog w = .ok .skip w' ∧ RowK twTy 127 w0 w' B cap (R ++ [c]) ∧ ∀ C, C ≤ B → Below C w w' := by
  subst e
  obtain ⟨cs, h1, h2, h3, h4⟩ := h
  have hzl : zs.length = 20 := hz.1
  have hle : R.length * 20 + 20 ≤ cs.size := by
    rw [h2]
    have := Nat.mul_le_mul_right 20 (show R.length + 1 ≤ cap by omega)
    show R.length * 20 + 20 ≤ cap * 20
    omega
  have hcl : cs.toList.length = cs.size := Array.length_toList
  have hst := run_storeCells_at (P := Tryz.prog) B (R.length * 20) 127 zs 0 cs w h1 (by omega) hz.ones
  rw [Nat.add_zero] at hst
  refine ⟨w.setRow B (cs.toList.take (R.length * 20) ++ zs ++ cs.toList.drop (R.length * 20 + zs.length)).toArray, ?_, RowK.snoc ⟨cs, h1, h2, h3, h4⟩ hi hz fun cs2 hcs2 => ?_, ?_⟩
  · simp [stX, Instr.storeAt, Instr.sureAddr, storeVar, Value.cells, Tryz.sizeOf127, hzl, hst, Result.andThen]
  · have e2 : cs2 = cs := by have h3 := hcs2.symm.trans h1; injection h3 with h3; injection h3
    subst e2
    refine ⟨_, setRow_heap w B cs2 _ _ _ h1, ?_, fun x hx => ?_, fun m u hm => ?_⟩
    · simp only [List.size_toArray, List.length_append, List.length_take, List.length_drop, hzl]
      omega
    · have hx' : x < R.length * 20 := hx
      rw [List.getElem?_toArray, List.append_assoc, List.getElem?_append_left (by rw [List.length_take]; omega), List.getElem?_take_of_lt hx']
      simp
    · have hm' : m < zs.length := (List.getElem?_eq_some_iff.1 hm).1
      show _[R.length * 20 + m]? = _
      rw [List.getElem?_toArray, List.append_assoc, List.getElem?_append_right (by rw [List.length_take]; omega), List.length_take, List.getElem?_append_left (by omega)]
      rw [show R.length * 20 + m - min (R.length * 20) cs2.toList.length = m by omega]
      exact hm
  · exact fun C hC => ⟨rfl, rfl, rfl, by simp, fun k hk => setRow_other w B k _ (by omega)⟩
attribute [local go_sem ↓] execOp_bdX execOp_stX execOp_ldE
set_option maxRecDepth 100000 in
set_option maxHeartbeats 8000000 in
theorem paired_any (w0 W : World) (a1 : Option Addr) (p1 : Nat) (a2 : Option Addr) (p2 : Nat) (L1 L2 : List Nd) (h1 : LK exprTy w0 W (fun _ => True) (.slice a1 L1.length p1) L1) (h2 : LK exprTy w0 W (fun _ => True) (.slice a2 L2.length p2) L2)
    (hl : L1.length = L2.length) (hN : L1.length ≤ 4000000) :
    Calls Tryz.prog 49 #[.slice a1 L1.length p1, .slice a2 L2.length p2] W fun e w' => ∃ v, e = .returned v ∧ LK twTy w0 w' (fun q => q = W.heap.size) v (List.zipWith pairT L1 L2) ∧ Below W.heap.size W w' := by
  have hmk := make_Twins W L1.length hN
  have HR0 : RowK twTy 127 w0 (W.alloc (.cells (madeCells #[.int .i64 0, .int .i64 0, .bool false, .int .i64 0, .int .i64 0, .string ⟨#[]⟩, .string ⟨#[]⟩, .string ⟨#[]⟩, .slice none 0 0, .slice none 0 0, .int .i64 0, .int .i64 0, .bool false, .int .i64 0, .int .i64 0, .string ⟨#[]⟩, .string ⟨#[]⟩, .string ⟨#[]⟩, .slice none 0 0, .slice none 0 0] (L1.length * 20)) 127)) W.heap.size L1.length (List.zipWith pairT (L1.take 0) (L2.take 0)) :=
    ⟨_, RowAt.new W _ _, by simp [madeCells]; rfl, Nat.zero_le _, fun k c hk => by simp at hk⟩
  have hB0 := (Below.refl W.heap.size W).alloc (Nat.le_refl _) (.cells (madeCells #[.int .i64 0, .int .i64 0, .bool false, .int .i64 0, .int .i64 0, .string ⟨#[]⟩, .string ⟨#[]⟩, .string ⟨#[]⟩, .slice none 0 0, .slice none 0 0, .int .i64 0, .int .i64 0, .bool false, .int .i64 0, .int .i64 0, .string ⟨#[]⟩, .string ⟨#[]⟩, .string ⟨#[]⟩, .slice none 0 0, .slice none 0 0] (L1.length * 20)) 127)
  have HL := Lib.hid hl
  clear hl
  go_enter Tryz.func49, Tryz.ntmps49
  go_wp2_with fail
  clear hmk
  generalize W.alloc (.cells (madeCells #[.int .i64 0, .int .i64 0, .bool false, .int .i64 0, .int .i64 0, .string ⟨#[]⟩, .string ⟨#[]⟩, .string ⟨#[]⟩, .slice none 0 0, .slice none 0 0, .int .i64 0, .int .i64 0, .bool false, .int .i64 0, .int .i64 0, .string ⟨#[]⟩, .string ⟨#[]⟩, .string ⟨#[]⟩, .slice none 0 0, .slice none 0 0] (L1.length * 20)) 127) = w1 at HR0 hB0 ⊢
  go_loopw [12] (fun i wr => ∃ j : Nat, j ≤ L1.length ∧ i = .int .i64 (j : Int) ∧ RowK twTy 127 w0 wr W.heap.size L1.length (List.zipWith pairT (L1.take j) (L2.take j)) ∧ Below W.heap.size W wr) (fun i _ => L1.length - (intOf i).toNat)
  case atStart => exact ⟨0, by omega, rfl, HR0, hB0⟩
  case round =>
    obtain ⟨j, hj, rfl, HR, hB⟩ := hrel
    by_cases hlt : j < L1.length
    · have hlt2 : (j : Int) < (L1.length : Int) := by omega
      have hltb : j < L2.length := by have := HL.out; omega
      have hltb2 : (j : Int) < (L2.length : Int) := by omega
      obtain ⟨g, o, cap', ys, hv, hys, -, hg, hcell⟩ := h1.at (List.getElem?_eq_getElem hlt)
      injection hv with e1 _ e3
      subst e1; subst e3
      obtain ⟨g2, o2, cap2, ys2, hv2, hys2, -, hg2, hcell2⟩ := h2.at (List.getElem?_eq_getElem hltb)
      injection hv2 with e1 _ e3
      subst e1; subst e3
      have hyl : ys.length = 10 := hys.1
      have hyl2 : ys2.length = 10 := hys2.1
      have hb := run_bdX hys hys2
      have X1 : ∀ n, (ldX 79 (.pointer (some ⟨g, o + j * 10, none⟩))).run Tryz.prog (lat wr n) = .ok (.value (.agg ys.toArray)) (lat wr n) := fun n => run_ldX hyl Tryz.isAgg79 Tryz.sizeOf79 fun m u hm => lat_cell ((hB.cell (p := ⟨g, o + j * 10 + m, none⟩) hg).trans (hcell m u hm)) n
      have X2 : ∀ n, (ldX 79 (.pointer (some ⟨g2, o2 + j * 10, none⟩))).run Tryz.prog (lat wr n) = .ok (.value (.agg ys2.toArray)) (lat wr n) := fun n => run_ldX hyl2 Tryz.isAgg79 Tryz.sizeOf79 fun m u hm => lat_cell ((hB.cell (p := ⟨g2, o2 + j * 10 + m, none⟩) hg2).trans (hcell2 m u hm)) n
      have hout := Lib.hid (out_pair hys hys2)
      clear hcell hcell2 hys hys2
      go_wp2_with fail
      refine region_lat_tail 12 (by kernel_rfl) (by kernel_rfl) ?_
      simp only [List.take_succ_cons, List.take_zero, List.drop_succ_cons, List.drop_zero]
      iterate 12 go_big_quiet_step (fail)
      refine wpQuiet_nil ?_
      rintro _ ⟨m, rfl⟩
      have hbl := lat_below wr m
      have HR1 := HR.later hbl
      have hB1 := hB.trans (hbl.mono hB.size)
      generalize lat wr m = w2 at HR1 hB1 ⊢
      have hlen : (List.zipWith pairT (L1.take j) (L2.take j)).length = j := by
        rw [List.length_zipWith, List.length_take, List.length_take]
        have := HL.out
        omega
      obtain ⟨w3, hst, HR3, hb3⟩ := run_stX (i := j) HR1 (by rw [hlen]; exact hlt) hout.out hlen.symm
      have hB3 := hB1.trans (hb3 W.heap.size (Nat.le_refl _))
      have hs : List.zipWith pairT (L1.take j) (L2.take j) ++ [pairT L1[j] L2[j]] = List.zipWith pairT (L1.take (j + 1)) (L2.take (j + 1)) := by
        rw [take_next (List.getElem?_eq_getElem hlt), take_next (List.getElem?_eq_getElem hltb), List.zipWith_append (by rw [List.length_take, List.length_take]; have := HL.out; omega)]
        rfl
      rw [hs] at HR3
      have HRR := Lib.hid HR3
      have HBB := Lib.hid hB3
      clear hs hlen HR3 hB3 hb3 HR1 hB1 HR hB X1 X2 hb hbl hout
      go_wp2_with fail
      go_roundw
      case rel => exact ⟨j + 1, by omega, by go_num, HRR.out, HBB.out⟩
      case measure => simp [intOf]; omega
    · obtain rfl : j = L1.length := by omega
      clear hlt hj
      have hl := HL.out
      have hlk := HR.lk (i := L1.length) (cap' := L1.length) (by rw [List.length_zipWith, List.length_take, List.length_take]; omega) (Nat.le_refl _)
      have he : (List.zipWith pairT (L1.take L1.length) (L2.take L1.length)).take L1.length = List.zipWith pairT L1 L2 := by
        rw [List.take_length, hl, List.take_length, List.take_of_length_le (by rw [List.length_zipWith]; omega)]
      rw [he] at hlk
      clear he hl
      go_wp2_with fail
      go_ret
      exact ⟨_, rfl, hlk, hB⟩
set_option maxRecDepth 100000 in
set_option maxHeartbeats 8000000 in
theorem below_slots (w0 W : World) (c : Nd) (ys : List Value) (hys : OutK exprTy w0 ys [c]) (hb0 : Below w0.heap.size w0 W) (hc : Bd c) :
    Calls Tryz.prog 95 #[.agg ys.toArray, .func (.func 85) #[] #[]] W fun e w' => ∃ v, e = .returned v ∧ PB w0 w' (W.heap.size + 1) v ((c 8).els ++ (c 9).els.flatMap slotsOf) ∧ Below W.heap.size W w' := by
  obtain ⟨c0, c1, c2, c3, c4, c5, c6, c7, a8, n8, p8, a9, n9, p9, rfl, -, -, -, -, -, -, -, -, ⟨r8, q8⟩, ⟨r9, q9⟩⟩ := hys.ten
  obtain ⟨f8, e8, r8, q8⟩ := r8.openS q8 rfl
  obtain ⟨f9, e9, r9, q9⟩ := r9.openS q9 rfl
  have m8 := hc.m8
  have m9 := hc.m9
  rw [e8] at m8
  rw [e9] at m9
  rw [e8, e9]
  replace m8 : msr (.sl n8 10 f8) ≤ 1048576 := m8
  replace m9 : msr (.sl n9 6 f9) ≤ 1048576 := m9
  replace r8 : Rd w0 0 (.slice a8 n8 p8) (.sl n8 10 f8) := r8
  replace r9 : Rd w0 0 (.slice a9 n9 p9) (.sl n9 6 f9) := r9
  replace q8 : Fits (.sl n8 10 f8) .exprs := q8
  replace q9 : Fits (.sl n9 6 f9) .queries := q9
  show Calls _ _ _ _ fun e w' => ∃ v, e = .returned v ∧ PB w0 w' (W.heap.size + 1) v ((Dat.sl n8 10 f8).els ++ (Dat.sl n9 6 f9).els.flatMap slotsOf) ∧ Below W.heap.size W w'
  have hn9 : n9 ≤ 9223372036854775807 := q9.2.1
  have hn8 : n8 ≤ 1048576 := Nat.le_trans (msr_n _ _ _) m8
  clear hys hc e8 e9
  have hz := hb0.size
  have HB := BX.new W 79 #[.int .i64 c0, .int .i64 c1, .bool c2, .int .i64 c3, .int .i64 c4, .string c5, .string c6, .string c7, .slice a8 n8 p8, .slice a9 n9 p9]
  have hlk := r8.lk (G := fun g => g < w0.heap.size) q8 fun g h => h
  have hl8 : (Dat.sl n8 10 f8).els.length = n8 := els_len _ _ _
  have hPB : PB w0 (W.alloc (.cells #[.int .i64 c0, .int .i64 c1, .bool c2, .int .i64 c3, .int .i64 c4, .string c5, .string c6, .string c7, .slice a8 n8 p8, .slice a9 n9 p9] 79)) (W.heap.size + 1) (.slice a8 n8 n8) (Dat.sl n8 10 f8).els := by
    obtain ⟨ax, cx, C, e, hC, hcell⟩ := hlk
    injection e with e1 e2 e3
    subst e1; subst e3
    cases a8 with
    | none =>
      have h0 : (Dat.sl n8 10 f8).els = [] := by
        rcases hcell with h | ⟨_, _, h, _⟩
        · exact h
        · cases h
      have hn0 : n8 = 0 := by rw [← hl8, h0]; rfl
      subst hn0
      exact .inr ⟨[], World.ownsRow_nil _ _ _ _, OutP.nil w0⟩
    | some b => exact .inl ⟨b, n8, rfl, _, n8, C, by rw [hl8], hC, hcell.imp id fun ⟨g, o, e, h1, h2⟩ => ⟨g, o, e, by rw [hl8]; exact Nat.le_refl _, h2⟩⟩
  have hclip := clip_any a8 n8 p8 (by obtain ⟨_, _, e, h, _⟩ := r8; injection e with _ _ e3; omega) (by omega) (by obtain ⟨_, _, e, _, _, h⟩ := r8; injection e with e1 e2 e3; subst e1; exact h.imp id fun ⟨g, o, e, _⟩ => ⟨g, o, e⟩)
  go_enter Tryz.func95, Tryz.ntmps95
  have b8 := HB.box.cell (i := 8) (v := .slice a8 n8 p8) rfl
  have b9 := HB.box.cell (i := 9) (v := .slice a9 n9 p9) rfl
  go_wp2_with fail
  generalize W.alloc (.cells #[.int .i64 c0, .int .i64 c1, .bool c2, .int .i64 c3, .int .i64 c4, .string c5, .string c6, .string c7, .slice a8 n8 p8, .slice a9 n9 p9] 79) = w1 at HB hPB b8 b9 ⊢
  refine (hclip w1).mono ?_
  rintro e w2 ⟨rfl, rfl⟩
  clear hclip b8
  go_wp2_with fail
  clear b9
  have HS : BS w0 W w2 (.slice a8 n8 n8) ((Dat.sl n8 10 f8).els ++ (Dat.sl 0 6 f9).els.flatMap slotsOf) := ⟨by show PB _ _ _ _ (_ ++ []); rw [List.append_nil]; exact hPB, HB.b, hb0.trans (HB.b.mono hz), HB.box.lt⟩
  clear HB hPB hlk
  go_loopw [5, 14] (fun out i wr => ∃ (j : Nat) (v : Value), j ≤ n9 ∧ i = .int .i64 (j : Int) ∧ v = out ∧ BS w0 W wr v ((Dat.sl n8 10 f8).els ++ (Dat.sl j 6 f9).els.flatMap slotsOf)) (fun _ i _ => n9 - (intOf i).toNat)
  case atStart => exact ⟨0, _, by omega, rfl, rfl, HS⟩
  case round =>
    obtain ⟨j, v, hj, rfl, rfl, H⟩ := hrel
    by_cases hlt : j < n9
    · have hlt2 : (j : Int) < (n9 : Int) := by omega
      obtain ⟨g, o, rfl, -, hg, d0, x1, x2, x3, x4, d5, ⟨z0, z1, z2, z3, z4, z5⟩, ⟨e0, ⟨r1, q1⟩, ⟨r2, q2⟩, ⟨r3, q3⟩, ⟨r4, q4⟩, ⟨e5, _⟩⟩⟩ := row_queries r9 q9 hlt
      obtain ⟨a1, n1, t1, rfl⟩ := r1.slice_of q1 rfl
      obtain ⟨a2, n2, t2, rfl⟩ := r2.slice_of q2 rfl
      obtain ⟨a3, n3, t3, rfl⟩ := r3.slice_of q3 rfl
      obtain ⟨a4, n4, t4, rfl⟩ := r4.slice_of q4 rfl
      have hrow := row_msr (n := n9) (f := f9) hlt
      obtain ⟨h1, E1, r1, q1⟩ := r1.openS q1 rfl
      obtain ⟨h2, E2, r2, q2⟩ := r2.openS q2 rfl
      obtain ⟨h3, E3, r3, q3⟩ := r3.openS q3 rfl
      obtain ⟨h4, E4, r4, q4⟩ := r4.openS q4 rfl
      have hN : n1 + (exFrom (.sl n2 3 h2)).length + n3 + n4 ≤ 1048576 := by
        rw [E1, E2, E3, E4] at hrow
        have k1 := msr_n n1 13 h1
        have k2 := exFrom_msr q2
        have k3 := msr_n n3 10 h3
        have k4 := msr_n n4 11 h4
        simp only [rowTy, exprTy, List.length_cons, List.length_nil, List.length_append, Nat.zero_add, Nat.reduceAdd] at hrow
        omega
      have hex : slotsOf (f9 j) = ((((Dat.sl n1 13 h1).els.map (cut 2)) ++ exFrom (.sl n2 3 h2)) ++ (Dat.sl n3 10 h3).els) ++ (Dat.sl n4 11 h4).els := by
        unfold slotsOf
        rw [E1, E2, E3, E4]
        rfl
      have hlen : ((Dat.sl n8 10 f8).els ++ (Dat.sl j 6 f9).els.flatMap slotsOf).length + (slotsOf (f9 j)).length ≤ 4000000 := by
        have k1 := flat_slots_msr q9 (show j + 1 ≤ n9 by omega)
        rw [els_succ, List.flatMap_append, List.length_append, show [f9 j].flatMap slotsOf = slotsOf (f9 j) from List.append_nil _] at k1
        rw [List.length_append, hl8]
        omega
      have hs : (Dat.sl n8 10 f8).els ++ (Dat.sl (j + 1) 6 f9).els.flatMap slotsOf = ((Dat.sl n8 10 f8).els ++ (Dat.sl j 6 f9).els.flatMap slotsOf) ++ slotsOf (f9 j) := by
        rw [els_succ, List.flatMap_append, show [f9 j].flatMap slotsOf = slotsOf (f9 j) from List.append_nil _, List.append_assoc]
      replace z0 := (H.b0.cell (p := ⟨g, o + j * 6, none⟩) hg).trans z0
      replace z1 := (H.b0.cell (p := ⟨g, o + j * 6 + 1, none⟩) hg).trans z1
      replace z2 := (H.b0.cell (p := ⟨g, o + j * 6 + 2, none⟩) hg).trans z2
      replace z3 := (H.b0.cell (p := ⟨g, o + j * 6 + 3, none⟩) hg).trans z3
      replace z4 := (H.b0.cell (p := ⟨g, o + j * 6 + 4, none⟩) hg).trans z4
      replace z5 := (H.b0.cell (p := ⟨g, o + j * 6 + 5, none⟩) hg).trans z5
      have hal : Below wr.heap.size wr (wr.alloc (.cells #[.bool d0, .slice a1 n1 t1, .slice a2 n2 t2, .slice a3 n3 t3, .slice a4 n4 t4, .int .i64 d5] 39)) := (Below.refl _ _).alloc (Nat.le_refl _) _
      have H1 := H.next hal
      obtain ⟨_, hlk1⟩ := Rd.lkK (ty := .items) (G := fun g => g < w0.heap.size) r1 q1 fun g hg => hg
      have hl1 : (Dat.sl n1 13 h1).els.length = n1 := els_len _ _ _
      have hcall := slots_any w0 (wr.alloc (.cells #[.bool d0, .slice a1 n1 t1, .slice a2 n2 t2, .slice a3 n3 t3, .slice a4 n4 t4, .int .i64 d5] 39)) d0 a1 t1 (Dat.sl n1 13 h1).els a2 n2 t2 a3 n3 t3 a4 n4 t4 d5 h2 h3 h4 H1.b0 (by rw [hl1]; exact hlk1.keep H1.b0.size (fun g hg _ => H1.b0.block g hg) fun _ _ _ => trivial) r2 q2 r3 q3 r4 q4 (by rw [hl1]; exact hN)
      rw [hl1] at hcall
      clear hlk1 hl1
      rw [← hex] at hcall
      have HSS := Lib.hid hs
      have HL := Lib.hid hlen
      clear hs hlen hex hrow E1 E2 E3 E4 e0 e5 r1 r2 r3 r4 q1 q2 q3 q4 hN
      go_wp2_with fail
      refine hcall.mono ?_
      clear hcall
      rintro e w3 ⟨v3, rfl, ho, hb3⟩
      have H3 := H1.next (hb3.mono (by simp))
      clear z0 z1 z2 z3 z4 z5 hal H1 hb3
      go_wp2_with (at_builtin; refine appF rfl (.tmp 18) (.tmp 21) rfl w0 (W.heap.size + 1) _ v v3 ((Dat.sl n8 10 f8).els ++ (Dat.sl j 6 f9).els.flatMap slotsOf) (slotsOf (f9 j)) w3 rfl rfl H3.b0 H3.own ho HL.out H3.sz ?_; intro v' w' hown' hb')
      have H4 := H3.app hown' hb' hz
      rw [← HSS.out] at H4
      go_roundw
      case rel => exact ⟨j + 1, _, by omega, by go_num, rfl, H4⟩
      case measure => simp [intOf]; omega
    · obtain rfl : n9 = j := by omega
      clear hlt hj
      go_wp2_with fail
      go_ret
      exact ⟨v, rfl, H.own, H.b⟩
def wt (c : Nd) : Nat := msr (c 8) + msr (c 9) + 1
def wsum (l : List Nd) : Nat := (l.map wt).sum
theorem wsum_append (l r : List Nd) : wsum (l ++ r) = wsum l + wsum r := by unfold wsum; rw [List.map_append, List.sum_append]
theorem wsum_cons (a : Nd) (r : List Nd) : wsum (a :: r) = wt a + wsum r := by unfold wsum; rw [List.map_cons, List.sum_cons]
theorem wsum_range {n k : Nat} {f : Nat → Nat → Dat} {g : Nat → Nd} (h : ∀ i, i < n → wt (g i) ≤ rowm f k i + 1) : wsum ((List.range n).map g) ≤ msr (.sl n k f) := by
  have key : ∀ m, m ≤ n → wsum ((List.range m).map g) ≤ m + partm f k m := fun m => by
    induction m with
    | zero => intro _; exact Nat.zero_le _
    | succ m ih =>
      intro hm
      have h1 := ih (by omega)
      have h2 := h m (by omega)
      rw [List.range_succ, List.map_append, wsum_append, partm_succ]
      show _ + (wt (g m) + 0) ≤ _
      omega
  rw [msr_is]
  exact key n (Nat.le_refl _)
theorem rowm_two {f : Nat → Nat → Dat} {k i a b : Nat} (hab : a < b) (hb : b < k) : msr (f i a) + msr (f i b) ≤ rowm f k i := by
  have key : ∀ k, (b < k → msr (f i a) + msr (f i b) ≤ rowm f k i) ∧ (a < k → msr (f i a) ≤ rowm f k i) := fun k => by
    induction k with
    | zero => exact ⟨fun h => absurd h (Nat.not_lt_zero _), fun h => absurd h (Nat.not_lt_zero _)⟩
    | succ k ih =>
      have hs : rowm f (k + 1) i = rowm f k i + msr (f i k) := by unfold rowm; rw [List.range_succ]; simp
      refine ⟨fun h => ?_, fun h => ?_⟩
      · by_cases e : b = k
        · subst e
          have := ih.2 hab
          omega
        · have := ih.1 (by omega)
          omega
      · by_cases e : a = k
        · subst e; omega
        · have := ih.2 (by omega)
          omega
  exact (key k).1 hb
theorem rowm_one {f : Nat → Nat → Dat} {k i a : Nat} (ha : a < k) : msr (f i a) ≤ rowm f k i := by
  have h := rowm_two (f := fun i j => if j = k then .v undef else f i j) (i := i) (k := k + 1) ha (Nat.lt_succ_self k)
  have hs : rowm (fun i j => if j = k then Dat.v undef else f i j) (k + 1) i = rowm (fun i j => if j = k then Dat.v undef else f i j) k i + msr (Dat.v undef) := by
    unfold rowm; rw [List.range_succ]; simp
  have he : rowm (fun i j => if j = k then Dat.v undef else f i j) k i = rowm f k i := by
    unfold rowm
    congr 1
    refine List.map_congr_left fun j hj => ?_
    rw [List.mem_range] at hj
    show msr (if j = k then _ else _) = _
    rw [if_neg (by omega)]
  have hu : msr (Dat.v undef) = 0 := by unfold msr; rfl
  rw [hs, he, hu] at h
  simp only [if_neg (show ¬ a = k by omega)] at h
  omega
theorem wsum_exprs {d : Dat} (h : Fits d .exprs) : wsum d.els ≤ msr d := by
  obtain ⟨n, k, f, rfl⟩ := h.deep rfl
  have hk : k = 10 := h.2.2.1
  subst hk
  exact wsum_range fun i _ => by have := rowm_two (f := f) (k := 10) (i := i) (a := 8) (b := 9) (by decide) (by decide); show msr (f i 8) + msr (f i 9) + 1 ≤ _; omega
theorem wsum_keys {d : Dat} (h : Fits d .keys) : wsum d.els ≤ msr d := by
  obtain ⟨n, k, f, rfl⟩ := h.deep rfl
  have hk : k = 11 := h.2.2.1
  subst hk
  exact wsum_range fun i _ => by have := rowm_two (f := f) (k := 11) (i := i) (a := 8) (b := 9) (by decide) (by decide); show msr (f i 8) + msr (f i 9) + 1 ≤ _; omega
theorem wsum_items {d : Dat} (h : Fits d .items) : wsum (d.els.map (cut 2)) ≤ msr d := by
  obtain ⟨n, k, f, rfl⟩ := h.deep rfl
  have hk : k = 13 := h.2.2.1
  subst hk
  show wsum (((List.range n).map f).map (cut 2)) ≤ _
  rw [List.map_map]
  exact wsum_range fun i _ => by have := rowm_two (f := f) (k := 13) (i := i) (a := 10) (b := 11) (by decide) (by decide); show msr (f i 10) + msr (f i 11) + 1 ≤ _; omega
theorem wsum_from {d : Dat} (h : Fits d .sources) : wsum (exFrom d) ≤ msr d := by
  obtain ⟨n, k, f, rfl⟩ := h.deep rfl
  have hk : k = 3 := h.2.2.1
  subst hk
  have key : ∀ m, m ≤ n → wsum (exFrom (.sl m 3 f)) ≤ partm f 3 m := fun m => by
    induction m with
    | zero => intro _; exact Nat.zero_le _
    | succ m ih =>
      intro hm
      have h1 := ih (by omega)
      have h2 : Fits (f m 2) .exprs := h.2.2.2 m (by omega) 2 (by decide)
      have h3 := wsum_exprs h2
      have h4 := rowm_one (f := f) (k := 3) (i := m) (a := 2) (by decide)
      rw [exFrom_succ, wsum_append, partm_succ]
      omega
  rw [msr_is]
  have := key n (Nat.le_refl _)
  omega
theorem wsum_slots {q : Nd} (h : FitsQ q) : wsum (slotsOf q) ≤ msr (q 1) + msr (q 2) + msr (q 3) + msr (q 4) := by
  unfold slotsOf
  rw [wsum_append, wsum_append, wsum_append]
  have h1 := wsum_items h.1
  have h2 := wsum_from h.2.1
  have h3 := wsum_exprs h.2.2.1
  have h4 := wsum_keys h.2.2.2
  omega
theorem wsum_queries {d : Dat} (h : Fits d .queries) : wsum (d.els.flatMap slotsOf) ≤ msr d := by
  obtain ⟨n, k, f, rfl⟩ := h.deep rfl
  have hk : k = 6 := h.2.2.1
  subst hk
  have key : ∀ m, m ≤ n → wsum ((Dat.sl m 6 f).els.flatMap slotsOf) ≤ partm f 6 m := fun m => by
    induction m with
    | zero => intro _; exact Nat.zero_le _
    | succ m ih =>
      intro hm
      have h1 := ih (by omega)
      have h2 := wsum_slots (fitsQ_of h (q := f m) (List.mem_map.2 ⟨m, List.mem_range.2 (show m < n by omega), rfl⟩))
      have hs : rowm f 6 m = ((List.range 6).map fun j => msr (f m j)).sum := rfl
      simp only [List.range_succ, List.range_zero, List.nil_append, List.cons_append, List.map_cons, List.map_nil, List.sum_cons, List.sum_nil] at hs
      rw [els_succ, List.flatMap_append, wsum_append, show [f m].flatMap slotsOf = slotsOf (f m) from List.append_nil _, partm_succ]
      omega
  rw [msr_is]
  have := key n (Nat.le_refl _)
  omega
theorem wsum_parts {c : Nd} (h8 : Fits (c 8) .exprs) (h9 : Fits (c 9) .queries) : wsum (slotParts c) + 1 ≤ wt c := by
  unfold slotParts wt
  rw [wsum_append]
  have h1 := wsum_exprs h8
  have h2 := wsum_queries h9
  omega
theorem bd_slots {c : Nd} (h : Bd c) : ∀ x ∈ slotParts c, Bd x := by
  intro x hx
  unfold slotParts at hx
  rw [List.mem_append, List.mem_flatMap] at hx
  have m8 := h.m8
  have m9 := h.m9
  have el : ∀ {d : Dat} {ty : Ty} {M : Nat}, Fits d ty → deep ty = true → msr d ≤ M → M ≤ 1048576 → ∀ a b, a < (rowTy ty).length → b < (rowTy ty).length → (∀ e ∈ d.els, msr (e a) ≤ M ∧ msr (e b) ≤ M) := by
    intro d ty M hf hd hm hM a b ha hb e he
    obtain ⟨n, k, f, rfl⟩ := hf.deep hd
    have hk : k = (rowTy ty).length := hf.2.2.1
    subst hk
    obtain ⟨i, hi, rfl⟩ := List.mem_map.1 he
    rw [List.mem_range] at hi
    exact ⟨Nat.le_trans (msr_el hi ha) hm, Nat.le_trans (msr_el hi hb) hm⟩
  have ofE : ∀ {d : Dat} {M : Nat}, Fits d .exprs → msr d ≤ M → M ≤ 1048576 → ∀ e ∈ d.els, Bd e := fun hf hm hM e he => by
    obtain ⟨h1, h2⟩ := el hf rfl hm hM 8 9 (by decide) (by decide) e he
    exact ⟨by omega, by omega, els_fits hf he 8 (by decide), els_fits hf he 9 (by decide)⟩
  rcases hx with hx | ⟨q, hq, hx⟩
  · exact ofE h.f8 m8 (Nat.le_refl _) x hx
  · obtain ⟨n, k, f, e⟩ := h.f9.deep rfl
    have hf9 := h.f9
    rw [e] at hf9 hq m9
    have hk : k = 6 := hf9.2.2.1
    subst hk
    have hfq := fitsQ_of hf9 hq
    obtain ⟨i, hi, rfl⟩ := List.mem_map.1 hq
    rw [List.mem_range] at hi
    have k1 := Nat.le_trans (msr_el (n := n) (k := 6) (f := f) (i := i) (j := 1) hi (by decide)) m9
    have k2 := Nat.le_trans (msr_el (n := n) (k := 6) (f := f) (i := i) (j := 2) hi (by decide)) m9
    have k3 := Nat.le_trans (msr_el (n := n) (k := 6) (f := f) (i := i) (j := 3) hi (by decide)) m9
    have k4 := Nat.le_trans (msr_el (n := n) (k := 6) (f := f) (i := i) (j := 4) hi (by decide)) m9
    unfold slotsOf at hx
    rw [List.mem_append, List.mem_append, List.mem_append] at hx
    rcases hx with ((hx | hx) | hx) | hx
    · obtain ⟨it, hit, rfl⟩ := List.mem_map.1 hx
      obtain ⟨h1, h2⟩ := el hfq.1 rfl k1 (Nat.le_refl _) 10 11 (by decide) (by decide) it hit
      exact ⟨h1, h2, els_fits hfq.1 hit 10 (by decide), els_fits hfq.1 hit 11 (by decide)⟩
    · unfold exFrom at hx
      rw [List.mem_flatMap] at hx
      obtain ⟨s, hs, hx⟩ := hx
      obtain ⟨h1, _⟩ := el hfq.2.1 rfl k2 (Nat.le_refl _) 2 2 (by decide) (by decide) s hs
      exact ofE (els_fits hfq.2.1 hs 2 (by decide)) h1 (Nat.le_refl _) x hx
    · exact ofE hfq.2.2.1 k3 (Nat.le_refl _) x hx
    · obtain ⟨h1, h2⟩ := el hfq.2.2.2 rfl k4 (Nat.le_refl _) 8 9 (by decide) (by decide) x hx
      exact ⟨h1, h2, els_fits hfq.2.2.2 hx 8 (by decide), els_fits hfq.2.2.2 hx 9 (by decide)⟩
theorem mem_zip {t : Nd} {l r : List Nd} (h : t ∈ List.zipWith pairT l r) : ∃ a ∈ l, ∃ b ∈ r, t = pairT a b := by
  induction l generalizing r with
  | nil => simp at h
  | cons a l ih =>
    cases r with
    | nil => simp at h
    | cons b r =>
      rw [List.zipWith_cons_cons, List.mem_cons] at h
      rcases h with rfl | h
      · exact ⟨a, List.mem_cons_self .., b, List.mem_cons_self .., rfl⟩
      · obtain ⟨a', ha, b', hb, e⟩ := ih h
        exact ⟨a', List.mem_cons_of_mem _ ha, b', List.mem_cons_of_mem _ hb, e⟩
theorem wt_pair (a b : Nd) : wt (pairT a b) = wt a := rfl
theorem bdT_pair {a b : Nd} (ha : Bd a) (hb : Bd b) : BdT (pairT a b) := by
  refine ⟨⟨ha.m8, ha.m9, ha.f8, ha.f9⟩, ?_⟩
  have e8 : cut 10 (pairT a b) 8 = b 8 := pairT_b a b 8
  have e9 : cut 10 (pairT a b) 9 = b 9 := pairT_b a b 9
  exact ⟨by rw [e8]; exact hb.m8, by rw [e9]; exact hb.m9, by rw [e8]; exact hb.f8, by rw [e9]; exact hb.f9⟩
theorem bdT_parts {t : Nd} (h : BdT t) : ∀ x ∈ partsT t, BdT x := by
  intro x hx
  obtain ⟨a, ha, b, hb, rfl⟩ := mem_zip hx
  exact bdT_pair (bd_slots h.a a ha) (bd_slots h.b b hb)
theorem wsum_zip : ∀ l r : List Nd, wsum (List.zipWith pairT l r) ≤ wsum l
  | [], _ => by simp [wsum]
  | a :: l, [] => by simp [wsum]
  | a :: l, b :: r => by rw [List.zipWith_cons_cons, wsum_cons, wsum_cons, wt_pair]; have := wsum_zip l r; omega
theorem wsum_partsT {t : Nd} (h : BdT t) : wsum (partsT t) + 1 ≤ wt t := by
  have h1 := wsum_zip (slotParts t) (slotParts (cut 10 t))
  have h2 := wsum_parts h.a.f8 h.a.f9
  unfold partsT
  omega
def preF : Nat → Nat → Nd → List (Nat × Nd)
  | 0, d, t => [(d, t)]
  | n + 1, d, t => (d, t) :: (if aloneD t then (partsT t).flatMap (preF n (d + 1)) else [])
def preT (d : Nat) (t : Nd) : List (Nat × Nd) := preF (3000000 - d) d t
theorem preT_hd (d : Nat) (t : Nd) : ∃ l, preT d t = (d, t) :: l := by
  unfold preT
  cases 3000000 - d with
  | zero => exact ⟨[], rfl⟩
  | succ n => exact ⟨_, rfl⟩
theorem preT_eq {d : Nat} {t : Nd} (hd : d < 3000000) (ha : aloneD t = true) : preT d t = (d, t) :: (partsT t).flatMap (preT (d + 1)) := by
  unfold preT
  obtain ⟨n, hn⟩ : ∃ n, 3000000 - d = n + 1 := ⟨3000000 - d - 1, by omega⟩
  rw [hn]
  show (d, t) :: (if aloneD t then (partsT t).flatMap (preF n (d + 1)) else []) = _
  rw [if_pos ha]
  congr 2
  funext x
  show preF n (d + 1) x = preF (3000000 - (d + 1)) (d + 1) x
  rw [show 3000000 - (d + 1) = n by omega]
theorem flat_bound {g : Nd → List (Nat × Nd)} : ∀ {l : List Nd}, (∀ x ∈ l, (g x).length ≤ wt x) → (l.flatMap g).length ≤ wsum l
  | [], _ => Nat.zero_le _
  | a :: l, h => by
    rw [List.flatMap_cons, List.length_append, wsum_cons]
    have h1 := h a (List.mem_cons_self ..)
    have h2 := flat_bound (l := l) fun x hx => h x (List.mem_cons_of_mem _ hx)
    omega
theorem wt_le_wsum {x : Nd} : ∀ {l : List Nd}, x ∈ l → wt x ≤ wsum l
  | a :: l, h => by
    rw [wsum_cons]
    rcases List.mem_cons.1 h with rfl | h
    · omega
    · have := wt_le_wsum h; omega
theorem preF_bound : ∀ (n d : Nat) (t : Nd), BdT t → (preF n d t).length ≤ wt t ∧ ∀ p ∈ preF n d t, BdT p.2 ∧ p.1 + wt p.2 ≤ d + wt t
  | 0, d, t, h => ⟨by show 1 ≤ _; unfold wt; omega, fun p hp => by
      obtain rfl : p = (d, t) := by simpa [preF] using hp
      exact ⟨h, Nat.le_refl _⟩⟩
  | n + 1, d, t, h => by
    have hw := wsum_partsT h
    have ih := fun x (hx : x ∈ partsT t) => preF_bound n (d + 1) x (bdT_parts h x hx)
    unfold preF
    by_cases ha : aloneD t = true
    · rw [if_pos ha]
      refine ⟨?_, fun p hp => ?_⟩
      · rw [List.length_cons]
        have := flat_bound (g := preF n (d + 1)) (l := partsT t) fun x hx => (ih x hx).1
        omega
      · rcases List.mem_cons.1 hp with rfl | hp
        · exact ⟨h, Nat.le_refl _⟩
        · obtain ⟨x, hx, hp⟩ := List.mem_flatMap.1 hp
          obtain ⟨h1, h2⟩ := (ih x hx).2 p hp
          have := wt_le_wsum hx
          exact ⟨h1, by omega⟩
    · rw [if_neg ha]
      refine ⟨by rw [List.length_cons]; show 1 ≤ _; omega, fun p hp => ?_⟩
      obtain rfl : p = (d, t) := by simpa using hp
      exact ⟨h, Nat.le_refl _⟩
theorem all_flat {g : Nd → List (Nat × Nd)} {p : Nat × Nd → Bool} {q : Nd → Bool} : ∀ {l : List Nd}, (∀ x ∈ l, (g x).all p = q x) → (l.flatMap g).all p = l.all q
  | [], _ => rfl
  | a :: l, h => by
    rw [List.flatMap_cons, List.all_append, List.all_cons, h a (List.mem_cons_self ..), all_flat fun x hx => h x (List.mem_cons_of_mem _ hx)]
theorem alone_len {t : Nd} (h : aloneD t = true) : (slotParts t).length = (slotParts (cut 10 t)).length := by
  unfold aloneD at h
  simp only [Bool.and_eq_true, beq_iff_eq] at h
  obtain ⟨_, h8, h9⟩ := h
  unfold slotParts
  rw [List.length_append, List.length_append]
  have e8 : (t 8).els.length = (cut 10 t 8).els.length := by rw [len_els, len_els]; exact h8
  have e9 : ((t 9).els.flatMap slotsOf).length = ((cut 10 t 9).els.flatMap slotsOf).length :=
    flat_len slotsOf slotsOf (allZ_imp (fun a b hab => by simpa using slots_len hab) h9)
  rw [e8, e9]
theorem all_congr' {α : Type} {p q : α → Bool} : ∀ {l : List α}, (∀ x ∈ l, p x = q x) → l.all p = l.all q
  | [], _ => rfl
  | a :: l, h => by rw [List.all_cons, List.all_cons, h a (List.mem_cons_self ..), all_congr' fun x hx => h x (List.mem_cons_of_mem _ hx)]
theorem sameC_pair (a b : Nd) : sameC exprTy (pairT a b) (cut 10 (pairT a b)) = sameC exprTy a b := by
  unfold sameC
  refine all_congr' fun j hj => ?_
  have hj10 : j < 10 := List.mem_range.1 hj
  rw [pairT_b, pairT_a a b hj10]
theorem all_zip : ∀ l r : List Nd, (List.zipWith pairT l r).all (fun x => sameC exprTy x (cut 10 x)) = (List.zipWith (sameC exprTy) l r).all id
  | [], _ => by simp
  | a :: l, [] => by simp
  | a :: l, b :: r => by rw [List.zipWith_cons_cons, List.zipWith_cons_cons, List.all_cons, List.all_cons, sameC_pair, all_zip l r]; rfl
theorem same_pre : ∀ (n d : Nat) (t : Nd), BdT t → wt t ≤ n → ((preF n d t).all fun p => aloneD p.2) = sameC exprTy t (cut 10 t)
  | 0, d, t, _, hw => by unfold wt at hw; omega
  | n + 1, d, t, h, hw => by
    have hws := wsum_partsT h
    have he := expr_same (c := t) (c' := cut 10 t) h.a.f8 h.a.f9 h.b.f8 h.b.f9
    unfold preF
    rw [List.all_cons]
    by_cases ha : aloneD t = true
    · rw [if_pos ha, all_flat (q := fun x => sameC exprTy x (cut 10 x)) fun x hx => same_pre n (d + 1) x (bdT_parts h x hx) (by have := wt_le_wsum hx; omega)]
      have hz : (partsT t).all (fun x => sameC exprTy x (cut 10 x)) = allZ (sameC exprTy) (slotParts t) (slotParts (cut 10 t)) := by
        unfold partsT allZ
        rw [all_zip, show ((slotParts t).length == (slotParts (cut 10 t)).length) = true by simpa using alone_len ha, Bool.true_and]
      rw [hz]
      exact he.symm
    · have hf : aloneD t = false := by simpa using ha
      rw [if_neg ha, he]
      show (aloneD t && _) = (aloneD t && _)
      rw [hf]; rfl
end Go.Proofs.YtcliijfdlcagoaaGreat
