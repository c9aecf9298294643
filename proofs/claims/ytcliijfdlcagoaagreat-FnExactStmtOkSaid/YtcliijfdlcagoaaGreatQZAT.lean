/- Joined texts: OkX StOkM StOkI StSameM SameN. -/
import Derived.Test.YtcliijfdlcagoaaGreatQZAS
import Derived.Test.YtcliijfdlcagoaaGreatQZAO
import Derived.Test.YtcliijfdlcagoaaGreatQHStmtI
import Derived.Test.YtcliijfdlcagoaaGreatQZAP
import Derived.Test.YtcliijfdlcagoaaGreatQZAD
import Derived.Test.YtcliijfdlcagoaaGreatQZAH
import Derived.Test.YtcliijfdlcagoaaGreatQZAQ
import Derived.Test.YtcliijfdlcagoaaGreatQZAK
import Derived.Test.YtcliijfdlcagoaaGreatQZAE
namespace Go.Proofs.YtcliijfdlcagoaaGreat
set_option linter.unusedVariables false
set_option linter.unusedSimpArgs false
open Go.RowKit
def queryOk (q : Nd) : Bool := frameB q && listOk (exprsOf q)
def zd (ty : Ty) : Dat := .sl 0 (rowTy ty).length fun _ _ => .v (.int .i64 0)
def zeroSt : Nd
  | 0 => .v (.int .i64 0)
  | 1 => .v (.bool false)
  | 2 => zd .items
  | 3 => zd .sources
  | 4 => zd .exprs
  | 5 => zd .keys
  | 6 => .v (.int .i64 0)
  | 7 => .v (.string ⟨#[]⟩)
  | 8 => zd .rows
  | 9 => zd .names
  | _ => zd .exprs
def usedN (k : Int) (i : Nat) : Bool :=
  if k = 1 then decide (1 ≤ i ∧ i ≤ 6) else if k = 2 then i == 7 || i == 8 else if k = 3 then i == 7 || (i == 9 || (i == 10 || i == 11)) else if k = 4 then i == 7 || i == 11 else false
def unusedN (c : Nd) : Nd := fun i => if i = 0 then .v (.int .i64 0) else if usedN (c 0).num i then zeroSt i else c i
theorem same_zd (d : Dat) (ty : Ty) (h : deep ty = true) (hf : Fits d ty) : same d (zd ty) ty = (d.len == 0) := by
  obtain ⟨n, k, f, rfl⟩ := hf.deep h
  unfold zd
  rw [same_sl]
  show ((n == 0) && _) = (n == 0)
  cases hn : n == 0
  · rfl
  · have : n = 0 := by simpa using hn
    subst this
    rfl
theorem same_zz (ty : Ty) : same (zd ty) (zd ty) ty = true := by unfold zd; rw [same_sl]; rfl
def zeroQB (q : Nd) : Bool := !(q 0).tru && ((q 1).len == 0 && ((q 2).len == 0 && ((q 3).len == 0 && ((q 4).len == 0 && ((q 5).num == 0)))))
theorem sameC_q (q r : Nd) : sameC (rowTy .queries) q r = (same (q 0) (r 0) .bool && (same (q 1) (r 1) .items && (same (q 2) (r 2) .sources && (same (q 3) (r 3) .exprs && (same (q 4) (r 4) .keys && same (q 5) (r 5) .int))))) := by
  show ((List.range 6).all fun j => same (q j) (r j) ((rowTy .queries).getD j .int)) = _
  simp only [List.range_succ, List.range_zero, List.nil_append, List.cons_append, List.all_cons, List.all_nil, Bool.and_true]
  rfl
theorem sameC_zero {q : Nd} (hf : FitsQ q) (h0 : Fits (q 0) .bool) (h5 : Fits (q 5) .int) : sameC (rowTy .queries) q (cut 1 zeroSt) = zeroQB q := by
  obtain ⟨b, e0⟩ := h0.bool
  obtain ⟨n, e5, -⟩ := h5.int
  rw [sameC_q]
  show (same (q 0) (.v (.bool false)) .bool && (same (q 1) (zd .items) .items && (same (q 2) (zd .sources) .sources && (same (q 3) (zd .exprs) .exprs && (same (q 4) (zd .keys) .keys && same (q 5) (.v (.int .i64 0)) .int))))) = _
  rw [same_zd _ _ rfl hf.1, same_zd _ _ rfl hf.2.1, same_zd _ _ rfl hf.2.2.1, same_zd _ _ rfl hf.2.2.2, e0, e5, same_bool, same_int]
  unfold zeroQB
  rw [e0, e5]
  congr 1
  cases b <;> rfl
theorem els_zero {d : Dat} (h : d.len = 0) : d.els = [] := by unfold Dat.els; rw [h]; rfl
theorem zeroQ_exprs {q : Nd} (h : zeroQB q = true) : exprsOf q = [] := by
  unfold zeroQB at h
  simp only [Bool.and_eq_true, beq_iff_eq] at h
  obtain ⟨-, h1, h2, h3, h4, -⟩ := h
  unfold exprsOf exItems exFrom
  rw [els_zero h1, els_zero h2, els_zero h3, els_zero h4]
  rfl
def rowB (r : Nd) : Bool := decide (1 ≤ (r 0).len) && decide ((r 0).len ≤ 12)
def nameB' (x : Nd) : Bool := okLen (x 0).txt.size
def usedB (c : Nd) : Bool :=
  if (c 0).num = 1 then frameB (cut 1 c)
  else if (c 0).num = 2 then okLen (c 7).txt.size && (decide (1 ≤ (c 8).len) && (decide ((c 8).len ≤ 5) && (c 8).els.all rowB))
  else if (c 0).num = 3 then okLen (c 7).txt.size && (decide (1 ≤ (c 9).len) && (decide ((c 9).len ≤ 12) && ((c 9).els.all nameB' && ((c 10).len == (c 9).len && decide ((c 11).len ≤ 1)))))
  else if (c 0).num = 4 then okLen (c 7).txt.size && decide ((c 11).len ≤ 1)
  else false
def stOk (c : Nd) : Bool := stmtSame (unusedN c) zeroSt && (usedB c && listOk (stmtExprs c))
def eachOk (L : List Nd) : Bool := L.all fun e => listOk [e]
def shapeSt (c : Nd) : Bool :=
  if (c 0).num = 1 then queryOk (cut 1 c) && (emptyB (c 7).txt && ((c 8).len + (c 9).len + (c 10).len + (c 11).len == 0))
  else if (c 0).num = 2 then ((c 8).els.all fun r => rowB r && eachOk (r 0).els) && (zeroQB (cut 1 c) && (okLen (c 7).txt.size && ((decide (1 ≤ (c 8).len) && decide ((c 8).len ≤ 5)) && ((c 9).len + (c 10).len + (c 11).len == 0))))
  else if (c 0).num = 3 then (c 9).els.all nameB' && (zeroQB (cut 1 c) && (okLen (c 7).txt.size && ((c 8).len == 0 && ((decide (1 ≤ (c 9).len) && decide ((c 9).len ≤ 12)) && ((c 10).len == (c 9).len && (decide ((c 11).len ≤ 1) && (eachOk (c 10).els && eachOk (c 11).els)))))))
  else if (c 0).num = 4 then zeroQB (cut 1 c) && (okLen (c 7).txt.size && (((c 8).len + (c 9).len + (c 10).len == 0) && (decide ((c 11).len ≤ 1) && eachOk (c 11).els)))
  else false
def depL (L : List Nd) : Bool := decide (depA.of (L.map (foldE depA)) ≤ 24)
def sizL (L : List Nd) : Bool := decide (sizA.of (L.map (foldE sizA)) ≤ 200)
theorem listOk_ds (L : List Nd) : listOk L = (L.all (foldE okA) && (depL L && sizL L)) := listOk_is L
theorem siz_mem {L : List Nd} {e : Nd} (h : e ∈ L) : foldE sizA e ≤ sizA.of (L.map (foldE sizA)) := by
  induction L with
  | nil => cases h
  | cons a L ih =>
    rw [List.map_cons, sizA_good.of_cons]
    show _ ≤ foldE sizA a + _
    rcases List.mem_cons.1 h with rfl | h
    · omega
    · have := ih h; omega
theorem dep_mem {L : List Nd} {e : Nd} (h : e ∈ L) : foldE depA e ≤ depA.of (L.map (foldE depA)) := by
  induction L with
  | nil => cases h
  | cons a L ih =>
    rw [List.map_cons, depA_good.of_cons]
    show _ ≤ max (foldE depA a) _
    rcases List.mem_cons.1 h with rfl | h
    · exact Nat.le_max_left _ _
    · exact Nat.le_trans (ih h) (Nat.le_max_right _ _)
theorem each_is (L : List Nd) (M : List Nd) (hM : ∀ e ∈ M, e ∈ L) : (eachOk M && (depL L && sizL L)) = (M.all (foldE okA) && (depL L && sizL L)) := by
  cases h : depL L && sizL L
  · rw [Bool.and_false, Bool.and_false]
  · rw [Bool.and_true, Bool.and_true]
    unfold depL sizL at h
    simp only [Bool.and_eq_true, decide_eq_true_eq] at h
    unfold eachOk
    rw [Bool.eq_iff_iff, List.all_eq_true, List.all_eq_true]
    constructor
    · intro g e he
      have := g e he
      rw [listOk_is] at this
      simp only [List.map_cons, List.map_nil, List.all_cons, List.all_nil, Bool.and_true, Bool.and_eq_true] at this
      exact this.1
    · intro g e he
      have h1 := g e he
      have h2 := siz_mem (hM e he)
      have h3 := dep_mem (hM e he)
      rw [listOk_is]
      simp only [List.map_cons, List.map_nil, List.all_cons, List.all_nil, Bool.and_true, Bool.and_eq_true, decide_eq_true_eq]
      refine ⟨h1, ?_, ?_⟩
      · rw [depA_good.of_cons]
        show max (foldE depA e) 0 ≤ 24
        omega
      · rw [sizA_good.of_cons]
        show foldE sizA e + 0 ≤ 200
        omega
theorem same_empty {d : Dat} (h : Fits d .str) : same d (.v (.string ⟨#[]⟩)) .str = emptyB d.txt := by
  obtain ⟨t, rfl, -⟩ := h.str
  rw [same_str]
  show decide (t = ⟨#[]⟩) = emptyB t
  unfold emptyB
  rw [decide_eq_decide]
  constructor
  · rintro rfl; rfl
  · intro h
    apply ByteArray.ext
    exact Array.eq_empty_of_size_eq_zero h
theorem stmtSame_zero (c : Nd) : stmtSame (unusedN c) zeroSt = (same (unusedN c 7) (.v (.string ⟨#[]⟩)) .str && (sameC (rowTy .queries) (cut 1 (unusedN c)) (cut 1 zeroSt) && (same (unusedN c 8) (zd .rows) .rows && (same (unusedN c 9) (zd .names) .names && (same (unusedN c 10) (zd .exprs) .exprs && same (unusedN c 11) (zd .exprs) .exprs))))) := by
  unfold stmtSame
  rw [show same (unusedN c 0) (zeroSt 0) .int = true from by show same (.v (.int .i64 0)) (.v (.int .i64 0)) .int = true; rw [same_int]; rfl, Bool.true_and]
  rfl
theorem un_used {c : Nd} {i : Nat} (h0 : i ≠ 0) (h : usedN (c 0).num i = true) : unusedN c i = zeroSt i := by unfold unusedN; rw [if_neg h0, if_pos h]
theorem un_not {c : Nd} {i : Nat} (h0 : i ≠ 0) (h : usedN (c 0).num i = false) : unusedN c i = c i := by unfold unusedN; rw [if_neg h0, if_neg (by rw [h]; decide)]
theorem sameQ_zero {c : Nd} (hs : BdS c) (f1 : Fits (c 1) .bool) (f6 : Fits (c 6) .int) (h : ∀ i, 1 ≤ i → i ≤ 6 → usedN (c 0).num i = false) : sameC (rowTy .queries) (cut 1 (unusedN c)) (cut 1 zeroSt) = zeroQB (cut 1 c) := by
  rw [sameC_q, ← sameC_zero hs.q f1 f6, sameC_q]
  have e := fun i (h1 : 1 ≤ i) (h2 : i ≤ 6) => un_not (c := c) (i := i) (by omega) (h i h1 h2)
  show (same (unusedN c 1) _ _ && (same (unusedN c 2) _ _ && (same (unusedN c 3) _ _ && (same (unusedN c 4) _ _ && (same (unusedN c 5) _ _ && same (unusedN c 6) _ _))))) = _
  rw [e 1 (by omega) (by omega), e 2 (by omega) (by omega), e 3 (by omega) (by omega), e 4 (by omega) (by omega), e 5 (by omega) (by omega), e 6 (by omega) (by omega)]
  rfl
theorem sameQ_used {c : Nd} (h : ∀ i, 1 ≤ i → i ≤ 6 → usedN (c 0).num i = true) : sameC (rowTy .queries) (cut 1 (unusedN c)) (cut 1 zeroSt) = true := by
  rw [sameC_q]
  have e := fun i (h1 : 1 ≤ i) (h2 : i ≤ 6) => un_used (c := c) (i := i) (by omega) (h i h1 h2)
  show (same (unusedN c 1) (.v (.bool false)) _ && (same (unusedN c 2) (zd .items) _ && (same (unusedN c 3) (zd .sources) _ && (same (unusedN c 4) (zd .exprs) _ && (same (unusedN c 5) (zd .keys) _ && same (unusedN c 6) (.v (.int .i64 0)) _))))) = _
  rw [e 1 (by omega) (by omega), e 2 (by omega) (by omega), e 3 (by omega) (by omega), e 4 (by omega) (by omega), e 5 (by omega) (by omega), e 6 (by omega) (by omega)]
  show (same (.v (.bool false)) (.v (.bool false)) _ && (same (zd .items) (zd .items) _ && (same (zd .sources) (zd .sources) _ && (same (zd .exprs) (zd .exprs) _ && (same (zd .keys) (zd .keys) _ && same (.v (.int .i64 0)) (.v (.int .i64 0)) _))))) = _
  rw [same_bool, same_zz, same_zz, same_zz, same_zz, same_int]
  rfl
theorem rowsOf_zero {d : Dat} (h : d.len = 0) : rowsOf d = [] := by unfold rowsOf; rw [els_zero h]; rfl
theorem all_rows (d : Dat) (p : Nd → Bool) : (rowsOf d).all p = d.els.all fun r => (r 0).els.all p := by
  unfold rowsOf
  rw [List.all_flatMap]
theorem rows_each (d : Dat) : ((d.els.all fun r => rowB r && eachOk (r 0).els) && (depL (rowsOf d) && sizL (rowsOf d))) = ((d.els.all rowB && (rowsOf d).all (foldE okA)) && (depL (rowsOf d) && sizL (rowsOf d))) := by
  have h := fun r (hr : r ∈ d.els) => each_is (rowsOf d) (r 0).els (fun e he => List.mem_flatMap.2 ⟨r, hr, he⟩)
  cases hd : depL (rowsOf d) && sizL (rowsOf d)
  · rw [Bool.and_false, Bool.and_false]
  · rw [hd] at h
    rw [Bool.and_true, Bool.and_true, all_rows, Bool.eq_iff_iff, Bool.and_eq_true, List.all_eq_true, List.all_eq_true, List.all_eq_true]
    constructor
    · intro g
      exact ⟨fun r hr => ((Bool.and_eq_true _ _).mp (g r hr)).1, fun r hr => by have h1 := h r hr; rw [Bool.and_true, Bool.and_true] at h1; rw [← h1]; exact ((Bool.and_eq_true _ _).mp (g r hr)).2⟩
    · rintro ⟨g1, g2⟩ r hr
      have h1 := h r hr
      rw [Bool.and_true, Bool.and_true] at h1
      rw [h1, g1 r hr, g2 r hr]
      rfl
theorem stOk_is {c : Nd} (hs : BdS c) (f1 : Fits (c 1) .bool) (f6 : Fits (c 6) .int) (f7 : Fits (c 7) .str) : stOk c = (shapeSt c && (depL (stmtExprs c) && sizL (stmtExprs c))) := by
  have f8 := hs.f8
  have f9 := hs.f9
  have f10 := hs.f10
  have f11 := hs.f11
  unfold stOk
  rw [listOk_ds, stmtSame_zero]
  by_cases h1 : (c 0).num = 1
  · have u : ∀ i, usedN (c 0).num i = decide (1 ≤ i ∧ i ≤ 6) := fun i => by unfold usedN; rw [if_pos h1]
    rw [sameQ_used (fun i a b => by rw [u]; simp; omega), un_not (by decide) (by rw [u]; rfl), un_not (by decide) (by rw [u]; rfl), un_not (by decide) (by rw [u]; rfl), un_not (by decide) (by rw [u]; rfl), un_not (by decide) (by rw [u]; rfl),
      same_empty f7, same_zd _ _ rfl f8, same_zd _ _ rfl f9, same_zd _ _ rfl f10, same_zd _ _ rfl f11]
    unfold usedB shapeSt
    rw [if_pos h1, if_pos h1]
    unfold queryOk
    rw [listOk_ds]
    by_cases hz : (c 8).len = 0 ∧ (c 9).len = 0 ∧ (c 10).len = 0 ∧ (c 11).len = 0
    · obtain ⟨z8, z9, z10, z11⟩ := hz
      have hE : stmtExprs c = exprsOf (cut 1 c) := by unfold stmtExprs outsideOf; rw [rowsOf_zero z8, els_zero z10, els_zero z11]; simp
      rw [hE, z8, z9, z10, z11]
      generalize depL _ = D
      generalize sizL _ = S
      generalize List.all _ _ = A
      generalize frameB _ = F
      generalize emptyB _ = X
      cases D <;> cases S <;> cases A <;> cases F <;> cases X <;> rfl
    · have hn : ((c 8).len + (c 9).len + (c 10).len + (c 11).len == 0) = false := by simp; omega
      have hm : ((c 8).len == 0 && ((c 9).len == 0 && ((c 10).len == 0 && (c 11).len == 0))) = false := by
        rw [Bool.eq_false_iff]
        intro h
        simp only [Bool.and_eq_true, beq_iff_eq] at h
        exact hz ⟨h.1, h.2.1, h.2.2.1, h.2.2.2⟩
      rw [hn, hm]
      simp
  by_cases h2 : (c 0).num = 2
  · have u : ∀ i, usedN (c 0).num i = (i == 7 || i == 8) := fun i => by unfold usedN; rw [if_neg h1, if_pos h2]
    rw [sameQ_zero hs f1 f6 (fun i a b => by rw [u]; simp; omega), un_used (i := 7) (by decide) (by rw [u]; rfl), un_used (i := 8) (by decide) (by rw [u]; rfl), un_not (i := 9) (by decide) (by rw [u]; rfl), un_not (i := 10) (by decide) (by rw [u]; rfl), un_not (i := 11) (by decide) (by rw [u]; rfl),
      show same (zeroSt 7) (.v (.string ⟨#[]⟩)) .str = true from by show same (.v (.string ⟨#[]⟩)) (.v (.string ⟨#[]⟩)) .str = true; rw [same_str]; rfl, show same (zeroSt 8) (zd .rows) .rows = true from same_zz _, same_zd _ _ rfl f9, same_zd _ _ rfl f10, same_zd _ _ rfl f11]
    unfold usedB shapeSt
    rw [if_neg h1, if_neg h1, if_pos h2, if_pos h2]
    by_cases hz : zeroQB (cut 1 c) = true ∧ (c 9).len = 0 ∧ (c 10).len = 0 ∧ (c 11).len = 0
    · obtain ⟨zq, z9, z10, z11⟩ := hz
      have hE : stmtExprs c = rowsOf (c 8) := by unfold stmtExprs outsideOf; rw [zeroQ_exprs zq, els_zero z10, els_zero z11]; simp
      have hR := rows_each (c 8)
      rw [hE, zq, z9, z10, z11]
      generalize (depL (rowsOf (c 8)) && sizL (rowsOf (c 8))) = D at hR ⊢
      generalize List.all (c 8).els (fun r => rowB r && eachOk (r 0).els) = RE at hR ⊢
      generalize List.all (rowsOf (c 8)) _ = A at hR ⊢
      generalize List.all (c 8).els rowB = R at hR ⊢
      generalize okLen _ = F
      generalize decide (1 ≤ (c 8).len) = X
      generalize decide ((c 8).len ≤ 5) = Y
      cases D
      · simp
      · rw [Bool.and_true, Bool.and_true] at hR
        subst hR
        cases R <;> cases A <;> cases F <;> cases X <;> cases Y <;> rfl
    · have hn : (zeroQB (cut 1 c) && ((c 9).len + (c 10).len + (c 11).len == 0)) = false := by
        rw [Bool.eq_false_iff]
        intro h
        simp only [Bool.and_eq_true, beq_iff_eq] at h
        exact hz ⟨h.1, by omega, by omega, by omega⟩
      have hm : (zeroQB (cut 1 c) && ((c 9).len == 0 && ((c 10).len == 0 && (c 11).len == 0))) = false := by
        rw [Bool.eq_false_iff]
        intro h
        simp only [Bool.and_eq_true, beq_iff_eq] at h
        exact hz ⟨h.1, h.2.1, h.2.2.1, h.2.2.2⟩
      generalize zeroQB (cut 1 c) = Z at hn hm ⊢
      generalize ((c 9).len + (c 10).len + (c 11).len == 0) = N at hn ⊢
      generalize ((c 9).len == 0 && ((c 10).len == 0 && (c 11).len == 0)) = M at hm ⊢
      cases Z
      · simp
      · rw [Bool.true_and] at hn hm
        rw [hn, hm]
        simp
  by_cases h3 : (c 0).num = 3
  · have u : ∀ i, usedN (c 0).num i = (i == 7 || (i == 9 || (i == 10 || i == 11))) := fun i => by unfold usedN; rw [if_neg h1, if_neg h2, if_pos h3]
    rw [sameQ_zero hs f1 f6 (fun i a b => by rw [u]; simp; omega), un_used (i := 7) (by decide) (by rw [u]; rfl), un_not (i := 8) (by decide) (by rw [u]; rfl), un_used (i := 9) (by decide) (by rw [u]; rfl), un_used (i := 10) (by decide) (by rw [u]; rfl), un_used (i := 11) (by decide) (by rw [u]; rfl),
      show same (zeroSt 7) (.v (.string ⟨#[]⟩)) .str = true from by show same (.v (.string ⟨#[]⟩)) (.v (.string ⟨#[]⟩)) .str = true; rw [same_str]; rfl, show same (zeroSt 9) (zd .names) .names = true from same_zz _, show same (zeroSt 10) (zd .exprs) .exprs = true from same_zz _, show same (zeroSt 11) (zd .exprs) .exprs = true from same_zz _, same_zd _ _ rfl f8]
    unfold usedB shapeSt
    rw [if_neg h1, if_neg h1, if_neg h2, if_neg h2, if_pos h3, if_pos h3]
    by_cases hz : zeroQB (cut 1 c) = true ∧ (c 8).len = 0
    · obtain ⟨zq, z8⟩ := hz
      have hE : stmtExprs c = (c 10).els ++ (c 11).els := by unfold stmtExprs outsideOf; rw [zeroQ_exprs zq, rowsOf_zero z8]; simp
      have hA := each_is ((c 10).els ++ (c 11).els) (c 10).els (fun e h => List.mem_append_left _ h)
      have hB := each_is ((c 10).els ++ (c 11).els) (c 11).els (fun e h => List.mem_append_right _ h)
      rw [hE, zq, z8, List.all_append]
      generalize (depL ((c 10).els ++ (c 11).els) && sizL ((c 10).els ++ (c 11).els)) = D at hA hB ⊢
      generalize eachOk (c 10).els = E10 at hA ⊢
      generalize eachOk (c 11).els = E11 at hB ⊢
      generalize List.all (c 10).els _ = A at hA ⊢
      generalize List.all (c 11).els _ = B at hB ⊢
      generalize List.all (c 9).els _ = R
      generalize okLen _ = F
      generalize decide (1 ≤ (c 9).len) = X
      generalize decide ((c 9).len ≤ 12) = Y
      generalize ((c 10).len == (c 9).len) = W
      generalize decide ((c 11).len ≤ 1) = V
      cases D
      · simp
      · rw [Bool.and_true, Bool.and_true] at hA hB
        subst hA
        subst hB
        cases E10 <;> cases E11 <;> cases R <;> cases F <;> cases X <;> cases Y <;> cases W <;> cases V <;> rfl
    · have hm : (zeroQB (cut 1 c) && ((c 8).len == 0)) = false := by
        rw [Bool.eq_false_iff]
        intro h
        simp only [Bool.and_eq_true, beq_iff_eq] at h
        exact hz ⟨h.1, h.2⟩
      generalize zeroQB (cut 1 c) = Z at hm ⊢
      generalize ((c 8).len == 0) = M at hm ⊢
      cases Z
      · simp
      · rw [Bool.true_and] at hm
        rw [hm]
        simp
  by_cases h4 : (c 0).num = 4
  · have u : ∀ i, usedN (c 0).num i = (i == 7 || i == 11) := fun i => by unfold usedN; rw [if_neg h1, if_neg h2, if_neg h3, if_pos h4]
    rw [sameQ_zero hs f1 f6 (fun i a b => by rw [u]; simp; omega), un_used (i := 7) (by decide) (by rw [u]; rfl), un_not (i := 8) (by decide) (by rw [u]; rfl), un_not (i := 9) (by decide) (by rw [u]; rfl), un_not (i := 10) (by decide) (by rw [u]; rfl), un_used (i := 11) (by decide) (by rw [u]; rfl),
      show same (zeroSt 7) (.v (.string ⟨#[]⟩)) .str = true from by show same (.v (.string ⟨#[]⟩)) (.v (.string ⟨#[]⟩)) .str = true; rw [same_str]; rfl, show same (zeroSt 11) (zd .exprs) .exprs = true from same_zz _, same_zd _ _ rfl f8, same_zd _ _ rfl f9, same_zd _ _ rfl f10]
    unfold usedB shapeSt
    rw [if_neg h1, if_neg h1, if_neg h2, if_neg h2, if_neg h3, if_neg h3, if_pos h4, if_pos h4]
    by_cases hz : zeroQB (cut 1 c) = true ∧ (c 8).len = 0 ∧ (c 9).len = 0 ∧ (c 10).len = 0
    · obtain ⟨zq, z8, z9, z10⟩ := hz
      have hE : stmtExprs c = (c 11).els := by unfold stmtExprs outsideOf; rw [zeroQ_exprs zq, rowsOf_zero z8, els_zero z10]; simp
      have hB := each_is (c 11).els (c 11).els (fun e h => h)
      rw [hE, zq, z8, z9, z10]
      generalize (depL (c 11).els && sizL (c 11).els) = D at hB ⊢
      generalize eachOk (c 11).els = E11 at hB ⊢
      generalize List.all (c 11).els _ = B at hB ⊢
      generalize okLen _ = F
      generalize decide ((c 11).len ≤ 1) = V
      cases D
      · simp
      · rw [Bool.and_true, Bool.and_true] at hB
        subst hB
        cases E11 <;> cases F <;> cases V <;> rfl
    · have hn : (zeroQB (cut 1 c) && ((c 8).len + (c 9).len + (c 10).len == 0)) = false := by
        rw [Bool.eq_false_iff]
        intro h
        simp only [Bool.and_eq_true, beq_iff_eq] at h
        exact hz ⟨h.1, by omega, by omega, by omega⟩
      have hm : (zeroQB (cut 1 c) && ((c 8).len == 0 && ((c 9).len == 0 && ((c 10).len == 0)))) = false := by
        rw [Bool.eq_false_iff]
        intro h
        simp only [Bool.and_eq_true, beq_iff_eq] at h
        exact hz ⟨h.1, h.2.1, h.2.2.1, h.2.2.2⟩
      rw [Bool.and_true]
      generalize zeroQB (cut 1 c) = Z at hn hm ⊢
      generalize ((c 8).len + (c 9).len + (c 10).len == 0) = N at hn ⊢
      generalize ((c 8).len == 0 && ((c 9).len == 0 && ((c 10).len == 0))) = M at hm ⊢
      cases Z
      · simp
      · rw [Bool.true_and] at hn hm
        rw [hn, hm]
        simp
  · unfold usedB shapeSt
    rw [if_neg h1, if_neg h1, if_neg h2, if_neg h2, if_neg h3, if_neg h3, if_neg h4, if_neg h4]
    simp
theorem zd_rd (w : World) (ty : Ty) : Rd w 0 (.slice none 0 0) (zd ty) := ⟨none, 0, rfl, Nat.le_refl _, fun _ => rfl, .inl rfl⟩
theorem zd_fits {ty : Ty} (h : deep ty = true) : Fits (zd ty) ty := ⟨h, Nat.zero_le _, rfl, fun i hi => absurd hi (Nat.not_lt_zero _)⟩
theorem zeroSt_out (w : World) : OutK stTy w [.int .i64 0, .bool false, .slice none 0 0, .slice none 0 0, .slice none 0 0, .slice none 0 0, .int .i64 0, .string ⟨#[]⟩, .slice none 0 0, .slice none 0 0, .slice none 0 0, .slice none 0 0] [zeroSt] := OutK.one rfl (fun m hm => match m, hm with
  | 0, _ => ⟨_, rfl, rfl, ⟨_, rfl, by decide, by decide⟩⟩
  | 1, _ => ⟨_, rfl, rfl, ⟨_, rfl⟩⟩
  | 2, _ => ⟨_, rfl, zd_rd _ _, zd_fits rfl⟩
  | 3, _ => ⟨_, rfl, zd_rd _ _, zd_fits rfl⟩
  | 4, _ => ⟨_, rfl, zd_rd _ _, zd_fits rfl⟩
  | 5, _ => ⟨_, rfl, zd_rd _ _, zd_fits rfl⟩
  | 6, _ => ⟨_, rfl, rfl, ⟨_, rfl, by decide, by decide⟩⟩
  | 7, _ => ⟨_, rfl, rfl, ⟨_, rfl, by decide⟩⟩
  | 8, _ => ⟨_, rfl, zd_rd _ _, zd_fits rfl⟩
  | 9, _ => ⟨_, rfl, zd_rd _ _, zd_fits rfl⟩
  | 10, _ => ⟨_, rfl, zd_rd _ _, zd_fits rfl⟩
  | 11, _ => ⟨_, rfl, zd_rd _ _, zd_fits rfl⟩
  | m + 12, hm => absurd hm (by simp [stTy]))
theorem zeroSt_bd : BdS zeroSt := ⟨⟨zd_fits rfl, zd_fits rfl, zd_fits rfl, zd_fits rfl⟩, zd_fits rfl, zd_fits rfl, zd_fits rfl, zd_fits rfl, by decide⟩
def UnE (w0 : World) (c : Nd) (w : World) (e : Ending) (w' : World) : Prop := ∃ vs : List Value, e = .returned (.agg vs.toArray) ∧ OutK stTy w0 vs [unusedN c] ∧ Below w.heap.size w w'
set_option maxRecDepth 100000 in
set_option maxHeartbeats 8000000 in
theorem unusedIn_any (w0 : World) (c : Nd) (us : List Value) (w : World) (hx : OutK stTy w0 us [c]) (hb0 : Below w0.heap.size w0 w) :
    Calls Tryz.prog 21 #[.agg us.toArray] w (UnE w0 c w) := by
  obtain ⟨c0, c1, a2, n2, p2, a3, n3, p3, a4, n4, p4, a5, n5, p5, c6, c7, a8, n8, p8, a9, n9, p9, a10, n10, p10, a11, n11, p11, rfl, ⟨e0, b0⟩, e1, ⟨r2, q2⟩, ⟨r3, q3⟩, ⟨r4, q4⟩, ⟨r5, q5⟩, ⟨e6, b6⟩, ⟨e7, b7⟩, ⟨r8, q8⟩, ⟨r9, q9⟩, ⟨r10, q10⟩, ⟨r11, q11⟩⟩ := hx.stmtRow
  have hk : (c 0).num = c0 := by rw [e0]; rfl
  by_cases k1 : c0 = 1
  · subst k1
    have u : ∀ i, usedN (c 0).num i = decide (1 ≤ i ∧ i ≤ 6) := fun i => by unfold usedN; rw [if_pos hk]
    have hU : (∀ i, i ∈ ([1, 2, 3, 4, 5, 6] : List Nat) → unusedN c i = zeroSt i) ∧ (∀ i, i ∈ ([7, 8, 9, 10, 11] : List Nat) → unusedN c i = c i) := ⟨fun i hi => un_used (by rintro rfl; revert hi; decide) (by rw [u]; simp at hi ⊢; omega), fun i hi => un_not (by rintro rfl; revert hi; decide) (by rw [u]; simp at hi ⊢; omega)⟩
    have HU := Lib.hid hU
    clear hU u hk
    have RA : RowAt ((w.alloc (.cells #[.int .i64 1, .bool c1, .slice a2 n2 p2, .slice a3 n3 p3, .slice a4 n4 p4, .slice a5 n5 p5, .int .i64 c6, .string c7, .slice a8 n8 p8, .slice a9 n9 p9, .slice a10 n10 p10, .slice a11 n11 p11] 42)).alloc (.cells #[.int .i64 0, .bool false, .slice none 0 0, .slice none 0 0, .slice none 0 0, .slice none 0 0, .int .i64 0, .string ⟨#[]⟩, .slice none 0 0, .slice none 0 0, .slice none 0 0, .slice none 0 0] 42)) w.heap.size 42 #[.int .i64 1, .bool c1, .slice a2 n2 p2, .slice a3 n3 p3, .slice a4 n4 p4, .slice a5 n5 p5, .int .i64 c6, .string c7, .slice a8 n8 p8, .slice a9 n9 p9, .slice a10 n10 p10, .slice a11 n11 p11] := (RowAt.new w 42 #[.int .i64 1, .bool c1, .slice a2 n2 p2, .slice a3 n3 p3, .slice a4 n4 p4, .slice a5 n5 p5, .int .i64 c6, .string c7, .slice a8 n8 p8, .slice a9 n9 p9, .slice a10 n10 p10, .slice a11 n11 p11]).alloc _
    have RZ : RowAt ((w.alloc (.cells #[.int .i64 1, .bool c1, .slice a2 n2 p2, .slice a3 n3 p3, .slice a4 n4 p4, .slice a5 n5 p5, .int .i64 c6, .string c7, .slice a8 n8 p8, .slice a9 n9 p9, .slice a10 n10 p10, .slice a11 n11 p11] 42)).alloc (.cells #[.int .i64 0, .bool false, .slice none 0 0, .slice none 0 0, .slice none 0 0, .slice none 0 0, .int .i64 0, .string ⟨#[]⟩, .slice none 0 0, .slice none 0 0, .slice none 0 0, .slice none 0 0] 42)) (w.heap.size + 1) 42 #[.int .i64 0, .bool false, .slice none 0 0, .slice none 0 0, .slice none 0 0, .slice none 0 0, .int .i64 0, .string ⟨#[]⟩, .slice none 0 0, .slice none 0 0, .slice none 0 0, .slice none 0 0] := RowAt.new1 w (.cells #[.int .i64 1, .bool c1, .slice a2 n2 p2, .slice a3 n3 p3, .slice a4 n4 p4, .slice a5 n5 p5, .int .i64 c6, .string c7, .slice a8 n8 p8, .slice a9 n9 p9, .slice a10 n10 p10, .slice a11 n11 p11] 42) 42 #[.int .i64 0, .bool false, .slice none 0 0, .slice none 0 0, .slice none 0 0, .slice none 0 0, .int .i64 0, .string ⟨#[]⟩, .slice none 0 0, .slice none 0 0, .slice none 0 0, .slice none 0 0]
    have HB : Below w.heap.size w ((w.alloc (.cells #[.int .i64 1, .bool c1, .slice a2 n2 p2, .slice a3 n3 p3, .slice a4 n4 p4, .slice a5 n5 p5, .int .i64 c6, .string c7, .slice a8 n8 p8, .slice a9 n9 p9, .slice a10 n10 p10, .slice a11 n11 p11] 42)).alloc (.cells #[.int .i64 0, .bool false, .slice none 0 0, .slice none 0 0, .slice none 0 0, .slice none 0 0, .int .i64 0, .string ⟨#[]⟩, .slice none 0 0, .slice none 0 0, .slice none 0 0, .slice none 0 0] 42)) := ((Below.refl w.heap.size w).alloc (Nat.le_refl _) _).alloc (by simp) _
    go_enter Tryz.func21, Tryz.ntmps21
    go_upto_region 1 with fail
    generalize ((w.alloc (.cells #[.int .i64 1, .bool c1, .slice a2 n2 p2, .slice a3 n3 p3, .slice a4 n4 p4, .slice a5 n5 p5, .int .i64 c6, .string c7, .slice a8 n8 p8, .slice a9 n9 p9, .slice a10 n10 p10, .slice a11 n11 p11] 42)).alloc (.cells #[.int .i64 0, .bool false, .slice none 0 0, .slice none 0 0, .slice none 0 0, .slice none 0 0, .int .i64 0, .string ⟨#[]⟩, .slice none 0 0, .slice none 0 0, .slice none 0 0, .slice none 0 0] 42)) = w2 at RA RZ HB ⊢
    have hbz : w.heap.size + 1 ≠ w.heap.size := by omega
    have x0 := RA.cell (i := 0) (v := .int .i64 1) rfl
    have s0 := RA.soft 0
    have x1 := RA.cell (i := 1) (v := .bool c1) rfl
    have s1 := RA.soft 1
    have x2 := RA.cell (i := 2) (v := .slice a2 n2 p2) rfl
    have s2 := RA.soft 2
    have x3 := RA.cell (i := 3) (v := .slice a3 n3 p3) rfl
    have s3 := RA.soft 3
    have x4 := RA.cell (i := 4) (v := .slice a4 n4 p4) rfl
    have s4 := RA.soft 4
    have x5 := RA.cell (i := 5) (v := .slice a5 n5 p5) rfl
    have s5 := RA.soft 5
    have x6 := RA.cell (i := 6) (v := .int .i64 c6) rfl
    have s6 := RA.soft 6
    go_upto_region 11 with fail
    clear x0 s0 x1 s1 x2 s2 x3 s3 x4 s4 x5 s5 x6 s6
    replace RA : RowAt _ w.heap.size 42 #[.int .i64 1, .bool false, .slice a2 n2 p2, .slice a3 n3 p3, .slice a4 n4 p4, .slice a5 n5 p5, .int .i64 c6, .string c7, .slice a8 n8 p8, .slice a9 n9 p9, .slice a10 n10 p10, .slice a11 n11 p11] := RA.set 1 (.bool false)
    replace RZ := RZ.other (C := w.heap.size) (o := 1) (v := .bool false) hbz
    replace HB := HB.setCell (p := ⟨w.heap.size, 1, none⟩) (Nat.le_refl _) (.bool false)
    replace RA : RowAt _ w.heap.size 42 #[.int .i64 1, .bool false, .slice none 0 0, .slice a3 n3 p3, .slice a4 n4 p4, .slice a5 n5 p5, .int .i64 c6, .string c7, .slice a8 n8 p8, .slice a9 n9 p9, .slice a10 n10 p10, .slice a11 n11 p11] := RA.set 2 (.slice none 0 0)
    replace RZ := RZ.other (C := w.heap.size) (o := 2) (v := .slice none 0 0) hbz
    replace HB := HB.setCell (p := ⟨w.heap.size, 2, none⟩) (Nat.le_refl _) (.slice none 0 0)
    replace RA : RowAt _ w.heap.size 42 #[.int .i64 1, .bool false, .slice none 0 0, .slice none 0 0, .slice a4 n4 p4, .slice a5 n5 p5, .int .i64 c6, .string c7, .slice a8 n8 p8, .slice a9 n9 p9, .slice a10 n10 p10, .slice a11 n11 p11] := RA.set 3 (.slice none 0 0)
    replace RZ := RZ.other (C := w.heap.size) (o := 3) (v := .slice none 0 0) hbz
    replace HB := HB.setCell (p := ⟨w.heap.size, 3, none⟩) (Nat.le_refl _) (.slice none 0 0)
    replace RA : RowAt _ w.heap.size 42 #[.int .i64 1, .bool false, .slice none 0 0, .slice none 0 0, .slice none 0 0, .slice a5 n5 p5, .int .i64 c6, .string c7, .slice a8 n8 p8, .slice a9 n9 p9, .slice a10 n10 p10, .slice a11 n11 p11] := RA.set 4 (.slice none 0 0)
    replace RZ := RZ.other (C := w.heap.size) (o := 4) (v := .slice none 0 0) hbz
    replace HB := HB.setCell (p := ⟨w.heap.size, 4, none⟩) (Nat.le_refl _) (.slice none 0 0)
    replace RA : RowAt _ w.heap.size 42 #[.int .i64 1, .bool false, .slice none 0 0, .slice none 0 0, .slice none 0 0, .slice none 0 0, .int .i64 c6, .string c7, .slice a8 n8 p8, .slice a9 n9 p9, .slice a10 n10 p10, .slice a11 n11 p11] := RA.set 5 (.slice none 0 0)
    replace RZ := RZ.other (C := w.heap.size) (o := 5) (v := .slice none 0 0) hbz
    replace HB := HB.setCell (p := ⟨w.heap.size, 5, none⟩) (Nat.le_refl _) (.slice none 0 0)
    replace RA : RowAt _ w.heap.size 42 #[.int .i64 1, .bool false, .slice none 0 0, .slice none 0 0, .slice none 0 0, .slice none 0 0, .int .i64 0, .string c7, .slice a8 n8 p8, .slice a9 n9 p9, .slice a10 n10 p10, .slice a11 n11 p11] := RA.set 6 (.int .i64 0)
    replace RZ := RZ.other (C := w.heap.size) (o := 6) (v := .int .i64 0) hbz
    replace HB := HB.setCell (p := ⟨w.heap.size, 6, none⟩) (Nat.le_refl _) (.int .i64 0)
    replace RA : RowAt _ w.heap.size 42 #[.int .i64 0, .bool false, .slice none 0 0, .slice none 0 0, .slice none 0 0, .slice none 0 0, .int .i64 0, .string c7, .slice a8 n8 p8, .slice a9 n9 p9, .slice a10 n10 p10, .slice a11 n11 p11] := RA.set 0 (.int .i64 0)
    replace RZ := RZ.other (C := w.heap.size) (o := 0) (v := .int .i64 0) hbz
    replace HB := HB.setCell (p := ⟨w.heap.size, 0, none⟩) (Nat.le_refl _) (.int .i64 0)
    generalize (((((((w2.setCell ⟨w.heap.size, 1, none⟩ (.bool false)).setCell ⟨w.heap.size, 2, none⟩ (.slice none 0 0)).setCell ⟨w.heap.size, 3, none⟩ (.slice none 0 0)).setCell ⟨w.heap.size, 4, none⟩ (.slice none 0 0)).setCell ⟨w.heap.size, 5, none⟩ (.slice none 0 0)).setCell ⟨w.heap.size, 6, none⟩ (.int .i64 0)).setCell ⟨w.heap.size, 0, none⟩ (.int .i64 0)) = wz at RA RZ HB ⊢
    have g0 := RZ.cell (i := 0) (v := .int .i64 0) rfl
    have k0 := RZ.soft 0
    have o0 := RA.cell (i := 0) (v := .int .i64 0) rfl
    have g1 := RZ.cell (i := 1) (v := .bool false) rfl
    have k1 := RZ.soft 1
    have o1 := RA.cell (i := 1) (v := .bool false) rfl
    have g2 := RZ.cell (i := 2) (v := .slice none 0 0) rfl
    have k2 := RZ.soft 2
    have o2 := RA.cell (i := 2) (v := .slice none 0 0) rfl
    have g3 := RZ.cell (i := 3) (v := .slice none 0 0) rfl
    have k3 := RZ.soft 3
    have o3 := RA.cell (i := 3) (v := .slice none 0 0) rfl
    have g4 := RZ.cell (i := 4) (v := .slice none 0 0) rfl
    have k4 := RZ.soft 4
    have o4 := RA.cell (i := 4) (v := .slice none 0 0) rfl
    have g5 := RZ.cell (i := 5) (v := .slice none 0 0) rfl
    have k5 := RZ.soft 5
    have o5 := RA.cell (i := 5) (v := .slice none 0 0) rfl
    have g6 := RZ.cell (i := 6) (v := .int .i64 0) rfl
    have k6 := RZ.soft 6
    have o6 := RA.cell (i := 6) (v := .int .i64 0) rfl
    have g7 := RZ.cell (i := 7) (v := .string ⟨#[]⟩) rfl
    have k7 := RZ.soft 7
    have o7 := RA.cell (i := 7) (v := .string c7) rfl
    have g8 := RZ.cell (i := 8) (v := .slice none 0 0) rfl
    have k8 := RZ.soft 8
    have o8 := RA.cell (i := 8) (v := .slice a8 n8 p8) rfl
    have g9 := RZ.cell (i := 9) (v := .slice none 0 0) rfl
    have k9 := RZ.soft 9
    have o9 := RA.cell (i := 9) (v := .slice a9 n9 p9) rfl
    have g10 := RZ.cell (i := 10) (v := .slice none 0 0) rfl
    have k10 := RZ.soft 10
    have o10 := RA.cell (i := 10) (v := .slice a10 n10 p10) rfl
    have g11 := RZ.cell (i := 11) (v := .slice none 0 0) rfl
    have k11 := RZ.soft 11
    have o11 := RA.cell (i := 11) (v := .slice a11 n11 p11) rfl
    go_wp2_with fail
    rw [show ((((((((((((wz.setCell ⟨w.heap.size + 1, 0, none⟩ (.int .i64 0)).setCell ⟨w.heap.size + 1, 1, none⟩ (.bool false)).setCell ⟨w.heap.size + 1, 2, none⟩ (.slice none 0 0)).setCell ⟨w.heap.size + 1, 3, none⟩ (.slice none 0 0)).setCell ⟨w.heap.size + 1, 4, none⟩ (.slice none 0 0)).setCell ⟨w.heap.size + 1, 5, none⟩ (.slice none 0 0)).setCell ⟨w.heap.size + 1, 6, none⟩ (.int .i64 0)).setCell ⟨w.heap.size + 1, 7, none⟩ (.string c7)).setCell ⟨w.heap.size + 1, 8, none⟩ (.slice a8 n8 p8)).setCell ⟨w.heap.size + 1, 9, none⟩ (.slice a9 n9 p9)).setCell ⟨w.heap.size + 1, 10, none⟩ (.slice a10 n10 p10)).setCell ⟨w.heap.size + 1, 11, none⟩ (.slice a11 n11 p11)) = puts (w.heap.size + 1) 0 [.int .i64 0, .bool false, .slice none 0 0, .slice none 0 0, .slice none 0 0, .slice none 0 0, .int .i64 0, .string c7, .slice a8 n8 p8, .slice a9 n9 p9, .slice a10 n10 p10, .slice a11 n11 p11] wz from rfl]
    have hP := puts_row [.int .i64 0, .bool false, .slice none 0 0, .slice none 0 0, .slice none 0 0, .slice none 0 0, .int .i64 0, .string c7, .slice a8 n8 p8, .slice a9 n9 p9, .slice a10 n10 p10, .slice a11 n11 p11] 0 RZ
    have hr := fun (i : Nat) (v : Value) (h : [.int .i64 0, .bool false, .slice none 0 0, .slice none 0 0, .slice none 0 0, .slice none 0 0, .int .i64 0, .string c7, .slice a8 n8 p8, .slice a9 n9 p9, .slice a10 n10 p10, .slice a11 n11 p11][i]? = some v) => hP.cell (i := i) (v := v) (by have := putsA_in [.int .i64 0, .bool false, .slice none 0 0, .slice none 0 0, .slice none 0 0, .slice none 0 0, .int .i64 0, .string c7, .slice a8 n8 p8, .slice a9 n9 p9, .slice a10 n10 p10, .slice a11 n11 p11] 0 #[.int .i64 0, .bool false, .slice none 0 0, .slice none 0 0, .slice none 0 0, .slice none 0 0, .int .i64 0, .string ⟨#[]⟩, .slice none 0 0, .slice none 0 0, .slice none 0 0, .slice none 0 0] i (List.getElem?_eq_some_iff.1 h).1 (by simp); rw [Nat.zero_add] at this; rw [this]; exact h)
    have hbF := puts_below (C := w.heap.size) (B := w.heap.size + 1) (by omega) [.int .i64 0, .bool false, .slice none 0 0, .slice none 0 0, .slice none 0 0, .slice none 0 0, .int .i64 0, .string c7, .slice a8 n8 p8, .slice a9 n9 p9, .slice a10 n10 p10, .slice a11 n11 p11] 0 HB
    have f0 := hr 0 (.int .i64 0) rfl
    have f1 := hr 1 (.bool false) rfl
    have f2 := hr 2 (.slice none 0 0) rfl
    have f3 := hr 3 (.slice none 0 0) rfl
    have f4 := hr 4 (.slice none 0 0) rfl
    have f5 := hr 5 (.slice none 0 0) rfl
    have f6 := hr 6 (.int .i64 0) rfl
    have f7 := hr 7 (.string c7) rfl
    have f8 := hr 8 (.slice a8 n8 p8) rfl
    have f9 := hr 9 (.slice a9 n9 p9) rfl
    have f10 := hr 10 (.slice a10 n10 p10) rfl
    have f11 := hr 11 (.slice a11 n11 p11) rfl
    clear hr hP
    generalize puts (w.heap.size + 1) 0 [.int .i64 0, .bool false, .slice none 0 0, .slice none 0 0, .slice none 0 0, .slice none 0 0, .int .i64 0, .string c7, .slice a8 n8 p8, .slice a9 n9 p9, .slice a10 n10 p10, .slice a11 n11 p11] wz = wf at hbF f0 f1 f2 f3 f4 f5 f6 f7 f8 f9 f10 f11 ⊢
    refine bodyPost_ret (v := .agg #[.int .i64 0, .bool false, .slice none 0 0, .slice none 0 0, .slice none 0 0, .slice none 0 0, .int .i64 0, .string c7, .slice a8 n8 p8, .slice a9 n9 p9, .slice a10 n10 p10, .slice a11 n11 p11]) (by simp [results, Tryz.results21, go_sem, f0, f1, f2, f3, f4, f5, f6, f7, f8, f9, f10, f11]) rfl ?_
    refine ⟨[.int .i64 0, .bool false, .slice none 0 0, .slice none 0 0, .slice none 0 0, .slice none 0 0, .int .i64 0, .string c7, .slice a8 n8 p8, .slice a9 n9 p9, .slice a10 n10 p10, .slice a11 n11 p11], rfl, OutK.one rfl (fun m hm => match m, hm with
      | 0, _ => ⟨_, rfl, rfl, ⟨_, rfl, by decide, by decide⟩⟩
      | 1, _ => by rw [HU.out.1 1 (by decide)]; exact ⟨_, rfl, rfl, ⟨_, rfl⟩⟩
      | 2, _ => by rw [HU.out.1 2 (by decide)]; exact ⟨_, rfl, zd_rd _ _, zd_fits rfl⟩
      | 3, _ => by rw [HU.out.1 3 (by decide)]; exact ⟨_, rfl, zd_rd _ _, zd_fits rfl⟩
      | 4, _ => by rw [HU.out.1 4 (by decide)]; exact ⟨_, rfl, zd_rd _ _, zd_fits rfl⟩
      | 5, _ => by rw [HU.out.1 5 (by decide)]; exact ⟨_, rfl, zd_rd _ _, zd_fits rfl⟩
      | 6, _ => by rw [HU.out.1 6 (by decide)]; exact ⟨_, rfl, rfl, ⟨_, rfl, by decide, by decide⟩⟩
      | 7, _ => by rw [HU.out.2 7 (by decide)]; exact ⟨_, rfl, (by rw [e7]; rfl), (by rw [e7]; exact ⟨_, rfl, b7⟩)⟩
      | 8, _ => by rw [HU.out.2 8 (by decide)]; exact ⟨_, rfl, r8, q8⟩
      | 9, _ => by rw [HU.out.2 9 (by decide)]; exact ⟨_, rfl, r9, q9⟩
      | 10, _ => by rw [HU.out.2 10 (by decide)]; exact ⟨_, rfl, r10, q10⟩
      | 11, _ => by rw [HU.out.2 11 (by decide)]; exact ⟨_, rfl, r11, q11⟩
      | m + 12, hm => absurd hm (by simp [stTy])), hbF⟩
  by_cases k2 : c0 = 2
  · subst k2
    have u : ∀ i, usedN (c 0).num i = (i == 7 || i == 8) := fun i => by unfold usedN; rw [if_neg (by rw [hk]; decide), if_pos hk]
    have hU : (∀ i, i ∈ ([7, 8] : List Nat) → unusedN c i = zeroSt i) ∧ (∀ i, i ∈ ([1, 2, 3, 4, 5, 6, 9, 10, 11] : List Nat) → unusedN c i = c i) := ⟨fun i hi => un_used (by rintro rfl; revert hi; decide) (by rw [u]; simp at hi ⊢; omega), fun i hi => un_not (by rintro rfl; revert hi; decide) (by rw [u]; simp at hi ⊢; omega)⟩
    have HU := Lib.hid hU
    clear hU u hk
    have RA : RowAt ((w.alloc (.cells #[.int .i64 2, .bool c1, .slice a2 n2 p2, .slice a3 n3 p3, .slice a4 n4 p4, .slice a5 n5 p5, .int .i64 c6, .string c7, .slice a8 n8 p8, .slice a9 n9 p9, .slice a10 n10 p10, .slice a11 n11 p11] 42)).alloc (.cells #[.int .i64 0, .bool false, .slice none 0 0, .slice none 0 0, .slice none 0 0, .slice none 0 0, .int .i64 0, .string ⟨#[]⟩, .slice none 0 0, .slice none 0 0, .slice none 0 0, .slice none 0 0] 42)) w.heap.size 42 #[.int .i64 2, .bool c1, .slice a2 n2 p2, .slice a3 n3 p3, .slice a4 n4 p4, .slice a5 n5 p5, .int .i64 c6, .string c7, .slice a8 n8 p8, .slice a9 n9 p9, .slice a10 n10 p10, .slice a11 n11 p11] := (RowAt.new w 42 #[.int .i64 2, .bool c1, .slice a2 n2 p2, .slice a3 n3 p3, .slice a4 n4 p4, .slice a5 n5 p5, .int .i64 c6, .string c7, .slice a8 n8 p8, .slice a9 n9 p9, .slice a10 n10 p10, .slice a11 n11 p11]).alloc _
    have RZ : RowAt ((w.alloc (.cells #[.int .i64 2, .bool c1, .slice a2 n2 p2, .slice a3 n3 p3, .slice a4 n4 p4, .slice a5 n5 p5, .int .i64 c6, .string c7, .slice a8 n8 p8, .slice a9 n9 p9, .slice a10 n10 p10, .slice a11 n11 p11] 42)).alloc (.cells #[.int .i64 0, .bool false, .slice none 0 0, .slice none 0 0, .slice none 0 0, .slice none 0 0, .int .i64 0, .string ⟨#[]⟩, .slice none 0 0, .slice none 0 0, .slice none 0 0, .slice none 0 0] 42)) (w.heap.size + 1) 42 #[.int .i64 0, .bool false, .slice none 0 0, .slice none 0 0, .slice none 0 0, .slice none 0 0, .int .i64 0, .string ⟨#[]⟩, .slice none 0 0, .slice none 0 0, .slice none 0 0, .slice none 0 0] := RowAt.new1 w (.cells #[.int .i64 2, .bool c1, .slice a2 n2 p2, .slice a3 n3 p3, .slice a4 n4 p4, .slice a5 n5 p5, .int .i64 c6, .string c7, .slice a8 n8 p8, .slice a9 n9 p9, .slice a10 n10 p10, .slice a11 n11 p11] 42) 42 #[.int .i64 0, .bool false, .slice none 0 0, .slice none 0 0, .slice none 0 0, .slice none 0 0, .int .i64 0, .string ⟨#[]⟩, .slice none 0 0, .slice none 0 0, .slice none 0 0, .slice none 0 0]
    have HB : Below w.heap.size w ((w.alloc (.cells #[.int .i64 2, .bool c1, .slice a2 n2 p2, .slice a3 n3 p3, .slice a4 n4 p4, .slice a5 n5 p5, .int .i64 c6, .string c7, .slice a8 n8 p8, .slice a9 n9 p9, .slice a10 n10 p10, .slice a11 n11 p11] 42)).alloc (.cells #[.int .i64 0, .bool false, .slice none 0 0, .slice none 0 0, .slice none 0 0, .slice none 0 0, .int .i64 0, .string ⟨#[]⟩, .slice none 0 0, .slice none 0 0, .slice none 0 0, .slice none 0 0] 42)) := ((Below.refl w.heap.size w).alloc (Nat.le_refl _) _).alloc (by simp) _
    go_enter Tryz.func21, Tryz.ntmps21
    go_upto_region 1 with fail
    generalize ((w.alloc (.cells #[.int .i64 2, .bool c1, .slice a2 n2 p2, .slice a3 n3 p3, .slice a4 n4 p4, .slice a5 n5 p5, .int .i64 c6, .string c7, .slice a8 n8 p8, .slice a9 n9 p9, .slice a10 n10 p10, .slice a11 n11 p11] 42)).alloc (.cells #[.int .i64 0, .bool false, .slice none 0 0, .slice none 0 0, .slice none 0 0, .slice none 0 0, .int .i64 0, .string ⟨#[]⟩, .slice none 0 0, .slice none 0 0, .slice none 0 0, .slice none 0 0] 42)) = w2 at RA RZ HB ⊢
    have hbz : w.heap.size + 1 ≠ w.heap.size := by omega
    have x0 := RA.cell (i := 0) (v := .int .i64 2) rfl
    have s0 := RA.soft 0
    have x7 := RA.cell (i := 7) (v := .string c7) rfl
    have s7 := RA.soft 7
    have x8 := RA.cell (i := 8) (v := .slice a8 n8 p8) rfl
    have s8 := RA.soft 8
    go_upto_region 11 with fail
    clear x0 s0 x7 s7 x8 s8
    replace RA : RowAt _ w.heap.size 42 #[.int .i64 2, .bool c1, .slice a2 n2 p2, .slice a3 n3 p3, .slice a4 n4 p4, .slice a5 n5 p5, .int .i64 c6, .string ⟨#[]⟩, .slice a8 n8 p8, .slice a9 n9 p9, .slice a10 n10 p10, .slice a11 n11 p11] := RA.set 7 (.string ⟨#[]⟩)
    replace RZ := RZ.other (C := w.heap.size) (o := 7) (v := .string ⟨#[]⟩) hbz
    replace HB := HB.setCell (p := ⟨w.heap.size, 7, none⟩) (Nat.le_refl _) (.string ⟨#[]⟩)
    replace RA : RowAt _ w.heap.size 42 #[.int .i64 2, .bool c1, .slice a2 n2 p2, .slice a3 n3 p3, .slice a4 n4 p4, .slice a5 n5 p5, .int .i64 c6, .string ⟨#[]⟩, .slice none 0 0, .slice a9 n9 p9, .slice a10 n10 p10, .slice a11 n11 p11] := RA.set 8 (.slice none 0 0)
    replace RZ := RZ.other (C := w.heap.size) (o := 8) (v := .slice none 0 0) hbz
    replace HB := HB.setCell (p := ⟨w.heap.size, 8, none⟩) (Nat.le_refl _) (.slice none 0 0)
    replace RA : RowAt _ w.heap.size 42 #[.int .i64 0, .bool c1, .slice a2 n2 p2, .slice a3 n3 p3, .slice a4 n4 p4, .slice a5 n5 p5, .int .i64 c6, .string ⟨#[]⟩, .slice none 0 0, .slice a9 n9 p9, .slice a10 n10 p10, .slice a11 n11 p11] := RA.set 0 (.int .i64 0)
    replace RZ := RZ.other (C := w.heap.size) (o := 0) (v := .int .i64 0) hbz
    replace HB := HB.setCell (p := ⟨w.heap.size, 0, none⟩) (Nat.le_refl _) (.int .i64 0)
    generalize (((w2.setCell ⟨w.heap.size, 7, none⟩ (.string ⟨#[]⟩)).setCell ⟨w.heap.size, 8, none⟩ (.slice none 0 0)).setCell ⟨w.heap.size, 0, none⟩ (.int .i64 0)) = wz at RA RZ HB ⊢
    have g0 := RZ.cell (i := 0) (v := .int .i64 0) rfl
    have k0 := RZ.soft 0
    have o0 := RA.cell (i := 0) (v := .int .i64 0) rfl
    have g1 := RZ.cell (i := 1) (v := .bool false) rfl
    have k1 := RZ.soft 1
    have o1 := RA.cell (i := 1) (v := .bool c1) rfl
    have g2 := RZ.cell (i := 2) (v := .slice none 0 0) rfl
    have k2 := RZ.soft 2
    have o2 := RA.cell (i := 2) (v := .slice a2 n2 p2) rfl
    have g3 := RZ.cell (i := 3) (v := .slice none 0 0) rfl
    have k3 := RZ.soft 3
    have o3 := RA.cell (i := 3) (v := .slice a3 n3 p3) rfl
    have g4 := RZ.cell (i := 4) (v := .slice none 0 0) rfl
    have k4 := RZ.soft 4
    have o4 := RA.cell (i := 4) (v := .slice a4 n4 p4) rfl
    have g5 := RZ.cell (i := 5) (v := .slice none 0 0) rfl
    have k5 := RZ.soft 5
    have o5 := RA.cell (i := 5) (v := .slice a5 n5 p5) rfl
    have g6 := RZ.cell (i := 6) (v := .int .i64 0) rfl
    have k6 := RZ.soft 6
    have o6 := RA.cell (i := 6) (v := .int .i64 c6) rfl
    have g7 := RZ.cell (i := 7) (v := .string ⟨#[]⟩) rfl
    have k7 := RZ.soft 7
    have o7 := RA.cell (i := 7) (v := .string ⟨#[]⟩) rfl
    have g8 := RZ.cell (i := 8) (v := .slice none 0 0) rfl
    have k8 := RZ.soft 8
    have o8 := RA.cell (i := 8) (v := .slice none 0 0) rfl
    have g9 := RZ.cell (i := 9) (v := .slice none 0 0) rfl
    have k9 := RZ.soft 9
    have o9 := RA.cell (i := 9) (v := .slice a9 n9 p9) rfl
    have g10 := RZ.cell (i := 10) (v := .slice none 0 0) rfl
    have k10 := RZ.soft 10
    have o10 := RA.cell (i := 10) (v := .slice a10 n10 p10) rfl
    have g11 := RZ.cell (i := 11) (v := .slice none 0 0) rfl
    have k11 := RZ.soft 11
    have o11 := RA.cell (i := 11) (v := .slice a11 n11 p11) rfl
    go_wp2_with fail
    rw [show ((((((((((((wz.setCell ⟨w.heap.size + 1, 0, none⟩ (.int .i64 0)).setCell ⟨w.heap.size + 1, 1, none⟩ (.bool c1)).setCell ⟨w.heap.size + 1, 2, none⟩ (.slice a2 n2 p2)).setCell ⟨w.heap.size + 1, 3, none⟩ (.slice a3 n3 p3)).setCell ⟨w.heap.size + 1, 4, none⟩ (.slice a4 n4 p4)).setCell ⟨w.heap.size + 1, 5, none⟩ (.slice a5 n5 p5)).setCell ⟨w.heap.size + 1, 6, none⟩ (.int .i64 c6)).setCell ⟨w.heap.size + 1, 7, none⟩ (.string ⟨#[]⟩)).setCell ⟨w.heap.size + 1, 8, none⟩ (.slice none 0 0)).setCell ⟨w.heap.size + 1, 9, none⟩ (.slice a9 n9 p9)).setCell ⟨w.heap.size + 1, 10, none⟩ (.slice a10 n10 p10)).setCell ⟨w.heap.size + 1, 11, none⟩ (.slice a11 n11 p11)) = puts (w.heap.size + 1) 0 [.int .i64 0, .bool c1, .slice a2 n2 p2, .slice a3 n3 p3, .slice a4 n4 p4, .slice a5 n5 p5, .int .i64 c6, .string ⟨#[]⟩, .slice none 0 0, .slice a9 n9 p9, .slice a10 n10 p10, .slice a11 n11 p11] wz from rfl]
    have hP := puts_row [.int .i64 0, .bool c1, .slice a2 n2 p2, .slice a3 n3 p3, .slice a4 n4 p4, .slice a5 n5 p5, .int .i64 c6, .string ⟨#[]⟩, .slice none 0 0, .slice a9 n9 p9, .slice a10 n10 p10, .slice a11 n11 p11] 0 RZ
    have hr := fun (i : Nat) (v : Value) (h : [.int .i64 0, .bool c1, .slice a2 n2 p2, .slice a3 n3 p3, .slice a4 n4 p4, .slice a5 n5 p5, .int .i64 c6, .string ⟨#[]⟩, .slice none 0 0, .slice a9 n9 p9, .slice a10 n10 p10, .slice a11 n11 p11][i]? = some v) => hP.cell (i := i) (v := v) (by have := putsA_in [.int .i64 0, .bool c1, .slice a2 n2 p2, .slice a3 n3 p3, .slice a4 n4 p4, .slice a5 n5 p5, .int .i64 c6, .string ⟨#[]⟩, .slice none 0 0, .slice a9 n9 p9, .slice a10 n10 p10, .slice a11 n11 p11] 0 #[.int .i64 0, .bool false, .slice none 0 0, .slice none 0 0, .slice none 0 0, .slice none 0 0, .int .i64 0, .string ⟨#[]⟩, .slice none 0 0, .slice none 0 0, .slice none 0 0, .slice none 0 0] i (List.getElem?_eq_some_iff.1 h).1 (by simp); rw [Nat.zero_add] at this; rw [this]; exact h)
    have hbF := puts_below (C := w.heap.size) (B := w.heap.size + 1) (by omega) [.int .i64 0, .bool c1, .slice a2 n2 p2, .slice a3 n3 p3, .slice a4 n4 p4, .slice a5 n5 p5, .int .i64 c6, .string ⟨#[]⟩, .slice none 0 0, .slice a9 n9 p9, .slice a10 n10 p10, .slice a11 n11 p11] 0 HB
    have f0 := hr 0 (.int .i64 0) rfl
    have f1 := hr 1 (.bool c1) rfl
    have f2 := hr 2 (.slice a2 n2 p2) rfl
    have f3 := hr 3 (.slice a3 n3 p3) rfl
    have f4 := hr 4 (.slice a4 n4 p4) rfl
    have f5 := hr 5 (.slice a5 n5 p5) rfl
    have f6 := hr 6 (.int .i64 c6) rfl
    have f7 := hr 7 (.string ⟨#[]⟩) rfl
    have f8 := hr 8 (.slice none 0 0) rfl
    have f9 := hr 9 (.slice a9 n9 p9) rfl
    have f10 := hr 10 (.slice a10 n10 p10) rfl
    have f11 := hr 11 (.slice a11 n11 p11) rfl
    clear hr hP
    generalize puts (w.heap.size + 1) 0 [.int .i64 0, .bool c1, .slice a2 n2 p2, .slice a3 n3 p3, .slice a4 n4 p4, .slice a5 n5 p5, .int .i64 c6, .string ⟨#[]⟩, .slice none 0 0, .slice a9 n9 p9, .slice a10 n10 p10, .slice a11 n11 p11] wz = wf at hbF f0 f1 f2 f3 f4 f5 f6 f7 f8 f9 f10 f11 ⊢
    refine bodyPost_ret (v := .agg #[.int .i64 0, .bool c1, .slice a2 n2 p2, .slice a3 n3 p3, .slice a4 n4 p4, .slice a5 n5 p5, .int .i64 c6, .string ⟨#[]⟩, .slice none 0 0, .slice a9 n9 p9, .slice a10 n10 p10, .slice a11 n11 p11]) (by simp [results, Tryz.results21, go_sem, f0, f1, f2, f3, f4, f5, f6, f7, f8, f9, f10, f11]) rfl ?_
    refine ⟨[.int .i64 0, .bool c1, .slice a2 n2 p2, .slice a3 n3 p3, .slice a4 n4 p4, .slice a5 n5 p5, .int .i64 c6, .string ⟨#[]⟩, .slice none 0 0, .slice a9 n9 p9, .slice a10 n10 p10, .slice a11 n11 p11], rfl, OutK.one rfl (fun m hm => match m, hm with
      | 0, _ => ⟨_, rfl, rfl, ⟨_, rfl, by decide, by decide⟩⟩
      | 1, _ => by rw [HU.out.2 1 (by decide)]; exact ⟨_, rfl, (by rw [e1]; rfl), (by rw [e1]; exact ⟨_, rfl⟩)⟩
      | 2, _ => by rw [HU.out.2 2 (by decide)]; exact ⟨_, rfl, r2, q2⟩
      | 3, _ => by rw [HU.out.2 3 (by decide)]; exact ⟨_, rfl, r3, q3⟩
      | 4, _ => by rw [HU.out.2 4 (by decide)]; exact ⟨_, rfl, r4, q4⟩
      | 5, _ => by rw [HU.out.2 5 (by decide)]; exact ⟨_, rfl, r5, q5⟩
      | 6, _ => by rw [HU.out.2 6 (by decide)]; exact ⟨_, rfl, (by rw [e6]; rfl), (by rw [e6]; exact ⟨_, rfl, b6⟩)⟩
      | 7, _ => by rw [HU.out.1 7 (by decide)]; exact ⟨_, rfl, rfl, ⟨_, rfl, by decide⟩⟩
      | 8, _ => by rw [HU.out.1 8 (by decide)]; exact ⟨_, rfl, zd_rd _ _, zd_fits rfl⟩
      | 9, _ => by rw [HU.out.2 9 (by decide)]; exact ⟨_, rfl, r9, q9⟩
      | 10, _ => by rw [HU.out.2 10 (by decide)]; exact ⟨_, rfl, r10, q10⟩
      | 11, _ => by rw [HU.out.2 11 (by decide)]; exact ⟨_, rfl, r11, q11⟩
      | m + 12, hm => absurd hm (by simp [stTy])), hbF⟩
  by_cases k3 : c0 = 3
  · subst k3
    have u : ∀ i, usedN (c 0).num i = (i == 7 || (i == 9 || (i == 10 || i == 11))) := fun i => by unfold usedN; rw [if_neg (by rw [hk]; decide), if_neg (by rw [hk]; decide), if_pos hk]
    have hU : (∀ i, i ∈ ([7, 9, 10, 11] : List Nat) → unusedN c i = zeroSt i) ∧ (∀ i, i ∈ ([1, 2, 3, 4, 5, 6, 8] : List Nat) → unusedN c i = c i) := ⟨fun i hi => un_used (by rintro rfl; revert hi; decide) (by rw [u]; simp at hi ⊢; omega), fun i hi => un_not (by rintro rfl; revert hi; decide) (by rw [u]; simp at hi ⊢; omega)⟩
    have HU := Lib.hid hU
    clear hU u hk
    have RA : RowAt ((w.alloc (.cells #[.int .i64 3, .bool c1, .slice a2 n2 p2, .slice a3 n3 p3, .slice a4 n4 p4, .slice a5 n5 p5, .int .i64 c6, .string c7, .slice a8 n8 p8, .slice a9 n9 p9, .slice a10 n10 p10, .slice a11 n11 p11] 42)).alloc (.cells #[.int .i64 0, .bool false, .slice none 0 0, .slice none 0 0, .slice none 0 0, .slice none 0 0, .int .i64 0, .string ⟨#[]⟩, .slice none 0 0, .slice none 0 0, .slice none 0 0, .slice none 0 0] 42)) w.heap.size 42 #[.int .i64 3, .bool c1, .slice a2 n2 p2, .slice a3 n3 p3, .slice a4 n4 p4, .slice a5 n5 p5, .int .i64 c6, .string c7, .slice a8 n8 p8, .slice a9 n9 p9, .slice a10 n10 p10, .slice a11 n11 p11] := (RowAt.new w 42 #[.int .i64 3, .bool c1, .slice a2 n2 p2, .slice a3 n3 p3, .slice a4 n4 p4, .slice a5 n5 p5, .int .i64 c6, .string c7, .slice a8 n8 p8, .slice a9 n9 p9, .slice a10 n10 p10, .slice a11 n11 p11]).alloc _
    have RZ : RowAt ((w.alloc (.cells #[.int .i64 3, .bool c1, .slice a2 n2 p2, .slice a3 n3 p3, .slice a4 n4 p4, .slice a5 n5 p5, .int .i64 c6, .string c7, .slice a8 n8 p8, .slice a9 n9 p9, .slice a10 n10 p10, .slice a11 n11 p11] 42)).alloc (.cells #[.int .i64 0, .bool false, .slice none 0 0, .slice none 0 0, .slice none 0 0, .slice none 0 0, .int .i64 0, .string ⟨#[]⟩, .slice none 0 0, .slice none 0 0, .slice none 0 0, .slice none 0 0] 42)) (w.heap.size + 1) 42 #[.int .i64 0, .bool false, .slice none 0 0, .slice none 0 0, .slice none 0 0, .slice none 0 0, .int .i64 0, .string ⟨#[]⟩, .slice none 0 0, .slice none 0 0, .slice none 0 0, .slice none 0 0] := RowAt.new1 w (.cells #[.int .i64 3, .bool c1, .slice a2 n2 p2, .slice a3 n3 p3, .slice a4 n4 p4, .slice a5 n5 p5, .int .i64 c6, .string c7, .slice a8 n8 p8, .slice a9 n9 p9, .slice a10 n10 p10, .slice a11 n11 p11] 42) 42 #[.int .i64 0, .bool false, .slice none 0 0, .slice none 0 0, .slice none 0 0, .slice none 0 0, .int .i64 0, .string ⟨#[]⟩, .slice none 0 0, .slice none 0 0, .slice none 0 0, .slice none 0 0]
    have HB : Below w.heap.size w ((w.alloc (.cells #[.int .i64 3, .bool c1, .slice a2 n2 p2, .slice a3 n3 p3, .slice a4 n4 p4, .slice a5 n5 p5, .int .i64 c6, .string c7, .slice a8 n8 p8, .slice a9 n9 p9, .slice a10 n10 p10, .slice a11 n11 p11] 42)).alloc (.cells #[.int .i64 0, .bool false, .slice none 0 0, .slice none 0 0, .slice none 0 0, .slice none 0 0, .int .i64 0, .string ⟨#[]⟩, .slice none 0 0, .slice none 0 0, .slice none 0 0, .slice none 0 0] 42)) := ((Below.refl w.heap.size w).alloc (Nat.le_refl _) _).alloc (by simp) _
    go_enter Tryz.func21, Tryz.ntmps21
    go_upto_region 1 with fail
    generalize ((w.alloc (.cells #[.int .i64 3, .bool c1, .slice a2 n2 p2, .slice a3 n3 p3, .slice a4 n4 p4, .slice a5 n5 p5, .int .i64 c6, .string c7, .slice a8 n8 p8, .slice a9 n9 p9, .slice a10 n10 p10, .slice a11 n11 p11] 42)).alloc (.cells #[.int .i64 0, .bool false, .slice none 0 0, .slice none 0 0, .slice none 0 0, .slice none 0 0, .int .i64 0, .string ⟨#[]⟩, .slice none 0 0, .slice none 0 0, .slice none 0 0, .slice none 0 0] 42)) = w2 at RA RZ HB ⊢
    have hbz : w.heap.size + 1 ≠ w.heap.size := by omega
    have x0 := RA.cell (i := 0) (v := .int .i64 3) rfl
    have s0 := RA.soft 0
    have x7 := RA.cell (i := 7) (v := .string c7) rfl
    have s7 := RA.soft 7
    have x9 := RA.cell (i := 9) (v := .slice a9 n9 p9) rfl
    have s9 := RA.soft 9
    have x10 := RA.cell (i := 10) (v := .slice a10 n10 p10) rfl
    have s10 := RA.soft 10
    have x11 := RA.cell (i := 11) (v := .slice a11 n11 p11) rfl
    have s11 := RA.soft 11
    go_upto_region 11 with fail
    clear x0 s0 x7 s7 x9 s9 x10 s10 x11 s11
    replace RA : RowAt _ w.heap.size 42 #[.int .i64 3, .bool c1, .slice a2 n2 p2, .slice a3 n3 p3, .slice a4 n4 p4, .slice a5 n5 p5, .int .i64 c6, .string ⟨#[]⟩, .slice a8 n8 p8, .slice a9 n9 p9, .slice a10 n10 p10, .slice a11 n11 p11] := RA.set 7 (.string ⟨#[]⟩)
    replace RZ := RZ.other (C := w.heap.size) (o := 7) (v := .string ⟨#[]⟩) hbz
    replace HB := HB.setCell (p := ⟨w.heap.size, 7, none⟩) (Nat.le_refl _) (.string ⟨#[]⟩)
    replace RA : RowAt _ w.heap.size 42 #[.int .i64 3, .bool c1, .slice a2 n2 p2, .slice a3 n3 p3, .slice a4 n4 p4, .slice a5 n5 p5, .int .i64 c6, .string ⟨#[]⟩, .slice a8 n8 p8, .slice none 0 0, .slice a10 n10 p10, .slice a11 n11 p11] := RA.set 9 (.slice none 0 0)
    replace RZ := RZ.other (C := w.heap.size) (o := 9) (v := .slice none 0 0) hbz
    replace HB := HB.setCell (p := ⟨w.heap.size, 9, none⟩) (Nat.le_refl _) (.slice none 0 0)
    replace RA : RowAt _ w.heap.size 42 #[.int .i64 3, .bool c1, .slice a2 n2 p2, .slice a3 n3 p3, .slice a4 n4 p4, .slice a5 n5 p5, .int .i64 c6, .string ⟨#[]⟩, .slice a8 n8 p8, .slice none 0 0, .slice none 0 0, .slice a11 n11 p11] := RA.set 10 (.slice none 0 0)
    replace RZ := RZ.other (C := w.heap.size) (o := 10) (v := .slice none 0 0) hbz
    replace HB := HB.setCell (p := ⟨w.heap.size, 10, none⟩) (Nat.le_refl _) (.slice none 0 0)
    replace RA : RowAt _ w.heap.size 42 #[.int .i64 3, .bool c1, .slice a2 n2 p2, .slice a3 n3 p3, .slice a4 n4 p4, .slice a5 n5 p5, .int .i64 c6, .string ⟨#[]⟩, .slice a8 n8 p8, .slice none 0 0, .slice none 0 0, .slice none 0 0] := RA.set 11 (.slice none 0 0)
    replace RZ := RZ.other (C := w.heap.size) (o := 11) (v := .slice none 0 0) hbz
    replace HB := HB.setCell (p := ⟨w.heap.size, 11, none⟩) (Nat.le_refl _) (.slice none 0 0)
    replace RA : RowAt _ w.heap.size 42 #[.int .i64 0, .bool c1, .slice a2 n2 p2, .slice a3 n3 p3, .slice a4 n4 p4, .slice a5 n5 p5, .int .i64 c6, .string ⟨#[]⟩, .slice a8 n8 p8, .slice none 0 0, .slice none 0 0, .slice none 0 0] := RA.set 0 (.int .i64 0)
    replace RZ := RZ.other (C := w.heap.size) (o := 0) (v := .int .i64 0) hbz
    replace HB := HB.setCell (p := ⟨w.heap.size, 0, none⟩) (Nat.le_refl _) (.int .i64 0)
    generalize (((((w2.setCell ⟨w.heap.size, 7, none⟩ (.string ⟨#[]⟩)).setCell ⟨w.heap.size, 9, none⟩ (.slice none 0 0)).setCell ⟨w.heap.size, 10, none⟩ (.slice none 0 0)).setCell ⟨w.heap.size, 11, none⟩ (.slice none 0 0)).setCell ⟨w.heap.size, 0, none⟩ (.int .i64 0)) = wz at RA RZ HB ⊢
    have g0 := RZ.cell (i := 0) (v := .int .i64 0) rfl
    have k0 := RZ.soft 0
    have o0 := RA.cell (i := 0) (v := .int .i64 0) rfl
    have g1 := RZ.cell (i := 1) (v := .bool false) rfl
    have k1 := RZ.soft 1
    have o1 := RA.cell (i := 1) (v := .bool c1) rfl
    have g2 := RZ.cell (i := 2) (v := .slice none 0 0) rfl
    have k2 := RZ.soft 2
    have o2 := RA.cell (i := 2) (v := .slice a2 n2 p2) rfl
    have g3 := RZ.cell (i := 3) (v := .slice none 0 0) rfl
    have k3 := RZ.soft 3
    have o3 := RA.cell (i := 3) (v := .slice a3 n3 p3) rfl
    have g4 := RZ.cell (i := 4) (v := .slice none 0 0) rfl
    have k4 := RZ.soft 4
    have o4 := RA.cell (i := 4) (v := .slice a4 n4 p4) rfl
    have g5 := RZ.cell (i := 5) (v := .slice none 0 0) rfl
    have k5 := RZ.soft 5
    have o5 := RA.cell (i := 5) (v := .slice a5 n5 p5) rfl
    have g6 := RZ.cell (i := 6) (v := .int .i64 0) rfl
    have k6 := RZ.soft 6
    have o6 := RA.cell (i := 6) (v := .int .i64 c6) rfl
    have g7 := RZ.cell (i := 7) (v := .string ⟨#[]⟩) rfl
    have k7 := RZ.soft 7
    have o7 := RA.cell (i := 7) (v := .string ⟨#[]⟩) rfl
    have g8 := RZ.cell (i := 8) (v := .slice none 0 0) rfl
    have k8 := RZ.soft 8
    have o8 := RA.cell (i := 8) (v := .slice a8 n8 p8) rfl
    have g9 := RZ.cell (i := 9) (v := .slice none 0 0) rfl
    have k9 := RZ.soft 9
    have o9 := RA.cell (i := 9) (v := .slice none 0 0) rfl
    have g10 := RZ.cell (i := 10) (v := .slice none 0 0) rfl
    have k10 := RZ.soft 10
    have o10 := RA.cell (i := 10) (v := .slice none 0 0) rfl
    have g11 := RZ.cell (i := 11) (v := .slice none 0 0) rfl
    have k11 := RZ.soft 11
    have o11 := RA.cell (i := 11) (v := .slice none 0 0) rfl
    go_wp2_with fail
    rw [show ((((((((((((wz.setCell ⟨w.heap.size + 1, 0, none⟩ (.int .i64 0)).setCell ⟨w.heap.size + 1, 1, none⟩ (.bool c1)).setCell ⟨w.heap.size + 1, 2, none⟩ (.slice a2 n2 p2)).setCell ⟨w.heap.size + 1, 3, none⟩ (.slice a3 n3 p3)).setCell ⟨w.heap.size + 1, 4, none⟩ (.slice a4 n4 p4)).setCell ⟨w.heap.size + 1, 5, none⟩ (.slice a5 n5 p5)).setCell ⟨w.heap.size + 1, 6, none⟩ (.int .i64 c6)).setCell ⟨w.heap.size + 1, 7, none⟩ (.string ⟨#[]⟩)).setCell ⟨w.heap.size + 1, 8, none⟩ (.slice a8 n8 p8)).setCell ⟨w.heap.size + 1, 9, none⟩ (.slice none 0 0)).setCell ⟨w.heap.size + 1, 10, none⟩ (.slice none 0 0)).setCell ⟨w.heap.size + 1, 11, none⟩ (.slice none 0 0)) = puts (w.heap.size + 1) 0 [.int .i64 0, .bool c1, .slice a2 n2 p2, .slice a3 n3 p3, .slice a4 n4 p4, .slice a5 n5 p5, .int .i64 c6, .string ⟨#[]⟩, .slice a8 n8 p8, .slice none 0 0, .slice none 0 0, .slice none 0 0] wz from rfl]
    have hP := puts_row [.int .i64 0, .bool c1, .slice a2 n2 p2, .slice a3 n3 p3, .slice a4 n4 p4, .slice a5 n5 p5, .int .i64 c6, .string ⟨#[]⟩, .slice a8 n8 p8, .slice none 0 0, .slice none 0 0, .slice none 0 0] 0 RZ
    have hr := fun (i : Nat) (v : Value) (h : [.int .i64 0, .bool c1, .slice a2 n2 p2, .slice a3 n3 p3, .slice a4 n4 p4, .slice a5 n5 p5, .int .i64 c6, .string ⟨#[]⟩, .slice a8 n8 p8, .slice none 0 0, .slice none 0 0, .slice none 0 0][i]? = some v) => hP.cell (i := i) (v := v) (by have := putsA_in [.int .i64 0, .bool c1, .slice a2 n2 p2, .slice a3 n3 p3, .slice a4 n4 p4, .slice a5 n5 p5, .int .i64 c6, .string ⟨#[]⟩, .slice a8 n8 p8, .slice none 0 0, .slice none 0 0, .slice none 0 0] 0 #[.int .i64 0, .bool false, .slice none 0 0, .slice none 0 0, .slice none 0 0, .slice none 0 0, .int .i64 0, .string ⟨#[]⟩, .slice none 0 0, .slice none 0 0, .slice none 0 0, .slice none 0 0] i (List.getElem?_eq_some_iff.1 h).1 (by simp); rw [Nat.zero_add] at this; rw [this]; exact h)
    have hbF := puts_below (C := w.heap.size) (B := w.heap.size + 1) (by omega) [.int .i64 0, .bool c1, .slice a2 n2 p2, .slice a3 n3 p3, .slice a4 n4 p4, .slice a5 n5 p5, .int .i64 c6, .string ⟨#[]⟩, .slice a8 n8 p8, .slice none 0 0, .slice none 0 0, .slice none 0 0] 0 HB
    have f0 := hr 0 (.int .i64 0) rfl
    have f1 := hr 1 (.bool c1) rfl
    have f2 := hr 2 (.slice a2 n2 p2) rfl
    have f3 := hr 3 (.slice a3 n3 p3) rfl
    have f4 := hr 4 (.slice a4 n4 p4) rfl
    have f5 := hr 5 (.slice a5 n5 p5) rfl
    have f6 := hr 6 (.int .i64 c6) rfl
    have f7 := hr 7 (.string ⟨#[]⟩) rfl
    have f8 := hr 8 (.slice a8 n8 p8) rfl
    have f9 := hr 9 (.slice none 0 0) rfl
    have f10 := hr 10 (.slice none 0 0) rfl
    have f11 := hr 11 (.slice none 0 0) rfl
    clear hr hP
    generalize puts (w.heap.size + 1) 0 [.int .i64 0, .bool c1, .slice a2 n2 p2, .slice a3 n3 p3, .slice a4 n4 p4, .slice a5 n5 p5, .int .i64 c6, .string ⟨#[]⟩, .slice a8 n8 p8, .slice none 0 0, .slice none 0 0, .slice none 0 0] wz = wf at hbF f0 f1 f2 f3 f4 f5 f6 f7 f8 f9 f10 f11 ⊢
    refine bodyPost_ret (v := .agg #[.int .i64 0, .bool c1, .slice a2 n2 p2, .slice a3 n3 p3, .slice a4 n4 p4, .slice a5 n5 p5, .int .i64 c6, .string ⟨#[]⟩, .slice a8 n8 p8, .slice none 0 0, .slice none 0 0, .slice none 0 0]) (by simp [results, Tryz.results21, go_sem, f0, f1, f2, f3, f4, f5, f6, f7, f8, f9, f10, f11]) rfl ?_
    refine ⟨[.int .i64 0, .bool c1, .slice a2 n2 p2, .slice a3 n3 p3, .slice a4 n4 p4, .slice a5 n5 p5, .int .i64 c6, .string ⟨#[]⟩, .slice a8 n8 p8, .slice none 0 0, .slice none 0 0, .slice none 0 0], rfl, OutK.one rfl (fun m hm => match m, hm with
      | 0, _ => ⟨_, rfl, rfl, ⟨_, rfl, by decide, by decide⟩⟩
      | 1, _ => by rw [HU.out.2 1 (by decide)]; exact ⟨_, rfl, (by rw [e1]; rfl), (by rw [e1]; exact ⟨_, rfl⟩)⟩
      | 2, _ => by rw [HU.out.2 2 (by decide)]; exact ⟨_, rfl, r2, q2⟩
      | 3, _ => by rw [HU.out.2 3 (by decide)]; exact ⟨_, rfl, r3, q3⟩
      | 4, _ => by rw [HU.out.2 4 (by decide)]; exact ⟨_, rfl, r4, q4⟩
      | 5, _ => by rw [HU.out.2 5 (by decide)]; exact ⟨_, rfl, r5, q5⟩
      | 6, _ => by rw [HU.out.2 6 (by decide)]; exact ⟨_, rfl, (by rw [e6]; rfl), (by rw [e6]; exact ⟨_, rfl, b6⟩)⟩
      | 7, _ => by rw [HU.out.1 7 (by decide)]; exact ⟨_, rfl, rfl, ⟨_, rfl, by decide⟩⟩
      | 8, _ => by rw [HU.out.2 8 (by decide)]; exact ⟨_, rfl, r8, q8⟩
      | 9, _ => by rw [HU.out.1 9 (by decide)]; exact ⟨_, rfl, zd_rd _ _, zd_fits rfl⟩
      | 10, _ => by rw [HU.out.1 10 (by decide)]; exact ⟨_, rfl, zd_rd _ _, zd_fits rfl⟩
      | 11, _ => by rw [HU.out.1 11 (by decide)]; exact ⟨_, rfl, zd_rd _ _, zd_fits rfl⟩
      | m + 12, hm => absurd hm (by simp [stTy])), hbF⟩
  by_cases k4 : c0 = 4
  · subst k4
    have u : ∀ i, usedN (c 0).num i = (i == 7 || i == 11) := fun i => by unfold usedN; rw [if_neg (by rw [hk]; decide), if_neg (by rw [hk]; decide), if_neg (by rw [hk]; decide), if_pos hk]
    have hU : (∀ i, i ∈ ([7, 11] : List Nat) → unusedN c i = zeroSt i) ∧ (∀ i, i ∈ ([1, 2, 3, 4, 5, 6, 8, 9, 10] : List Nat) → unusedN c i = c i) := ⟨fun i hi => un_used (by rintro rfl; revert hi; decide) (by rw [u]; simp at hi ⊢; omega), fun i hi => un_not (by rintro rfl; revert hi; decide) (by rw [u]; simp at hi ⊢; omega)⟩
    have HU := Lib.hid hU
    clear hU u hk
    have RA : RowAt ((w.alloc (.cells #[.int .i64 4, .bool c1, .slice a2 n2 p2, .slice a3 n3 p3, .slice a4 n4 p4, .slice a5 n5 p5, .int .i64 c6, .string c7, .slice a8 n8 p8, .slice a9 n9 p9, .slice a10 n10 p10, .slice a11 n11 p11] 42)).alloc (.cells #[.int .i64 0, .bool false, .slice none 0 0, .slice none 0 0, .slice none 0 0, .slice none 0 0, .int .i64 0, .string ⟨#[]⟩, .slice none 0 0, .slice none 0 0, .slice none 0 0, .slice none 0 0] 42)) w.heap.size 42 #[.int .i64 4, .bool c1, .slice a2 n2 p2, .slice a3 n3 p3, .slice a4 n4 p4, .slice a5 n5 p5, .int .i64 c6, .string c7, .slice a8 n8 p8, .slice a9 n9 p9, .slice a10 n10 p10, .slice a11 n11 p11] := (RowAt.new w 42 #[.int .i64 4, .bool c1, .slice a2 n2 p2, .slice a3 n3 p3, .slice a4 n4 p4, .slice a5 n5 p5, .int .i64 c6, .string c7, .slice a8 n8 p8, .slice a9 n9 p9, .slice a10 n10 p10, .slice a11 n11 p11]).alloc _
    have RZ : RowAt ((w.alloc (.cells #[.int .i64 4, .bool c1, .slice a2 n2 p2, .slice a3 n3 p3, .slice a4 n4 p4, .slice a5 n5 p5, .int .i64 c6, .string c7, .slice a8 n8 p8, .slice a9 n9 p9, .slice a10 n10 p10, .slice a11 n11 p11] 42)).alloc (.cells #[.int .i64 0, .bool false, .slice none 0 0, .slice none 0 0, .slice none 0 0, .slice none 0 0, .int .i64 0, .string ⟨#[]⟩, .slice none 0 0, .slice none 0 0, .slice none 0 0, .slice none 0 0] 42)) (w.heap.size + 1) 42 #[.int .i64 0, .bool false, .slice none 0 0, .slice none 0 0, .slice none 0 0, .slice none 0 0, .int .i64 0, .string ⟨#[]⟩, .slice none 0 0, .slice none 0 0, .slice none 0 0, .slice none 0 0] := RowAt.new1 w (.cells #[.int .i64 4, .bool c1, .slice a2 n2 p2, .slice a3 n3 p3, .slice a4 n4 p4, .slice a5 n5 p5, .int .i64 c6, .string c7, .slice a8 n8 p8, .slice a9 n9 p9, .slice a10 n10 p10, .slice a11 n11 p11] 42) 42 #[.int .i64 0, .bool false, .slice none 0 0, .slice none 0 0, .slice none 0 0, .slice none 0 0, .int .i64 0, .string ⟨#[]⟩, .slice none 0 0, .slice none 0 0, .slice none 0 0, .slice none 0 0]
    have HB : Below w.heap.size w ((w.alloc (.cells #[.int .i64 4, .bool c1, .slice a2 n2 p2, .slice a3 n3 p3, .slice a4 n4 p4, .slice a5 n5 p5, .int .i64 c6, .string c7, .slice a8 n8 p8, .slice a9 n9 p9, .slice a10 n10 p10, .slice a11 n11 p11] 42)).alloc (.cells #[.int .i64 0, .bool false, .slice none 0 0, .slice none 0 0, .slice none 0 0, .slice none 0 0, .int .i64 0, .string ⟨#[]⟩, .slice none 0 0, .slice none 0 0, .slice none 0 0, .slice none 0 0] 42)) := ((Below.refl w.heap.size w).alloc (Nat.le_refl _) _).alloc (by simp) _
    go_enter Tryz.func21, Tryz.ntmps21
    go_upto_region 1 with fail
    generalize ((w.alloc (.cells #[.int .i64 4, .bool c1, .slice a2 n2 p2, .slice a3 n3 p3, .slice a4 n4 p4, .slice a5 n5 p5, .int .i64 c6, .string c7, .slice a8 n8 p8, .slice a9 n9 p9, .slice a10 n10 p10, .slice a11 n11 p11] 42)).alloc (.cells #[.int .i64 0, .bool false, .slice none 0 0, .slice none 0 0, .slice none 0 0, .slice none 0 0, .int .i64 0, .string ⟨#[]⟩, .slice none 0 0, .slice none 0 0, .slice none 0 0, .slice none 0 0] 42)) = w2 at RA RZ HB ⊢
    have hbz : w.heap.size + 1 ≠ w.heap.size := by omega
    have x0 := RA.cell (i := 0) (v := .int .i64 4) rfl
    have s0 := RA.soft 0
    have x7 := RA.cell (i := 7) (v := .string c7) rfl
    have s7 := RA.soft 7
    have x11 := RA.cell (i := 11) (v := .slice a11 n11 p11) rfl
    have s11 := RA.soft 11
    go_upto_region 11 with fail
    clear x0 s0 x7 s7 x11 s11
    replace RA : RowAt _ w.heap.size 42 #[.int .i64 4, .bool c1, .slice a2 n2 p2, .slice a3 n3 p3, .slice a4 n4 p4, .slice a5 n5 p5, .int .i64 c6, .string ⟨#[]⟩, .slice a8 n8 p8, .slice a9 n9 p9, .slice a10 n10 p10, .slice a11 n11 p11] := RA.set 7 (.string ⟨#[]⟩)
    replace RZ := RZ.other (C := w.heap.size) (o := 7) (v := .string ⟨#[]⟩) hbz
    replace HB := HB.setCell (p := ⟨w.heap.size, 7, none⟩) (Nat.le_refl _) (.string ⟨#[]⟩)
    replace RA : RowAt _ w.heap.size 42 #[.int .i64 4, .bool c1, .slice a2 n2 p2, .slice a3 n3 p3, .slice a4 n4 p4, .slice a5 n5 p5, .int .i64 c6, .string ⟨#[]⟩, .slice a8 n8 p8, .slice a9 n9 p9, .slice a10 n10 p10, .slice none 0 0] := RA.set 11 (.slice none 0 0)
    replace RZ := RZ.other (C := w.heap.size) (o := 11) (v := .slice none 0 0) hbz
    replace HB := HB.setCell (p := ⟨w.heap.size, 11, none⟩) (Nat.le_refl _) (.slice none 0 0)
    replace RA : RowAt _ w.heap.size 42 #[.int .i64 0, .bool c1, .slice a2 n2 p2, .slice a3 n3 p3, .slice a4 n4 p4, .slice a5 n5 p5, .int .i64 c6, .string ⟨#[]⟩, .slice a8 n8 p8, .slice a9 n9 p9, .slice a10 n10 p10, .slice none 0 0] := RA.set 0 (.int .i64 0)
    replace RZ := RZ.other (C := w.heap.size) (o := 0) (v := .int .i64 0) hbz
    replace HB := HB.setCell (p := ⟨w.heap.size, 0, none⟩) (Nat.le_refl _) (.int .i64 0)
    generalize (((w2.setCell ⟨w.heap.size, 7, none⟩ (.string ⟨#[]⟩)).setCell ⟨w.heap.size, 11, none⟩ (.slice none 0 0)).setCell ⟨w.heap.size, 0, none⟩ (.int .i64 0)) = wz at RA RZ HB ⊢
    have g0 := RZ.cell (i := 0) (v := .int .i64 0) rfl
    have k0 := RZ.soft 0
    have o0 := RA.cell (i := 0) (v := .int .i64 0) rfl
    have g1 := RZ.cell (i := 1) (v := .bool false) rfl
    have k1 := RZ.soft 1
    have o1 := RA.cell (i := 1) (v := .bool c1) rfl
    have g2 := RZ.cell (i := 2) (v := .slice none 0 0) rfl
    have k2 := RZ.soft 2
    have o2 := RA.cell (i := 2) (v := .slice a2 n2 p2) rfl
    have g3 := RZ.cell (i := 3) (v := .slice none 0 0) rfl
    have k3 := RZ.soft 3
    have o3 := RA.cell (i := 3) (v := .slice a3 n3 p3) rfl
    have g4 := RZ.cell (i := 4) (v := .slice none 0 0) rfl
    have k4 := RZ.soft 4
    have o4 := RA.cell (i := 4) (v := .slice a4 n4 p4) rfl
    have g5 := RZ.cell (i := 5) (v := .slice none 0 0) rfl
    have k5 := RZ.soft 5
    have o5 := RA.cell (i := 5) (v := .slice a5 n5 p5) rfl
    have g6 := RZ.cell (i := 6) (v := .int .i64 0) rfl
    have k6 := RZ.soft 6
    have o6 := RA.cell (i := 6) (v := .int .i64 c6) rfl
    have g7 := RZ.cell (i := 7) (v := .string ⟨#[]⟩) rfl
    have k7 := RZ.soft 7
    have o7 := RA.cell (i := 7) (v := .string ⟨#[]⟩) rfl
    have g8 := RZ.cell (i := 8) (v := .slice none 0 0) rfl
    have k8 := RZ.soft 8
    have o8 := RA.cell (i := 8) (v := .slice a8 n8 p8) rfl
    have g9 := RZ.cell (i := 9) (v := .slice none 0 0) rfl
    have k9 := RZ.soft 9
    have o9 := RA.cell (i := 9) (v := .slice a9 n9 p9) rfl
    have g10 := RZ.cell (i := 10) (v := .slice none 0 0) rfl
    have k10 := RZ.soft 10
    have o10 := RA.cell (i := 10) (v := .slice a10 n10 p10) rfl
    have g11 := RZ.cell (i := 11) (v := .slice none 0 0) rfl
    have k11 := RZ.soft 11
    have o11 := RA.cell (i := 11) (v := .slice none 0 0) rfl
    go_wp2_with fail
    rw [show ((((((((((((wz.setCell ⟨w.heap.size + 1, 0, none⟩ (.int .i64 0)).setCell ⟨w.heap.size + 1, 1, none⟩ (.bool c1)).setCell ⟨w.heap.size + 1, 2, none⟩ (.slice a2 n2 p2)).setCell ⟨w.heap.size + 1, 3, none⟩ (.slice a3 n3 p3)).setCell ⟨w.heap.size + 1, 4, none⟩ (.slice a4 n4 p4)).setCell ⟨w.heap.size + 1, 5, none⟩ (.slice a5 n5 p5)).setCell ⟨w.heap.size + 1, 6, none⟩ (.int .i64 c6)).setCell ⟨w.heap.size + 1, 7, none⟩ (.string ⟨#[]⟩)).setCell ⟨w.heap.size + 1, 8, none⟩ (.slice a8 n8 p8)).setCell ⟨w.heap.size + 1, 9, none⟩ (.slice a9 n9 p9)).setCell ⟨w.heap.size + 1, 10, none⟩ (.slice a10 n10 p10)).setCell ⟨w.heap.size + 1, 11, none⟩ (.slice none 0 0)) = puts (w.heap.size + 1) 0 [.int .i64 0, .bool c1, .slice a2 n2 p2, .slice a3 n3 p3, .slice a4 n4 p4, .slice a5 n5 p5, .int .i64 c6, .string ⟨#[]⟩, .slice a8 n8 p8, .slice a9 n9 p9, .slice a10 n10 p10, .slice none 0 0] wz from rfl]
    have hP := puts_row [.int .i64 0, .bool c1, .slice a2 n2 p2, .slice a3 n3 p3, .slice a4 n4 p4, .slice a5 n5 p5, .int .i64 c6, .string ⟨#[]⟩, .slice a8 n8 p8, .slice a9 n9 p9, .slice a10 n10 p10, .slice none 0 0] 0 RZ
    have hr := fun (i : Nat) (v : Value) (h : [.int .i64 0, .bool c1, .slice a2 n2 p2, .slice a3 n3 p3, .slice a4 n4 p4, .slice a5 n5 p5, .int .i64 c6, .string ⟨#[]⟩, .slice a8 n8 p8, .slice a9 n9 p9, .slice a10 n10 p10, .slice none 0 0][i]? = some v) => hP.cell (i := i) (v := v) (by have := putsA_in [.int .i64 0, .bool c1, .slice a2 n2 p2, .slice a3 n3 p3, .slice a4 n4 p4, .slice a5 n5 p5, .int .i64 c6, .string ⟨#[]⟩, .slice a8 n8 p8, .slice a9 n9 p9, .slice a10 n10 p10, .slice none 0 0] 0 #[.int .i64 0, .bool false, .slice none 0 0, .slice none 0 0, .slice none 0 0, .slice none 0 0, .int .i64 0, .string ⟨#[]⟩, .slice none 0 0, .slice none 0 0, .slice none 0 0, .slice none 0 0] i (List.getElem?_eq_some_iff.1 h).1 (by simp); rw [Nat.zero_add] at this; rw [this]; exact h)
    have hbF := puts_below (C := w.heap.size) (B := w.heap.size + 1) (by omega) [.int .i64 0, .bool c1, .slice a2 n2 p2, .slice a3 n3 p3, .slice a4 n4 p4, .slice a5 n5 p5, .int .i64 c6, .string ⟨#[]⟩, .slice a8 n8 p8, .slice a9 n9 p9, .slice a10 n10 p10, .slice none 0 0] 0 HB
    have f0 := hr 0 (.int .i64 0) rfl
    have f1 := hr 1 (.bool c1) rfl
    have f2 := hr 2 (.slice a2 n2 p2) rfl
    have f3 := hr 3 (.slice a3 n3 p3) rfl
    have f4 := hr 4 (.slice a4 n4 p4) rfl
    have f5 := hr 5 (.slice a5 n5 p5) rfl
    have f6 := hr 6 (.int .i64 c6) rfl
    have f7 := hr 7 (.string ⟨#[]⟩) rfl
    have f8 := hr 8 (.slice a8 n8 p8) rfl
    have f9 := hr 9 (.slice a9 n9 p9) rfl
    have f10 := hr 10 (.slice a10 n10 p10) rfl
    have f11 := hr 11 (.slice none 0 0) rfl
    clear hr hP
    generalize puts (w.heap.size + 1) 0 [.int .i64 0, .bool c1, .slice a2 n2 p2, .slice a3 n3 p3, .slice a4 n4 p4, .slice a5 n5 p5, .int .i64 c6, .string ⟨#[]⟩, .slice a8 n8 p8, .slice a9 n9 p9, .slice a10 n10 p10, .slice none 0 0] wz = wf at hbF f0 f1 f2 f3 f4 f5 f6 f7 f8 f9 f10 f11 ⊢
    refine bodyPost_ret (v := .agg #[.int .i64 0, .bool c1, .slice a2 n2 p2, .slice a3 n3 p3, .slice a4 n4 p4, .slice a5 n5 p5, .int .i64 c6, .string ⟨#[]⟩, .slice a8 n8 p8, .slice a9 n9 p9, .slice a10 n10 p10, .slice none 0 0]) (by simp [results, Tryz.results21, go_sem, f0, f1, f2, f3, f4, f5, f6, f7, f8, f9, f10, f11]) rfl ?_
    refine ⟨[.int .i64 0, .bool c1, .slice a2 n2 p2, .slice a3 n3 p3, .slice a4 n4 p4, .slice a5 n5 p5, .int .i64 c6, .string ⟨#[]⟩, .slice a8 n8 p8, .slice a9 n9 p9, .slice a10 n10 p10, .slice none 0 0], rfl, OutK.one rfl (fun m hm => match m, hm with
      | 0, _ => ⟨_, rfl, rfl, ⟨_, rfl, by decide, by decide⟩⟩
      | 1, _ => by rw [HU.out.2 1 (by decide)]; exact ⟨_, rfl, (by rw [e1]; rfl), (by rw [e1]; exact ⟨_, rfl⟩)⟩
      | 2, _ => by rw [HU.out.2 2 (by decide)]; exact ⟨_, rfl, r2, q2⟩
      | 3, _ => by rw [HU.out.2 3 (by decide)]; exact ⟨_, rfl, r3, q3⟩
      | 4, _ => by rw [HU.out.2 4 (by decide)]; exact ⟨_, rfl, r4, q4⟩
      | 5, _ => by rw [HU.out.2 5 (by decide)]; exact ⟨_, rfl, r5, q5⟩
      | 6, _ => by rw [HU.out.2 6 (by decide)]; exact ⟨_, rfl, (by rw [e6]; rfl), (by rw [e6]; exact ⟨_, rfl, b6⟩)⟩
      | 7, _ => by rw [HU.out.1 7 (by decide)]; exact ⟨_, rfl, rfl, ⟨_, rfl, by decide⟩⟩
      | 8, _ => by rw [HU.out.2 8 (by decide)]; exact ⟨_, rfl, r8, q8⟩
      | 9, _ => by rw [HU.out.2 9 (by decide)]; exact ⟨_, rfl, r9, q9⟩
      | 10, _ => by rw [HU.out.2 10 (by decide)]; exact ⟨_, rfl, r10, q10⟩
      | 11, _ => by rw [HU.out.1 11 (by decide)]; exact ⟨_, rfl, zd_rd _ _, zd_fits rfl⟩
      | m + 12, hm => absurd hm (by simp [stTy])), hbF⟩
  have q1 : (c0 == 1) = false := by simpa using k1
  have q2' : (c0 == 2) = false := by simpa using k2
  have q3' : (c0 == 3) = false := by simpa using k3
  have q4' : (c0 == 4) = false := by simpa using k4
  have u : ∀ i, usedN (c 0).num i = false := fun i => by unfold usedN; rw [if_neg (by rw [hk]; exact k1), if_neg (by rw [hk]; exact k2), if_neg (by rw [hk]; exact k3), if_neg (by rw [hk]; exact k4)]
  have hU : (∀ i, i ∈ ([] : List Nat) → unusedN c i = zeroSt i) ∧ (∀ i, i ∈ ([1, 2, 3, 4, 5, 6, 7, 8, 9, 10, 11] : List Nat) → unusedN c i = c i) := ⟨fun i hi => un_used (by rintro rfl; revert hi; decide) (by exact absurd hi (by simp)), fun i hi => un_not (by rintro rfl; revert hi; decide) (u i)⟩
  have HU := Lib.hid hU
  clear hU u hk
  have RA : RowAt ((w.alloc (.cells #[.int .i64 c0, .bool c1, .slice a2 n2 p2, .slice a3 n3 p3, .slice a4 n4 p4, .slice a5 n5 p5, .int .i64 c6, .string c7, .slice a8 n8 p8, .slice a9 n9 p9, .slice a10 n10 p10, .slice a11 n11 p11] 42)).alloc (.cells #[.int .i64 0, .bool false, .slice none 0 0, .slice none 0 0, .slice none 0 0, .slice none 0 0, .int .i64 0, .string ⟨#[]⟩, .slice none 0 0, .slice none 0 0, .slice none 0 0, .slice none 0 0] 42)) w.heap.size 42 #[.int .i64 c0, .bool c1, .slice a2 n2 p2, .slice a3 n3 p3, .slice a4 n4 p4, .slice a5 n5 p5, .int .i64 c6, .string c7, .slice a8 n8 p8, .slice a9 n9 p9, .slice a10 n10 p10, .slice a11 n11 p11] := (RowAt.new w 42 #[.int .i64 c0, .bool c1, .slice a2 n2 p2, .slice a3 n3 p3, .slice a4 n4 p4, .slice a5 n5 p5, .int .i64 c6, .string c7, .slice a8 n8 p8, .slice a9 n9 p9, .slice a10 n10 p10, .slice a11 n11 p11]).alloc _
  have RZ : RowAt ((w.alloc (.cells #[.int .i64 c0, .bool c1, .slice a2 n2 p2, .slice a3 n3 p3, .slice a4 n4 p4, .slice a5 n5 p5, .int .i64 c6, .string c7, .slice a8 n8 p8, .slice a9 n9 p9, .slice a10 n10 p10, .slice a11 n11 p11] 42)).alloc (.cells #[.int .i64 0, .bool false, .slice none 0 0, .slice none 0 0, .slice none 0 0, .slice none 0 0, .int .i64 0, .string ⟨#[]⟩, .slice none 0 0, .slice none 0 0, .slice none 0 0, .slice none 0 0] 42)) (w.heap.size + 1) 42 #[.int .i64 0, .bool false, .slice none 0 0, .slice none 0 0, .slice none 0 0, .slice none 0 0, .int .i64 0, .string ⟨#[]⟩, .slice none 0 0, .slice none 0 0, .slice none 0 0, .slice none 0 0] := RowAt.new1 w (.cells #[.int .i64 c0, .bool c1, .slice a2 n2 p2, .slice a3 n3 p3, .slice a4 n4 p4, .slice a5 n5 p5, .int .i64 c6, .string c7, .slice a8 n8 p8, .slice a9 n9 p9, .slice a10 n10 p10, .slice a11 n11 p11] 42) 42 #[.int .i64 0, .bool false, .slice none 0 0, .slice none 0 0, .slice none 0 0, .slice none 0 0, .int .i64 0, .string ⟨#[]⟩, .slice none 0 0, .slice none 0 0, .slice none 0 0, .slice none 0 0]
  have HB : Below w.heap.size w ((w.alloc (.cells #[.int .i64 c0, .bool c1, .slice a2 n2 p2, .slice a3 n3 p3, .slice a4 n4 p4, .slice a5 n5 p5, .int .i64 c6, .string c7, .slice a8 n8 p8, .slice a9 n9 p9, .slice a10 n10 p10, .slice a11 n11 p11] 42)).alloc (.cells #[.int .i64 0, .bool false, .slice none 0 0, .slice none 0 0, .slice none 0 0, .slice none 0 0, .int .i64 0, .string ⟨#[]⟩, .slice none 0 0, .slice none 0 0, .slice none 0 0, .slice none 0 0] 42)) := ((Below.refl w.heap.size w).alloc (Nat.le_refl _) _).alloc (by simp) _
  go_enter Tryz.func21, Tryz.ntmps21
  go_upto_region 1 with fail
  generalize ((w.alloc (.cells #[.int .i64 c0, .bool c1, .slice a2 n2 p2, .slice a3 n3 p3, .slice a4 n4 p4, .slice a5 n5 p5, .int .i64 c6, .string c7, .slice a8 n8 p8, .slice a9 n9 p9, .slice a10 n10 p10, .slice a11 n11 p11] 42)).alloc (.cells #[.int .i64 0, .bool false, .slice none 0 0, .slice none 0 0, .slice none 0 0, .slice none 0 0, .int .i64 0, .string ⟨#[]⟩, .slice none 0 0, .slice none 0 0, .slice none 0 0, .slice none 0 0] 42)) = w2 at RA RZ HB ⊢
  have hbz : w.heap.size + 1 ≠ w.heap.size := by omega
  have x0 := RA.cell (i := 0) (v := .int .i64 c0) rfl
  have s0 := RA.soft 0
  go_upto_region 11 with fail
  clear x0 s0
  replace RA : RowAt _ w.heap.size 42 #[.int .i64 0, .bool c1, .slice a2 n2 p2, .slice a3 n3 p3, .slice a4 n4 p4, .slice a5 n5 p5, .int .i64 c6, .string c7, .slice a8 n8 p8, .slice a9 n9 p9, .slice a10 n10 p10, .slice a11 n11 p11] := RA.set 0 (.int .i64 0)
  replace RZ := RZ.other (C := w.heap.size) (o := 0) (v := .int .i64 0) hbz
  replace HB := HB.setCell (p := ⟨w.heap.size, 0, none⟩) (Nat.le_refl _) (.int .i64 0)
  generalize (w2.setCell ⟨w.heap.size, 0, none⟩ (.int .i64 0)) = wz at RA RZ HB ⊢
  have g0 := RZ.cell (i := 0) (v := .int .i64 0) rfl
  have k0 := RZ.soft 0
  have o0 := RA.cell (i := 0) (v := .int .i64 0) rfl
  have g1 := RZ.cell (i := 1) (v := .bool false) rfl
  have k1 := RZ.soft 1
  have o1 := RA.cell (i := 1) (v := .bool c1) rfl
  have g2 := RZ.cell (i := 2) (v := .slice none 0 0) rfl
  have k2 := RZ.soft 2
  have o2 := RA.cell (i := 2) (v := .slice a2 n2 p2) rfl
  have g3 := RZ.cell (i := 3) (v := .slice none 0 0) rfl
  have k3 := RZ.soft 3
  have o3 := RA.cell (i := 3) (v := .slice a3 n3 p3) rfl
  have g4 := RZ.cell (i := 4) (v := .slice none 0 0) rfl
  have k4 := RZ.soft 4
  have o4 := RA.cell (i := 4) (v := .slice a4 n4 p4) rfl
  have g5 := RZ.cell (i := 5) (v := .slice none 0 0) rfl
  have k5 := RZ.soft 5
  have o5 := RA.cell (i := 5) (v := .slice a5 n5 p5) rfl
  have g6 := RZ.cell (i := 6) (v := .int .i64 0) rfl
  have k6 := RZ.soft 6
  have o6 := RA.cell (i := 6) (v := .int .i64 c6) rfl
  have g7 := RZ.cell (i := 7) (v := .string ⟨#[]⟩) rfl
  have k7 := RZ.soft 7
  have o7 := RA.cell (i := 7) (v := .string c7) rfl
  have g8 := RZ.cell (i := 8) (v := .slice none 0 0) rfl
  have k8 := RZ.soft 8
  have o8 := RA.cell (i := 8) (v := .slice a8 n8 p8) rfl
  have g9 := RZ.cell (i := 9) (v := .slice none 0 0) rfl
  have k9 := RZ.soft 9
  have o9 := RA.cell (i := 9) (v := .slice a9 n9 p9) rfl
  have g10 := RZ.cell (i := 10) (v := .slice none 0 0) rfl
  have k10 := RZ.soft 10
  have o10 := RA.cell (i := 10) (v := .slice a10 n10 p10) rfl
  have g11 := RZ.cell (i := 11) (v := .slice none 0 0) rfl
  have k11 := RZ.soft 11
  have o11 := RA.cell (i := 11) (v := .slice a11 n11 p11) rfl
  go_wp2_with fail
  rw [show ((((((((((((wz.setCell ⟨w.heap.size + 1, 0, none⟩ (.int .i64 0)).setCell ⟨w.heap.size + 1, 1, none⟩ (.bool c1)).setCell ⟨w.heap.size + 1, 2, none⟩ (.slice a2 n2 p2)).setCell ⟨w.heap.size + 1, 3, none⟩ (.slice a3 n3 p3)).setCell ⟨w.heap.size + 1, 4, none⟩ (.slice a4 n4 p4)).setCell ⟨w.heap.size + 1, 5, none⟩ (.slice a5 n5 p5)).setCell ⟨w.heap.size + 1, 6, none⟩ (.int .i64 c6)).setCell ⟨w.heap.size + 1, 7, none⟩ (.string c7)).setCell ⟨w.heap.size + 1, 8, none⟩ (.slice a8 n8 p8)).setCell ⟨w.heap.size + 1, 9, none⟩ (.slice a9 n9 p9)).setCell ⟨w.heap.size + 1, 10, none⟩ (.slice a10 n10 p10)).setCell ⟨w.heap.size + 1, 11, none⟩ (.slice a11 n11 p11)) = puts (w.heap.size + 1) 0 [.int .i64 0, .bool c1, .slice a2 n2 p2, .slice a3 n3 p3, .slice a4 n4 p4, .slice a5 n5 p5, .int .i64 c6, .string c7, .slice a8 n8 p8, .slice a9 n9 p9, .slice a10 n10 p10, .slice a11 n11 p11] wz from rfl]
  have hP := puts_row [.int .i64 0, .bool c1, .slice a2 n2 p2, .slice a3 n3 p3, .slice a4 n4 p4, .slice a5 n5 p5, .int .i64 c6, .string c7, .slice a8 n8 p8, .slice a9 n9 p9, .slice a10 n10 p10, .slice a11 n11 p11] 0 RZ
  have hr := fun (i : Nat) (v : Value) (h : [.int .i64 0, .bool c1, .slice a2 n2 p2, .slice a3 n3 p3, .slice a4 n4 p4, .slice a5 n5 p5, .int .i64 c6, .string c7, .slice a8 n8 p8, .slice a9 n9 p9, .slice a10 n10 p10, .slice a11 n11 p11][i]? = some v) => hP.cell (i := i) (v := v) (by have := putsA_in [.int .i64 0, .bool c1, .slice a2 n2 p2, .slice a3 n3 p3, .slice a4 n4 p4, .slice a5 n5 p5, .int .i64 c6, .string c7, .slice a8 n8 p8, .slice a9 n9 p9, .slice a10 n10 p10, .slice a11 n11 p11] 0 #[.int .i64 0, .bool false, .slice none 0 0, .slice none 0 0, .slice none 0 0, .slice none 0 0, .int .i64 0, .string ⟨#[]⟩, .slice none 0 0, .slice none 0 0, .slice none 0 0, .slice none 0 0] i (List.getElem?_eq_some_iff.1 h).1 (by simp); rw [Nat.zero_add] at this; rw [this]; exact h)
  have hbF := puts_below (C := w.heap.size) (B := w.heap.size + 1) (by omega) [.int .i64 0, .bool c1, .slice a2 n2 p2, .slice a3 n3 p3, .slice a4 n4 p4, .slice a5 n5 p5, .int .i64 c6, .string c7, .slice a8 n8 p8, .slice a9 n9 p9, .slice a10 n10 p10, .slice a11 n11 p11] 0 HB
  have f0 := hr 0 (.int .i64 0) rfl
  have f1 := hr 1 (.bool c1) rfl
  have f2 := hr 2 (.slice a2 n2 p2) rfl
  have f3 := hr 3 (.slice a3 n3 p3) rfl
  have f4 := hr 4 (.slice a4 n4 p4) rfl
  have f5 := hr 5 (.slice a5 n5 p5) rfl
  have f6 := hr 6 (.int .i64 c6) rfl
  have f7 := hr 7 (.string c7) rfl
  have f8 := hr 8 (.slice a8 n8 p8) rfl
  have f9 := hr 9 (.slice a9 n9 p9) rfl
  have f10 := hr 10 (.slice a10 n10 p10) rfl
  have f11 := hr 11 (.slice a11 n11 p11) rfl
  clear hr hP
  generalize puts (w.heap.size + 1) 0 [.int .i64 0, .bool c1, .slice a2 n2 p2, .slice a3 n3 p3, .slice a4 n4 p4, .slice a5 n5 p5, .int .i64 c6, .string c7, .slice a8 n8 p8, .slice a9 n9 p9, .slice a10 n10 p10, .slice a11 n11 p11] wz = wf at hbF f0 f1 f2 f3 f4 f5 f6 f7 f8 f9 f10 f11 ⊢
  refine bodyPost_ret (v := .agg #[.int .i64 0, .bool c1, .slice a2 n2 p2, .slice a3 n3 p3, .slice a4 n4 p4, .slice a5 n5 p5, .int .i64 c6, .string c7, .slice a8 n8 p8, .slice a9 n9 p9, .slice a10 n10 p10, .slice a11 n11 p11]) (by simp [results, Tryz.results21, go_sem, f0, f1, f2, f3, f4, f5, f6, f7, f8, f9, f10, f11]) rfl ?_
  refine ⟨[.int .i64 0, .bool c1, .slice a2 n2 p2, .slice a3 n3 p3, .slice a4 n4 p4, .slice a5 n5 p5, .int .i64 c6, .string c7, .slice a8 n8 p8, .slice a9 n9 p9, .slice a10 n10 p10, .slice a11 n11 p11], rfl, OutK.one rfl (fun m hm => match m, hm with
    | 0, _ => ⟨_, rfl, rfl, ⟨_, rfl, by decide, by decide⟩⟩
    | 1, _ => by rw [HU.out.2 1 (by decide)]; exact ⟨_, rfl, (by rw [e1]; rfl), (by rw [e1]; exact ⟨_, rfl⟩)⟩
    | 2, _ => by rw [HU.out.2 2 (by decide)]; exact ⟨_, rfl, r2, q2⟩
    | 3, _ => by rw [HU.out.2 3 (by decide)]; exact ⟨_, rfl, r3, q3⟩
    | 4, _ => by rw [HU.out.2 4 (by decide)]; exact ⟨_, rfl, r4, q4⟩
    | 5, _ => by rw [HU.out.2 5 (by decide)]; exact ⟨_, rfl, r5, q5⟩
    | 6, _ => by rw [HU.out.2 6 (by decide)]; exact ⟨_, rfl, (by rw [e6]; rfl), (by rw [e6]; exact ⟨_, rfl, b6⟩)⟩
    | 7, _ => by rw [HU.out.2 7 (by decide)]; exact ⟨_, rfl, (by rw [e7]; rfl), (by rw [e7]; exact ⟨_, rfl, b7⟩)⟩
    | 8, _ => by rw [HU.out.2 8 (by decide)]; exact ⟨_, rfl, r8, q8⟩
    | 9, _ => by rw [HU.out.2 9 (by decide)]; exact ⟨_, rfl, r9, q9⟩
    | 10, _ => by rw [HU.out.2 10 (by decide)]; exact ⟨_, rfl, r10, q10⟩
    | 11, _ => by rw [HU.out.2 11 (by decide)]; exact ⟨_, rfl, r11, q11⟩
    | m + 12, hm => absurd hm (by simp [stTy])), hbF⟩
def lenRows (d d' : Dat) : Bool := allZ (fun a b => (a 0).len == (b 0).len) d.els d'.els
def outSame (c d : Nd) : Bool :=
  same (c 0) (d 0) .int && (same (c 7) (d 7) .str && (same (c 9) (d 9) .names && (lenRows (c 8) (d 8) && (((c 10).len == (d 10).len) && ((c 11).len == (d 11).len)))))
theorem lenRows_sl (n n' : Nat) (f f' : Nat → Nat → Dat) : lenRows (.sl n 1 f) (.sl n' 1 f') = ((n == n') && (List.range n).all fun i => (f i 0).len == (f' i 0).len) := by
  unfold lenRows
  by_cases e : n = n'
  · subst e
    rw [show (n == n) = true by simp, Bool.true_and]
    exact allZ_range (fun a b => (a 0).len == (b 0).len) f f' n
  · rw [allZ_len (by rw [els_len, els_len]; exact e), show (n == n') = false by simpa using e]; rfl
theorem sum_lens {g g' : Nd → List Nd} : ∀ {l r : List Nd}, allZ (fun a b => (g a).length == (g' b).length) l r = true → (l.flatMap g).length = (r.flatMap g').length
  | [], [], _ => rfl
  | [], b :: r, h => by rw [allZ_len (by simp)] at h; cases h
  | a :: l, [], h => by rw [allZ_len (by simp)] at h; cases h
  | a :: l, b :: r, h => by
    rw [allZ_cons, Bool.and_eq_true] at h
    have h1 : (g a).length = (g' b).length := by simpa using h.1
    rw [List.flatMap_cons, List.flatMap_cons, List.length_append, List.length_append, h1, sum_lens h.2]
theorem rows_same {d d' : Dat} (h : Fits d .rows) (h' : Fits d' .rows) : same d d' .rows = (lenRows d d' && allZ (sameC exprTy) (rowsOf d) (rowsOf d')) := by
  rw [same_els h h' rfl]
  have e : allZ (sameC (rowTy .rows)) d.els d'.els = allZ (fun a b => allZ (sameC exprTy) (a 0).els (b 0).els) d.els d'.els := allZ_congr fun a ha b hb => by
    show sameC [.exprs] a b = _
    rw [sameC_one]
    exact same_els (ty := .exprs) (els_fits h ha 0 (by decide)) (els_fits h' hb 0 (by decide)) rfl
  rw [e]
  cases hl : lenRows d d'
  · rw [Bool.false_and]
    have : allZ (fun a b => ((a 0).len == (b 0).len) && allZ (sameC exprTy) (a 0).els (b 0).els) d.els d'.els = false := by
      rw [allZ_and]
      show (lenRows d d' && _) = false
      rw [hl]; rfl
    rw [← this]
    refine allZ_congr fun a _ b _ => ?_
    by_cases he : (a 0).len = (b 0).len
    · rw [show ((a 0).len == (b 0).len) = true by simpa using he, Bool.true_and]
    · rw [show ((a 0).len == (b 0).len) = false by simpa using he, Bool.false_and]
      exact allZ_len (by rw [len_els, len_els]; exact he)
  · rw [Bool.true_and]
    unfold rowsOf
    refine (allZ_flat (sameC exprTy) _ _ ?_).symm
    unfold lenRows at hl
    rw [← hl]
    exact allZ_congr fun a _ b _ => by rw [len_els, len_els]
theorem out_len {c d : Nd} (h : outSame c d = true) : (outsideOf c).length = (outsideOf d).length := by
  unfold outSame at h
  simp only [Bool.and_eq_true] at h
  obtain ⟨_, _, _, hl, h10, h11⟩ := h
  have e10 : (c 10).len = (d 10).len := by simpa using h10
  have e11 : (c 11).len = (d 11).len := by simpa using h11
  have hr : (rowsOf (c 8)).length = (rowsOf (d 8)).length := by
    unfold rowsOf
    refine sum_lens ?_
    unfold lenRows at hl
    rw [← hl]
    exact allZ_congr fun a _ b _ => by rw [len_els, len_els]
  unfold outsideOf
  rw [List.length_append, List.length_append, List.length_append, List.length_append, hr, len_els, len_els, len_els, len_els, e10, e11]
theorem stmt_same {c d : Nd} (hc : BdS c) (hd : BdS d) : stmtSame c d = (outSame c d && (sameC (rowTy .queries) (cut 1 c) (cut 1 d) && allZ (sameC exprTy) (outsideOf c) (outsideOf d))) := by
  unfold stmtSame
  rw [rows_same hc.f8 hd.f8]
  cases h : outSame c d
  · rw [Bool.false_and]
    unfold outSame at h
    generalize same (c 0) (d 0) .int = u0 at h ⊢
    generalize same (c 7) (d 7) .str = u7 at h ⊢
    generalize same (c 9) (d 9) .names = u9 at h ⊢
    generalize lenRows (c 8) (d 8) = u8 at h ⊢
    have h10 : same (c 10) (d 10) .exprs = (((c 10).len == (d 10).len) && same (c 10) (d 10) .exprs) := by
      rw [same_els hc.f10 hd.f10 rfl]
      by_cases e : (c 10).len = (d 10).len
      · rw [show ((c 10).len == (d 10).len) = true by simpa using e, Bool.true_and]
      · rw [show ((c 10).len == (d 10).len) = false by simpa using e, Bool.false_and]; exact allZ_len (by rw [len_els, len_els]; exact e)
    have h11 : same (c 11) (d 11) .exprs = (((c 11).len == (d 11).len) && same (c 11) (d 11) .exprs) := by
      rw [same_els hc.f11 hd.f11 rfl]
      by_cases e : (c 11).len = (d 11).len
      · rw [show ((c 11).len == (d 11).len) = true by simpa using e, Bool.true_and]
      · rw [show ((c 11).len == (d 11).len) = false by simpa using e, Bool.false_and]; exact allZ_len (by rw [len_els, len_els]; exact e)
    rw [h10, h11]
    generalize ((c 10).len == (d 10).len) = v10 at h ⊢
    generalize ((c 11).len == (d 11).len) = v11 at h ⊢
    generalize sameC (rowTy .queries) (cut 1 c) (cut 1 d) = q
    generalize allZ (sameC exprTy) (rowsOf (c 8)) (rowsOf (d 8)) = r
    generalize same (c 10) (d 10) .exprs = w10
    generalize same (c 11) (d 11) .exprs = w11
    revert h
    cases u0 <;> cases u7 <;> cases u9 <;> cases u8 <;> cases v10 <;> cases v11 <;> cases q <;> cases r <;> cases w10 <;> cases w11 <;> simp
  · rw [Bool.true_and]
    have hl := out_len h
    unfold outSame at h
    simp only [Bool.and_eq_true] at h
    obtain ⟨h0, h7, h9, hr, h10, h11⟩ := h
    have e10 : (c 10).len = (d 10).len := by simpa using h10
    have e11 : (c 11).len = (d 11).len := by simpa using h11
    have hrl : (rowsOf (c 8)).length = (rowsOf (d 8)).length := by
      unfold outsideOf at hl
      rw [List.length_append, List.length_append, List.length_append, List.length_append, len_els, len_els, len_els, len_els] at hl
      omega
    have e : allZ (sameC exprTy) (outsideOf c) (outsideOf d) = ((allZ (sameC exprTy) (rowsOf (c 8)) (rowsOf (d 8)) && allZ (sameC exprTy) (c 10).els (d 10).els) && allZ (sameC exprTy) (c 11).els (d 11).els) := by
      unfold outsideOf
      rw [allZ_append _ (by rw [List.length_append, List.length_append, hrl, len_els, len_els, e10]), allZ_append _ hrl]
    rw [e, h0, h7, h9, hr, same_els hc.f10 hd.f10 rfl, same_els hc.f11 hd.f11 rfl]
    show (true && (true && (_ && ((true && _) && (true && (allZ (sameC exprTy) _ _ && allZ (sameC exprTy) _ _)))))) = _
    generalize sameC (rowTy .queries) (cut 1 c) (cut 1 d) = q
    generalize allZ (sameC exprTy) (rowsOf (c 8)) (rowsOf (d 8)) = r
    generalize allZ (sameC exprTy) (c 10).els (d 10).els = w10
    generalize allZ (sameC exprTy) (c 11).els (d 11).els = w11
    cases q <;> cases r <;> cases w10 <;> cases w11 <;> rfl
theorem toList_ne {a b : ByteArray} (h : ¬ a = b) : (a.toList != b.toList) = true ∧ (a.toList == b.toList) = false := by
  have e1 : a.toList = a.data.toList := ByteArray.toList_eq ..
  have e2 : b.toList = b.data.toList := ByteArray.toList_eq ..
  have hl : ¬ a.toList = b.toList := fun e => by
    rw [e1, e2] at e
    exact h (by cases a; cases b; simpa using e)
  exact ⟨by simpa using hl, by simpa using hl⟩
set_option maxRecDepth 100000 in
set_option maxHeartbeats 4000000 in
theorem equal_names (n n' : Nat) (f f' : Nat → Nat → Dat) (x y : Value) (w : World) (hr : Rd w 0 x (.sl n 1 f)) (hf : Fits (.sl n 1 f) .names) (hs : Rd w 0 y (.sl n' 1 f')) (hf' : Fits (.sl n' 1 f') .names) :
    Calls Tryz.prog 81 #[x, y] w (BoolE (same (.sl n 1 f) (.sl n' 1 f') .names) w) := by
  obtain ⟨a, cap, rfl⟩ := hr.slice
  obtain ⟨a2, cap2, rfl⟩ := hs.slice
  have hn := hf.2.1
  have hn' := hf'.2.1
  rw [same_sl]
  by_cases hnn : n = n'
  case neg =>
    have d : ((n : Int) != (n' : Int)) = true := by simp; omega
    have d2 : (n == n') = false := by simpa using hnn
    rw [d2, Bool.false_and]
    clear hnn d2
    go_enter Tryz.func81, Tryz.ntmps81
    go_wp2_with fail
    go_ret
    exact ⟨rfl, Below.refl _ _⟩
  subst hnn
  have HV : Hid (((n == n) && (List.range n).all fun i => sameC (rowTy .names) (f i) (f' i)) = (List.range n).all fun i => sameC [.str] (f i) (f' i)) := by show _ = _; simp [rowTy]
  rw [HV.out]
  clear HV
  go_enter Tryz.func81, Tryz.ntmps81
  go_wp2_with fail
  go_loopw [13] (fun i wr => ∃ j : Nat, j ≤ n ∧ i = .int .i64 (j : Int) ∧ Hid (((List.range j).all fun i => sameC [.str] (f i) (f' i)) = true) ∧ Below w.heap.size w wr) (fun i _ => n - (intOf i).toNat)
  case atStart => exact ⟨0, by omega, rfl, rfl, Below.refl _ _⟩
  case round =>
    obtain ⟨j, hj, rfl, HA, hB⟩ := hrel
    by_cases hlt : j < n
    · have hlt2 : (j : Int) < (n : Int) := by omega
      obtain ⟨g, o, rfl, -, hg, s, z0, e0, -⟩ := row_names (hr.later hB) hf hlt
      obtain ⟨g2, o2, rfl, -, hg2, t, k0, l0, -⟩ := row_names (hs.later hB) hf' hlt
      have hV : sameC [.str] (f j) (f' j) = decide (s = t) := by
        unfold sameC
        simp [e0, l0, same_str]
      replace z0 := lat_cell z0
      replace k0 := lat_cell k0
      clear e0 l0
      by_cases hst : s = t
      · have HV2 : Hid (sameC [.str] (f j) (f' j) = true) := by show _ = true; rw [hV]; simpa using hst
        have HA2 : Hid (((List.range (j + 1)).all fun i => sameC [.str] (f i) (f' i)) = true) := by show _ = true; rw [all_succ, HA.out, HV2.out]; rfl
        subst hst
        clear hV HV2
        have hss : (s.toList != s.toList) = false := by simp
        go_wp2_with fail
        refine region_lat (by kernel_rfl) (by kernel_rfl) ?_
        iterate 9 go_big_quiet_step (fail)
        refine wpQuiet_nil ?_
        rintro _ ⟨nq, rfl⟩
        have hbq := hB.trans ((lat_below wr nq).mono hB.size)
        clear z0 k0
        generalize lat wr nq = wq at hbq ⊢
        go_wp2_with fail
        go_roundw
        case rel => exact ⟨j + 1, by omega, by go_num, HA2, hbq⟩
        case measure => simp [intOf]; omega
      · have h : Hid (((List.range n).all fun i => sameC [.str] (f i) (f' i)) = false) := by
          show _ = false
          rw [List.all_eq_false]
          exact ⟨j, List.mem_range.2 hlt, by rw [hV]; simpa using hst⟩
        have hss := (toList_ne hst).1
        have hse := (toList_ne hst).2
        clear hV hst
        go_wp2_with fail
        refine region_lat (by kernel_rfl) (by kernel_rfl) ?_
        iterate 9 go_big_quiet_step (fail)
        refine wpQuiet_nil ?_
        rintro _ ⟨nq, rfl⟩
        have hbq := hB.trans ((lat_below wr nq).mono hB.size)
        clear z0 k0
        generalize lat wr nq = wq at hbq ⊢
        go_wp2_with fail
        go_ret
        exact ⟨by rw [h.out]; rfl, hbq⟩
    · obtain rfl : n = j := by omega
      go_wp2_with fail
      go_ret
      exact ⟨by rw [HA.out]; rfl, hB⟩
end Go.Proofs.YtcliijfdlcagoaaGreat
