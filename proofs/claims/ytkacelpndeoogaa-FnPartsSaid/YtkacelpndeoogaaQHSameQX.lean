/- Joined texts: SameQX. -/
import Derived.Test.YtkacelpndeoogaaQPT
import Derived.Deep.RegionWith
/- The program's SameQuery. -/
namespace Go.Proofs.Ytkacelpndeoogaa
open Go.RowKit

/-- bounds of a query -/
structure BdQ (q : Nd) : Prop where
  f : FitsQ q
  m : msr (q 1) + msr (q 2) + msr (q 3) + msr (q 4) ≤ 1048576
theorem BdQ.slots {q : Nd} (h : BdQ q) : ∀ x ∈ slotsOf q, Bd x := by
  intro x hx
  have hm := h.m
  have el : ∀ {d : Dat} {ty : Ty} {M : Nat}, Fits d ty → deep ty = true → msr d ≤ M → M ≤ 1048576 → ∀ a b, a < (rowTy ty).length → b < (rowTy ty).length → (∀ e ∈ d.els, msr (e a) ≤ M ∧ msr (e b) ≤ M) := by
    intro d ty M hf hd hm hM a b ha hb e he
    obtain ⟨n, k, f, rfl⟩ := hf.deep hd
    have hk : k = (rowTy ty).length := hf.2.2.1
    subst hk
    obtain ⟨i, hi, rfl⟩ := List.mem_map.1 he
    rw [List.mem_range] at hi
    exact ⟨Nat.le_trans (msr_el hi ha) hm, Nat.le_trans (msr_el hi hb) hm⟩
  have ofE : ∀ {d : Dat} {M : Nat}, Fits d .exprs → msr d ≤ M → M ≤ 1048576 → ∀ e ∈ d.els, Bd e := fun hf hm hM e he => by
    obtain ⟨h1, h2⟩ := el hf rfl hm hM 8 9 (by decide) (by decide) e he
    exact ⟨by omega, by omega, els_fits hf he 8 (by decide), els_fits hf he 9 (by decide)⟩
  unfold slotsOf at hx
  rw [List.mem_append, List.mem_append, List.mem_append] at hx
  rcases hx with ((hx | hx) | hx) | hx
  · obtain ⟨it, hit, rfl⟩ := List.mem_map.1 hx
    obtain ⟨h1, h2⟩ := el h.f.1 rfl (show msr (q 1) ≤ 1048576 by omega) (Nat.le_refl _) 10 11 (by decide) (by decide) it hit
    exact ⟨h1, h2, els_fits h.f.1 hit 10 (by decide), els_fits h.f.1 hit 11 (by decide)⟩
  · unfold exFrom at hx
    rw [List.mem_flatMap] at hx
    obtain ⟨s, hs, hx⟩ := hx
    obtain ⟨h1, _⟩ := el h.f.2.1 rfl (show msr (q 2) ≤ 1048576 by omega) (Nat.le_refl _) 2 2 (by decide) (by decide) s hs
    exact ofE (els_fits h.f.2.1 hs 2 (by decide)) h1 (Nat.le_refl _) x hx
  · exact ofE h.f.2.2.1 (show msr (q 3) ≤ 1048576 by omega) (Nat.le_refl _) x hx
  · obtain ⟨h1, h2⟩ := el h.f.2.2.2 rfl (show msr (q 4) ≤ 1048576 by omega) (Nat.le_refl _) 8 9 (by decide) (by decide) x hx
    exact ⟨h1, h2, els_fits h.f.2.2.2 hx 8 (by decide), els_fits h.f.2.2.2 hx 9 (by decide)⟩
theorem BdQ.lens {q : Nd} (h : BdQ q) : (q 1).els.length ≤ 1048576 ∧ (q 2).els.length ≤ 1048576 ∧ (q 4).els.length ≤ 1048576 := by
  have := h.m
  exact ⟨Nat.le_trans els_msr (by omega), Nat.le_trans els_msr (by omega), Nat.le_trans els_msr (by omega)⟩
/-- all expressions of a query, the stars' too -/
theorem slotsIn_any (w0 W : World) (q : Nd) (ys : List Value) (hys : OutK (rowTy .queries) w0 ys [q]) (hb0 : Below w0.heap.size w0 W) (hq : BdQ q) :
    Calls Try.prog 94 #[.agg ys.toArray] W fun e w' => ∃ v, e = .returned v ∧ OutE w0 w' (W.heap.size + 1) v (slotsOf q) ∧ Below W.heap.size W w' := by
  obtain ⟨c0, a1, n1, p1, a2, n2, p2, a3, n3, p3, a4, n4, p4, c5, rfl, -, ⟨r1, q1⟩, ⟨r2, q2⟩, ⟨r3, q3⟩, ⟨r4, q4⟩, -⟩ := hys.queryRow
  obtain ⟨hl1, h1⟩ := r1.lkE q1 rfl hb0
  have hm := hq.m
  obtain ⟨f2, e2, r2, q2⟩ := r2.openS q2 rfl
  obtain ⟨f3, e3, r3, q3⟩ := r3.openS q3 rfl
  obtain ⟨f4, e4, r4, q4⟩ := r4.openS q4 rfl
  have hs : slotsOf q = (((q 1).els.map (cut 2) ++ exFrom (.sl n2 3 f2)) ++ (Dat.sl n3 10 f3).els) ++ (Dat.sl n4 11 f4).els := by
    unfold slotsOf; rw [e2, e3, e4]; rfl
  have hN : (q 1).els.length + (exFrom (.sl n2 3 f2)).length + n3 + n4 ≤ 1048576 := by
    rw [e2, e3, e4] at hm
    replace hm : msr (q 1) + msr (.sl n2 3 f2) + msr (.sl n3 10 f3) + msr (.sl n4 11 f4) ≤ 1048576 := hm
    have k1 := els_msr (d := q 1)
    have k2 := exFrom_msr q2
    have k3 := msr_n n3 10 f3
    have k4 := msr_n n4 11 f4
    omega
  have h := slots_any w0 W c0 a1 p1 (q 1).els a2 n2 p2 a3 n3 p3 a4 n4 p4 c5 f2 f3 f4 hb0 h1 r2 q2 r3 q3 r4 q4 hN
  rw [← hs, hl1] at h
  exact h
end Go.Proofs.Ytkacelpndeoogaa
