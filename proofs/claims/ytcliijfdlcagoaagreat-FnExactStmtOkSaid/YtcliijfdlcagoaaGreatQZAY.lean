/- Joined texts: SameAll. -/
import Derived.Test.YtcliijfdlcagoaaGreatQHSameQ
namespace Go.Proofs.YtcliijfdlcagoaaGreat
set_option linter.unusedVariables false
set_option linter.unusedSimpArgs false
open Go.RowKit
theorem sameS_of (d d' : Dat) (IH : ∀ e, e ∈ d.els → ∀ e', SameExprP e e') : SameSP d d' := by
  intro x y w hr hf hs hf'
  obtain ⟨n, k, f, rfl⟩ := hf.deep rfl
  obtain ⟨n', k', f', rfl⟩ := hf'.deep rfl
  obtain rfl : k = 10 := hf.2.2.1
  obtain rfl : k' = 10 := hf'.2.2.1
  exact l7Same_step n n' f f' (fun i hi => IH _ (List.mem_map.2 ⟨i, List.mem_range.2 hi, rfl⟩) _) x y w hr hf hs hf'
theorem sameE_of (c c' : Nat → Dat) (IHk : ∀ e, e ∈ (c 8).els → ∀ e', SameExprP e e') (IHs : ∀ q, q ∈ (c 9).els → ∀ q', SameQueryP q q') : SameExprP c c' := by
  intro x0 x1 x2 x3 x4 x5 x6 x7 x8 x9 y0 y1 y2 y3 y4 y5 y6 y7 y8 y9 w r8 q8 r9 q9 s8 t8 s9 t9
  obtain ⟨n, k, f, h9⟩ := q9.deep rfl
  obtain ⟨n', k', f', h9'⟩ := t9.deep rfl
  have hk := h9 ▸ q9
  have hk' := h9' ▸ t9
  obtain rfl : k = 6 := hk.2.2.1
  obtain rfl : k' = 6 := hk'.2.2.1
  rw [h9] at IHs
  exact sameExpr_step c c' (sameS_of _ _ IHk) n n' f f' h9 h9' (fun i hi _ => IHs _ (List.mem_map.2 ⟨i, List.mem_range.2 hi, rfl⟩) _) x0 x1 x2 x3 x4 x5 x6 x7 x8 x9 y0 y1 y2 y3 y4 y5 y6 y7 y8 y9 w r8 q8 r9 q9 s8 t8 s9 t9
theorem sameQ_of (q q' : Nat → Dat) (IH1 : ∀ c, c ∈ (q 1).els → ∀ e', SameExprP (cut 2 c) e') (IH2 : ∀ c, c ∈ (q 2).els → ∀ d', SameSP (c 2) d') (IH3 : ∀ d', SameSP (q 3) d') (IH4 : ∀ e, e ∈ (q 4).els → ∀ e', SameExprP e e') : SameQueryP q q' := by
  intro x0 x1 x2 x3 x4 x5 y0 y1 y2 y3 y4 y5 w e0 l0 e5 l5 r1 q1 r2 q2 r3 q3 r4 q4 s1 t1 s2 t2 s3 t3 s4 t4
  obtain ⟨n1, k1, f1, h1⟩ := q1.deep rfl
  obtain ⟨n2, k2, f2, h2⟩ := q2.deep rfl
  obtain ⟨n4, k4, f4, h4⟩ := q4.deep rfl
  obtain ⟨n1', k1', f1', h1'⟩ := t1.deep rfl
  obtain ⟨n2', k2', f2', h2'⟩ := t2.deep rfl
  obtain ⟨n4', k4', f4', h4'⟩ := t4.deep rfl
  have a1 := h1 ▸ q1
  have a2 := h2 ▸ q2
  have a4 := h4 ▸ q4
  have b1 := h1' ▸ t1
  have b2 := h2' ▸ t2
  have b4 := h4' ▸ t4
  obtain rfl : k1 = 13 := a1.2.2.1
  obtain rfl : k2 = 3 := a2.2.2.1
  obtain rfl : k4 = 11 := a4.2.2.1
  obtain rfl : k1' = 13 := b1.2.2.1
  obtain rfl : k2' = 3 := b2.2.2.1
  obtain rfl : k4' = 11 := b4.2.2.1
  rw [h1] at IH1
  rw [h2] at IH2
  rw [h4] at IH4
  exact sameQuery_step q q' n1 n2 n4 n1' n2' n4' f1 f2 f4 f1' f2' f4' h1 h2 h4 h1' h2' h4' (IH3 _) (fun i hi => IH1 _ (List.mem_map.2 ⟨i, List.mem_range.2 hi, rfl⟩) _) (fun i hi => IH2 _ (List.mem_map.2 ⟨i, List.mem_range.2 hi, rfl⟩) _)
    (fun i hi => IH4 _ (List.mem_map.2 ⟨i, List.mem_range.2 hi, rfl⟩) _) x0 x1 x2 x3 x4 x5 y0 y1 y2 y3 y4 y5 w e0 l0 e5 l5 r1 q1 r2 q2 r3 q3 r4 q4 s1 t1 s2 t2 s3 t3 s4 t4
structure SA (d : Dat) : Prop where
  s : ∀ d', SameSP d d'
  e : ∀ e, e ∈ d.els → ∀ e', SameExprP e e'
  i : ∀ c, c ∈ d.els → ∀ e', SameExprP (cut 2 c) e'
  f : ∀ c, c ∈ d.els → ∀ d', SameSP (c 2) d'
  q : ∀ q, q ∈ d.els → ∀ q', SameQueryP q q'
theorem sameAll : ∀ d : Dat, SA d
  | .v x => ⟨fun d' => sameS_of _ _ fun e he => absurd he (by simp [Dat.els, Dat.len]), fun e he => absurd he (by simp [Dat.els, Dat.len]), fun e he => absurd he (by simp [Dat.els, Dat.len]), fun e he => absurd he (by simp [Dat.els, Dat.len]), fun e he => absurd he (by simp [Dat.els, Dat.len])⟩
  | .sl n k f => by
    have IH : ∀ i j, SA (f i j) := fun i j => sameAll (f i j)
    have hE : ∀ e, e ∈ (Dat.sl n k f).els → ∀ e', SameExprP e e' := fun e he e' => by
      obtain ⟨i, -, rfl⟩ := List.mem_map.1 he
      exact sameE_of _ _ (IH i 8).e (IH i 9).q
    refine ⟨fun d' => sameS_of _ _ hE, hE, fun c he e' => ?_, fun c he d' => ?_, fun q he q' => ?_⟩
    · obtain ⟨i, -, rfl⟩ := List.mem_map.1 he
      exact sameE_of _ _ (IH i 10).e (IH i 11).q
    · obtain ⟨i, -, rfl⟩ := List.mem_map.1 he
      exact (IH i 2).s d'
    · obtain ⟨i, -, rfl⟩ := List.mem_map.1 he
      exact sameQ_of _ _ (IH i 1).i (IH i 2).f (IH i 3).s (IH i 4).e
end Go.Proofs.YtcliijfdlcagoaaGreat
