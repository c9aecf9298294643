
/- Tokens that came in, read out of the rows. -/
import Derived.Test.YtelbcfipkanfkaaRows
import Derived.Test.YtelbcfipkanfkaaArgVal
import Derived.WalkKit
import Derived.ProofKit
import Derived.OpenShut
import Derived.ShutString
import Derived.Deep.Slices
import Derived.Deep.Strs
namespace Go.Proofs.Ytelbcfipkanfkaa
open Go.ChangeShapes Go.WideShapes Go.ChangeAt Go.RowKit Go.Deep

set_option maxRecDepth 100000 in
theorem val_cells {H : Type} {enc : TypeId × Value → H} {w : World} {base : Nat} {spare : Nat → Bool} {held : Bool} {n : Nat} {cs : List Value} {y : DataW H × List MemPlace}
    (h : DataW.trod enc Try.prog w base spare held n 35 cs = some y) : ∃ (K A : Int) (T : ByteArray), cs = [.int .i64 K, .int .i64 A, .string T] ∧ T.size ≤ maxLen := by
  obtain ⟨y0, y1, y2, m, _, hl, t0, t1, t2⟩ := trod_struct3 Try.underlying35 h
  have hc : Try.prog.cellsOf 35 = 3 := by kernel_rfl
  have h3 : Try.prog.cellsOf 3 = 1 := by kernel_rfl
  have h9 : Try.prog.cellsOf 9 = 1 := by kernel_rfl
  rw [hc] at hl
  match cs, hl with
  | [c0, c1, c2], _ =>
    have e0 : DataW.trod enc Try.prog w base spare held m 3 [c0] = some y0 := by simpa [h3] using t0
    have e1 : DataW.trod enc Try.prog w base spare held m 3 [c1] = some y1 := by simpa [h3] using t1
    have e2 : DataW.trod enc Try.prog w base spare held m 9 [c2] = some y2 := by simpa [h9] using t2
    obtain ⟨K, k0, -, -⟩ := DataW.trod_int Try.underlying3 e0
    obtain ⟨A, k1, -, -⟩ := DataW.trod_int Try.underlying3 e1
    obtain ⟨T, k2, -, hT⟩ := DataW.trod_string Try.underlying9 e2
    have q0 : c0 = .int .i64 K := by simpa using k0
    have q1 : c1 = .int .i64 A := by simpa using k1
    have q2 : c2 = .string T := by simpa using k2
    exact ⟨K, A, T, by rw [q0, q1, q2], hT⟩

set_option maxRecDepth 100000 in
theorem arg_vals {H : Type} {enc : TypeId × Value → H} {W : World} {a : Option Addr} {len cap : Nat} {d : DataW H} {p : List MemPlace}
    (h : DataW.Trod enc Try.prog W 0 (fun _ => true) true 48 (.slice a len cap) d p) : (∃ f, ArgV W a len f) ∧ len ≤ 9223372036854775807 := by
  obtain ⟨fuel, hf⟩ := h
  rcases open_slice Try.underlying48 hf with ⟨hcs, _⟩ | ⟨x, l, c, m, n, D, Pl, hcs, _, hl, hm, hmm, _, hi⟩
  · simp [Value.cells] at hcs
    obtain ⟨rfl, rfl, rfl⟩ := hcs
    exact ⟨⟨fun _ => (0, 0, ⟨#[]⟩), fun j hj => by omega⟩, by omega⟩
  · simp [Value.cells] at hcs
    obtain ⟨rfl, rfl, rfl⟩ := hcs
    have hc : Try.prog.cellsOf 35 = 3 := by kernel_rfl
    rw [hc] at hi
    have hlm : len ≤ m := by rw [hmm]; simpa using hl
    have key : ∀ j, j < len → ∃ v : Int × Int × ByteArray, ∃ g o, x = ⟨g, o, none⟩ ∧ g < W.heap.size ∧ W.cell? ⟨g, o + j * 3, none⟩ = some (.int .i64 v.1) ∧ W.cell? ⟨g, o + j * 3 + 1, none⟩ = some (.int .i64 v.2.1) ∧ W.cell? ⟨g, o + j * 3 + 2, none⟩ = some (.string v.2.2) ∧ v.2.2.size ≤ 9223372036854775807 := fun j hj => by
      obtain ⟨cs', hcc, ht⟩ := hi j (by omega)
      obtain ⟨K, A, T, rfl, hT⟩ := val_cells ht
      obtain ⟨_, _, hat⟩ := World.cells?_some hcc
      have c0 := hat 0 (by omega)
      have c1 := hat 1 (by omega)
      have c2 := hat 2 (by omega)
      obtain ⟨g, o, spot⟩ := x
      have hadd : ∀ (y : Addr) (i : Nat), 0 < i → y.add i = ⟨y.block, y.off + i, none⟩ := fun y i hi => by unfold Addr.add; rw [if_neg (by omega)]
      have e1 : ((Addr.mk g o spot).add (j * 3)).add 1 = ⟨g, o + j * 3 + 1, none⟩ := by
        rw [hadd _ 1 (by omega)]
        unfold Addr.add; split
        · rename_i h0; simp [h0]
        · rfl
      have e2 : ((Addr.mk g o spot).add (j * 3)).add 2 = ⟨g, o + j * 3 + 2, none⟩ := by
        rw [hadd _ 2 (by omega)]
        unfold Addr.add; split
        · rename_i h0; simp [h0]
        · rfl
      have e0 : ((Addr.mk g o spot).add (j * 3)).add 0 = (Addr.mk g o spot).add (j * 3) := by unfold Addr.add; simp
      rw [e0] at c0
      rw [e1] at c1
      rw [e2] at c2
      have hcx : W.cell? ((Addr.mk g o spot).add (j * 3)) = some (.int .i64 K) := c0
      have hsp : spot = none := by
        obtain ⟨cs0, hcc0, ht0⟩ := hi 0 (by omega)
        obtain ⟨K0, A0, T0, rfl, _⟩ := val_cells ht0
        obtain ⟨_, _, hat0⟩ := World.cells?_some hcc0
        have c00 := hat0 0 (by omega)
        have e00 : ((Addr.mk g o spot).add (0 * 3)).add 0 = Addr.mk g o spot := by unfold Addr.add; simp
        rw [e00] at c00
        have h00 : W.cell? (Addr.mk g o spot) = some (.int .i64 K0) := c00
        simpa using World.cell?_spot h00
      subst hsp
      have e3 : (Addr.mk g o none).add (j * 3) = ⟨g, o + j * 3, none⟩ := by
        unfold Addr.add; split
        · simp
        · rfl
      rw [e3] at hcx
      refine ⟨(K, A, T), g, o, rfl, ?_, hcx, c1, c2, hT⟩
      rcases Nat.lt_or_ge g W.heap.size with hb | hb
      · exact hb
      · exfalso
        have : W.heap[g]? = none := by simp; omega
        simp [World.cell?, this] at hcx
    obtain ⟨f, hff⟩ : ∃ f : Nat → Int × Int × ByteArray, ∀ (j : Nat) (h : j < len), f j = Classical.choose (key j h) :=
      ⟨fun j => if h : j < len then Classical.choose (key j h) else (0, 0, ⟨#[]⟩), fun j h => dif_pos h⟩
    refine ⟨⟨f, fun j hj => ?_⟩, by unfold maxLen at hm; omega⟩
    obtain ⟨g, o, e, rest⟩ := Classical.choose_spec (key j hj)
    rw [hff j hj]
    exact ⟨g, o, by rw [e], rest⟩
end Go.Proofs.Ytelbcfipkanfkaa
