/- Plain facts on the code numbers: they come back, and the last bit turned is the other side's. -/
import Derived.Test.YtojafonpfcpmjaaDraw
namespace Go.Proofs.Ytojafonpfcpmjaa
theorem xor_one (m : Nat) : m ^^^ 1 = if m % 2 = 0 then m + 1 else m - 1 := by
  have h1 : (m ^^^ 1) / 2 = m / 2 := by rw [Nat.xor_div_two]; simp
  have h2 : (m ^^^ 1) % 2 = 1 ↔ ¬ (m % 2 = 1 ↔ 1 % 2 = 1) := Nat.xor_mod_two_eq_one
  split
  · have : (m ^^^ 1) % 2 = 1 := h2.2 (by omega)
    omega
  · have : ¬ (m ^^^ 1) % 2 = 1 := fun h => (h2.1 h) (by omega)
    omega
theorem zigV_bds (n : Int) (h0 : -9223372036854775808 ≤ n) (h1 : n ≤ 9223372036854775807) : 0 ≤ zigV n ∧ zigV n ≤ 18446744073709551615 := by unfold zigV; split <;> omega
theorem unzig_zig (n : Int) : unzigV (zigV n) = n := by unfold zigV unzigV; split <;> split <;> omega
theorem zig_flip (n : Int) (h0 : -9223372036854775808 ≤ n) (h1 : n ≤ 9223372036854775807) : bits .xor .u64 (zigV n) 1 = zigV (-1 - n) := by
  obtain ⟨b0, b1⟩ := zigV_bds n h0 h1
  obtain ⟨m, hm⟩ := Int.eq_ofNat_of_zero_le b0
  rw [hm]
  have h := bits_xor_u64_nat m 1 (by omega) (by omega)
  refine h.trans ?_
  rw [xor_one]
  unfold zigV at hm ⊢
  split at hm <;> split <;> split <;> omega
theorem rowB_of {w : World} {a : Option Addr} {len cap : Nat} {zs : List Int}
    (h : (a = none ∧ len = 0 ∧ cap = 0 ∧ zs = []) ∨ ∃ x, a = some x ∧ len ≤ cap ∧ cap ≤ maxLen ∧ zs.length = cap ∧ (∀ i, i < zs.length → w.cell? (x.add i) = some (.int .u8 (zs.getD i 0))) ∧ ∀ n ∈ zs, (Lit.int .u8 n).wf = true) : RowB w.heap.size a len w := by
  rcases h with ⟨rfl, rfl, rfl, rfl⟩ | ⟨x, rfl, h1, h2, h3, h4, h5⟩
  · exact ⟨by omega, fun j hj => by omega⟩
  · refine ⟨by unfold maxLen at h2; omega, fun j hj => ?_⟩
    have hc := h4 j (by omega)
    obtain ⟨b, off, spot⟩ := x
    have hc0 := h4 0 (by omega)
    have hsp : spot = none := by simpa [Addr.add] using World.cell?_spot hc0
    subst hsp
    have e : (⟨b, off, none⟩ : Addr).add j = ⟨b, off + j, none⟩ := by unfold Addr.add; split <;> simp_all
    rw [e] at hc
    have hm : zs.getD j 0 ∈ zs := by
      have hj2 : j < zs.length := by omega
      rw [List.getD_eq_getElem?_getD, List.getElem?_eq_getElem hj2]; exact List.getElem_mem _
    obtain ⟨g0, g1⟩ := u8_bds (h5 _ hm)
    refine ⟨b, off, zs.getD j 0, rfl, ?_, g0, g1, hc⟩
    rcases Nat.lt_or_ge b w.heap.size with hb | hb
    · exact hb
    · exfalso
      have : w.heap[b]? = none := by simp; omega
      simp [World.cell?, this] at hc
end Go.Proofs.Ytojafonpfcpmjaa
