/- The contract of the program's GetVar, whose deferred closure recovers. -/
import Derived.Test.YtojafonpfcpmjaaGetI
import Derived.Recover
import Derived.Defers
import Derived.Laws.Pointers
namespace Go.Proofs.Ytojafonpfcpmjaa
open Go.RowKit

theorem getCatch_panicking (B : Nat) (x y z : Value) (u : TypeId) (pv : Value) (older : List PanicEntry) (w : World)
    (hc0 : w.cell? ⟨B, 0, none⟩ = some x) (hc1 : w.cell? ⟨B + 1, 0, none⟩ = some y) (hc2 : w.cell? ⟨B + 2, 0, none⟩ = some z)
    (hz0 : w.frozen? ⟨B, 0, none⟩ = false) (hz1 : w.frozen? ⟨B + 1, 0, none⟩ = false) (hz2 : w.frozen? ⟨B + 2, 0, none⟩ = false) :
    CallsD Try.prog 31 #[.pointer (some ⟨B, 0, none⟩), .pointer (some ⟨B + 1, 0, none⟩), .pointer (some ⟨B + 2, 0, none⟩)] (.panicking ({ v := .iface u pv, recovered := false } :: older)) w fun e u' w' =>
      e = .returned (.tuple #[]) ∧ u' = .panicking ({ v := .iface u pv, recovered := true } :: older) ∧ w' = ((w.setCell ⟨B, 0, none⟩ (.int .u64 0)).setCell ⟨B + 1, 0, none⟩ (.int .i64 0)).setCell ⟨B + 2, 0, none⟩ (.bool false) := by
  refine callsD_of_wpS Try.func31 rfl fun c₀ cs hu => ?_
  apply wpS_seq
  apply wpS_region
  simp [wpOpsS, go_sem, recoverD, hu, Try.ntmps31, Exit.thenS]
  refine wpS_cond (t := true) (by simp [Act.eval, Array.replicate]) ?_
  simp only [if_true]
  apply wpS_region
  simp [wpOpsS, go_sem, hc0, hc1, hc2, hz0, hz1, hz2, bodyPostS, results, Try.results31]

theorem getCatch_idle (B : Nat) (w : World) :
    CallsD Try.prog 31 #[.pointer (some ⟨B, 0, none⟩), .pointer (some ⟨B + 1, 0, none⟩), .pointer (some ⟨B + 2, 0, none⟩)] .returning w fun e u' w' => e = .returned (.tuple #[]) ∧ u' = .returning ∧ w' = w := by
  refine callsD_of_wpS Try.func31 rfl fun c₀ cs hu => ?_
  apply wpS_seq
  apply wpS_region
  simp [wpOpsS, go_sem, recoverD, hu, Try.ntmps31, Exit.thenS]
  refine wpS_cond (t := false) (by simp [Act.eval, Array.replicate]) ?_
  simp only [Bool.false_eq_true, if_false]
  refine wpS_of_wp (wp_skip ?_)
  cases c₀
  simp_all [bodyPostS, results, Try.results31]

set_option maxRecDepth 100000 in
set_option maxHeartbeats 800000 in
theorem getVar_impl (s : ByteArray) (k : Int) (w : World) (hs : s.size ≤ maxLen) (k0 : -9223372036854775808 ≤ k) (k1 : k ≤ 9223372036854775807) :
    Calls Try.prog 19 #[.string s, .int .i64 k] w (GotE s.data.toList k w) := by
  have hmf : ∀ (fn : Fn) (first cap : Array Value) (w : World), (Instr.makeFunc fn first cap).run Try.prog w = .ok (.func fn first cap) w := fun _ _ _ _ => rfl
  go_enter_defers Try.func19, Try.ntmps19
  go_wp2_with fail
  refine (readVar_any s k _ hs k0 k1).mono ?_
  rintro e w' ⟨rfl, ⟨u, hg, rfl⟩ | ⟨hno, he⟩⟩
  · have HG := Lib.hid hg; clear hg
    go_wp2_with fail
    go_region
    go_wp2
    refine leaves_cons (f := 31) (args := #[.pointer (some ⟨w.heap.size, 0, none⟩), .pointer (some ⟨w.heap.size + 1, 0, none⟩), .pointer (some ⟨w.heap.size + 2, 0, none⟩)]) (by simp) (by simp [go_sem]) ?_
    refine (getCatch_idle w.heap.size _).mono ?_
    rintro e u' w'' ⟨rfl, rfl, rfl⟩
    simp [Leaves, settle, results, Try.results19, go_sem]
    exact ⟨.inl ⟨u, HG.out, rfl⟩, ((((Below.refl _ _).alloc (Nat.le_refl _) _).alloc (by simp) _).alloc (by simp; omega) _).drew⟩
  · have he' : e = .panicked badChain := he
    subst he'
    clear he
    have HN := Lib.hid hno; clear hno
    go_wp2_with fail
    refine leaves_cons (f := 31) (args := #[.pointer (some ⟨w.heap.size, 0, none⟩), .pointer (some ⟨w.heap.size + 1, 0, none⟩), .pointer (some ⟨w.heap.size + 2, 0, none⟩)]) (by simp) (by simp [go_sem]) ?_
    refine (getCatch_panicking w.heap.size (.int .u64 0) (.int .i64 0) (.bool false) 9 (.string badText) [] _ ?_ ?_ ?_ ?_ ?_ ?_).mono ?_
    · simp [go_sem]
    · simp [go_sem]
    · simp [go_sem]
    · simp [go_sem]
    · simp [go_sem]
    · simp [go_sem]
    rintro e u' w'' ⟨rfl, rfl, rfl⟩
    simp [Leaves, settle, results, Try.results19, go_sem]
    exact GotE.no HN.out rfl ((((Below.refl _ _).alloc (Nat.le_refl _) _).alloc (by simp) _).alloc (by simp; omega) _)
end Go.Proofs.Ytojafonpfcpmjaa
