/-
  Layer 8: what Parse defers.
-/
import Derived.Test.YtpggnhnpphbaeaaDoorCh1
import Derived.Defers
import Derived.Recover
namespace Go.Proofs.YtpggnhnpphbaeaaDoor
open Go.RowKit

set_option maxHeartbeats 1000000 in
set_option maxRecDepth 100000 in
theorem catch_idle (p q : Addr) (w : World) :
    CallsD Tryd.prog 18 #[.pointer (some p), .pointer (some q)] .returning w fun e u' w' => e = .returned (.tuple #[]) ∧ u' = .returning ∧ w' = w := by
  refine callsD_of_wpS Tryd.func18 rfl fun c₀ cs hu => ?_
  apply wpS_seq
  apply wpS_region
  simp [wpOpsS, go_sem, recoverD, hu, Tryd.ntmps18, Exit.thenS]
  refine wpS_of_wp ?_
  go_wp2
  cases c₀
  simp_all [bodyPostS, results, Tryd.results18]

theorem assert_give (W : World) (v : Value) : (Instr.typeAssert (.iface 49 v) 20 49 true).run Tryd.prog W = .ok (.tuple #[v, .bool true]) W := by kernel_rfl
set_option maxHeartbeats 1000000 in
set_option maxRecDepth 100000 in
theorem catch_panicking (P Q B : Nat) (v : Value) (e0 : Int) (w : World) (kP : Rg.Bk P [v] 22 w) (kQ : Rg.Bk Q [.int .i64 e0] 38 w) (hPQ : P ≠ Q) (hBP : B ≤ P) (hBQ : B ≤ Q) :
    CallsD Tryd.prog 18 #[.pointer (some ⟨P, 0, none⟩), .pointer (some ⟨Q, 0, none⟩)] (.panicking [giveUp]) w fun e u' w' =>
      e = .returned (.tuple #[]) ∧ u' = .panicking [{ giveUp with recovered := true }] ∧ Below B w w' ∧ Rg.Bk P [.slice none 0 0] 22 w' ∧ Rg.Bk Q [.int .i64 3] 38 w' := by
  have hc : w.cell? ⟨P, 0, none⟩ = some v := kP.cell 0
  have hc2 : w.cell? ⟨Q, 0, none⟩ = some (.int .i64 e0) := kQ.cell 0
  have hz := kP.thaw
  have hz2 := kQ.thaw
  have lP := kP.lt
  have lQ := kQ.lt
  have nP : ¬ P = w.heap.size := by omega
  have nP' : ¬ w.heap.size = P := by omega
  have nQ : ¬ Q = w.heap.size := by omega
  have nQ' : ¬ w.heap.size = Q := by omega
  replace kP := Rg.hid kP
  replace kQ := Rg.hid kQ
  unfold giveUp
  refine callsD_of_wpS Tryd.func18 rfl fun c₀ cs hu => ?_
  apply wpS_seq
  apply wpS_region
  simp [wpOpsS, go_sem, recoverD, hu, Tryd.ntmps18, Exit.thenS]
  refine wpS_of_wp ?_
  have has := fun W v => assert_give W v
  have hfin : Hid (Below B w (((w.setCell ⟨P, 0, none⟩ (.slice none 0 0)).setCell ⟨Q, 0, none⟩ (.int .i64 3)).alloc (.cells #[.int .i64 3] 49)).drew ∧ Rg.Bk P [.slice none 0 0] 22 (((w.setCell ⟨P, 0, none⟩ (.slice none 0 0)).setCell ⟨Q, 0, none⟩ (.int .i64 3)).alloc (.cells #[.int .i64 3] 49)).drew ∧ Rg.Bk Q [.int .i64 3] 38 (((w.setCell ⟨P, 0, none⟩ (.slice none 0 0)).setCell ⟨Q, 0, none⟩ (.int .i64 3)).alloc (.cells #[.int .i64 3] 49)).drew) := by
    have o1 := Rg.Only.setCell w P 0 (.slice none 0 0)
    have o2 := Rg.Only.setCell (w.setCell ⟨P, 0, none⟩ (.slice none 0 0)) Q 0 (.int .i64 3)
    have k1 : Rg.Bk P [.slice none 0 0] 22 (w.setCell ⟨P, 0, none⟩ (.slice none 0 0)) := kP.out.set 0 _
    have k2 := k1.same (o2.block P hPQ)
    have q1 := kQ.out.same (o1.block Q (Ne.symm hPQ))
    have q2 : Rg.Bk Q [.int .i64 3] 38 ((w.setCell ⟨P, 0, none⟩ (.slice none 0 0)).setCell ⟨Q, 0, none⟩ (.int .i64 3)) := q1.set 0 _
    have b2 := (o1.bel hBP).trans (o2.bel hBQ)
    exact ⟨(b2.alloc (by rw [o2.size, o1.size]; omega) _).drew, (k2.old _).drew, (q2.old _).drew⟩
  go_wp2
  go_region
  all_goals
    generalize World.drew _ = W at *
    go_wp2
    simp [bodyPostS, results, Tryd.results18]
    exact hfin.out
end Go.Proofs.YtpggnhnpphbaeaaDoor
