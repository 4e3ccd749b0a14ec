/-
  Walks of layer 12: a number in four bytes (octet.Put, and the document's).
-/
import Derived.Test.YtghelhcmecmldaaMathIf
import Derived.Test.YtghelhcmecmldaaMathPut
import Derived.Test.YtghelhcmecmldaaRet
import Derived.Laws.IdiomStrings
import Derived.Lib.BufferMore
namespace Go.Proofs.Ytghelhcmecmldaa
open Go.RowKit
theorem isSize4 (w : World) : Calls Try.prog 32 #[.int .i64 4] w fun e w' => e = .returned (.bool true) ∧ w' = w := by
  go_enter Try.func32, Try.ntmps32
  go_wp2
  go_ret
  exact ⟨rfl, rfl⟩
theorem If.rights4 (q : Nat) : Oct.rights 4 (Oct.putF q) = If.be4 q := by
  show [Oct.putF q 3, Oct.putF q 2, Oct.putF q 1, Oct.putF q 0] = _
  unfold Oct.putF If.be4
  rw [Nat.pow_zero, Nat.div_one, Nat.pow_one]
set_option maxHeartbeats 400000 in
theorem put4_any (q : Nat) (hq : q < 4294967296) (w : World) :
    Calls Try.prog 29 #[.int .i64 q, .int .i64 4] w fun e w' => e = .returned (.tuple #[.string ⟨(If.be4 q).toArray⟩, .int .i64 0]) ∧ Below w.heap.size w w' := by
  have HA : Hid (∀ W, Calls Try.prog 32 #[.int .i64 4] W fun e w' => e = .returned (.bool true) ∧ w' = W) := fun W => isSize4 W
  have hr : Hid (If.be4 q = Oct.rights 4 (Oct.putF q)) := (If.rights4 q).symm
  have d0 : decide ((q : Int) < 0) = false := by simp
  have d1 : ((q : Int) / 4294967296 != 0) = false := by rw [bne_eq_false_iff_eq]; omega
  have hlt : (q : Int) < 4294967296 := by omega
  go_enter Try.func29, Try.ntmps29
  go_wp2_with (go_at_call 32; refine (HA.out _).mono ?_; rintro e w' ⟨rfl, rfl⟩)
  go_loopw [21] (fun i wr => ∃ k : Nat, k ≤ 4 ∧ i = .int .i64 k ∧ wr.heap[w'.heap.size]? = some (.cells (Oct.cells (Oct.fill 4 4 (Oct.putF q) k)) 55 (0, 0)) ∧ Below w'.heap.size w' wr) (fun i _ => 4 - (intOf i).toNat)
  case atStart =>
    exact ⟨0, Nat.zero_le _, rfl, (MapKept.heap_alloc w' _).1.trans (by rw [Oct.fill_zero]; rfl), (Below.refl _ _).alloc (Nat.le_refl _) _⟩
  case round =>
    obtain ⟨k, hk, rfl, hb, hbl⟩ := hrel
    have hB : Hid (wr.heap[w'.heap.size]? = some (.cells (Oct.cells (Oct.fill 4 4 (Oct.putF q) k)) 55 (0, 0))) := hb
    clear hb
    have hcase : k = 0 ∨ k = 1 ∨ k = 2 ∨ k = 3 ∨ k = 4 := by omega
    rcases hcase with rfl | rfl | rfl | rfl | rfl
    · obtain ⟨v, hc⟩ : ∃ v, wr.cell? ⟨w'.heap.size, 3, none⟩ = some v := ⟨_, (Lib.cell_of_heap hB.out 3).trans (Oct.cells_at _ _ (by rw [Oct.fill_length]; omega))⟩
      have hf : wr.frozen? ⟨w'.heap.size, 3, none⟩ = false := Lib.frozen_of_heap hB.out _
      go_wp2
      refine ⟨⟨1, by omega, rfl, (Lib.heap_setCell_same hB.out _).trans ?_, hbl.setCell (p := ⟨w'.heap.size, 3, none⟩) (Nat.le_refl _) _⟩, by simp [intOf]⟩
      exact congrArg (fun c => some (Obj.cells c 55 (0, 0))) (Oct.put_step 4 q 4 0 (by omega) _ (by omega))
    · obtain ⟨v, hc⟩ : ∃ v, wr.cell? ⟨w'.heap.size, 2, none⟩ = some v := ⟨_, (Lib.cell_of_heap hB.out 2).trans (Oct.cells_at _ _ (by rw [Oct.fill_length]; omega))⟩
      have hf : wr.frozen? ⟨w'.heap.size, 2, none⟩ = false := Lib.frozen_of_heap hB.out _
      go_wp2
      refine ⟨⟨2, by omega, rfl, (Lib.heap_setCell_same hB.out _).trans ?_, hbl.setCell (p := ⟨w'.heap.size, 2, none⟩) (Nat.le_refl _) _⟩, by simp [intOf]⟩
      exact congrArg (fun c => some (Obj.cells c 55 (0, 0))) (Oct.put_step 4 q 4 1 (by omega) _ (by omega))
    · obtain ⟨v, hc⟩ : ∃ v, wr.cell? ⟨w'.heap.size, 1, none⟩ = some v := ⟨_, (Lib.cell_of_heap hB.out 1).trans (Oct.cells_at _ _ (by rw [Oct.fill_length]; omega))⟩
      have hf : wr.frozen? ⟨w'.heap.size, 1, none⟩ = false := Lib.frozen_of_heap hB.out _
      go_wp2
      refine ⟨⟨3, by omega, rfl, (Lib.heap_setCell_same hB.out _).trans ?_, hbl.setCell (p := ⟨w'.heap.size, 1, none⟩) (Nat.le_refl _) _⟩, by simp [intOf]⟩
      exact congrArg (fun c => some (Obj.cells c 55 (0, 0))) (Oct.put_step 4 q 4 2 (by omega) _ (by omega))
    · obtain ⟨v, hc⟩ : ∃ v, wr.cell? ⟨w'.heap.size, 0, none⟩ = some v := ⟨_, (Lib.cell_of_heap hB.out 0).trans (Oct.cells_at _ _ (by rw [Oct.fill_length]; omega))⟩
      have hf : wr.frozen? ⟨w'.heap.size, 0, none⟩ = false := Lib.frozen_of_heap hB.out _
      go_wp2
      refine ⟨⟨4, by omega, rfl, (Lib.heap_setCell_same hB.out _).trans ?_, hbl.setCell (p := ⟨w'.heap.size, 0, none⟩) (Nat.le_refl _) _⟩, by simp [intOf]⟩
      exact congrArg (fun c => some (Obj.cells c 55 (0, 0))) (Oct.put_step 4 q 4 3 (by omega) _ (by omega))
    · have hcv := run_convert_bytes_back (P := Try.prog) wr 39 9 5 ⟨w'.heap.size, 0, none⟩ 4 (Oct.rights 4 (Oct.putF q)) Try.underlying39 Try.underlying5 Try.underlying9 (Oct.put_cells hB.out (by omega))
      rw [Oct.rights_length] at hcv
      go_wp2
      go_ret2
      exact ⟨ret_se (by rw [hr.out]) rfl, hbl⟩
set_option maxHeartbeats 400000 in
theorem rput4_any (q : Nat) (hq : q < 4294967296) (w : World) :
    Calls Try.prog 21 #[.int .i64 q, .int .i64 4] w fun e w' => e = .returned (.tuple #[.string ⟨(If.be4 q).toArray⟩, .int .i64 0]) ∧ Below w.heap.size w w' := by
  have hr : Hid (If.be4 q = Oct.rights 4 (Oct.putF q)) := (If.rights4 q).symm
  have d0 : decide ((q : Int) < 0) = false := by simp
  have d1 : decide ((4294967296 : Int) ≤ (q : Int)) = false := by simp; omega
  have hlt : (q : Int) < 4294967296 := by omega
  go_enter Try.func21, Try.ntmps21
  go_wp2
  go_loopw [25] (fun i wr => ∃ k : Nat, k ≤ 4 ∧ i = .int .i64 k ∧ wr.heap[w.heap.size]? = some (.cells (Oct.cells (Oct.fill 4 4 (Oct.putF q) k)) 55 (0, 0)) ∧ Below w.heap.size w wr) (fun i _ => 4 - (intOf i).toNat)
  case atStart =>
    exact ⟨0, Nat.zero_le _, rfl, (MapKept.heap_alloc w _).1.trans (by rw [Oct.fill_zero]; rfl), (Below.refl _ _).alloc (Nat.le_refl _) _⟩
  case round =>
    obtain ⟨k, hk, rfl, hb, hbl⟩ := hrel
    have hB : Hid (wr.heap[w.heap.size]? = some (.cells (Oct.cells (Oct.fill 4 4 (Oct.putF q) k)) 55 (0, 0))) := hb
    clear hb
    have hcase : k = 0 ∨ k = 1 ∨ k = 2 ∨ k = 3 ∨ k = 4 := by omega
    rcases hcase with rfl | rfl | rfl | rfl | rfl
    · obtain ⟨v, hc⟩ : ∃ v, wr.cell? ⟨w.heap.size, 3, none⟩ = some v := ⟨_, (Lib.cell_of_heap hB.out 3).trans (Oct.cells_at _ _ (by rw [Oct.fill_length]; omega))⟩
      have hf : wr.frozen? ⟨w.heap.size, 3, none⟩ = false := Lib.frozen_of_heap hB.out _
      go_wp2
      refine ⟨⟨1, by omega, rfl, (Lib.heap_setCell_same hB.out _).trans ?_, hbl.setCell (p := ⟨w.heap.size, 3, none⟩) (Nat.le_refl _) _⟩, by simp [intOf]⟩
      exact congrArg (fun c => some (Obj.cells c 55 (0, 0))) (Oct.put_step 4 q 4 0 (by omega) _ (by omega))
    · obtain ⟨v, hc⟩ : ∃ v, wr.cell? ⟨w.heap.size, 2, none⟩ = some v := ⟨_, (Lib.cell_of_heap hB.out 2).trans (Oct.cells_at _ _ (by rw [Oct.fill_length]; omega))⟩
      have hf : wr.frozen? ⟨w.heap.size, 2, none⟩ = false := Lib.frozen_of_heap hB.out _
      go_wp2
      refine ⟨⟨2, by omega, rfl, (Lib.heap_setCell_same hB.out _).trans ?_, hbl.setCell (p := ⟨w.heap.size, 2, none⟩) (Nat.le_refl _) _⟩, by simp [intOf]⟩
      exact congrArg (fun c => some (Obj.cells c 55 (0, 0))) (Oct.put_step 4 q 4 1 (by omega) _ (by omega))
    · obtain ⟨v, hc⟩ : ∃ v, wr.cell? ⟨w.heap.size, 1, none⟩ = some v := ⟨_, (Lib.cell_of_heap hB.out 1).trans (Oct.cells_at _ _ (by rw [Oct.fill_length]; omega))⟩
      have hf : wr.frozen? ⟨w.heap.size, 1, none⟩ = false := Lib.frozen_of_heap hB.out _
      go_wp2
      refine ⟨⟨3, by omega, rfl, (Lib.heap_setCell_same hB.out _).trans ?_, hbl.setCell (p := ⟨w.heap.size, 1, none⟩) (Nat.le_refl _) _⟩, by simp [intOf]⟩
      exact congrArg (fun c => some (Obj.cells c 55 (0, 0))) (Oct.put_step 4 q 4 2 (by omega) _ (by omega))
    · obtain ⟨v, hc⟩ : ∃ v, wr.cell? ⟨w.heap.size, 0, none⟩ = some v := ⟨_, (Lib.cell_of_heap hB.out 0).trans (Oct.cells_at _ _ (by rw [Oct.fill_length]; omega))⟩
      have hf : wr.frozen? ⟨w.heap.size, 0, none⟩ = false := Lib.frozen_of_heap hB.out _
      go_wp2
      refine ⟨⟨4, by omega, rfl, (Lib.heap_setCell_same hB.out _).trans ?_, hbl.setCell (p := ⟨w.heap.size, 0, none⟩) (Nat.le_refl _) _⟩, by simp [intOf]⟩
      exact congrArg (fun c => some (Obj.cells c 55 (0, 0))) (Oct.put_step 4 q 4 3 (by omega) _ (by omega))
    · have hcv := run_convert_bytes_back (P := Try.prog) wr 39 9 5 ⟨w.heap.size, 0, none⟩ 4 (Oct.rights 4 (Oct.putF q)) Try.underlying39 Try.underlying5 Try.underlying9 (Oct.put_cells hB.out (by omega))
      rw [Oct.rights_length] at hcv
      go_wp2
      go_ret2
      exact ⟨ret_se (by rw [hr.out]) rfl, hbl⟩
end Go.Proofs.Ytghelhcmecmldaa
