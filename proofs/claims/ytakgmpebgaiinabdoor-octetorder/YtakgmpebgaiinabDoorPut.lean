/-
  Walks of layer 1: octet.Put, the document's Put.
-/
import Derived.Test.YtakgmpebgaiinabDoorGet
import Derived.Test.YtakgmpebgaiinabDoorMathC
import Derived.Lib.Builder
import Derived.Lib.BufferMore
import Derived.Laws.IdiomStrings
namespace Go.Proofs.YtakgmpebgaiinabDoor
open Go.RowKit

theorem ret_sn {s t : ByteArray} {b d : Int} (h : s = t) (h' : b = d) : Ending.returned (.tuple #[.string s, .int .i64 b]) = .returned (.tuple #[.string t, .int .i64 d]) := by rw [h, h']

set_option maxHeartbeats 400000 in
theorem put_any (n size : Int) (w : World) (hn0 : -9223372036854775808 ≤ n) (hn1 : n ≤ 9223372036854775807) :
    Calls Tryd.prog 6 #[.int .i64 n, .int .i64 size] w fun e w' => e = .returned (.tuple #[.string ⟨(Oct.put n size).1.toArray⟩, .int .i64 (Oct.put n size).2]) ∧ Below w.heap.size w w' := by
  by_cases hsz : size < 1 ∨ 4 < size
  · have HA := isSize_no size w hsz
    have hr : Hid (Oct.put n size = ([], 1)) := Oct.put_arg (by omega)
    clear hsz
    go_enter Tryd.func6, Tryd.ntmps6
    go_wp2_with (go_at_call 10; refine HA.mono ?_; rintro e w' ⟨rfl, rfl⟩)
    go_ret2
    exact ⟨ret_sn (by rw [hr.out]) (by rw [hr.out]; rfl), Below.refl _ _⟩
  · have hm : size = 1 ∨ size = 2 ∨ size = 3 ∨ size = 4 := by omega
    have HA := isSize_yes size w (by omega) (by omega)
    clear hsz
    by_cases h0 : n < 0
    · have hr : Hid (Oct.put n size = ([], 5)) := Oct.put_long (by omega) (by omega) (Or.inl h0)
      clear hm
      go_enter Tryd.func6, Tryd.ntmps6
      go_wp2_with (go_at_call 10; refine HA.mono ?_; rintro e w' ⟨rfl, rfl⟩)
      go_ret2
      exact ⟨ret_sn (by rw [hr.out]) (by rw [hr.out]; rfl), Below.refl _ _⟩
    · have h0' : 0 ≤ n := by omega
      clear h0
      rcases hm with rfl | rfl | rfl | rfl
      · by_cases hbig : 256 ≤ n
        · have hr : Hid (Oct.put n 1 = ([], 5)) := Oct.put_long (by omega) (by omega) (Or.inr hbig)
          have d0 : decide (n < 0) = false := by simp; omega
          have d1 : (n / 256 != 0) = true := by rw [bne_iff_ne]; omega
          go_enter Tryd.func6, Tryd.ntmps6
          go_wp2_with (go_at_call 10; refine HA.mono ?_; rintro e w' ⟨rfl, rfl⟩)
          go_ret2
          exact ⟨ret_sn (by rw [hr.out]) (by rw [hr.out]; rfl), Below.refl _ _⟩
        · have hr : Hid (Oct.put n 1 = (Oct.rights 1 (Oct.putF n.toNat), 0)) := Oct.put_ok (by omega) (by omega) h0' (by show n < 256; omega)
          have d0 : decide (n < 0) = false := by simp; omega
          have d1 : (n / 256 != 0) = false := by rw [bne_eq_false_iff_eq]; omega
          have hlt : n < 256 := by omega
          clear hbig
          obtain ⟨q, rfl⟩ := Int.eq_ofNat_of_zero_le h0'
          go_enter Tryd.func6, Tryd.ntmps6
          go_wp2_with (go_at_call 10; refine HA.mono ?_; rintro e w' ⟨rfl, rfl⟩)
          go_loopw [21] (fun i wr => ∃ k : Nat, k ≤ 1 ∧ i = .int .i64 k ∧ wr.heap[w'.heap.size]? = some (.cells (Oct.cells (Oct.fill 4 1 (Oct.putF q) k)) 34 (0, 0)) ∧ Below w'.heap.size w' wr) (fun i _ => 1 - (intOf i).toNat)
          case atStart =>
            exact ⟨0, Nat.zero_le _, rfl, (MapKept.heap_alloc w' _).1.trans (by rw [Oct.fill_zero]; rfl), (Below.refl _ _).alloc (Nat.le_refl _) _⟩
          case round =>
            obtain ⟨k, hk, rfl, hb, hbl⟩ := hrel
            have hB : Hid (wr.heap[w'.heap.size]? = some (.cells (Oct.cells (Oct.fill 4 1 (Oct.putF q) k)) 34 (0, 0))) := hb
            clear hb
            have hcase : k = 0 ∨ k = 1 := by omega
            rcases hcase with rfl | rfl
            · obtain ⟨v, hc⟩ : ∃ v, wr.cell? ⟨w'.heap.size, 0, none⟩ = some v := ⟨_, (Lib.cell_of_heap hB.out 0).trans (Oct.cells_at _ _ (by rw [Oct.fill_length]; omega))⟩
              have hf : wr.frozen? ⟨w'.heap.size, 0, none⟩ = false := Lib.frozen_of_heap hB.out _
              go_wp2
              refine ⟨⟨1, by omega, rfl, (Lib.heap_setCell_same hB.out _).trans ?_, hbl.setCell (p := ⟨w'.heap.size, 0, none⟩) (Nat.le_refl _) _⟩, by simp [intOf]⟩
              exact congrArg (fun c => some (Obj.cells c 34 (0, 0))) (Oct.put_step 4 q 1 0 (by omega) _ (by omega))
            · have hcv := run_convert_bytes_back (P := Tryd.prog) wr 28 9 5 ⟨w'.heap.size, 0, none⟩ 4 (Oct.rights 1 (Oct.putF q)) Tryd.underlying28 Tryd.underlying5 Tryd.underlying9 (Oct.put_cells hB.out (by omega))
              rw [Oct.rights_length] at hcv
              go_wp2
              go_ret2
              exact ⟨ret_sn (by rw [hr.out]; rfl) (by rw [hr.out]; rfl), hbl⟩
      · by_cases hbig : 65536 ≤ n
        · have hr : Hid (Oct.put n 2 = ([], 5)) := Oct.put_long (by omega) (by omega) (Or.inr hbig)
          have d0 : decide (n < 0) = false := by simp; omega
          have d1 : (n / 65536 != 0) = true := by rw [bne_iff_ne]; omega
          go_enter Tryd.func6, Tryd.ntmps6
          go_wp2_with (go_at_call 10; refine HA.mono ?_; rintro e w' ⟨rfl, rfl⟩)
          go_ret2
          exact ⟨ret_sn (by rw [hr.out]) (by rw [hr.out]; rfl), Below.refl _ _⟩
        · have hr : Hid (Oct.put n 2 = (Oct.rights 2 (Oct.putF n.toNat), 0)) := Oct.put_ok (by omega) (by omega) h0' (by show n < 65536; omega)
          have d0 : decide (n < 0) = false := by simp; omega
          have d1 : (n / 65536 != 0) = false := by rw [bne_eq_false_iff_eq]; omega
          have hlt : n < 65536 := by omega
          clear hbig
          obtain ⟨q, rfl⟩ := Int.eq_ofNat_of_zero_le h0'
          go_enter Tryd.func6, Tryd.ntmps6
          go_wp2_with (go_at_call 10; refine HA.mono ?_; rintro e w' ⟨rfl, rfl⟩)
          go_loopw [21] (fun i wr => ∃ k : Nat, k ≤ 2 ∧ i = .int .i64 k ∧ wr.heap[w'.heap.size]? = some (.cells (Oct.cells (Oct.fill 4 2 (Oct.putF q) k)) 34 (0, 0)) ∧ Below w'.heap.size w' wr) (fun i _ => 2 - (intOf i).toNat)
          case atStart =>
            exact ⟨0, Nat.zero_le _, rfl, (MapKept.heap_alloc w' _).1.trans (by rw [Oct.fill_zero]; rfl), (Below.refl _ _).alloc (Nat.le_refl _) _⟩
          case round =>
            obtain ⟨k, hk, rfl, hb, hbl⟩ := hrel
            have hB : Hid (wr.heap[w'.heap.size]? = some (.cells (Oct.cells (Oct.fill 4 2 (Oct.putF q) k)) 34 (0, 0))) := hb
            clear hb
            have hcase : k = 0 ∨ k = 1 ∨ k = 2 := by omega
            rcases hcase with rfl | rfl | rfl
            · obtain ⟨v, hc⟩ : ∃ v, wr.cell? ⟨w'.heap.size, 1, none⟩ = some v := ⟨_, (Lib.cell_of_heap hB.out 1).trans (Oct.cells_at _ _ (by rw [Oct.fill_length]; omega))⟩
              have hf : wr.frozen? ⟨w'.heap.size, 1, none⟩ = false := Lib.frozen_of_heap hB.out _
              go_wp2
              refine ⟨⟨1, by omega, rfl, (Lib.heap_setCell_same hB.out _).trans ?_, hbl.setCell (p := ⟨w'.heap.size, 1, none⟩) (Nat.le_refl _) _⟩, by simp [intOf]⟩
              exact congrArg (fun c => some (Obj.cells c 34 (0, 0))) (Oct.put_step 4 q 2 0 (by omega) _ (by omega))
            · obtain ⟨v, hc⟩ : ∃ v, wr.cell? ⟨w'.heap.size, 0, none⟩ = some v := ⟨_, (Lib.cell_of_heap hB.out 0).trans (Oct.cells_at _ _ (by rw [Oct.fill_length]; omega))⟩
              have hf : wr.frozen? ⟨w'.heap.size, 0, none⟩ = false := Lib.frozen_of_heap hB.out _
              go_wp2
              refine ⟨⟨2, by omega, rfl, (Lib.heap_setCell_same hB.out _).trans ?_, hbl.setCell (p := ⟨w'.heap.size, 0, none⟩) (Nat.le_refl _) _⟩, by simp [intOf]⟩
              exact congrArg (fun c => some (Obj.cells c 34 (0, 0))) (Oct.put_step 4 q 2 1 (by omega) _ (by omega))
            · have hcv := run_convert_bytes_back (P := Tryd.prog) wr 28 9 5 ⟨w'.heap.size, 0, none⟩ 4 (Oct.rights 2 (Oct.putF q)) Tryd.underlying28 Tryd.underlying5 Tryd.underlying9 (Oct.put_cells hB.out (by omega))
              rw [Oct.rights_length] at hcv
              go_wp2
              go_ret2
              exact ⟨ret_sn (by rw [hr.out]; rfl) (by rw [hr.out]; rfl), hbl⟩
      · by_cases hbig : 16777216 ≤ n
        · have hr : Hid (Oct.put n 3 = ([], 5)) := Oct.put_long (by omega) (by omega) (Or.inr hbig)
          have d0 : decide (n < 0) = false := by simp; omega
          have d1 : (n / 16777216 != 0) = true := by rw [bne_iff_ne]; omega
          go_enter Tryd.func6, Tryd.ntmps6
          go_wp2_with (go_at_call 10; refine HA.mono ?_; rintro e w' ⟨rfl, rfl⟩)
          go_ret2
          exact ⟨ret_sn (by rw [hr.out]) (by rw [hr.out]; rfl), Below.refl _ _⟩
        · have hr : Hid (Oct.put n 3 = (Oct.rights 3 (Oct.putF n.toNat), 0)) := Oct.put_ok (by omega) (by omega) h0' (by show n < 16777216; omega)
          have d0 : decide (n < 0) = false := by simp; omega
          have d1 : (n / 16777216 != 0) = false := by rw [bne_eq_false_iff_eq]; omega
          have hlt : n < 16777216 := by omega
          clear hbig
          obtain ⟨q, rfl⟩ := Int.eq_ofNat_of_zero_le h0'
          go_enter Tryd.func6, Tryd.ntmps6
          go_wp2_with (go_at_call 10; refine HA.mono ?_; rintro e w' ⟨rfl, rfl⟩)
          go_loopw [21] (fun i wr => ∃ k : Nat, k ≤ 3 ∧ i = .int .i64 k ∧ wr.heap[w'.heap.size]? = some (.cells (Oct.cells (Oct.fill 4 3 (Oct.putF q) k)) 34 (0, 0)) ∧ Below w'.heap.size w' wr) (fun i _ => 3 - (intOf i).toNat)
          case atStart =>
            exact ⟨0, Nat.zero_le _, rfl, (MapKept.heap_alloc w' _).1.trans (by rw [Oct.fill_zero]; rfl), (Below.refl _ _).alloc (Nat.le_refl _) _⟩
          case round =>
            obtain ⟨k, hk, rfl, hb, hbl⟩ := hrel
            have hB : Hid (wr.heap[w'.heap.size]? = some (.cells (Oct.cells (Oct.fill 4 3 (Oct.putF q) k)) 34 (0, 0))) := hb
            clear hb
            have hcase : k = 0 ∨ k = 1 ∨ k = 2 ∨ k = 3 := by omega
            rcases hcase with rfl | rfl | rfl | rfl
            · obtain ⟨v, hc⟩ : ∃ v, wr.cell? ⟨w'.heap.size, 2, none⟩ = some v := ⟨_, (Lib.cell_of_heap hB.out 2).trans (Oct.cells_at _ _ (by rw [Oct.fill_length]; omega))⟩
              have hf : wr.frozen? ⟨w'.heap.size, 2, none⟩ = false := Lib.frozen_of_heap hB.out _
              go_wp2
              refine ⟨⟨1, by omega, rfl, (Lib.heap_setCell_same hB.out _).trans ?_, hbl.setCell (p := ⟨w'.heap.size, 2, none⟩) (Nat.le_refl _) _⟩, by simp [intOf]⟩
              exact congrArg (fun c => some (Obj.cells c 34 (0, 0))) (Oct.put_step 4 q 3 0 (by omega) _ (by omega))
            · obtain ⟨v, hc⟩ : ∃ v, wr.cell? ⟨w'.heap.size, 1, none⟩ = some v := ⟨_, (Lib.cell_of_heap hB.out 1).trans (Oct.cells_at _ _ (by rw [Oct.fill_length]; omega))⟩
              have hf : wr.frozen? ⟨w'.heap.size, 1, none⟩ = false := Lib.frozen_of_heap hB.out _
              go_wp2
              refine ⟨⟨2, by omega, rfl, (Lib.heap_setCell_same hB.out _).trans ?_, hbl.setCell (p := ⟨w'.heap.size, 1, none⟩) (Nat.le_refl _) _⟩, by simp [intOf]⟩
              exact congrArg (fun c => some (Obj.cells c 34 (0, 0))) (Oct.put_step 4 q 3 1 (by omega) _ (by omega))
            · obtain ⟨v, hc⟩ : ∃ v, wr.cell? ⟨w'.heap.size, 0, none⟩ = some v := ⟨_, (Lib.cell_of_heap hB.out 0).trans (Oct.cells_at _ _ (by rw [Oct.fill_length]; omega))⟩
              have hf : wr.frozen? ⟨w'.heap.size, 0, none⟩ = false := Lib.frozen_of_heap hB.out _
              go_wp2
              refine ⟨⟨3, by omega, rfl, (Lib.heap_setCell_same hB.out _).trans ?_, hbl.setCell (p := ⟨w'.heap.size, 0, none⟩) (Nat.le_refl _) _⟩, by simp [intOf]⟩
              exact congrArg (fun c => some (Obj.cells c 34 (0, 0))) (Oct.put_step 4 q 3 2 (by omega) _ (by omega))
            · have hcv := run_convert_bytes_back (P := Tryd.prog) wr 28 9 5 ⟨w'.heap.size, 0, none⟩ 4 (Oct.rights 3 (Oct.putF q)) Tryd.underlying28 Tryd.underlying5 Tryd.underlying9 (Oct.put_cells hB.out (by omega))
              rw [Oct.rights_length] at hcv
              go_wp2
              go_ret2
              exact ⟨ret_sn (by rw [hr.out]; rfl) (by rw [hr.out]; rfl), hbl⟩
      · by_cases hbig : 4294967296 ≤ n
        · have hr : Hid (Oct.put n 4 = ([], 5)) := Oct.put_long (by omega) (by omega) (Or.inr hbig)
          have d0 : decide (n < 0) = false := by simp; omega
          have d1 : (n / 4294967296 != 0) = true := by rw [bne_iff_ne]; omega
          go_enter Tryd.func6, Tryd.ntmps6
          go_wp2_with (go_at_call 10; refine HA.mono ?_; rintro e w' ⟨rfl, rfl⟩)
          go_ret2
          exact ⟨ret_sn (by rw [hr.out]) (by rw [hr.out]; rfl), Below.refl _ _⟩
        · have hr : Hid (Oct.put n 4 = (Oct.rights 4 (Oct.putF n.toNat), 0)) := Oct.put_ok (by omega) (by omega) h0' (by show n < 4294967296; omega)
          have d0 : decide (n < 0) = false := by simp; omega
          have d1 : (n / 4294967296 != 0) = false := by rw [bne_eq_false_iff_eq]; omega
          have hlt : n < 4294967296 := by omega
          clear hbig
          obtain ⟨q, rfl⟩ := Int.eq_ofNat_of_zero_le h0'
          go_enter Tryd.func6, Tryd.ntmps6
          go_wp2_with (go_at_call 10; refine HA.mono ?_; rintro e w' ⟨rfl, rfl⟩)
          go_loopw [21] (fun i wr => ∃ k : Nat, k ≤ 4 ∧ i = .int .i64 k ∧ wr.heap[w'.heap.size]? = some (.cells (Oct.cells (Oct.fill 4 4 (Oct.putF q) k)) 34 (0, 0)) ∧ Below w'.heap.size w' wr) (fun i _ => 4 - (intOf i).toNat)
          case atStart =>
            exact ⟨0, Nat.zero_le _, rfl, (MapKept.heap_alloc w' _).1.trans (by rw [Oct.fill_zero]; rfl), (Below.refl _ _).alloc (Nat.le_refl _) _⟩
          case round =>
            obtain ⟨k, hk, rfl, hb, hbl⟩ := hrel
            have hB : Hid (wr.heap[w'.heap.size]? = some (.cells (Oct.cells (Oct.fill 4 4 (Oct.putF q) k)) 34 (0, 0))) := hb
            clear hb
            have hcase : k = 0 ∨ k = 1 ∨ k = 2 ∨ k = 3 ∨ k = 4 := by omega
            rcases hcase with rfl | rfl | rfl | rfl | rfl
            · obtain ⟨v, hc⟩ : ∃ v, wr.cell? ⟨w'.heap.size, 3, none⟩ = some v := ⟨_, (Lib.cell_of_heap hB.out 3).trans (Oct.cells_at _ _ (by rw [Oct.fill_length]; omega))⟩
              have hf : wr.frozen? ⟨w'.heap.size, 3, none⟩ = false := Lib.frozen_of_heap hB.out _
              go_wp2
              refine ⟨⟨1, by omega, rfl, (Lib.heap_setCell_same hB.out _).trans ?_, hbl.setCell (p := ⟨w'.heap.size, 3, none⟩) (Nat.le_refl _) _⟩, by simp [intOf]⟩
              exact congrArg (fun c => some (Obj.cells c 34 (0, 0))) (Oct.put_step 4 q 4 0 (by omega) _ (by omega))
            · obtain ⟨v, hc⟩ : ∃ v, wr.cell? ⟨w'.heap.size, 2, none⟩ = some v := ⟨_, (Lib.cell_of_heap hB.out 2).trans (Oct.cells_at _ _ (by rw [Oct.fill_length]; omega))⟩
              have hf : wr.frozen? ⟨w'.heap.size, 2, none⟩ = false := Lib.frozen_of_heap hB.out _
              go_wp2
              refine ⟨⟨2, by omega, rfl, (Lib.heap_setCell_same hB.out _).trans ?_, hbl.setCell (p := ⟨w'.heap.size, 2, none⟩) (Nat.le_refl _) _⟩, by simp [intOf]⟩
              exact congrArg (fun c => some (Obj.cells c 34 (0, 0))) (Oct.put_step 4 q 4 1 (by omega) _ (by omega))
            · obtain ⟨v, hc⟩ : ∃ v, wr.cell? ⟨w'.heap.size, 1, none⟩ = some v := ⟨_, (Lib.cell_of_heap hB.out 1).trans (Oct.cells_at _ _ (by rw [Oct.fill_length]; omega))⟩
              have hf : wr.frozen? ⟨w'.heap.size, 1, none⟩ = false := Lib.frozen_of_heap hB.out _
              go_wp2
              refine ⟨⟨3, by omega, rfl, (Lib.heap_setCell_same hB.out _).trans ?_, hbl.setCell (p := ⟨w'.heap.size, 1, none⟩) (Nat.le_refl _) _⟩, by simp [intOf]⟩
              exact congrArg (fun c => some (Obj.cells c 34 (0, 0))) (Oct.put_step 4 q 4 2 (by omega) _ (by omega))
            · obtain ⟨v, hc⟩ : ∃ v, wr.cell? ⟨w'.heap.size, 0, none⟩ = some v := ⟨_, (Lib.cell_of_heap hB.out 0).trans (Oct.cells_at _ _ (by rw [Oct.fill_length]; omega))⟩
              have hf : wr.frozen? ⟨w'.heap.size, 0, none⟩ = false := Lib.frozen_of_heap hB.out _
              go_wp2
              refine ⟨⟨4, by omega, rfl, (Lib.heap_setCell_same hB.out _).trans ?_, hbl.setCell (p := ⟨w'.heap.size, 0, none⟩) (Nat.le_refl _) _⟩, by simp [intOf]⟩
              exact congrArg (fun c => some (Obj.cells c 34 (0, 0))) (Oct.put_step 4 q 4 3 (by omega) _ (by omega))
            · have hcv := run_convert_bytes_back (P := Tryd.prog) wr 28 9 5 ⟨w'.heap.size, 0, none⟩ 4 (Oct.rights 4 (Oct.putF q)) Tryd.underlying28 Tryd.underlying5 Tryd.underlying9 (Oct.put_cells hB.out (by omega))
              rw [Oct.rights_length] at hcv
              go_wp2
              go_ret2
              exact ⟨ret_sn (by rw [hr.out]; rfl) (by rw [hr.out]; rfl), hbl⟩

end Go.Proofs.YtakgmpebgaiinabDoor
