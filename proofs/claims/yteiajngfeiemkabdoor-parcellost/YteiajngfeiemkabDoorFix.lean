/-
  Walks of layer 1: octet.Fixed, the document's Fixed.
-/
import Derived.Test.YteiajngfeiemkabDoorTxt
import Derived.Test.YteiajngfeiemkabDoorPut
import Derived.Test.YteiajngfeiemkabDoorMathD
namespace Go.Proofs.YteiajngfeiemkabDoor
open Go.RowKit
namespace Oct
def digF (n : Nat) (j : Nat) : UInt8 := UInt8.ofNat (48 + n / 10 ^ j % 10)
/-- P1.4: what Fixed writes, and the error's number. -/
def fixed (n width : Int) : List UInt8 × Nat :=
  if width < 1 ∨ 20 < width ∨ n < 0 then ([], 1) else if (10 : Int) ^ width.toNat ≤ n then ([], 5) else (rights width.toNat (digF n.toNat), 0)
theorem fixed_arg {n width : Int} (h : width < 1 ∨ 20 < width ∨ n < 0) : fixed n width = ([], 1) := by unfold fixed; rw [if_pos h]
theorem fixed_long {n width : Nat} (h1 : 1 ≤ width) (h4 : width ≤ 20) (h : 10 ^ width ≤ n) : fixed (n : Int) (width : Int) = ([], 5) := by
  unfold fixed; rw [if_neg (by omega), Int.toNat_natCast, if_pos (by exact_mod_cast h)]
theorem fixed_ok {n width : Nat} (h1 : 1 ≤ width) (h4 : width ≤ 20) (h : n < 10 ^ width) : fixed (n : Int) (width : Int) = (rights width (digF n), 0) := by
  unfold fixed; rw [if_neg (by omega), Int.toNat_natCast, Int.toNat_natCast, if_neg (by have : (n : Int) < 10 ^ width := by exact_mod_cast h
                                                                                        omega)]
theorem fix_step (N q size k : Nat) (hk : k < size) (x : Int) (hx : x = ((48 + q / 10 ^ k % 10 : Nat) : Int)) :
    (cells (fill N size (digF q) k)).setIfInBounds (size - 1 - k) (.int .u8 x) = cells (fill N size (digF q) (k + 1)) := by
  have e : (Value.int .u8 x) = bv (digF q k) := by
    unfold bv digF; rw [hx, UInt8.toNat_ofNat']
    have : 48 + q / 10 ^ k % 10 < 2 ^ 8 := by omega
    rw [Nat.mod_eq_of_lt this]
  rw [e, cells_set, fill_set N size _ k hk]
theorem div_step (q k : Nat) : q / 10 ^ k / 10 = q / 10 ^ (k + 1) := by rw [Nat.div_div_eq_div_mul, Nat.pow_succ]
end Oct

theorem slice20 (wr : World) (b k : Nat) (hk : k ≤ 20) :
    (Instr.sliceAt 58 (.pointer (some ⟨b, 0, none⟩)) none (some (.int .i64 (k : Int))) none).run Tryd.prog wr = .ok (.slice (some ⟨b, 0, none⟩) k 20) wr := by
  have hal : Tryd.prog.arrayLen 58 = 20 := by kernel_rfl
  have hel : Tryd.prog.elem 58 = 5 := by kernel_rfl
  rw [run_sliceAt_array_h wr 58 ⟨b, 0, none⟩ (by kernel_rfl) .i64 (k : Int) (by omega) (by rw [hal]; omega), hel, Tryd.sizeOf5 wr, hal]
  simp [Result.andThen, slicedAt, Addr.add]

set_option maxHeartbeats 400000 in
theorem fixed_any (n width : Int) (w : World) (hn0 : -9223372036854775808 ≤ n) (hn1 : n ≤ 9223372036854775807) :
    Calls Tryd.prog 17 #[.int .i64 n, .int .i64 width] w fun e w' => e = .returned (.tuple #[.string ⟨(Oct.fixed n width).1.toArray⟩, .int .i64 (Oct.fixed n width).2]) ∧ Below w.heap.size w w' := by
  by_cases h1 : width < 1
  · have hr : Hid (Oct.fixed n width = ([], 1)) := Oct.fixed_arg (by omega)
    go_enter Tryd.func17, Tryd.ntmps17
    go_wp2
    go_ret2
    exact ⟨ret_sn (by rw [hr.out]) (by rw [hr.out]; rfl), Below.refl _ _⟩
  by_cases h4 : 20 < width
  · have hr : Hid (Oct.fixed n width = ([], 1)) := Oct.fixed_arg (by omega)
    have h1' : 1 ≤ width := by omega
    clear h1
    go_enter Tryd.func17, Tryd.ntmps17
    go_wp2
    go_ret2
    exact ⟨ret_sn (by rw [hr.out]) (by rw [hr.out]; rfl), Below.refl _ _⟩
  by_cases h0 : n < 0
  · have hr : Hid (Oct.fixed n width = ([], 1)) := Oct.fixed_arg (by omega)
    have h1' : 1 ≤ width := by omega
    have h4' : width ≤ 20 := by omega
    clear h1 h4
    go_enter Tryd.func17, Tryd.ntmps17
    go_wp2
    go_ret2
    exact ⟨ret_sn (by rw [hr.out]) (by rw [hr.out]; rfl), Below.refl _ _⟩
  · obtain ⟨q, rfl⟩ := Int.eq_ofNat_of_zero_le (show 0 ≤ n by omega)
    obtain ⟨m, rfl⟩ := Int.eq_ofNat_of_zero_le (show 0 ≤ width by omega)
    have hm1 : 1 ≤ m := by omega
    have hm20 : m ≤ 20 := by omega
    have d1 : decide ((m : Int) < 1) = false := by simp; omega
    have d2 : decide (20 < (m : Int)) = false := by simp; omega
    have d3 : decide ((q : Int) < 0) = false := by simp
    clear h1 h4 h0
    go_enter Tryd.func17, Tryd.ntmps17
    go_wp2
    go_loopw [7, 21] (fun r i wr => ∃ k : Nat, k ≤ m ∧ i = .int .i64 k ∧ r = .int .i64 ((q / 10 ^ k : Nat) : Int) ∧ wr.heap[w.heap.size]? = some (.cells (Oct.cells (Oct.fill 20 m (Oct.digF q) k)) 58 (0, 0)) ∧ Below w.heap.size w wr) (fun _ i _ => m - (intOf i).toNat)
    case atStart =>
      exact ⟨0, Nat.zero_le _, rfl, by simp, (MapKept.heap_alloc w _).1.trans (by rw [Oct.fill_zero]; rfl), (Below.refl _ _).alloc (Nat.le_refl _) _⟩
    case round =>
      obtain ⟨k, hk, rfl, rfl, hb, hbl⟩ := hrel
      have hB : Hid (wr.heap[w.heap.size]? = some (.cells (Oct.cells (Oct.fill 20 m (Oct.digF q) k)) 58 (0, 0))) := hb
      clear hb
      have hle : q / 10 ^ k ≤ q := Nat.div_le_self _ _
      have hds : Hid (q / 10 ^ (k + 1) = q / 10 ^ k / 10) := (Oct.div_step q k).symm
      generalize hr : q / 10 ^ k = r at *
      have hR : Hid (q / 10 ^ k = r) := hr
      clear hr
      by_cases hk1 : k < m
      · have hi : (m : Int) - 1 - (k : Int) = ((m - 1 - k : Nat) : Int) := by omega
        obtain ⟨v, hc⟩ : ∃ v, wr.cell? ⟨w.heap.size, m - 1 - k, none⟩ = some v := ⟨_, (Lib.cell_of_heap hB.out (m - 1 - k)).trans (Oct.cells_at _ _ (by rw [Oct.fill_length]; omega))⟩
        have hf : wr.frozen? ⟨w.heap.size, m - 1 - k, none⟩ = false := Lib.frozen_of_heap hB.out _
        go_wp2
        refine ⟨⟨k + 1, by omega, by go_num, ?_, (Lib.heap_setCell_same hB.out _).trans ?_, hbl.setCell (p := ⟨w.heap.size, m - 1 - k, none⟩) (Nat.le_refl _) _⟩, by simp [intOf]; omega⟩
        · rw [hds.out]; rfl
        · exact congrArg (fun c => some (Obj.cells c 58 (0, 0))) (Oct.fix_step 20 q m k hk1 _ (by rw [hR.out]; omega))
      · obtain rfl : k = m := by omega
        by_cases hz : r = 0
        · have hlt : q < 10 ^ k := by
            have h1 := hR.out; rw [hz] at h1
            exact (Nat.div_eq_zero_iff_lt (Nat.pow_pos (by omega))).1 h1
          have hr : Hid (Oct.fixed (q : Int) (k : Int) = (Oct.rights k (Oct.digF q), 0)) := Oct.fixed_ok hm1 hm20 hlt
          have dz : ((r : Int) != 0) = false := by rw [bne_eq_false_iff_eq]; omega
          have hcv := run_convert_bytes_back (P := Tryd.prog) wr 39 9 5 ⟨w.heap.size, 0, none⟩ 20 (Oct.rights k (Oct.digF q)) Tryd.underlying39 Tryd.underlying5 Tryd.underlying9 (Oct.put_cells hB.out (by omega))
          rw [Oct.rights_length] at hcv
          have hsl := slice20 wr w.heap.size k hm20
          clear hlt hz
          go_wp2
          go_ret2
          exact ⟨ret_sn (by rw [hr.out]) (by rw [hr.out]; rfl), hbl⟩
        · have hge : 10 ^ k ≤ q := by
            rcases Nat.lt_or_ge q (10 ^ k) with h | h
            · have h1 := hR.out; rw [Nat.div_eq_of_lt h] at h1; omega
            · exact h
          have hr : Hid (Oct.fixed (q : Int) (k : Int) = ([], 5)) := Oct.fixed_long hm1 hm20 hge
          have dz : ((r : Int) != 0) = true := by rw [bne_iff_ne]; omega
          clear hge hz
          go_wp2
          go_ret2
          exact ⟨ret_sn (by rw [hr.out]) (by rw [hr.out]; rfl), hbl⟩

namespace Oct
/-- The digits of n with noughts ahead. -/
theorem rights_digits (n width : Nat) (h : Lib.nDigits n ≤ width) : rights width (digF n) = List.replicate (width - Lib.nDigits n) 48 ++ Lib.decDigits n := by
  rw [Lib.decDigits_eq]
  apply List.ext_getElem
  · simp [rights]; omega
  · intro i h1 h2
    have hw : i < width := by simpa [rights] using h1
    simp only [rights, List.getElem_map, List.getElem_range, List.getElem_append, List.length_replicate, List.getElem_replicate]
    split
    · rename_i hi
      have hz : n / 10 ^ (width - 1 - i) = 0 := by
        apply Nat.div_eq_of_lt
        exact Nat.lt_of_lt_of_le (Lib.lt_pow_nDigits n) (Nat.pow_le_pow_right (by omega) (by omega))
      unfold digF; rw [hz]; rfl
    · rename_i hi
      unfold digF Lib.dg
      rw [show width - 1 - i = Lib.nDigits n - 1 - (i - (width - Lib.nDigits n)) by omega]
end Oct

def strLen : Value → Nat | .string b => b.size | _ => 0

end Go.Proofs.YteiajngfeiemkabDoor
