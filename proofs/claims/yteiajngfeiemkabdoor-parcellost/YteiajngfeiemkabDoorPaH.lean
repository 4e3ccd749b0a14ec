/-
  Walks of layer 13's statements: ParcelWhole.
-/
import Derived.Test.YteiajngfeiemkabDoorPaE
import Derived.Test.YteiajngfeiemkabDoorPa9
namespace Go.Proofs.YteiajngfeiemkabDoor
open Go.RowKit
namespace Pa
/-- The size that the statement takes. -/
theorem sized (z : Int) : ∃ U m Z : Nat, IntKind.u64.wrap z = (U : Int) ∧ (U : Int) % 4096 = (m : Int) ∧ (U : Int).tmod 4096 = (m : Int) ∧ IntKind.i64.wrap (m : Int) = (m : Int) ∧ wrap64 (m : Int) = (m : Int) ∧ IntKind.i64.wrap (1 + (m : Int)) = (Z : Int) ∧ wrap64 (1 + (m : Int)) = (Z : Int) ∧ 1 ≤ Z ∧ Z ≤ 4096 := by
  obtain ⟨U, hU⟩ : ∃ U : Nat, IntKind.u64.wrap z = (U : Int) := ⟨(IntKind.u64.wrap z).toNat, by rw [IntKind.wrap_u64]; omega⟩
  refine ⟨U, U % 4096, 1 + U % 4096, hU, by omega, ?_, ?_, ?_, ?_, ?_, by omega, by omega⟩
  · rw [Int.tmod_eq_emod_of_nonneg (by omega)]; omega
  · rw [IntKind.wrap_i64]; omega
  · unfold wrap64; omega
  · rw [IntKind.wrap_i64]; omega
  · unfold wrap64; omega
theorem times (Z : Nat) (h : Z ≤ 4096) : ∃ T : Nat, IntKind.i64.wrap (300 * (Z : Int)) = (T : Int) ∧ wrap64 (300 * (Z : Int)) = (T : Int) := by
  refine ⟨300 * Z, ?_, ?_⟩
  · rw [IntKind.wrap_i64]; omega
  · unfold wrap64; omega
/-- A piece that is not the end is neither long nor empty. -/
theorem piece {z : Nat} (hz : 0 < z) {l : List UInt8} {i : Nat} (hi : i < (file z l).length) (hl : i + 1 < (file z l).length) : (file z l)[i].data.length ≤ z ∧ 0 < (file z l)[i].data.length := by
  have hc : i < ((cut z l).map D).length := by
    have : (file z l).length = ((cut z l).map D).length + 1 := by unfold file; simp
    omega
  have e : (file z l)[i] = ((cut z l).map D)[i] := List.getElem_append_left hc
  rw [e, List.getElem_map]
  have h := cut_mem hz (List.getElem_mem (show i < (cut z l).length by simpa using hc))
  refine ⟨h.1, ?_⟩
  rcases Nat.eq_zero_or_pos ((cut z l)[i]'(by simpa using hc)).length with h0 | h0
  · exact absurd (List.eq_nil_of_length_eq_zero h0) h.2
  · exact h0
theorem file_ok {z : Nat} (hz : 0 < z) (hz2 : z ≤ 4096) {l : List UInt8} : ∀ p ∈ file z l, p.data.length ≤ 9000 := by
  intro p hp
  unfold file at hp
  rw [List.mem_append, List.mem_map, List.mem_singleton] at hp
  rcases hp with ⟨x, hx, rfl⟩ | rfl
  · have := (cut_mem hz hx).1
    show x.length ≤ 9000
    omega
  · have := sum_len l
    show (sum l).length ≤ 9000
    omega
theorem file_few {z : Nat} (hz : 0 < z) {l : List UInt8} (hl : l.length ≤ 6000) : (file z l).length ≤ 10000 := by
  rw [file_len]
  have h3 := (cnt_le (z := z) (n := l.length) hz).2
  rcases Nat.lt_or_ge 6000 (cnt z l.length) with c | c
  · have : 6001 * z ≤ cnt z l.length * z := Nat.mul_le_mul_right _ c
    omega
  · omega
theorem cutR_ok {z : Nat} (hz : 1 ≤ z) (hz2 : z ≤ 4096) {l : List UInt8} (hl : l.length ≤ 6000) : cutR l (z : Int) = (file z l, 0) := by
  unfold cutR; rw [if_neg (by omega), if_neg (by omega), Int.toNat_natCast]
theorem decs {i n1 : Nat} : (i < n1 → decide ((i : Int) < (n1 : Int)) = true ∧ decide (i < n1) = true) ∧ (¬ i < n1 → decide ((i : Int) < (n1 : Int)) = false ∧ decide (i < n1) = false) :=
  ⟨fun h => ⟨by simp; omega, by simp; omega⟩, fun h => ⟨by simp; omega, by simp; omega⟩⟩
theorem not_less {a b c : Nat} (h : c ≤ b) (e : a = c) : decide ((b : Int) < (a : Int)) = false ∧ decide (b < a) = false := ⟨by simp; omega, by simp; omega⟩
end Pa
theorem awakeF' (w : World) (htab : Lib.TabIs Tryd.prog w "internal/strconv.uint64pow10" .u64 Lib.pow10Tab) : Hid (∀ W, Below w.heap.size w W → Calls Tryd.prog 4 #[] W fun e w' => e = .returned (.bool true) ∧ Below w.heap.size w w') :=
  fun W hW => (pawake_any W (tab_below htab hW)).mono fun _ _ ⟨a, b⟩ => ⟨a, Rg.chain hW b⟩
end Go.Proofs.YteiajngfeiemkabDoor
