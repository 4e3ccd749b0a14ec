/-
  append of a row to a row of one's own.
-/
import Derived.Test.YtnglfefgcdbgmaaRowI
namespace Go.Proofs.Ytnglfefgcdbgmaa
namespace Rg
open Go.RowKit

section
variable {α : Type} {E : El α} {P : Program}
theorem El.Own.appendRow {base g cap : Nat} {W : World} {l : List α} {rest : List Value} (h : E.Own base W g cap l rest) (l2 : List α) (t ty : TypeId) (i : TypeInfo) (z : Value) (bytes : Nat)
    (ht : P.underlying t = some (.slice E.ty)) (hi : P.info? E.ty = some i) (hz : i.zero = some z) (hsize : i.size = E.m) (hby : i.bytes = bytes) (hzs : z.cells.size = E.m)
    (a : Option Addr) (c : Nat) (hrow : E.Row W a l2) (hB : base ≤ W.heap.size) (hbig : (l.length + l2.length) * bytes ≤ 140737488355328) (hmax : l.length + l2.length ≤ maxLen) :
    ∃ g' cap' rest' W', (Builtin.append_ #[t, t] ty #[.slice (Option.some ⟨g, 0, none⟩) l.length cap, .slice a l2.length c]).run P W = .ok (.slice (Option.some ⟨g', 0, none⟩) (l.length + l2.length) cap') W' ∧
      E.Own base W' g' cap' (l ++ l2) rest' ∧ Below base W W' ∧ (∀ k, k < W.heap.size → k ≠ g → W'.heap[k]? = W.heap[k]?) ∧ (g' = g ∨ W.heap.size ≤ g') := by
  rcases hrow with ⟨rfl, rfl⟩ | ⟨b, o, rfl, hb, hat⟩
  · refine ⟨g, cap, rest, W, ?_, by rw [List.append_nil]; exact h, Below.refl _ _, fun _ _ _ => rfl, .inl rfl⟩
    simp [Builtin.append_, run_underlying ht, sizeOf, typeInfo, hi, Builtin.lenOf, Builtin.firstCells, storeCells, h.le]
  have hnl : (E.flat l2).length = l2.length * E.m := El.flat_length E l2
  by_cases hr : l.length + l2.length ≤ cap
  · have hf := h.fit
    have hfit : l.length * i.size + (E.flat l2).length ≤ (E.flat l ++ rest).toArray.size := by
      rw [hsize, hnl, ← Nat.add_mul, List.size_toArray]
      exact Nat.le_trans (Nat.mul_le_mul_right _ hr) hf
    have hrun := run_append_room (P := P) W t ty E.ty i ht hi g l.length cap _ h.blk ⟨b, o, none⟩ l2.length c (E.flat l2) (by rw [hsize]; exact hnl) hat.add (E.flat_cells l2) hr hfit
    have e : ((E.flat l ++ rest).toArray.toList.take (l.length * i.size) ++ E.flat l2 ++ (E.flat l ++ rest).toArray.toList.drop (l.length * i.size + (E.flat l2).length)) = E.flat (l ++ l2) ++ rest.drop (E.flat l2).length := by
      rw [hsize, ← El.flat_length E l, El.flat_append]
      show (E.flat l ++ rest).take _ ++ _ ++ (E.flat l ++ rest).drop _ = _
      rw [List.take_left, ← List.drop_drop, List.drop_left]
    rw [e] at hrun
    refine ⟨g, cap, rest.drop (E.flat l2).length, _, hrun, ⟨setRow_heap W g _ _ _ _ h.blk, h.new, by simpa using hr, h.max, ?_⟩, (Only.setRow W g _).bel h.new, fun k _ hk => setRow_other W g k _ hk, .inl rfl⟩
    have hrl : (E.flat l2).length ≤ rest.length := by
      rw [List.size_toArray, List.length_append, El.flat_length E l, hsize] at hfit; omega
    have h2 := h.fit
    rw [List.length_append] at h2
    rw [List.length_append, El.flat_append, List.length_append, List.length_drop]; omega
  · have hrun := run_append_grow (P := P) W t ty E.ty i z ht hi hz ⟨g, 0, none⟩ l.length cap (E.flat l) (by rw [hsize]; exact El.flat_length E l) h.row.add ⟨b, o, none⟩ l2.length c (E.flat l2) (by rw [hsize]; exact hnl) hat.add (by omega) (by unfold maxLen at hmax; omega) (growslice_fits (by omega) (by rw [hby]; exact hbig))
    have hge := grownCap_ge W (l.length + l2.length) cap E.ty
    have hcm : grownCap W (l.length + l2.length) cap E.ty ≤ maxLen := grownCap_le_maxLen W (l.length + l2.length) cap E.ty hmax
    refine ⟨W.heap.size, _, (Builtin.zeroCells z.cells (grownCap W (l.length + l2.length) cap E.ty - (l.length + l2.length))).toList, _, hrun, ⟨?_, hB, by simpa using hge, hcm, ?_⟩, ⟨rfl, rfl, rfl, by simp, fun k hk => Below.heap_alloc W.drew _ k (by show k < W.heap.size; omega)⟩, fun k hk _ => Below.heap_alloc W.drew _ k hk, .inr (Nat.le_refl _)⟩
    · rw [show W.heap.size = W.drew.heap.size from rfl, heap_alloc_new]
      refine congrArg (fun x => some (Obj.cells x E.ty (0, 0))) ?_
      apply Array.ext'
      rw [El.flat_append]
      simp
    · have hzl : ∀ n, (Builtin.zeroCells z.cells n).toList.length = n * E.m := fun n => by rw [Array.length_toList, size_zeroCells, hzs]
      rw [List.length_append, El.flat_length, hzl, List.length_append, ← Nat.add_mul]
      exact Nat.mul_le_mul_right _ (by omega)
end
end Rg
end Go.Proofs.Ytnglfefgcdbgmaa
