/-
  append of one element to a row of one's own, with what lies behind it; rows that stay.
-/
import Derived.Test.YtnglfefgcdbgmaaRowH
namespace Go.Proofs.Ytnglfefgcdbgmaa
namespace Rg
open Go.RowKit

theorem zero_mem {z : Array Value} {n : Nat} {u : Value} (h : u ∈ (Builtin.zeroCells z n).toList) : u ∈ z.toList := by
  unfold Builtin.zeroCells at h
  simp only [Array.toList_map, List.mem_map] at h
  obtain ⟨i, hi, rfl⟩ := h
  have hlt : i < n * z.size := by simpa using hi
  have hz : 0 < z.size := by
    rcases Nat.eq_zero_or_pos z.size with e | e
    · rw [e] at hlt; simp at hlt
    · exact e
  have hm : i % z.size < z.size := Nat.mod_lt _ hz
  rw [getElem!_pos z (i % z.size) hm]
  exact Array.mem_toList_iff.2 (Array.getElem_mem hm)

section
variable {α : Type} {E : El α} {P : Program}
theorem El.Own.append2 {base g cap : Nat} {W : World} {l : List α} {rest : List Value} (h : E.Own base W g cap l rest) (x : α) (t ty : TypeId) (i : TypeInfo) (z : Value) (bytes : Nat)
    (ht : P.underlying t = some (.slice E.ty)) (hi : P.info? E.ty = some i) (hz : i.zero = some z) (hsize : i.size = E.m) (hby : i.bytes = bytes) (hzs : z.cells.size = E.m)
    (a : Addr) (c : Nat) (hnews : ∀ j u, (E.enc x)[j]? = some u → W.cell? (a.add j) = some u) (hB : base ≤ W.heap.size) (hbig : (l.length + 1) * bytes ≤ 140737488355328) (hmax : l.length + 1 ≤ maxLen)
    (Q : Value → Prop) (hQ : ∀ u ∈ rest, Q u) (hQz : ∀ u ∈ z.cells.toList, Q u) :
    ∃ g' cap' rest' W', (Builtin.append_ #[t, t] ty #[.slice (Option.some ⟨g, 0, none⟩) l.length cap, .slice (Option.some a) 1 c]).run P W = .ok (.slice (Option.some ⟨g', 0, none⟩) (l.length + 1) cap') W' ∧
      E.Own base W' g' cap' (l ++ [x]) rest' ∧ (∀ u ∈ rest', Q u) ∧ Below base W W' ∧ (∀ k, k < W.heap.size → k ≠ g → W'.heap[k]? = W.heap[k]?) ∧ (g' = g ∨ W.heap.size ≤ g') := by
  have hnl : (E.enc x).length = 1 * E.m := by rw [E.hm, Nat.one_mul]
  by_cases hr : l.length + 1 ≤ cap
  · have hf := h.fit
    have hfit : l.length * i.size + (E.enc x).length ≤ (E.flat l ++ rest).toArray.size := by
      rw [hsize, hnl, ← Nat.add_mul, List.size_toArray]
      exact Nat.le_trans (Nat.mul_le_mul_right _ hr) hf
    have hrun := run_append_room (P := P) W t ty E.ty i ht hi g l.length cap _ h.blk a 1 c (E.enc x) (by rw [hsize]; exact hnl) hnews (E.one x) hr hfit
    have e : ((E.flat l ++ rest).toArray.toList.take (l.length * i.size) ++ E.enc x ++ (E.flat l ++ rest).toArray.toList.drop (l.length * i.size + (E.enc x).length)) = E.flat (l ++ [x]) ++ rest.drop E.m := by
      rw [hsize, E.hm, ← El.flat_length E l, El.flat_append, El.flat_one]
      show (E.flat l ++ rest).take _ ++ _ ++ (E.flat l ++ rest).drop _ = _
      rw [List.take_left, ← List.drop_drop, List.drop_left]
    rw [e] at hrun
    refine ⟨g, cap, rest.drop E.m, _, hrun, ⟨setRow_heap W g _ _ _ _ h.blk, h.new, by simpa using hr, h.max, ?_⟩, fun u hu => hQ u (List.mem_of_mem_drop hu), (Only.setRow W g _).bel h.new, fun k _ hk => setRow_other W g k _ hk, .inl rfl⟩
    have hrl : E.m ≤ rest.length := by
      rw [List.size_toArray, List.length_append, El.flat_length, hsize, E.hm] at hfit; omega
    have h2 := h.fit
    rw [List.length_append, El.flat_length] at h2
    rw [List.length_append, El.flat_length, List.length_drop, List.length_append, List.length_singleton, Nat.add_mul, Nat.one_mul]; omega
  · have hrun := run_append_grow (P := P) W t ty E.ty i z ht hi hz ⟨g, 0, none⟩ l.length cap (E.flat l) (by rw [hsize]; exact El.flat_length E l) h.row.add a 1 c (E.enc x) (by rw [hsize]; exact hnl) hnews (by omega) (by unfold maxLen at hmax; omega) (growslice_fits (by omega) (by rw [hby]; exact hbig))
    have hge := grownCap_ge W (l.length + 1) cap E.ty
    have hcm : grownCap W (l.length + 1) cap E.ty ≤ maxLen := grownCap_le_maxLen W (l.length + 1) cap E.ty hmax
    refine ⟨W.heap.size, _, (Builtin.zeroCells z.cells (grownCap W (l.length + 1) cap E.ty - (l.length + 1))).toList, _, hrun, ⟨?_, hB, by simpa using hge, hcm, ?_⟩, fun u hu => hQz u (zero_mem hu), ⟨rfl, rfl, rfl, by simp, fun k hk => Below.heap_alloc W.drew _ k (by show k < W.heap.size; omega)⟩, fun k hk _ => Below.heap_alloc W.drew _ k hk, .inr (Nat.le_refl _)⟩
    · rw [show W.heap.size = W.drew.heap.size from rfl, heap_alloc_new]
      refine congrArg (fun x => some (Obj.cells x E.ty (0, 0))) ?_
      apply Array.ext'
      rw [El.flat_append, El.flat_one]
      simp
    · have hzl : ∀ n, (Builtin.zeroCells z.cells n).toList.length = n * E.m := fun n => by rw [Array.length_toList, size_zeroCells, hzs]
      rw [List.length_append, El.flat_length, hzl, List.length_append, List.length_singleton, ← Nat.add_mul]
      exact Nat.mul_le_mul_right _ (by omega)
/-- a row stays where a block that has none of its cells turns, and others come -/
theorem El.Row.turned {W W' : World} {a : Option Addr} {l : List α} {R : Nat} {C : List Value} {ty : TypeId} (h : E.Row W a l) (k : Bk R C ty W) (t : Nat) (ht : t < E.m) (hC : ∀ x : α, ∀ u ∈ C, (E.enc x)[t]? ≠ Option.some u) (hs : W.heap.size ≤ W'.heap.size) (ho : ∀ j, j < W.heap.size → j ≠ R → W'.heap[j]? = W.heap[j]?) : E.Row W' a l := by
  rcases h with h | ⟨b, o, rfl, hb, hat⟩
  · exact .inl h
  · refine .inr ⟨b, o, rfl, Nat.lt_of_lt_of_le hb hs, ?_⟩
    by_cases e : b = R
    · subst e
      match l, hat with
      | [], _ => exact At.nil
      | x :: l, hat =>
        exfalso
        rw [El.flat_cons] at hat
        have hx : (E.enc x)[t]? = Option.some ((E.enc x)[t]'(by rw [E.hm]; exact ht)) := List.getElem?_eq_getElem _
        have := hat.left t _ hx
        rw [k.cell] at this
        exact hC x _ (List.mem_of_getElem? this) hx
    · exact hat.same (ho b hb e)
end
end Rg
end Go.Proofs.Ytnglfefgcdbgmaa
