/-
  Layer 5: towards the document's Order: rows of one's own that stay; copy in a drawn region.
-/
import Derived.Test.YtgcbaflaidehnaaDoorSrt14
import Derived.Lib.SlBuf
namespace Go.Proofs.YtgcbaflaidehnaaDoor
open Go.RowKit

theorem own_keep {W W' : World} {base n : Nat} {v : Value} {xs : List Value} (h : W.ownsRow base 29 8 v n xs) (hb : Below W.heap.size W W') : W'.ownsRow base 29 8 v n xs := by
  refine ⟨h.1, ?_⟩
  rcases h.2 with h' | ⟨g, cap, cur, h1, h2, h3, h4⟩
  · exact .inl h'
  · refine .inr ⟨g, cap, cur, h1, h2, ?_, h4⟩
    have hlt : g < W.heap.size := by
      rcases Nat.lt_or_ge g W.heap.size with h' | h'
      · exact h'
      · rw [Array.getElem?_eq_none h'] at h3; cases h3
    rw [hb.block g hlt]; exact h3
theorem news8 (w : World) (x : Job.Jb) : ∀ (j : Nat) (u : Value), (cj x)[j]? = some u → (w.alloc (.cells #[.int .i64 x.g, .int .i64 x.n, .int .i64 x.k, .string x.u, .string x.f, .string x.t, .string x.c, .int .i64 x.z] 29)).cell? ((⟨w.heap.size, 0, none⟩ : Addr).add j) = some u := by
  intro j u hj
  match j, hj with
  | 0, hj => simp [cj] at hj; subst hj; simp [Addr.add]
  | 1, hj => simp [cj] at hj; subst hj; simp [Addr.add]
  | 2, hj => simp [cj] at hj; subst hj; simp [Addr.add]
  | 3, hj => simp [cj] at hj; subst hj; simp [Addr.add]
  | 4, hj => simp [cj] at hj; subst hj; simp [Addr.add]
  | 5, hj => simp [cj] at hj; subst hj; simp [Addr.add]
  | 6, hj => simp [cj] at hj; subst hj; simp [Addr.add]
  | 7, hj => simp [cj] at hj; subst hj; simp [Addr.add]
  | j + 8, hj => simp [cj] at hj
theorem step_copy {P : Program} {ops : Array Oper} {o : Oper} {a : Act} {w : World} {K : Act → World → Prop} {Q : Exit → Act → World → Prop} {E : Prop}
    (hg : o.guard = none) (d s : Operand) (t t' : TypeId) (ho : o.op = .call { callee := .builtin .copy, args := #[d, s], argTypes := #[t, t'] }) (v u : Value) (hd : a.eval d = v) (hs : a.eval s = u) {v' : Value} {w' : World}
    (hr : (Builtin.copy_ #[t, t'] o.type #[v, u]).run P w = .ok v' w') (h : K (a.put o.dst v') w') :
    if Region.wanted o (yielded ops a.tmps) = true then Oper.wp P o a w K Q else E := by
  have hw : Region.wanted o (yielded ops a.tmps) = true := by simp [Region.wanted, hg]
  rw [if_pos hw]
  exact Lib.wp_copy_run w d s t t' ho v u hd hs hr h
set_option maxRecDepth 100000 in
/-- the job that was laid behind goes to its place: what copy leaves, and the store -/
theorem copy_row {g : Nat} {rest : List Value} {w0 W : World} {S : List Job.Jb} {x : Job.Jb} (h : SW g rest w0 (S ++ [x]) W) (hB : w0.heap.size ≤ g) (k : Nat) (hk : k ≤ S.length) (ty : TypeId) (dCap sCap : Nat) :
    ∃ W', (Builtin.copy_ #[22, 22] ty #[.slice (some ⟨g, (k + 1) * 8, none⟩) (S.length - k) dCap, .slice (some ⟨g, k * 8, none⟩) (S.length + 1 - k) sCap]).run Tryd.prog W = .ok (goInt ((S.length - k : Nat) : Int)) W' ∧
      SW g rest w0 ((S ++ [x]).take (k + 1) ++ S.drop k) W' := by
  obtain ⟨i0, hi, hz0, hz1, hz2⟩ := infoJob'
  have hlen : (flat (S.drop k)).length = Nat.min (S.length + 1 - k) (S.length - k) * 8 := by
    rw [flat_length, List.length_drop, show Nat.min (S.length + 1 - k) (S.length - k) = S.length - k from Nat.min_eq_right (by omega)]
  have hfl : flat (S ++ [x]) ++ rest = flat (S.take k) ++ (flat (S.drop k) ++ (cj x ++ rest)) := by
    have e : flat S = flat (S.take k) ++ flat (S.drop k) := by rw [← flat_append, List.take_append_drop]
    rw [flat_append, e, flat_cons, flat_nil, List.append_nil]
    simp only [List.append_assoc]
  have hmk : min k S.length = k := by omega
  have htk : (flat (S.take k)).length = k * 8 := by rw [flat_length, List.length_take, hmk]
  have hSx : (S ++ [x]).length = S.length + 1 := by simp
  have hsz : (flat (S ++ [x]) ++ rest).length = (S.length + 1) * 8 + rest.length := by rw [List.length_append, flat_length, hSx]
  have hr := run_copy8 W 22 22 ty 29 g ((k + 1) * 8) (S.length - k) dCap ⟨g, k * 8, none⟩ (S.length + 1 - k) sCap (flat (S ++ [x]) ++ rest).toArray 29 (flat (S.drop k)) Tryd.underlying22 (by rw [hi]; simp [hz1]) h.blk hlen
    (fun j v hv => by
      have hj : j < (flat (S.drop k)).length := by
        rcases Nat.lt_or_ge j (flat (S.drop k)).length with h' | h'
        · exact h'
        · rw [List.getElem?_eq_none h'] at hv; cases hv
      have e : W.cell? ⟨g, k * 8 + j, none⟩ = some v := by
        rw [h.cell, hfl, List.getElem?_append_right (by omega), htk, Nat.add_sub_cancel_left, List.getElem?_append_left hj]; exact hv
      cases j <;> simpa [Addr.add] using e)
    (by rw [List.size_toArray, hsz, flat_length, List.length_drop]; omega) (flat_one _)
  rw [show Nat.min (S.length + 1 - k) (S.length - k) = S.length - k from Nat.min_eq_right (by omega)] at hr
  refine ⟨_, hr, ?_, ?_⟩
  · rw [setRow_heap W g _ _ _ _ h.blk]
    refine congrArg (fun x => some (Obj.cells x 29 (0, 0))) (congrArg List.toArray ?_)
    have e1 : ((flat (S ++ [x]) ++ rest).toArray.toList).take ((k + 1) * 8) = flat ((S ++ [x]).take (k + 1)) := by
      have hmin : min (k + 1) (S ++ [x]).length = k + 1 := by rw [hSx]; omega
      have h1 : (flat ((S ++ [x]).take (k + 1))).length = (k + 1) * 8 := by rw [flat_length, List.length_take, hmin]
      show (flat (S ++ [x]) ++ rest).take ((k + 1) * 8) = _
      conv => lhs; rw [← List.take_append_drop (k + 1) (S ++ [x]), flat_append, List.append_assoc]
      rw [List.take_append_of_le_length (by omega), List.take_of_length_le (by omega)]
    have e2 : ((flat (S ++ [x]) ++ rest).toArray.toList).drop ((k + 1) * 8 + (flat (S.drop k)).length) = rest := by
      show (flat (S ++ [x]) ++ rest).drop _ = _
      have : (k + 1) * 8 + (flat (S.drop k)).length = (flat (S ++ [x])).length := by rw [flat_length, flat_length, List.length_drop, hSx]; omega
      rw [this, List.drop_left]
    rw [e1, e2, flat_append, List.append_assoc]
  · refine ⟨h.bel.1, h.bel.2, h.bel.3, ?_, fun i hi => ?_⟩
    · have := h.bel.size; simpa using this
    · rw [← h.bel.block i hi]
      unfold World.setRow
      rw [Array.getElem?_modify, if_neg (by omega)]
end Go.Proofs.YtgcbaflaidehnaaDoor
