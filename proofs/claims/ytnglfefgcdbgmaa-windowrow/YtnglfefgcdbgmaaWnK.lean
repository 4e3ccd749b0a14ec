/-
  Layer 14: rows of calls in memory: those that are handed in, and those that wait, of one's own, from whatever place of their block on.
-/
import Derived.Test.YtnglfefgcdbgmaaWn9
namespace Go.Proofs.Ytnglfefgcdbgmaa
open Go.RowKit
namespace Wn
/-- A call of a statement. -/
structure Op where
  k : Int
  n : Int
  s : ByteArray
end Wn
def opE : Rg.El Wn.Op := { enc := fun x => [.int .i64 x.k, .int .i64 x.n, .string x.s], m := 3, hm := fun _ => rfl, pos := by decide, one := fun x u hu => by simp at hu; rcases hu with rfl | rfl | rfl <;> rfl, ty := 45 }
theorem infoOp : (Try.prog.info? 45).map (fun i => (i.zero, i.size, i.bytes)) = some (some (.agg #[.int .i64 0, .int .i64 0, .string ByteArray.empty]), 3, 32) := by kernel_rfl
theorem infoOp' : ∃ i0, Try.prog.info? 45 = some i0 ∧ i0.zero = some (.agg #[.int .i64 0, .int .i64 0, .string ByteArray.empty]) ∧ i0.size = 3 ∧ i0.bytes = 32 := by
  have := infoOp
  cases h : Try.prog.info? 45 with
  | none => rw [h] at this; cases this
  | some i => rw [h] at this; simp only [Option.map_some, Option.some.injEq, Prod.mk.injEq] at this; exact ⟨i, rfl, this.1, this.2.1, this.2.2⟩
theorem op_at {W : World} {b o : Nat} {x : Wn.Op} (h : Rg.At W b o (opE.enc x)) : W.cell? ⟨b, o, none⟩ = some (.int .i64 x.k) ∧ W.cell? ⟨b, o + 1, none⟩ = some (.int .i64 x.n) ∧ W.cell? ⟨b, o + 2, none⟩ = some (.string x.s) := ⟨h 0 _ rfl, h 1 _ rfl, h 2 _ rfl⟩
/-- nothing, or a row of calls that is read -/
def ORow (W : World) (a : Option Addr) (l : List Wn.Op) : Prop := l = [] ∨ ∃ b o, a = some ⟨b, o, none⟩ ∧ b < W.heap.size ∧ Rg.At W b o (opE.flat l)
theorem ORow.below {W W' : World} {a : Option Addr} {l : List Wn.Op} (h : ORow W a l) (hb : Below W.heap.size W W') : ORow W' a l := by
  rcases h with h | ⟨b, o, h1, h2, h3⟩
  · exact .inl h
  · exact .inr ⟨b, o, h1, Nat.lt_of_lt_of_le h2 hb.size, h3.below hb h2⟩
theorem ORow.cell {W : World} {a : Option Addr} {l : List Wn.Op} (h : ORow W a l) {i : Nat} (hi : i < l.length) : ∃ b o, a = some ⟨b, o, none⟩ ∧ b < W.heap.size ∧ W.cell? ⟨b, o + i * 3, none⟩ = some (.int .i64 l[i].k) ∧ W.cell? ⟨b, o + i * 3 + 1, none⟩ = some (.int .i64 l[i].n) ∧ W.cell? ⟨b, o + i * 3 + 2, none⟩ = some (.string l[i].s) := by
  rcases h with rfl | ⟨b, o, rfl, hb, hat⟩
  · simp at hi
  · exact ⟨b, o, rfl, hb, op_at (hat.elem hi)⟩
/-- a row of calls of one's own, from place o of its block on -/
structure OO (base : Nat) (W : World) (g o cap : Nat) (S : List Wn.Op) (C : List Value) : Prop where
  blk : Rg.Bk g C 45 W
  new : base ≤ g
  le : S.length ≤ cap
  max : cap ≤ maxLen
  fit : o + cap * 3 ≤ C.length
  at_ : ∀ t u, (opE.flat S)[t]? = some u → C[o + t]? = some u
theorem OO.same {base g o cap : Nat} {W W' : World} {S : List Wn.Op} {C : List Value} (h : OO base W g o cap S C) (e : W'.heap[g]? = W.heap[g]?) : OO base W' g o cap S C := ⟨h.blk.same e, h.new, h.le, h.max, h.fit, h.at_⟩
/-- what waits: nothing, or a row of one's own -/
def WS (base : Nat) (W : World) (A : Option Addr) (cap : Nat) (S : List Wn.Op) : Prop := (A = none ∧ S = [] ∧ cap = 0) ∨ ∃ g o C, A = some ⟨g, o, none⟩ ∧ OO base W g o cap S C
theorem WS.below {base : Nat} {W W' : World} {A : Option Addr} {cap : Nat} {S : List Wn.Op} (h : WS base W A cap S) (hb : Below W.heap.size W W') : WS base W' A cap S := by
  rcases h with h | ⟨g, o, C, h1, h2⟩
  · exact .inl h
  · exact .inr ⟨g, o, C, h1, h2.same (hb.block g h2.blk.lt)⟩
theorem WS.only {base : Nat} {W W' : World} {A : Option Addr} {cap : Nat} {S : List Wn.Op} {V : Nat} {C' : List Value} (h : WS base W A cap S) (k : Rg.Bk V C' 24 W) (ho : Rg.Only V W W') : WS base W' A cap S := by
  rcases h with h | ⟨g, o, C, h1, h2⟩
  · exact .inl h
  · refine .inr ⟨g, o, C, h1, h2.same (ho.block g ?_)⟩
    intro e
    subst e
    have e1 := h2.blk
    unfold Rg.Bk at e1 k
    rw [e1] at k
    simp at k
theorem WS.row {base : Nat} {W : World} {A : Option Addr} {cap : Nat} {S : List Wn.Op} (h : WS base W A cap S) : ORow W A S := by
  rcases h with ⟨_, rfl, _⟩ | ⟨g, o, C, rfl, h2⟩
  · exact .inl rfl
  · exact .inr ⟨g, o, rfl, h2.blk.lt, fun t u ht => by rw [h2.blk.cell]; exact h2.at_ t u ht⟩
theorem WS.len {base : Nat} {W : World} {A : Option Addr} {cap : Nat} {S : List Wn.Op} (h : WS base W A cap S) : S.length ≤ cap := by
  rcases h with ⟨_, rfl, rfl⟩ | ⟨g, o, C, rfl, h2⟩
  · exact Nat.le_refl _
  · exact h2.le
theorem opE_len (S : List Wn.Op) : (opE.flat S).length = S.length * 3 := opE.flat_length S
/-- a later slice of it -/
theorem OO.drop {base g o cap : Nat} {W : World} {S : List Wn.Op} {C : List Value} (h : OO base W g o cap S C) (k : Nat) (hk : k ≤ S.length) : OO base W g (o + k * 3) (cap - k) (S.drop k) C := by
  have hle := h.le
  refine ⟨h.blk, h.new, by rw [List.length_drop]; omega, Nat.le_trans (Nat.sub_le _ _) h.max, ?_, fun t u ht => ?_⟩
  · have := h.fit
    rw [Nat.sub_mul]
    have : k * 3 ≤ cap * 3 := Nat.mul_le_mul_right _ (by omega)
    omega
  · have e : opE.flat S = opE.flat (S.take k) ++ opE.flat (S.drop k) := by rw [← opE.flat_append, List.take_append_drop]
    have hl : (opE.flat (S.take k)).length = k * 3 := opE.flat_take S k hk
    rw [Nat.add_assoc]
    apply h.at_
    rw [e, List.getElem?_append_right (by omega), hl, Nat.add_sub_cancel_left]
    exact ht
/-- nothing left of it, its room gone -/
theorem OO.gone {base g o cap : Nat} {W : World} {S : List Wn.Op} {C : List Value} (h : OO base W g o cap S C) : OO base W g o 0 [] C :=
  ⟨h.blk, h.new, Nat.le_refl _, Nat.zero_le _, by have := h.fit; omega, fun t u ht => by simp [Rg.El.flat] at ht⟩
theorem OO.of {base g cap : Nat} {W : World} {S : List Wn.Op} {rest : List Value} (h : opE.Own base W g cap S rest) : OO base W g 0 cap S (opE.flat S ++ rest) :=
  ⟨h.blk, h.new, h.le, h.max, by have := h.fit; rw [Nat.zero_add]; exact this, fun t u ht => by
    rw [Nat.zero_add, List.getElem?_append_left]
    · exact ht
    · exact (List.getElem?_eq_some_iff.1 ht).1⟩
theorem set3 {C : List Value} {p : Nat} (v0 v1 v2 : Value) (h : p + 3 ≤ C.length) (j : Nat) : (((C.set p v0).set (p + 1) v1).set (p + 2) v2)[j]? = if j = p then some v0 else if j = p + 1 then some v1 else if j = p + 2 then some v2 else C[j]? := by
  rw [List.getElem?_set, List.getElem?_set, List.getElem?_set]
  simp only [List.length_set]
  repeat' split
  all_goals first | rfl | omega
/-- append of one call, out of block ad -/
theorem WS.append {base : Nat} {W : World} {A : Option Addr} {cap : Nat} {S : List Wn.Op} (h : WS base W A cap S) (x : Wn.Op) (ad : Nat) (hx : Rg.At W ad 0 (opE.enc x)) (hB : base ≤ W.heap.size) (hS : S.length ≤ 10000) :
    ∃ v' W', (Builtin.append_ #[42, 42] 42 #[.slice A S.length cap, .slice (some ⟨ad, 0, none⟩) 1 1]).run Try.prog W = .ok v' W' ∧ ∃ A' cap', v' = .slice A' (S.length + 1) cap' ∧ WS base W' A' cap' (S ++ [x]) ∧ Below base W W' ∧
      (∀ k, k < W.heap.size → (∀ o, A ≠ some ⟨k, o, none⟩) → W'.heap[k]? = W.heap[k]?) ∧ W.heap.size ≤ W'.heap.size ∧ ∀ g o, A' = some ⟨g, o, none⟩ → A = some ⟨g, o, none⟩ ∨ W.heap.size ≤ g := by
  obtain ⟨i0, hi, hz0, hz1, hz2⟩ := infoOp'
  rcases h with ⟨rfl, rfl, rfl⟩ | ⟨g, o, C, rfl, h⟩
  · obtain ⟨g', cap', rest', W', h1, h2, h3, h4⟩ := opE.append0 (P := Try.prog) W base x 42 42 i0 _ 32 Try.underlying42 hi hz0 hz1 hz2 rfl ⟨ad, 0, none⟩ 1 hx.add hB (by omega)
    exact ⟨_, W', h1, _, cap', rfl, .inr ⟨g', 0, _, rfl, OO.of h2⟩, h3.mono hB, fun k hk _ => h3.block k hk, h3.size, fun g o e => by cases e; exact .inr h4⟩
  · have hnl : (opE.enc x).length = 1 * 3 := rfl
    by_cases hr : S.length + 1 ≤ cap
    · have hfit := h.fit
      have hp : o + S.length * 3 + 3 ≤ C.length := by
        have : (S.length + 1) * 3 ≤ cap * 3 := Nat.mul_le_mul_right _ hr
        omega
      have hrun := run_append_room_cells (P := Try.prog) W 42 42 45 i0 Try.underlying42 hi g o S.length cap ⟨ad, 0, none⟩ 1 1 (opE.enc x) (by rw [hz1]; rfl) hx.add (opE.one x) hr
        (fun j hj => by rw [hz1, h.blk.cell, List.getElem?_eq_getElem (by rw [hnl] at hj; omega)]; rfl) (fun j _ => h.blk.thaw _)
      rw [hz1] at hrun
      have k3 := ((h.blk.set (o + S.length * 3) (.int .i64 x.k)).set (o + S.length * 3 + 1) (.int .i64 x.n)).set (o + S.length * 3 + 2) (.string x.s)
      have o3 := ((Rg.Only.setCell W g (o + S.length * 3) (.int .i64 x.k)).trans (Rg.Only.setCell _ g (o + S.length * 3 + 1) (.int .i64 x.n))).trans (Rg.Only.setCell _ g (o + S.length * 3 + 2) (.string x.s))
      refine ⟨_, _, hrun, _, cap, rfl, .inr ⟨g, o, _, rfl, ⟨k3, h.new, by simpa using hr, h.max, by simpa using hfit, fun t u ht => ?_⟩⟩, o3.bel h.new, fun k _ hk => o3.block k (fun e => hk o (by rw [e])), Nat.le_of_eq o3.size.symm, fun g o e => by cases e; exact .inl rfl⟩
      rw [opE.flat_append, opE.flat_one] at ht
      rw [set3 _ _ _ hp]
      rcases Nat.lt_or_ge t (S.length * 3) with c | c
      · rw [List.getElem?_append_left (by rw [opE_len]; exact c)] at ht
        rw [if_neg (by omega), if_neg (by omega), if_neg (by omega)]
        exact h.at_ t u ht
      · rw [List.getElem?_append_right (by rw [opE_len]; exact c), opE_len] at ht
        obtain ⟨j, rfl⟩ : ∃ j, t = S.length * 3 + j := ⟨t - S.length * 3, by omega⟩
        rw [Nat.add_sub_cancel_left] at ht
        match j, ht with
        | 0, ht => rw [if_pos (by omega)]; exact ht
        | 1, ht => rw [if_neg (by omega), if_pos (by omega)]; exact ht
        | 2, ht => rw [if_neg (by omega), if_neg (by omega), if_pos (by omega)]; exact ht
        | j + 3, ht => simp [opE] at ht
    · obtain ⟨v', W', hrun, hown, hgr⟩ := run_append_arg_grows (P := Try.prog) W 42 42 45 i0 _ 3 32 Try.underlying42 hi hz0 hz1 hz2 rfl (by decide) ⟨g, o, none⟩ S.length cap (opE.flat S) (opE_len S)
        (Rg.At.add (W := W) (b := g) (o := o) (fun t u ht => by rw [h.blk.cell]; exact h.at_ t u ht)) ⟨ad, 0, none⟩ 1 1 (opE.enc x) hnl hx.add (by omega) (by unfold maxLen; omega) (by omega)
      rw [show opE.flat S ++ opE.enc x = opE.flat (S ++ [x]) by rw [opE.flat_append, opE.flat_one]] at hown
      have hv : ¬ v' = .slice none 0 0 := fun e => by
        subst e
        rcases hown.2 with ⟨_, e⟩ | ⟨_, _, _, e, _⟩
        · omega
        · cases e
      obtain ⟨g', cap', rest', rfl, ho⟩ := Rg.El.Own.of (E := opE) hown hv (by simp)
      refine ⟨_, W', hrun, _, cap', by rw [List.length_append, List.length_singleton], .inr ⟨g', 0, _, rfl, OO.of ⟨ho.blk, Nat.le_trans hB ho.new, ho.le, ho.max, ho.fit⟩⟩, ⟨hgr.os, hgr.tape, hgr.output, hgr.size, fun k hk => hgr.block k (by omega) (by simp)⟩, fun k hk _ => hgr.block k hk (by simp), hgr.size, fun g o e => by cases e; exact .inr ho.new⟩
end Go.Proofs.Ytnglfefgcdbgmaa
