/-
  Walks of layer 16: slices.Insert of a packet among those that came early. Walks of layer 16: slices.Insert of a packet.
-/
import Derived.Test.YtlclfkogbfigbaaCuAX
import Derived.Lib.Overlaps
import Derived.Lib.AppendZerosOnto
import Derived.ArgAppend
namespace Go.Proofs.Ytlclfkogbfigbaa
open Go.RowKit
/-- cells laid over others -/
def over (C : List Value) (o : Nat) (cs : List Value) : List Value := C.take o ++ cs ++ C.drop (o + cs.length)
theorem over_len {C cs : List Value} {o : Nat} (h : o + cs.length ≤ C.length) : (over C o cs).length = C.length := by
  unfold over
  simp
  omega
theorem over_in {C cs : List Value} {o t : Nat} (h : o + cs.length ≤ C.length) (ht : t < cs.length) : (over C o cs)[o + t]? = cs[t]? := by
  unfold over
  rw [List.append_assoc, List.getElem?_append_right (by rw [List.length_take]; omega), List.length_take, List.getElem?_append_left (by omega)]
  congr 1
  omega
theorem over_out {C cs : List Value} {o t : Nat} (h : o + cs.length ≤ C.length) (ht : t < o ∨ o + cs.length ≤ t) : (over C o cs)[t]? = C[t]? := by
  unfold over
  rcases ht with ht | ht
  · rw [List.append_assoc, List.getElem?_append_left (by rw [List.length_take]; omega), List.getElem?_take]
    simp [ht]
  · rw [List.getElem?_append_right (by rw [List.length_append, List.length_take]; omega), List.length_append, List.length_take, List.getElem?_drop]
    congr 1
    omega
theorem fi_len (l : List Gp.Fi) : (fiE.flat l).length = l.length * 6 := fiE.flat_length l
theorem fi_enc (f : Gp.Fi) : (fiE.enc f).length = 6 := rfl
theorem infoFi : (Try.prog.info? 63).map (fun i => (i.zero, i.size, i.bytes)) = some (some (.agg #[.int .i64 0, .int .i64 0, .int .i64 0, .int .i64 0, .bool false, .string ByteArray.empty]), 6, 56) := by kernel_rfl
theorem infoFi' : ∃ i0, Try.prog.info? 63 = some i0 ∧ i0.zero = some (.agg #[.int .i64 0, .int .i64 0, .int .i64 0, .int .i64 0, .bool false, .string ByteArray.empty]) ∧ i0.size = 6 ∧ i0.bytes = 56 := by
  have := infoFi
  cases h : Try.prog.info? 63 with
  | none => rw [h] at this; cases this
  | some i => rw [h] at this; simp only [Option.map_some, Option.some.injEq, Prod.mk.injEq] at this; exact ⟨i, rfl, this.1, this.2.1, this.2.2⟩
/-- packets in a block that is known whole, from a place on -/
structure FO (W : World) (g o c : Nat) (l : List Gp.Fi) (C : List Value) : Prop where
  blk : Rg.Bk g C 63 W
  fit : o + c * 6 ≤ C.length
  max : c ≤ maxLen
  le : l.length ≤ c
  at_ : ∀ t u, (fiE.flat l)[t]? = some u → C[o + t]? = some u
theorem AO.fo {W : World} {eb g c : Nat} {a : Option Addr} {l : List Gp.Fi} (h : AO W eb g a c l) (hc : l.length ≤ c) : ∃ o C, a = some ⟨g, o, none⟩ ∧ FO W g o c l C := by
  obtain ⟨_, o, cur, h2, h3, h4, h5⟩ := h
  exact ⟨o, cur.toList, h2, h3, by simpa using h4.1, h4.2, hc, fun t u ht => by have := h5 t u ht; simpa using this⟩
theorem FO.ao {W : World} {eb g o c : Nat} {l : List Gp.Fi} {C : List Value} (h : FO W g o c l C) (hg : eb < g) : AO W eb g (some ⟨g, o, none⟩) c l :=
  ⟨hg, o, C.toArray, rfl, h.blk, ⟨by simpa using h.fit, h.max⟩, fun t u ht => by simpa using h.at_ t u ht⟩
/-- copy into a block that is known whole -/
theorem fi_copy {W : World} {g : Nat} {C cs : List Value} (k : Rg.Bk g C 63 W) (o dl dc sl sc : Nat) (ad : Addr) (hn : cs.length = Nat.min sl dl * 6) (hsrc : ∀ j v, cs[j]? = some v → W.cell? (ad.add j) = some v) (hfit : o + cs.length ≤ C.length) (h1 : ∀ v ∈ cs, v.oneCell' = true) (ty : TypeId) :
    ∃ v W', (Builtin.copy_ #[28, 28] ty #[.slice (some ⟨g, o, none⟩) dl dc, .slice (some ad) sl sc]).run Try.prog W = .ok v W' ∧ Rg.Bk g (over C o cs) 63 W' ∧ Rg.Only g W W' := by
  obtain ⟨i0, hi, hz0, hz1, hz2⟩ := infoFi'
  have hr := Rg.run_copyG (P := Try.prog) W 28 28 ty 63 6 g o dl dc ad sl sc C.toArray 63 cs Try.underlying28 (by rw [hi]; simp [hz1]) k hn hsrc (by simpa using hfit) h1
  refine ⟨_, _, hr, ?_, Rg.Only.setRow W g _⟩
  have := setRow_heap W g _ (C.toArray.toList.take o ++ cs ++ C.toArray.toList.drop (o + cs.length)).toArray _ _ k
  exact this
theorem fi_mid (l : List Gp.Fi) (f : Gp.Fi) (i : Nat) : fiE.flat (l.take i ++ f :: l.drop i) = fiE.flat (l.take i) ++ (fiE.enc f ++ fiE.flat (l.drop i)) := by
  rw [fiE.flat_append, fiE.flat_cons]
theorem fi_split (l : List Gp.Fi) (i : Nat) : fiE.flat l = fiE.flat (l.take i) ++ fiE.flat (l.drop i) := by
  rw [← fiE.flat_append, List.take_append_drop]
/-- where the inserted row lies: what stood ahead stays, the packet, what stood behind -/
theorem fi_rows {l : List Gp.Fi} {f : Gp.Fi} {i o : Nat} {C : List Value} (hi : i ≤ l.length) (h1 : ∀ t u, t < i * 6 → (fiE.flat l)[t]? = some u → C[o + t]? = some u) (h2 : ∀ t u, (fiE.enc f)[t]? = some u → C[o + i * 6 + t]? = some u) (h3 : ∀ t u, (fiE.flat (l.drop i))[t]? = some u → C[o + (i + 1) * 6 + t]? = some u) :
    ∀ t u, (fiE.flat (l.take i ++ f :: l.drop i))[t]? = some u → C[o + t]? = some u := by
  intro t u ht
  have hl : (fiE.flat (l.take i)).length = i * 6 := by rw [fi_len, List.length_take, Nat.min_eq_left hi]
  rw [fi_mid] at ht
  rcases Nat.lt_or_ge t (i * 6) with c | c
  · rw [List.getElem?_append_left (by omega)] at ht
    refine h1 t u c ?_
    rw [fi_split l i, List.getElem?_append_left (by omega)]
    exact ht
  · rw [List.getElem?_append_right (by omega), hl] at ht
    rcases Nat.lt_or_ge (t - i * 6) 6 with d | d
    · rw [List.getElem?_append_left (by rw [fi_enc]; exact d)] at ht
      have := h2 _ u ht
      rw [show o + i * 6 + (t - i * 6) = o + t by omega] at this
      exact this
    · rw [List.getElem?_append_right (by rw [fi_enc]; exact d), fi_enc] at ht
      have := h3 _ u ht
      rw [show o + (i + 1) * 6 + (t - i * 6 - 6) = o + t by omega] at this
      exact this
/-- what Insert leaves -/
def InsP (eb : Nat) (W : World) (ag : Option Nat) (l : List Gp.Fi) (e : Ending) (w' : World) : Prop := ∃ g' a' c', e = .returned (.slice a' l.length c') ∧ AO w' eb g' a' c' l ∧ l.length ≤ c' ∧ (ag = some g' ∨ W.heap.size ≤ g') ∧ (∀ k, k < W.heap.size → ag ≠ some k → w'.heap[k]? = W.heap[k]?) ∧ Below eb W w'
theorem six {C : List Value} {p : Nat} (v0 v1 v2 v3 v4 v5 : Value) (h : p + 6 ≤ C.length) (j : Nat) : ((((((C.set p v0).set (p + 1) v1).set (p + 2) v2).set (p + 3) v3).set (p + 4) v4).set (p + 5) v5)[j]? = if j = p then some v0 else if j = p + 1 then some v1 else if j = p + 2 then some v2 else if j = p + 3 then some v3 else if j = p + 4 then some v4 else if j = p + 5 then some v5 else C[j]? := by
  rw [List.getElem?_set, List.getElem?_set, List.getElem?_set, List.getElem?_set, List.getElem?_set, List.getElem?_set]
  simp only [List.length_set]
  repeat' split
  all_goals first | rfl | omega
/-- append of a packet to a row of one's own that has room -/
theorem fi_room {W : World} {g o c n N1 : Nat} {l : List Gp.Fi} {C : List Value} (h : FO W g o c l C) (hn : l.length = n) (hN : n + 1 = N1) (f : Gp.Fi) (vb : Nat) (kV : Rg.Bk vb (fiE.enc f) 63 W) (hr : N1 ≤ c) (ty : TypeId) :
    ∃ W' C', (Builtin.append_ #[28, 28] ty #[.slice (some ⟨g, o, none⟩) n c, .slice (some ⟨vb, 0, none⟩) 1 1]).run Try.prog W = .ok (.slice (some ⟨g, o, none⟩) N1 c) W' ∧ FO W' g o c (l ++ [f]) C' ∧ Rg.Only g W W' := by
  subst hn hN
  obtain ⟨i0, hi, hz0, hz1, hz2⟩ := infoFi'
  have hfit := h.fit
  have hp : o + l.length * 6 + 6 ≤ C.length := by
    have : (l.length + 1) * 6 ≤ c * 6 := Nat.mul_le_mul_right _ hr
    omega
  have hrun := run_append_room_cells (P := Try.prog) W 28 ty 63 i0 Try.underlying28 hi g o l.length c ⟨vb, 0, none⟩ 1 1 (fiE.enc f) (by rw [hz1]; rfl) (fun j u hj => by rw [show (⟨vb, 0, none⟩ : Addr).add j = ⟨vb, j, none⟩ by cases j <;> simp [Addr.add], kV.cell]; exact hj) (fiE.one f) hr
    (fun j hj => by rw [hz1, h.blk.cell, List.getElem?_eq_getElem (by rw [fi_enc] at hj; omega)]; rfl) (fun j _ => h.blk.thaw _)
  rw [hz1] at hrun
  have k3 := (((((h.blk.set (o + l.length * 6) (.int .i64 f.kd)).set (o + l.length * 6 + 1) (.int .i64 f.nm)).set (o + l.length * 6 + 2) (.int .i64 f.ak)).set (o + l.length * 6 + 3) (.int .i64 f.ch)).set (o + l.length * 6 + 4) (.bool f.ca)).set (o + l.length * 6 + 5) (.string f.data)
  have o3 := (((((Rg.Only.setCell W g (o + l.length * 6) (.int .i64 f.kd)).trans (Rg.Only.setCell _ g (o + l.length * 6 + 1) (.int .i64 f.nm))).trans (Rg.Only.setCell _ g (o + l.length * 6 + 2) (.int .i64 f.ak))).trans (Rg.Only.setCell _ g (o + l.length * 6 + 3) (.int .i64 f.ch))).trans (Rg.Only.setCell _ g (o + l.length * 6 + 4) (.bool f.ca))).trans (Rg.Only.setCell _ g (o + l.length * 6 + 5) (.string f.data))
  refine ⟨_, _, hrun, ⟨k3, by simpa using hfit, h.max, by simpa using hr, fun t u ht => ?_⟩, o3⟩
  rw [fiE.flat_append, fiE.flat_one] at ht
  rw [six _ _ _ _ _ _ hp]
  rcases Nat.lt_or_ge t (l.length * 6) with c | c
  · rw [List.getElem?_append_left (by rw [fi_len]; exact c)] at ht
    rw [if_neg (by omega), if_neg (by omega), if_neg (by omega), if_neg (by omega), if_neg (by omega), if_neg (by omega)]
    exact h.at_ t u ht
  · rw [List.getElem?_append_right (by rw [fi_len]; exact c), fi_len] at ht
    obtain ⟨j, rfl⟩ : ∃ j, t = l.length * 6 + j := ⟨t - l.length * 6, by omega⟩
    rw [Nat.add_sub_cancel_left] at ht
    match j, ht with
    | 0, ht => rw [if_pos (by omega)]; exact ht
    | 1, ht => rw [if_neg (by omega), if_pos (by omega)]; exact ht
    | 2, ht => rw [if_neg (by omega), if_neg (by omega), if_pos (by omega)]; exact ht
    | 3, ht => rw [if_neg (by omega), if_neg (by omega), if_neg (by omega), if_pos (by omega)]; exact ht
    | 4, ht => rw [if_neg (by omega), if_neg (by omega), if_neg (by omega), if_neg (by omega), if_pos (by omega)]; exact ht
    | 5, ht => rw [if_neg (by omega), if_neg (by omega), if_neg (by omega), if_neg (by omega), if_neg (by omega), if_pos (by omega)]; exact ht
    | j + 6, ht => simp [fiE] at ht
/-- append of a packet to a row that is full: it is laid anew -/
theorem fi_full {W : World} {ad : Addr} {n N1 c : Nat} {l : List Gp.Fi} (hat : ∀ j u, (fiE.flat l)[j]? = some u → W.cell? (ad.add j) = some u) (hn : l.length = n) (hN : n + 1 = N1) (hn15 : n ≤ 15) (hc : c < N1) (f : Gp.Fi) (vb : Nat) (kV : Rg.Bk vb (fiE.enc f) 63 W) (ty : TypeId) :
    ∃ g' c' W' C', (Builtin.append_ #[28, 28] ty #[.slice (some ad) n c, .slice (some ⟨vb, 0, none⟩) 1 1]).run Try.prog W = .ok (.slice (some ⟨g', 0, none⟩) N1 c') W' ∧ FO W' g' 0 c' (l ++ [f]) C' ∧ W.heap.size ≤ g' ∧ Below W.heap.size W W' := by
  subst hn hN
  obtain ⟨i0, hi, hz0, hz1, hz2⟩ := infoFi'
  obtain ⟨v', W', hrun, hown, hgr⟩ := run_append_arg_grows (P := Try.prog) W 28 ty 63 i0 _ 6 56 Try.underlying28 hi hz0 hz1 hz2 rfl (by decide) ad l.length c (fiE.flat l) (fi_len l) hat ⟨vb, 0, none⟩ 1 1 (fiE.enc f) rfl (fun j u hj => by rw [show (⟨vb, 0, none⟩ : Addr).add j = ⟨vb, j, none⟩ by cases j <;> simp [Addr.add], kV.cell]; exact hj) (by omega) (by unfold maxLen; omega) (by omega)
  rw [show fiE.flat l ++ fiE.enc f = fiE.flat (l ++ [f]) by rw [fiE.flat_append, fiE.flat_one]] at hown
  have hv : ¬ v' = .slice none 0 0 := fun e => by
    subst e
    rcases hown.2 with ⟨_, e⟩ | ⟨_, _, _, e, _⟩
    · omega
    · cases e
  obtain ⟨g', cap', rest', rfl, ho⟩ := Rg.El.Own.of (E := fiE) hown hv (by simp)
  have e1 : (l ++ [f]).length = l.length + 1 := by simp
  refine ⟨g', cap', W', fiE.flat (l ++ [f]) ++ rest', by rw [hrun, e1], ⟨ho.blk, by have := ho.fit; have em : fiE.m = 6 := rfl; rw [em] at this; omega, ho.max, ho.le, fun t u ht => ?_⟩, ho.new, (Below.refl _ _).grown hgr (Nat.le_refl _) (fun k hk => by cases hk)⟩
  rw [Nat.zero_add, List.getElem?_append_left (List.getElem?_eq_some_iff.1 ht).1]
  exact ht
end Go.Proofs.Ytlclfkogbfigbaa

namespace Go.Proofs.Ytlclfkogbfigbaa
open Go.RowKit
theorem wpList_copyR {P : Program} {w : World} {ops : Array Oper} {rest : List Oper} {o : Oper} {a : Act} {Q : Exit → Act → World → Prop} (hw : Region.wanted o (yielded ops a.tmps) = true) (s x : Operand) (t t' : TypeId)
    (ho : o.op = .call { callee := .builtin .copy, args := #[s, x], argTypes := #[t, t'] }) (v u : Value) (hs : a.eval s = v) (hx : a.eval x = u) {v' : Value} {w' : World}
    (hrun : (Builtin.copy_ #[t, t'] o.type #[v, u]).run P w = .ok v' w') (h : wpList P ops Q rest (a.put o.dst v') w') : wpList P ops Q (o :: rest) a w := by
  refine wpList_step fun K hK => ?_
  rw [if_pos hw]
  unfold Oper.wp
  simp [execOp, ho, resolve, invoke, builtin, hs, hx, hrun, Result.andThen]
  exact hK _ _ h
theorem wpList_appendR {P : Program} {w : World} {ops : Array Oper} {rest : List Oper} {o : Oper} {a : Act} {Q : Exit → Act → World → Prop} (hw : Region.wanted o (yielded ops a.tmps) = true) (s x : Operand) (t t' : TypeId)
    (ho : o.op = .call { callee := .builtin .append, args := #[s, x], argTypes := #[t, t'] }) (v u : Value) (hs : a.eval s = v) (hx : a.eval x = u) {v' : Value} {w' : World}
    (hrun : (Builtin.append_ #[t, t'] o.type #[v, u]).run P w = .ok v' w') (h : wpList P ops Q rest (a.put o.dst v') w') : wpList P ops Q (o :: rest) a w := by
  refine wpList_step fun K hK => ?_
  rw [if_pos hw]
  unfold Oper.wp
  simp [execOp, ho, resolve, invoke, builtin, hs, hx, hrun, Result.andThen]
  exact hK _ _ h
set_option maxHeartbeats 2000000 in
set_option maxRecDepth 100000 in
theorem ins_none (V' : Value) (W W' : World) (vb : Nat) (hap : Hid ((Builtin.append_ #[28, 28] 28 #[.slice none 0 0, .slice (some ⟨vb, 0, none⟩) 1 1]).run Try.prog W = .ok V' W')) :
    Calls Try.prog 91 #[.slice none 0 0, .int .i64 0, .slice (some ⟨vb, 0, none⟩) 1 1] W fun e w' => e = .returned V' ∧ w' = W' := by
  go_enter Try.func91, Try.ntmps91
  go_wp2_with (at_builtin; refine Rg.wpList_append_run (by rfl) _ _ _ rfl _ _ rfl rfl _ _ hap.out ?_)
  go_ret
  exact ⟨rfl, rfl⟩
set_option maxHeartbeats 2000000 in
set_option maxRecDepth 100000 in
theorem ins_full (ad : Addr) (n : Nat) (V' : Value) (W W' : World) (vb : Nat) (hz : (0 : Int) ≤ (n : Int)) (hap : Hid ((Builtin.append_ #[28, 28] 28 #[.slice (some ad) n n, .slice (some ⟨vb, 0, none⟩) 1 1]).run Try.prog W = .ok V' W')) :
    Calls Try.prog 91 #[.slice (some ad) n n, .int .i64 (n : Int), .slice (some ⟨vb, 0, none⟩) 1 1] W fun e w' => e = .returned V' ∧ w' = W' := by
  go_enter Try.func91, Try.ntmps91
  go_wp2_with (at_builtin; refine Rg.wpList_append_run (by rfl) _ _ _ rfl _ _ rfl rfl _ _ hap.out ?_)
  go_ret
  exact ⟨rfl, rfl⟩
set_option maxHeartbeats 2000000 in
set_option maxRecDepth 100000 in
theorem ins_end (b o n c : Nat) (hc : ¬ c = n) (V' : Value) (W W' : World) (vb : Nat) (hz : (0 : Int) ≤ (n : Int)) (hap : Hid ((Builtin.append_ #[28, 28] 28 #[.slice (some ⟨b, o, none⟩) n c, .slice (some ⟨vb, 0, none⟩) 1 1]).run Try.prog W = .ok V' W')) :
    Calls Try.prog 91 #[.slice (some ⟨b, o, none⟩) n c, .int .i64 (n : Int), .slice (some ⟨vb, 0, none⟩) 1 1] W fun e w' => e = .returned V' ∧ w' = W' := by
  go_enter Try.func91, Try.ntmps91
  go_wp2_with (at_builtin; refine Rg.wpList_append_run (by rfl) _ _ _ rfl _ _ rfl rfl _ _ hap.out ?_)
  go_ret
  exact ⟨rfl, rfl⟩
set_option maxHeartbeats 4000000 in
set_option maxRecDepth 100000 in
theorem ins_shift (g o n c i N1 I1 : Nat) (W W1 W2 : World) (vb : Nat) (v1 v2 : Value) (a2 : IntKind.i64.wrap ((n : Int) + 1) = (N1 : Int)) (a4 : IntKind.i64.wrap ((i : Int) + 1) = (I1 : Int))
    (d1 : ((i : Int) == (n : Int)) = false) (d3 : decide (c < N1) = false) (z1 : (0 : Int) ≤ (i : Int)) (z2 : (i : Int) ≤ (n : Int)) (z3 : (0 : Int) ≤ (N1 : Int)) (z4 : (N1 : Int) ≤ (c : Int)) (z5 : (0 : Int) ≤ (I1 : Int)) (z6 : (I1 : Int) ≤ (N1 : Int)) (z7 : (i : Int) ≤ (N1 : Int)) (e1 : ¬ c = i) (e2 : ¬ c = I1)
    (hov : Hid (∀ lb cb, (callFunc 95 #[.slice (some ⟨vb, 0, none⟩) 1 1, .slice (some ⟨g, o + I1 * 6, none⟩) lb cb]).run Try.prog W = .ok (.value (.bool false)) W))
    (hcp1 : Hid (∀ ty dc sc, (Builtin.copy_ #[28, 28] ty #[.slice (some ⟨g, o + I1 * 6, none⟩) (N1 - I1) dc, .slice (some ⟨g, o + i * 6, none⟩) (N1 - i) sc]).run Try.prog W.drew = .ok v1 W1))
    (hcp2 : Hid (∀ ty dc, (Builtin.copy_ #[28, 28] ty #[.slice (some ⟨g, o + i * 6, none⟩) (N1 - i) dc, .slice (some ⟨vb, 0, none⟩) 1 1]).run Try.prog W1 = .ok v2 W2)) :
    Calls Try.prog 91 #[.slice (some ⟨g, o, none⟩) n c, .int .i64 (i : Int), .slice (some ⟨vb, 0, none⟩) 1 1] W fun e w' => e = .returned (.slice (some ⟨g, o, none⟩) N1 c) ∧ w' = W2 := by
  go_enter Try.func91, Try.ntmps91
  go_wp2_with (simp only [hov.out])
  refine wp_region_held_drew (S := (fun (_ : World) => True)) (by kernel_rfl) trivial (fun hH0 => ?_)
  refine wpAnyH_take (i := 0) (oi := { dst := some 69, op := _, type := _, pos := _, after := _, guard := _ }) (v := ?_) rfl (by kernel_rfl) (by kernel_rfl) (by kernel_rfl) (fun _ _ _ h => h) (Or.inl ⟨by rfl, ?_⟩) (by assumption) ?_
  rotate_left
  · (intro w hSw; clear hSw; go_simp); (try with_reducible rfl)
  simp only [Act.put, List.setIfInBounds_toArray, List.set_cons_zero, List.set_cons_succ]
  refine wpAnyH_take (i := 1) (oi := { dst := some 70, op := _, type := _, pos := _, after := _, guard := _ }) (v := ?_) rfl (by kernel_rfl) (by kernel_rfl) (by kernel_rfl) (fun _ _ _ h => h) (Or.inl ⟨by rfl, ?_⟩) (by assumption) ?_
  rotate_left
  · (intro w hSw; clear hSw; go_simp); (try with_reducible rfl)
  simp only [Act.put, List.setIfInBounds_toArray, List.set_cons_zero, List.set_cons_succ]
  refine wpAnyH_take (i := 2) (oi := { dst := some 71, op := _, type := _, pos := _, after := _, guard := _ }) (v := ?_) rfl (by kernel_rfl) (by kernel_rfl) (by kernel_rfl) (fun _ _ _ h => h) (Or.inl ⟨by rfl, ?_⟩) (by assumption) ?_
  rotate_left
  · (intro w hSw; clear hSw; go_simp); (try with_reducible rfl)
  simp only [Act.put, List.setIfInBounds_toArray, List.set_cons_zero, List.set_cons_succ]
  refine wpAnyH_take (i := 3) (oi := { dst := some 72, op := _, type := _, pos := _, after := _, guard := _ }) (v := ?_) rfl (by kernel_rfl) (by kernel_rfl) (by kernel_rfl) (fun _ _ _ h => h) (Or.inl ⟨by rfl, ?_⟩) (by assumption) ?_
  rotate_left
  · (intro w hSw; clear hSw; go_simp); (try with_reducible rfl)
  simp only [Act.put, List.setIfInBounds_toArray, List.set_cons_zero, List.set_cons_succ]
  refine wpAnyH_take (i := 4) (oi := { dst := some 73, op := _, type := _, pos := _, after := _, guard := _ }) (v := ?_) rfl (by kernel_rfl) (by kernel_rfl) (by kernel_rfl) (fun _ _ _ h => h) (Or.inl ⟨by rfl, ?_⟩) (by assumption) ?_
  rotate_left
  · (intro w hSw; clear hSw; go_simp); (try with_reducible rfl)
  simp only [Act.put, List.setIfInBounds_toArray, List.set_cons_zero, List.set_cons_succ]
  refine wpAnyH_take (i := 5) (oi := { dst := some 74, op := _, type := _, pos := _, after := _, guard := _ }) (v := ?_) rfl (by kernel_rfl) (by kernel_rfl) (by kernel_rfl) (fun _ _ _ h => h) (Or.inl ⟨by rfl, ?_⟩) (by assumption) ?_
  rotate_left
  · (intro w hSw; clear hSw; go_simp); (try with_reducible rfl)
  simp only [Act.put, List.setIfInBounds_toArray, List.set_cons_zero, List.set_cons_succ]
  refine wpAnyH_take (i := 6) (oi := { dst := some 75, op := _, type := _, pos := _, after := _, guard := _ }) (v := ?_) rfl (by kernel_rfl) (by kernel_rfl) (by kernel_rfl) (fun _ _ _ h => h) (Or.inl ⟨by rfl, ?_⟩) (by assumption) ?_
  rotate_left
  · (intro w hSw; clear hSw; go_simp); (try with_reducible rfl)
  simp only [Act.put, List.setIfInBounds_toArray, List.set_cons_zero, List.set_cons_succ]
  refine wpAnyH_take (i := 7) (oi := { dst := some 76, op := _, type := _, pos := _, after := _, guard := _ }) (v := ?_) rfl (by kernel_rfl) (by kernel_rfl) (by kernel_rfl) (fun _ _ _ h => h) (Or.inl ⟨by rfl, ?_⟩) (by assumption) ?_
  rotate_left
  · (intro w hSw; clear hSw; go_simp); (try with_reducible rfl)
  simp only [Act.put, List.setIfInBounds_toArray, List.set_cons_zero, List.set_cons_succ]
  refine wpAnyH_ready (rs := [8]) (by kernel_rfl) (by simp) ?_
  refine AllReadyH.cons (o := { dst := some 77, op := _, type := _, pos := _, after := _, guard := _ }) rfl (fun K hK => ?_) AllReadyH.nil
  refine Rg.step_copy_run (by rfl) (.tmp 73) (.tmp 76) 28 28 (by rfl) _ _ (by rfl) (by rfl) (hcp1.out _ _ _) ?_
  refine hK.out _ _ trivial (fun hH8 => ?_)
  clear hK K hH0
  simp only [Act.put]
  refine wpAnyH_done (by kernel_rfl) ?_ _
  go_wp2
  rw [hcp2.out]
  simp only [Result.andThen]
  rw [Oper.upon_value]
  go_wp2
  go_ret
  exact ⟨rfl, rfl⟩
set_option maxHeartbeats 4000000 in
set_option maxRecDepth 100000 in
theorem ins_grow (b o n c i N1 I1 G B : Nat) (W W1 W2 W3 : World) (vb : Nat) (v1 v2 : Value) (a2 : IntKind.i64.wrap ((n : Int) + 1) = (N1 : Int)) (a4 : IntKind.i64.wrap ((i : Int) + 1) = (I1 : Int)) (a6 : IntKind.i64.wrap ((N1 : Int) - (i : Int)) = ((N1 - i : Nat) : Int))
    (d1 : ((i : Int) == (n : Int)) = false) (d3 : decide (c < N1) = true) (z1 : (0 : Int) ≤ (i : Int)) (z2 : (i : Int) ≤ (n : Int)) (z4 : (i : Int) ≤ (c : Int)) (z5 : (0 : Int) ≤ (I1 : Int)) (z6 : (I1 : Int) ≤ (N1 : Int)) (z7 : (i : Int) ≤ (N1 : Int)) (e1 : ¬ c = i) (e2 : ¬ G = I1) (e3 : ¬ G = i)
    (hap : Hid ((Builtin.append_ #[28, 3] 28 #[.slice (some ⟨b, o, none⟩) i c, .int .i64 ((N1 - i : Nat) : Int)]).run Try.prog W = .ok (.slice (some ⟨B, 0, none⟩) N1 G) W1))
    (hcp1 : Hid (∀ ty dc, (Builtin.copy_ #[28, 28] ty #[.slice (some ⟨B, i * 6, none⟩) (N1 - i) dc, .slice (some ⟨vb, 0, none⟩) 1 1]).run Try.prog W1 = .ok v1 W2))
    (hcp2 : Hid (∀ ty dc sc, (Builtin.copy_ #[28, 28] ty #[.slice (some ⟨B, I1 * 6, none⟩) (N1 - I1) dc, .slice (some ⟨b, o + i * 6, none⟩) (n - i) sc]).run Try.prog W2.drew = .ok v2 W3)) :
    Calls Try.prog 91 #[.slice (some ⟨b, o, none⟩) n c, .int .i64 (i : Int), .slice (some ⟨vb, 0, none⟩) 1 1] W fun e w' => e = .returned (.slice (some ⟨B, 0, none⟩) N1 G) ∧ w' = W3 := by
  go_enter Try.func91, Try.ntmps91
  go_wp2_with (first | (at_builtin; refine wpList_appendR (by rfl) _ _ 28 3 (by rfl) _ _ (by rfl) (by rfl) hap.out ?_))
  rw [hcp1.out]
  simp only [Result.andThen]
  rw [Oper.upon_value]
  go_wp2
  refine wp_region_held_drew (S := (fun (_ : World) => True)) (by kernel_rfl) trivial (fun hH0 => ?_)
  refine wpAnyH_take (i := 0) (oi := { dst := some 46, op := _, type := _, pos := _, after := _, guard := _ }) (v := ?_) rfl (by kernel_rfl) (by kernel_rfl) (by kernel_rfl) (fun _ _ _ h => h) (Or.inl ⟨by rfl, ?_⟩) (by assumption) ?_
  rotate_left
  · (intro w hSw; clear hSw; go_simp); (try with_reducible rfl)
  simp only [Act.put, List.setIfInBounds_toArray, List.set_cons_zero, List.set_cons_succ]
  refine wpAnyH_take (i := 1) (oi := { dst := some 47, op := _, type := _, pos := _, after := _, guard := _ }) (v := ?_) rfl (by kernel_rfl) (by kernel_rfl) (by kernel_rfl) (fun _ _ _ h => h) (Or.inl ⟨by rfl, ?_⟩) (by assumption) ?_
  rotate_left
  · (intro w hSw; clear hSw; go_simp); (try with_reducible rfl)
  simp only [Act.put, List.setIfInBounds_toArray, List.set_cons_zero, List.set_cons_succ]
  refine wpAnyH_take (i := 2) (oi := { dst := some 48, op := _, type := _, pos := _, after := _, guard := _ }) (v := ?_) rfl (by kernel_rfl) (by kernel_rfl) (by kernel_rfl) (fun _ _ _ h => h) (Or.inl ⟨by rfl, ?_⟩) (by assumption) ?_
  rotate_left
  · (intro w hSw; clear hSw; go_simp); (try with_reducible rfl)
  simp only [Act.put, List.setIfInBounds_toArray, List.set_cons_zero, List.set_cons_succ]
  refine wpAnyH_take (i := 3) (oi := { dst := some 49, op := _, type := _, pos := _, after := _, guard := _ }) (v := ?_) rfl (by kernel_rfl) (by kernel_rfl) (by kernel_rfl) (fun _ _ _ h => h) (Or.inl ⟨by rfl, ?_⟩) (by assumption) ?_
  rotate_left
  · (intro w hSw; clear hSw; go_simp); (try with_reducible rfl)
  simp only [Act.put, List.setIfInBounds_toArray, List.set_cons_zero, List.set_cons_succ]
  refine wpAnyH_take (i := 4) (oi := { dst := some 50, op := _, type := _, pos := _, after := _, guard := _ }) (v := ?_) rfl (by kernel_rfl) (by kernel_rfl) (by kernel_rfl) (fun _ _ _ h => h) (Or.inl ⟨by rfl, ?_⟩) (by assumption) ?_
  rotate_left
  · (intro w hSw; clear hSw; go_simp); (try with_reducible rfl)
  simp only [Act.put, List.setIfInBounds_toArray, List.set_cons_zero, List.set_cons_succ]
  refine wpAnyH_take (i := 5) (oi := { dst := some 51, op := _, type := _, pos := _, after := _, guard := _ }) (v := ?_) rfl (by kernel_rfl) (by kernel_rfl) (by kernel_rfl) (fun _ _ _ h => h) (Or.inl ⟨by rfl, ?_⟩) (by assumption) ?_
  rotate_left
  · (intro w hSw; clear hSw; go_simp); (try with_reducible rfl)
  simp only [Act.put, List.setIfInBounds_toArray, List.set_cons_zero, List.set_cons_succ]
  refine wpAnyH_take (i := 6) (oi := { dst := some 52, op := _, type := _, pos := _, after := _, guard := _ }) (v := ?_) rfl (by kernel_rfl) (by kernel_rfl) (by kernel_rfl) (fun _ _ _ h => h) (Or.inl ⟨by rfl, ?_⟩) (by assumption) ?_
  rotate_left
  · (intro w hSw; clear hSw; go_simp); (try with_reducible rfl)
  simp only [Act.put, List.setIfInBounds_toArray, List.set_cons_zero, List.set_cons_succ]
  refine wpAnyH_take (i := 7) (oi := { dst := some 53, op := _, type := _, pos := _, after := _, guard := _ }) (v := ?_) rfl (by kernel_rfl) (by kernel_rfl) (by kernel_rfl) (fun _ _ _ h => h) (Or.inl ⟨by rfl, ?_⟩) (by assumption) ?_
  rotate_left
  · (intro w hSw; clear hSw; go_simp); (try with_reducible rfl)
  simp only [Act.put, List.setIfInBounds_toArray, List.set_cons_zero, List.set_cons_succ]
  refine wpAnyH_ready (rs := [8]) (by kernel_rfl) (by simp) ?_
  refine AllReadyH.cons (o := { dst := some 54, op := _, type := _, pos := _, after := _, guard := _ }) rfl (fun K hK => ?_) AllReadyH.nil
  refine Rg.step_copy_run (by rfl) (.tmp 50) (.tmp 53) 28 28 (by rfl) _ _ (by rfl) (by rfl) (hcp2.out _ _ _) ?_
  refine hK.out _ _ trivial (fun hH8 => ?_)
  clear hK K hH0
  simp only [Act.put]
  refine wpAnyH_done (by kernel_rfl) ?_ _
  go_wp2
  go_ret
  exact ⟨rfl, rfl⟩
end Go.Proofs.Ytlclfkogbfigbaa
