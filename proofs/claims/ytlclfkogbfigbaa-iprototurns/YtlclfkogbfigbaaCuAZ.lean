/-
  Walks of layer 16: slices.Insert of a packet among those that came early, whole. Mathematics of layer 16: where a packet that came early is put among the others. Walks of layer 16: keep.
-/
import Derived.Test.YtlclfkogbfigbaaCuAY
import Derived.Test.YtlclfkogbfigbaaCuAG
namespace Go.Proofs.Ytlclfkogbfigbaa
open Go.RowKit
theorem cells_add (vb j : Nat) : (⟨vb, 0, none⟩ : Addr).add j = ⟨vb, j, none⟩ := by cases j <;> simp [Addr.add]
theorem cells_at' (g o j : Nat) : (⟨g, o, none⟩ : Addr).add j = ⟨g, o + j, none⟩ := by cases j <;> simp [Addr.add]
theorem ins_nums {n i : Nat} (hn : n ≤ 15) (hi : i < n) : IntKind.i64.wrap ((n : Int) + 1) = ((n + 1 : Nat) : Int) ∧ IntKind.i64.wrap ((i : Int) + 1) = ((i + 1 : Nat) : Int) ∧ ((i : Int) == (n : Int)) = false ∧ (0 : Int) ≤ (i : Int) ∧ (i : Int) ≤ (n : Int) ∧ (0 : Int) ≤ ((n + 1 : Nat) : Int) ∧ (0 : Int) ≤ ((i + 1 : Nat) : Int) ∧ ((i + 1 : Nat) : Int) ≤ ((n + 1 : Nat) : Int) ∧ (i : Int) ≤ ((n + 1 : Nat) : Int) ∧ IntKind.i64.wrap (((n + 1 : Nat) : Int) - (i : Int)) = ((n + 1 - i : Nat) : Int) := by
  refine ⟨?_, ?_, ?_, ?_, ?_, ?_, ?_, ?_, ?_, ?_⟩
  all_goals first
    | omega
    | (rw [IntKind.wrap_i64]; omega)
    | (rw [beq_eq_false_iff_ne]; omega)
theorem fi_drop_len (l : List Gp.Fi) (i : Nat) : (fiE.flat (l.drop i)).length = (l.length - i) * 6 := by rw [fi_len, List.length_drop]
theorem fi_drop_at {l : List Gp.Fi} {i : Nat} (hi : i ≤ l.length) {t : Nat} {u : Value} (h : (fiE.flat (l.drop i))[t]? = some u) : (fiE.flat l)[i * 6 + t]? = some u := by
  have hl : (fiE.flat (l.take i)).length = i * 6 := by rw [fi_len, List.length_take, Nat.min_eq_left hi]
  rw [fi_split l i, List.getElem?_append_right (by rw [hl]; omega), hl, Nat.add_sub_cancel_left]
  exact h
theorem fi_shape {b : Nat} {C : List Value} {W : World} (h : Rg.Bk b C 63 W) : W.shape? b = some (63, C.length) := by
  unfold Rg.Bk at h
  simp [World.shape?, h]
set_option maxHeartbeats 1000000 in
/-- into the middle of a row that has room -/
theorem insert_shift {eb : Nat} {W : World} {g o c : Nat} {l : List Gp.Fi} {C : List Value} (h : FO W g o c l C) (hg : eb < g) (i : Nat) (f : Gp.Fi) (vb : Nat) (hl : l.length ≤ 15) (hi : i < l.length) (hc : l.length < c) (kV : Rg.Bk vb (fiE.enc f) 63 W) (hvg : vb ≠ g) :
    Calls Try.prog 91 #[.slice (some ⟨g, o, none⟩) l.length c, .int .i64 (i : Int), .slice (some ⟨vb, 0, none⟩) 1 1] W fun e w' => InsP eb W (some g) (l.take i ++ f :: l.drop i) e w' := by
  have hfit := h.fit
  have hlen : (l.take i ++ f :: l.drop i).length = l.length + 1 := by simp; omega
  obtain ⟨q1, q2, q3, q4, q5, q6, q7, q8, q9, _⟩ := ins_nums hl hi
  have hdl := fi_drop_len l i
  have hC : o + (l.length + 1) * 6 ≤ C.length := by have : (l.length + 1) * 6 ≤ c * 6 := Nat.mul_le_mul_right _ hc; omega
  have hov : ∀ lb cb, (callFunc 95 #[.slice (some ⟨vb, 0, none⟩) 1 1, .slice (some ⟨g, o + (i + 1) * 6, none⟩) lb cb]).run Try.prog W = .ok (.value (.bool false)) W := fun lb cb => by
    rw [run_callFunc_extern Try.func95 (by kernel_rfl) (by kernel_rfl) (by kernel_rfl) (e := Extern.SlicesOverlaps.overlaps #[28, 28] #[4]) (by kernel_rfl),
      Lib.run_overlaps_apart W 28 4 63 Try.underlying28 6 Try.sizeOf63 ⟨vb, 0, none⟩ ⟨g, o + (i + 1) * 6, none⟩ 1 1 lb cb hvg _ _ _ _ (fi_shape kV) (fi_shape h.blk) (by omega) (kV.thaw 0) (kV.thaw _)]
    rfl
  have hsrc1 : ∀ j v, (fiE.flat (l.drop i))[j]? = some v → W.drew.cell? ((⟨g, o + i * 6, none⟩ : Addr).add j) = some v := fun j v hj => by
    rw [cells_at', Nat.add_assoc]
    exact (h.blk.cell _).trans (h.at_ _ _ (fi_drop_at (by omega) hj))
  have m1 : (fiE.flat (l.drop i)).length = Nat.min (l.length + 1 - i) (l.length + 1 - (i + 1)) * 6 := by rw [hdl]; congr 1; show _ = min _ _; omega
  have f1 : o + (i + 1) * 6 + (fiE.flat (l.drop i)).length ≤ C.length := by rw [hdl]; omega
  obtain ⟨v1, W1, c1, k1, o1⟩ := fi_copy (k := h.blk.drew) (o + (i + 1) * 6) (l.length + 1 - (i + 1)) 0 (l.length + 1 - i) 0 ⟨g, o + i * 6, none⟩ m1 hsrc1 f1 (fiE.flat_cells _) 3
  have hcp1 : ∀ ty dc sc, (Builtin.copy_ #[28, 28] ty #[.slice (some ⟨g, o + (i + 1) * 6, none⟩) (l.length + 1 - (i + 1)) dc, .slice (some ⟨g, o + i * 6, none⟩) (l.length + 1 - i) sc]).run Try.prog W.drew = .ok v1 W1 := fun ty dc sc => c1
  have kV1 : Rg.Bk vb (fiE.enc f) 63 W1 := kV.same (o1.block vb hvg)
  have m2 : (fiE.enc f).length = Nat.min 1 (l.length + 1 - i) * 6 := by rw [fi_enc]; show 6 = min 1 _ * 6; omega
  have l1 := over_len f1
  have f2 : o + i * 6 + (fiE.enc f).length ≤ (over C (o + (i + 1) * 6) (fiE.flat (l.drop i))).length := by rw [l1, fi_enc]; omega
  obtain ⟨v2, W2, c2, k2, o2⟩ := fi_copy (k := k1) (o + i * 6) (l.length + 1 - i) 0 1 1 ⟨vb, 0, none⟩ m2 (fun j v hj => by rw [cells_add, kV1.cell]; exact hj) f2 (fiE.one f) 3
  have hcp2 : ∀ ty dc, (Builtin.copy_ #[28, 28] ty #[.slice (some ⟨g, o + i * 6, none⟩) (l.length + 1 - i) dc, .slice (some ⟨vb, 0, none⟩) 1 1]).run Try.prog W1 = .ok v2 W2 := fun ty dc => c2
  refine (ins_shift g o l.length c i (l.length + 1) (i + 1) W W1 W2 vb v1 v2 q1 q2 q3 (by simp; omega) q4 q5 q6 (by omega) q7 q8 q9 (by omega) (by omega) hov hcp1 hcp2).mono fun e w' ⟨x1, x2⟩ => ?_
  subst x2
  have o3 : Rg.Only g W w' := (Rg.Only.drew W g).trans (o1.trans o2)
  have hF : FO w' g o c (l.take i ++ f :: l.drop i) (over (over C (o + (i + 1) * 6) (fiE.flat (l.drop i))) (o + i * 6) (fiE.enc f)) := by
    refine ⟨k2, by rw [over_len f2, l1]; exact hfit, h.max, by rw [hlen]; omega, fi_rows (by omega) (fun t u ht hu => ?_) (fun t u hu => ?_) (fun t u hu => ?_)⟩
    · rw [over_out f2 (.inl (by omega)), over_out f1 (.inl (by omega))]
      exact h.at_ t u hu
    · rw [over_in f2 (List.getElem?_eq_some_iff.1 hu).1]
      exact hu
    · have htl := (List.getElem?_eq_some_iff.1 hu).1
      rw [over_out f2 (.inr (by rw [fi_enc]; omega)), over_in f1 htl]
      exact hu
  exact ⟨g, _, c, by rw [x1, hlen], hF.ao hg, hF.le, .inl rfl, fun k _ hk => o3.block k (fun e => hk (by rw [e])), o3.bel (Nat.le_of_lt hg)⟩
set_option maxHeartbeats 1000000 in
/-- into the middle of a row that is full -/
theorem insert_grow {eb : Nat} {W : World} {g o c : Nat} {l : List Gp.Fi} {C : List Value} (h : FO W g o c l C) (hg : eb < g) (i : Nat) (f : Gp.Fi) (vb : Nat) (hl : l.length ≤ 15) (hi : i < l.length) (hc : c = l.length) (kV : Rg.Bk vb (fiE.enc f) 63 W) :
    Calls Try.prog 91 #[.slice (some ⟨g, o, none⟩) l.length c, .int .i64 (i : Int), .slice (some ⟨vb, 0, none⟩) 1 1] W fun e w' => InsP eb W (some g) (l.take i ++ f :: l.drop i) e w' := by
  subst hc
  have hfit := h.fit
  have hgw := h.blk.lt
  have hlen : (l.take i ++ f :: l.drop i).length = l.length + 1 := by simp; omega
  obtain ⟨q1, q2, q3, q4, q5, q6, q7, q8, q9, q10⟩ := ins_nums hl hi
  have hdl := fi_drop_len l i
  have htl : (fiE.flat (l.take i)).length = i * 6 := by rw [fi_len, List.length_take, Nat.min_eq_left (by omega)]
  obtain ⟨i0, hi0, hz0, hz1, hz2⟩ := infoFi'
  have hold : (Builtin.firstCells i0.size i (.slice (some ⟨g, o, none⟩) i l.length)).run Try.prog W.drew = .ok (fiE.flat (l.take i)).toArray W.drew := by
    rw [hz1]
    exact run_firstCells_some (P := Try.prog) W.drew 6 i ⟨g, o, none⟩ i l.length (fiE.flat (l.take i)) htl (fun j v hj => by
      rw [cells_at']
      refine (h.blk.cell _).trans (h.at_ j v ?_)
      rw [fi_split l i, List.getElem?_append_left (List.getElem?_eq_some_iff.1 hj).1]
      exact hj)
  have hap := Lib.run_append_grow_zeros (P := Try.prog) W 28 3 28 63 i0 _ .i64 .i64 Try.underlying28 Try.underlying3 hi0 hz0 (some ⟨g, o, none⟩) i l.length (fiE.flat (l.take i)) hold (l.length + 1 - i) (by omega) (by omega) (by omega) (by omega) (by rw [hz2]; omega) (by rw [hz2, show i + (l.length + 1 - i) = l.length + 1 by omega]; exact growslice_fits (by omega) (by omega))
  rw [show i + (l.length + 1 - i) = l.length + 1 by omega] at hap
  have hGge := grownCap_ge W (l.length + 1) l.length 63
  have hGmax := grownCap_le_maxLen W (l.length + 1) l.length 63 (by unfold maxLen; omega)
  generalize grownCap W (l.length + 1) l.length 63 = G at *
  obtain ⟨ROW, hROW⟩ : ∃ R : List Value, R = fiE.flat (l.take i) ++ (Builtin.zeroCells (Value.agg #[.int .i64 0, .int .i64 0, .int .i64 0, .int .i64 0, .bool false, .string ByteArray.empty]).cells (l.length + 1 - i)).toList ++ (Builtin.zeroCells (Value.agg #[.int .i64 0, .int .i64 0, .int .i64 0, .int .i64 0, .bool false, .string ByteArray.empty]).cells (G - (l.length + 1))).toList := ⟨_, rfl⟩
  have eR : (fiE.flat (l.take i)).toArray ++ Builtin.zeroCells (Value.agg #[.int .i64 0, .int .i64 0, .int .i64 0, .int .i64 0, .bool false, .string ByteArray.empty]).cells (l.length + 1 - i) ++ Builtin.zeroCells (Value.agg #[.int .i64 0, .int .i64 0, .int .i64 0, .int .i64 0, .bool false, .string ByteArray.empty]).cells (G - (l.length + 1)) = ROW.toArray := by
    rw [hROW]
    apply Array.ext'
    simp
  rw [eR] at hap
  have zc : ∀ k, (Builtin.zeroCells (Value.agg #[.int .i64 0, .int .i64 0, .int .i64 0, .int .i64 0, .bool false, .string ByteArray.empty]).cells k).toList.length = k * 6 := fun k => by
    rw [Array.length_toList]
    simp [Builtin.zeroCells, Value.cells]
  have hRl : ROW.length = G * 6 := by
    rw [hROW, List.length_append, List.length_append, htl, zc, zc]
    omega
  have hR1 : ∀ t u, (fiE.flat (l.take i))[t]? = some u → ROW[t]? = some u := fun t u ht => by
    rw [hROW, List.append_assoc, List.getElem?_append_left (List.getElem?_eq_some_iff.1 ht).1]
    exact ht
  obtain ⟨W1, hW1⟩ : ∃ W1, W1 = W.drew.alloc (.cells ROW.toArray 63) := ⟨_, rfl⟩
  rw [← hW1] at hap
  have kB : Rg.Bk W.heap.size ROW 63 W1 := by rw [hW1]; exact Rg.Bk.new rfl
  have b1 : Below W.heap.size W W1 := by rw [hW1]; exact (Below.drew (Below.refl _ _)).alloc (Nat.le_refl _) _
  clear hROW eR hW1 zc hold
  have kV1 := kV.below b1 kV.lt
  have m2 : (fiE.enc f).length = Nat.min 1 (l.length + 1 - i) * 6 := by rw [fi_enc]; show 6 = min 1 _ * 6; omega
  have f2 : i * 6 + (fiE.enc f).length ≤ ROW.length := by rw [hRl, fi_enc]; omega
  obtain ⟨v1, W2, c1, k1, o1⟩ := fi_copy (k := kB) (i * 6) (l.length + 1 - i) 0 1 1 ⟨vb, 0, none⟩ m2 (fun j v hj => by rw [cells_add, kV1.cell]; exact hj) f2 (fiE.one f) 3
  have l1 := over_len f2
  have h2 : Rg.Bk g C 63 W2 := (h.blk.below b1 hgw).same (o1.block g (by omega))
  have m3 : (fiE.flat (l.drop i)).length = Nat.min (l.length - i) (l.length + 1 - (i + 1)) * 6 := by rw [hdl, show Nat.min (l.length - i) (l.length + 1 - (i + 1)) = l.length - i from Nat.min_eq_left (by omega)]
  have f3 : (i + 1) * 6 + (fiE.flat (l.drop i)).length ≤ (over ROW (i * 6) (fiE.enc f)).length := by rw [l1, hRl, hdl]; omega
  obtain ⟨v2, W3, c2, k3, o2⟩ := fi_copy (k := k1.drew) ((i + 1) * 6) (l.length + 1 - (i + 1)) 0 (l.length - i) 0 ⟨g, o + i * 6, none⟩ m3 (fun j v hj => by
    rw [cells_at', Nat.add_assoc]
    exact (h2.cell _).trans (h.at_ _ _ (fi_drop_at (by omega) hj))) f3 (fiE.flat_cells _) 3
  refine (ins_grow g o l.length l.length i (l.length + 1) (i + 1) G W.heap.size W W1 W2 W3 vb v1 v2 q1 q2 q10 q3 (by simp) q4 q5 (by omega) q7 q8 q9 (by omega) (by omega) (by omega) hap (fun ty dc => c1) (fun ty dc sc => c2)).mono fun e w' ⟨x1, x2⟩ => ?_
  subst x2
  have hB : Below W.heap.size W w' := (b1.trans (o1.bel (Nat.le_refl _))).trans (((Below.refl _ _).drew).trans (o2.bel (Nat.le_refl _)))
  have hF : FO w' W.heap.size 0 G (l.take i ++ f :: l.drop i) (over (over ROW (i * 6) (fiE.enc f)) ((i + 1) * 6) (fiE.flat (l.drop i))) := by
    refine ⟨k3, by rw [over_len f3, l1, hRl]; omega, hGmax, by rw [hlen]; omega, fi_rows (by omega) (fun t u ht hu => ?_) (fun t u hu => ?_) (fun t u hu => ?_)⟩
    · rw [Nat.zero_add, over_out f3 (.inl (by omega)), over_out f2 (.inl (by omega))]
      refine hR1 t u ?_
      rw [fi_split l i, List.getElem?_append_left (by omega)] at hu
      exact hu
    · have htl := (List.getElem?_eq_some_iff.1 hu).1
      rw [fi_enc] at htl
      rw [Nat.zero_add, over_out f3 (.inl (by omega)), over_in f2 (by rw [fi_enc]; exact htl)]
      exact hu
    · rw [Nat.zero_add, over_in f3 (List.getElem?_eq_some_iff.1 hu).1]
      exact hu
  exact ⟨_, _, G, by rw [x1, hlen], hF.ao (by omega), hF.le, .inr (Nat.le_refl _), fun k hk _ => hB.block k hk, hB.mono (by omega)⟩
theorem insert_own {eb : Nat} {W : World} {g o c : Nat} {l : List Gp.Fi} {C : List Value} (h : FO W g o c l C) (hg : eb < g) (i : Nat) (f : Gp.Fi) (vb : Nat) (hl : l.length ≤ 15) (hi : i ≤ l.length) (kV : Rg.Bk vb (fiE.enc f) 63 W) (hvg : vb ≠ g) :
    Calls Try.prog 91 #[.slice (some ⟨g, o, none⟩) l.length c, .int .i64 (i : Int), .slice (some ⟨vb, 0, none⟩) 1 1] W fun e w' => InsP eb W (some g) (l.take i ++ f :: l.drop i) e w' := by
  have hle := h.le
  have hrow : ∀ j u, (fiE.flat l)[j]? = some u → W.cell? ((⟨g, o, none⟩ : Addr).add j) = some u := fun j u hj => by rw [cells_at', h.blk.cell]; exact h.at_ j u hj
  by_cases hin : i = l.length
  · subst hin
    have e1 : l.take l.length ++ f :: l.drop l.length = l ++ [f] := by simp
    rw [e1]
    have e2 : (l ++ [f]).length = l.length + 1 := by simp
    by_cases hc : c = l.length
    · subst hc
      obtain ⟨g', c', W', C', r1, r2, r3, r4⟩ := fi_full (n := l.length) (N1 := l.length + 1) (c := l.length) hrow rfl rfl hl (by omega) f vb kV 28
      refine (ins_full ⟨g, o, none⟩ l.length _ W W' vb (by omega) r1).mono fun e w' ⟨x1, x2⟩ => ?_
      subst x2
      have := h.blk.lt
      exact ⟨g', _, c', by rw [x1, e2], r2.ao (by omega), r2.le, .inr r3, fun k hk _ => r4.block k hk, r4.mono (by omega)⟩
    · obtain ⟨W', C', r1, r2, r3⟩ := fi_room (n := l.length) (N1 := l.length + 1) h rfl rfl f vb kV (by omega) 28
      refine (ins_end g o l.length c hc _ W W' vb (by omega) r1).mono fun e w' ⟨x1, x2⟩ => ?_
      subst x2
      exact ⟨g, _, c, by rw [x1, e2], r2.ao hg, r2.le, .inl rfl, fun k _ hk => r3.block k (fun e => hk (by rw [e])), r3.bel (Nat.le_of_lt hg)⟩
  · by_cases hc : c = l.length
    · exact insert_grow h hg i f vb hl (by omega) hc kV
    · exact insert_shift h hg i f vb hl (by omega) (by omega) kV hvg
/-- Insert into nothing -/
theorem insert_empty {eb : Nat} {W : World} (a : Option Addr) (f : Gp.Fi) (vb : Nat) (heb : eb < W.heap.size) (kV : Rg.Bk vb (fiE.enc f) 63 W) :
    Calls Try.prog 91 #[.slice a 0 0, .int .i64 0, .slice (some ⟨vb, 0, none⟩) 1 1] W fun e w' => InsP eb W none [f] e w' := by
  have henc : ∀ j u, (fiE.enc f)[j]? = some u → W.cell? ((⟨vb, 0, none⟩ : Addr).add j) = some u := fun j u hj => by rw [cells_add, kV.cell]; exact hj
  cases a with
  | none =>
    obtain ⟨i0, hi, hz0, hz1, hz2⟩ := infoFi'
    obtain ⟨g', cap', rest', W', r1, ho, r3, r4⟩ := fiE.append0 (P := Try.prog) W eb f 28 28 i0 _ 56 Try.underlying28 hi hz0 hz1 hz2 rfl ⟨vb, 0, none⟩ 1 henc (Nat.le_of_lt heb) (by omega)
    have hF : FO W' g' 0 cap' [f] (fiE.flat [f] ++ rest') := ⟨ho.blk, by have := ho.fit; have em : fiE.m = 6 := rfl; rw [em] at this; omega, ho.max, ho.le, fun t u ht => by rw [Nat.zero_add, List.getElem?_append_left (List.getElem?_eq_some_iff.1 ht).1]; exact ht⟩
    refine (ins_none _ W W' vb r1).mono fun e w' ⟨x1, x2⟩ => ?_
    subst x2
    exact ⟨g', _, cap', x1, hF.ao (by omega), hF.le, .inr r4, fun k hk _ => r3.block k hk, r3.mono (Nat.le_of_lt heb)⟩
  | some ad =>
    obtain ⟨g', c', W', C', r1, r2, r3, r4⟩ := fi_full (l := []) (ad := ad) (n := 0) (N1 := 1) (c := 0) (fun j u hj => by simp [Rg.El.flat_nil] at hj) rfl rfl (by omega) (by omega) f vb kV 28
    refine (ins_full ad 0 _ W W' vb (by omega) r1).mono fun e w' ⟨x1, x2⟩ => ?_
    subst x2
    exact ⟨g', _, c', x1, r2.ao (by omega), r2.le, .inr r3, fun k hk _ => r4.block k hk, r4.mono (Nat.le_of_lt heb)⟩
end Go.Proofs.Ytlclfkogbfigbaa

namespace Go.Proofs.Ytlclfkogbfigbaa
namespace Ip
open Gp (Dr Pc Fi)
/-- how many stand ahead -/
def pos (w E : Int) : List Fi → Nat
  | [] => 0
  | g :: r => if early w g.nm < E then pos w E r + 1 else 0
theorem pos_cons (w E : Int) (g : Fi) (r : List Fi) : pos w E (g :: r) = if early w g.nm < E then pos w E r + 1 else 0 := rfl
theorem pos_le (w E : Int) : ∀ l : List Fi, pos w E l ≤ l.length
  | [] => Nat.le_refl _
  | g :: r => by
    unfold pos
    split
    · have := pos_le w E r
      rw [List.length_cons]
      omega
    · exact Nat.zero_le _
theorem ok_all {w : Int} : ∀ {last : Int} {l : List Fi}, okAhead w last l → ∀ t (h : t < l.length), last < early w l[t].nm ∧ early w l[t].nm ≤ 15
  | _, [], _, t, h => absurd h (Nat.not_lt_zero t)
  | last, g :: r, ⟨_, h2, h3, h4⟩, 0, _ => ⟨h2, h3⟩
  | last, g :: r, ⟨_, h2, h3, h4⟩, t + 1, h => by
    have ht : t < r.length := by simpa using h
    have := ok_all h4 t ht
    exact ⟨by show last < early w (r[t]'ht).nm; omega, this.2⟩
theorem pos_lt {w E : Int} : ∀ {last : Int} {l : List Fi}, okAhead w last l → ∀ t (h : t < l.length), (early w l[t].nm < E ↔ t < pos w E l)
  | _, [], _, t, h => absurd h (Nat.not_lt_zero t)
  | last, g :: r, ⟨_, h2, h3, h4⟩, 0, _ => by
    unfold pos
    show early w g.nm < E ↔ _
    split
    · rename_i c; exact ⟨fun _ => Nat.succ_pos _, fun _ => c⟩
    · rename_i c; exact ⟨fun x => absurd x c, fun x => absurd x (Nat.lt_irrefl 0)⟩
  | last, g :: r, ⟨_, h2, h3, h4⟩, t + 1, h => by
    have ht : t < r.length := by simpa using h
    have ih := pos_lt (E := E) h4 t ht
    have ha := ok_all h4 t ht
    unfold pos
    show early w (r[t]'ht).nm < E ↔ _
    split
    · rw [ih]; omega
    · rename_i c
      exact ⟨fun x => absurd (show early w g.nm < E by omega) c, fun x => absurd x (Nat.not_lt_zero _)⟩
theorem ins_pos {w : Int} {f : Fi} : ∀ {last : Int} {l : List Fi}, okAhead w last l →
    ins w f l = if h : pos w (early w f.nm) l < l.length then (if early w l[pos w (early w f.nm) l].nm = early w f.nm then l else l.take (pos w (early w f.nm) l) ++ f :: l.drop (pos w (early w f.nm) l)) else l.take (pos w (early w f.nm) l) ++ f :: l.drop (pos w (early w f.nm) l)
  | _, [], _ => rfl
  | last, g :: r, ⟨_, h2, h3, h4⟩ => by
    have ih := ins_pos (f := f) h4
    unfold ins
    by_cases c : early w g.nm < early w f.nm
    · have ep : pos w (early w f.nm) (g :: r) = pos w (early w f.nm) r + 1 := by rw [pos_cons, if_pos c]
      rw [if_pos c, ih]
      by_cases hp : pos w (early w f.nm) r < r.length
      · rw [dif_pos hp, dif_pos (by rw [ep, List.length_cons]; omega)]
        have eg : (g :: r)[pos w (early w f.nm) (g :: r)]'(by rw [ep, List.length_cons]; omega) = r[pos w (early w f.nm) r] := by simp only [ep]; rfl
        rw [eg]
        by_cases hq : early w r[pos w (early w f.nm) r].nm = early w f.nm
        · rw [if_pos hq, if_pos hq]
        · rw [if_neg hq, if_neg hq, ep]; rfl
      · rw [dif_neg hp, dif_neg (by rw [ep, List.length_cons]; omega), ep]; rfl
    · have ep : pos w (early w f.nm) (g :: r) = 0 := by rw [pos_cons, if_neg c]
      rw [if_neg c, dif_pos (by rw [ep, List.length_cons]; omega)]
      have eg : (g :: r)[pos w (early w f.nm) (g :: r)]'(by rw [ep, List.length_cons]; omega) = g := by simp only [ep]; rfl
      rw [eg, ep]
      by_cases hq : early w g.nm = early w f.nm
      · rw [if_pos hq, if_pos hq]
      · rw [if_neg hq, if_neg hq]; rfl
theorem ins_len (w : Int) (f : Fi) : ∀ l : List Fi, (ins w f l).length ≤ l.length + 1
  | [] => Nat.le_refl _
  | g :: r => by
    have := ins_len w f r
    unfold ins
    split
    · simp; omega
    split
    · simp
    · simp
end Ip
end Go.Proofs.Ytlclfkogbfigbaa

namespace Go.Proofs.Ytlclfkogbfigbaa
open Go.RowKit
set_option maxHeartbeats 4000000 in
set_option maxRecDepth 100000 in
theorem ikeepC_go (pb eb : Nat) (wa : Int) (ak an aa ac : Int) (ab : Bool) (ad : ByteArray) (bk bn ba bc : Int) (bb : Bool) (bd : ByteArray) (A B R : Int) (w : World) (hp : w.cell? ⟨pb, 0, none⟩ = some (.pointer (some ⟨eb, 0, none⟩))) (hw : w.cell? ⟨eb, 10, none⟩ = some (.int .i64 wa)) (hpb : pb < w.heap.size) (heb : eb < w.heap.size) (hR : IntKind.i64.wrap (A - B) = R)
    (HA : Hid (∀ W, Calls Try.prog 74 #[.int .i64 wa, .agg #[.int .i64 ak, .int .i64 an, .int .i64 aa, .int .i64 ac, .bool ab, .string ad]] W fun e w' => e = .returned (.int .i64 A) ∧ Below W.heap.size W w'))
    (HB : Hid (∀ W, Calls Try.prog 74 #[.int .i64 wa, .agg #[.int .i64 bk, .int .i64 bn, .int .i64 ba, .int .i64 bc, .bool bb, .string bd]] W fun e w' => e = .returned (.int .i64 B) ∧ Below W.heap.size W w')) :
    Calls Try.prog 90 #[.agg #[.int .i64 ak, .int .i64 an, .int .i64 aa, .int .i64 ac, .bool ab, .string ad], .agg #[.int .i64 bk, .int .i64 bn, .int .i64 ba, .int .i64 bc, .bool bb, .string bd], .pointer (some ⟨pb, 0, none⟩)] w fun e w' => e = .returned (.int .i64 R) ∧ Below w.heap.size w w' := by
  have b0 := Rg.hid (Rg.al2 w (.cells #[.int .i64 ak, .int .i64 an, .int .i64 aa, .int .i64 ac, .bool ab, .string ad] 63) (.cells #[.int .i64 bk, .int .i64 bn, .int .i64 ba, .int .i64 bc, .bool bb, .string bd] 63))
  have kA0 : Hid (Rg.Bk w.heap.size [.int .i64 ak, .int .i64 an, .int .i64 aa, .int .i64 ac, .bool ab, .string ad] 63 ((w.alloc (.cells #[.int .i64 ak, .int .i64 an, .int .i64 aa, .int .i64 ac, .bool ab, .string ad] 63)).alloc (.cells #[.int .i64 bk, .int .i64 bn, .int .i64 ba, .int .i64 bc, .bool bb, .string bd] 63))) := (Rg.Bk.new rfl).old _
  have kB0 : Hid (Rg.Bk (w.heap.size + 1) [.int .i64 bk, .int .i64 bn, .int .i64 ba, .int .i64 bc, .bool bb, .string bd] 63 ((w.alloc (.cells #[.int .i64 ak, .int .i64 an, .int .i64 aa, .int .i64 ac, .bool ab, .string ad] 63)).alloc (.cells #[.int .i64 bk, .int .i64 bn, .int .i64 ba, .int .i64 bc, .bool bb, .string bd] 63))) := Rg.Bk.new (by simp)
  have hbc := Rg.bcell b0.out
  have c1 := (hbc.1 pb 0 hpb).trans hp
  have c2 := (hbc.1 eb 10 heb).trans hw
  clear hbc hp hw
  go_enter Try.func90, Try.ntmps90
  go_upto_region 1 with fail
  generalize World.alloc _ _ = w1 at *
  obtain ⟨PA, hPA⟩ : ∃ PA, PA = w.heap.size := ⟨_, rfl⟩
  obtain ⟨PB, hPB⟩ : ∃ PB, PB = w.heap.size + 1 := ⟨_, rfl⟩
  rw [← hPB] at kB0 ⊢
  rw [← hPA] at kA0 ⊢
  have hl1 : pb < w1.heap.size := Nat.lt_of_lt_of_le hpb b0.out.size
  have hl2 : eb < w1.heap.size := Nat.lt_of_lt_of_le heb b0.out.size
  have hl3 := kA0.out.lt
  have hl4 := kB0.out.lt
  replace hPA := Rg.hid hPA
  replace hPB := Rg.hid hPB
  have g0 : w1.cell? ⟨PA, 0, none⟩ = some (.int .i64 ak) := kA0.out.cell 0
  have g1 : w1.cell? ⟨PA, 1, none⟩ = some (.int .i64 an) := kA0.out.cell 1
  have g2 : w1.cell? ⟨PA, 2, none⟩ = some (.int .i64 aa) := kA0.out.cell 2
  have g3 : w1.cell? ⟨PA, 3, none⟩ = some (.int .i64 ac) := kA0.out.cell 3
  have g4 : w1.cell? ⟨PA, 4, none⟩ = some (.bool ab) := kA0.out.cell 4
  have g5 : w1.cell? ⟨PA, 5, none⟩ = some (.string ad) := kA0.out.cell 5
  have f0 : w1.cell? ⟨PB, 0, none⟩ = some (.int .i64 bk) := kB0.out.cell 0
  have f1 : w1.cell? ⟨PB, 1, none⟩ = some (.int .i64 bn) := kB0.out.cell 1
  have f2 : w1.cell? ⟨PB, 2, none⟩ = some (.int .i64 ba) := kB0.out.cell 2
  have f3 : w1.cell? ⟨PB, 3, none⟩ = some (.int .i64 bc) := kB0.out.cell 3
  have f4 : w1.cell? ⟨PB, 4, none⟩ = some (.bool bb) := kB0.out.cell 4
  have f5 : w1.cell? ⟨PB, 5, none⟩ = some (.string bd) := kB0.out.cell 5
  clear kA0 kB0
  have hcells : Hid (∀ w', Below w1.heap.size w1 w' → w'.cell? ⟨pb, 0, none⟩ = some (.pointer (some ⟨eb, 0, none⟩)) ∧ w'.cell? ⟨eb, 10, none⟩ = some (.int .i64 wa) ∧ w'.cell? ⟨PA, 0, none⟩ = some (.int .i64 ak) ∧ w'.cell? ⟨PA, 1, none⟩ = some (.int .i64 an) ∧ w'.cell? ⟨PA, 2, none⟩ = some (.int .i64 aa) ∧ w'.cell? ⟨PA, 3, none⟩ = some (.int .i64 ac) ∧ w'.cell? ⟨PA, 4, none⟩ = some (.bool ab) ∧ w'.cell? ⟨PA, 5, none⟩ = some (.string ad) ∧ w'.cell? ⟨PB, 0, none⟩ = some (.int .i64 bk) ∧ w'.cell? ⟨PB, 1, none⟩ = some (.int .i64 bn) ∧ w'.cell? ⟨PB, 2, none⟩ = some (.int .i64 ba) ∧ w'.cell? ⟨PB, 3, none⟩ = some (.int .i64 bc) ∧ w'.cell? ⟨PB, 4, none⟩ = some (.bool bb) ∧ w'.cell? ⟨PB, 5, none⟩ = some (.string bd)) := fun w' hb => by
    have hk := (Rg.bcell hb).1
    exact ⟨(hk _ _ hl1).trans c1, (hk _ _ hl2).trans c2, (hk _ _ hl3).trans g0, (hk _ _ hl3).trans g1, (hk _ _ hl3).trans g2, (hk _ _ hl3).trans g3, (hk _ _ hl3).trans g4, (hk _ _ hl3).trans g5, (hk _ _ hl4).trans f0, (hk _ _ hl4).trans f1, (hk _ _ hl4).trans f2, (hk _ _ hl4).trans f3, (hk _ _ hl4).trans f4, (hk _ _ hl4).trans f5⟩
  have HA1 : Hid (∀ W, Below w1.heap.size w1 W → Calls Try.prog 74 #[.int .i64 wa, .agg #[.int .i64 ak, .int .i64 an, .int .i64 aa, .int .i64 ac, .bool ab, .string ad]] W fun e w' => e = .returned (.int .i64 A) ∧ Hid (Below w1.heap.size w1 w') ∧ w'.cell? ⟨pb, 0, none⟩ = some (.pointer (some ⟨eb, 0, none⟩)) ∧ w'.cell? ⟨eb, 10, none⟩ = some (.int .i64 wa) ∧ w'.cell? ⟨PA, 0, none⟩ = some (.int .i64 ak) ∧ w'.cell? ⟨PA, 1, none⟩ = some (.int .i64 an) ∧ w'.cell? ⟨PA, 2, none⟩ = some (.int .i64 aa) ∧ w'.cell? ⟨PA, 3, none⟩ = some (.int .i64 ac) ∧ w'.cell? ⟨PA, 4, none⟩ = some (.bool ab) ∧ w'.cell? ⟨PA, 5, none⟩ = some (.string ad) ∧ w'.cell? ⟨PB, 0, none⟩ = some (.int .i64 bk) ∧ w'.cell? ⟨PB, 1, none⟩ = some (.int .i64 bn) ∧ w'.cell? ⟨PB, 2, none⟩ = some (.int .i64 ba) ∧ w'.cell? ⟨PB, 3, none⟩ = some (.int .i64 bc) ∧ w'.cell? ⟨PB, 4, none⟩ = some (.bool bb) ∧ w'.cell? ⟨PB, 5, none⟩ = some (.string bd)) := fun W hW => (HA.out W).mono fun e w' ⟨x1, x2⟩ => ⟨x1, Rg.chain hW x2, hcells.out w' (Rg.chain hW x2)⟩
  have HB1 : Hid (∀ W, Below w1.heap.size w1 W → Calls Try.prog 74 #[.int .i64 wa, .agg #[.int .i64 bk, .int .i64 bn, .int .i64 ba, .int .i64 bc, .bool bb, .string bd]] W fun e w' => e = .returned (.int .i64 B) ∧ Hid (Below w1.heap.size w1 w') ∧ w'.cell? ⟨pb, 0, none⟩ = some (.pointer (some ⟨eb, 0, none⟩)) ∧ w'.cell? ⟨eb, 10, none⟩ = some (.int .i64 wa) ∧ w'.cell? ⟨PA, 0, none⟩ = some (.int .i64 ak) ∧ w'.cell? ⟨PA, 1, none⟩ = some (.int .i64 an) ∧ w'.cell? ⟨PA, 2, none⟩ = some (.int .i64 aa) ∧ w'.cell? ⟨PA, 3, none⟩ = some (.int .i64 ac) ∧ w'.cell? ⟨PA, 4, none⟩ = some (.bool ab) ∧ w'.cell? ⟨PA, 5, none⟩ = some (.string ad) ∧ w'.cell? ⟨PB, 0, none⟩ = some (.int .i64 bk) ∧ w'.cell? ⟨PB, 1, none⟩ = some (.int .i64 bn) ∧ w'.cell? ⟨PB, 2, none⟩ = some (.int .i64 ba) ∧ w'.cell? ⟨PB, 3, none⟩ = some (.int .i64 bc) ∧ w'.cell? ⟨PB, 4, none⟩ = some (.bool bb) ∧ w'.cell? ⟨PB, 5, none⟩ = some (.string bd)) := fun W hW => (HB.out W).mono fun e w' ⟨x1, x2⟩ => ⟨x1, Rg.chain hW x2, hcells.out w' (Rg.chain hW x2)⟩
  have b3 : Hid (Below w1.heap.size w1 w1.drew) := (Below.refl _ _).drew
  clear HA HB hcells hl1 hl2 hl3 hl4 hpb heb hPA hPB
  refine wp_region_held_drew (S := (fun (w' : World) => w'.cell? ⟨pb, 0, none⟩ = some (.pointer (some ⟨eb, 0, none⟩)) ∧ w'.cell? ⟨eb, 10, none⟩ = some (.int .i64 wa) ∧ w'.cell? ⟨PA, 0, none⟩ = some (.int .i64 ak) ∧ w'.cell? ⟨PA, 1, none⟩ = some (.int .i64 an) ∧ w'.cell? ⟨PA, 2, none⟩ = some (.int .i64 aa) ∧ w'.cell? ⟨PA, 3, none⟩ = some (.int .i64 ac) ∧ w'.cell? ⟨PA, 4, none⟩ = some (.bool ab) ∧ w'.cell? ⟨PA, 5, none⟩ = some (.string ad) ∧ w'.cell? ⟨PB, 0, none⟩ = some (.int .i64 bk) ∧ w'.cell? ⟨PB, 1, none⟩ = some (.int .i64 bn) ∧ w'.cell? ⟨PB, 2, none⟩ = some (.int .i64 ba) ∧ w'.cell? ⟨PB, 3, none⟩ = some (.int .i64 bc) ∧ w'.cell? ⟨PB, 4, none⟩ = some (.bool bb) ∧ w'.cell? ⟨PB, 5, none⟩ = some (.string bd))) (by kernel_rfl) ?_ (fun hH0 => ?_)
  · exact ⟨c1, c2, g0, g1, g2, g3, g4, g5, f0, f1, f2, f3, f4, f5⟩
  refine wpAnyH_take (i := 0) (oi := { dst := some 6, op := _, type := _, pos := _, after := _, guard := _ }) (v := ?_) rfl (by kernel_rfl) (by kernel_rfl) (by kernel_rfl) (fun _ _ _ h => h) (Or.inl ⟨by rfl, ?_⟩) (by assumption) ?_
  rotate_left
  · (intro w hSw; (try dsimp only at hSw); go_simp); (try with_reducible rfl)
  simp only [Act.put, List.setIfInBounds_toArray, List.set_cons_zero, List.set_cons_succ]
  refine wpAnyH_take (i := 1) (oi := { dst := some 7, op := _, type := _, pos := _, after := _, guard := _ }) (v := ?_) rfl (by kernel_rfl) (by kernel_rfl) (by kernel_rfl) (fun _ _ _ h => h) (Or.inl ⟨by rfl, ?_⟩) (by assumption) ?_
  rotate_left
  · (intro w hSw; (try dsimp only at hSw); go_simp); (try with_reducible rfl)
  simp only [Act.put, List.setIfInBounds_toArray, List.set_cons_zero, List.set_cons_succ]
  refine wpAnyH_take (i := 2) (oi := { dst := some 8, op := _, type := _, pos := _, after := _, guard := _ }) (v := ?_) rfl (by kernel_rfl) (by kernel_rfl) (by kernel_rfl) (fun _ _ _ h => h) (Or.inl ⟨by rfl, ?_⟩) (by assumption) ?_
  rotate_left
  · (intro w hSw; (try dsimp only at hSw); go_simp); (try with_reducible rfl)
  simp only [Act.put, List.setIfInBounds_toArray, List.set_cons_zero, List.set_cons_succ]
  refine wpAnyH_take (i := 3) (oi := { dst := some 9, op := _, type := _, pos := _, after := _, guard := _ }) (v := ?_) rfl (by kernel_rfl) (by kernel_rfl) (by kernel_rfl) (fun _ _ _ h => h) (Or.inl ⟨by rfl, ?_⟩) (by assumption) ?_
  rotate_left
  · (intro w hSw; (try dsimp only at hSw); go_simp); (try with_reducible rfl)
  simp only [Act.put, List.setIfInBounds_toArray, List.set_cons_zero, List.set_cons_succ]
  refine wpAnyH_take (i := 4) (oi := { dst := some 10, op := _, type := _, pos := _, after := _, guard := _ }) (v := ?_) rfl (by kernel_rfl) (by kernel_rfl) (by kernel_rfl) (fun _ _ _ h => h) (Or.inl ⟨by rfl, ?_⟩) (by assumption) ?_
  rotate_left
  · (intro w hSw; (try dsimp only at hSw); go_simp); (try with_reducible rfl)
  simp only [Act.put, List.setIfInBounds_toArray, List.set_cons_zero, List.set_cons_succ]
  refine wpAnyH_take (i := 5) (oi := { dst := some 11, op := _, type := _, pos := _, after := _, guard := _ }) (v := ?_) rfl (by kernel_rfl) (by kernel_rfl) (by kernel_rfl) (fun _ _ _ h => h) (Or.inl ⟨by rfl, ?_⟩) (by assumption) ?_
  rotate_left
  · (intro w hSw; (try dsimp only at hSw); go_simp); (try with_reducible rfl)
  simp only [Act.put, List.setIfInBounds_toArray, List.set_cons_zero, List.set_cons_succ]
  refine wpAnyH_take (i := 7) (oi := { dst := some 13, op := _, type := _, pos := _, after := _, guard := _ }) (v := ?_) rfl (by kernel_rfl) (by kernel_rfl) (by kernel_rfl) (fun _ _ _ h => h) (Or.inl ⟨by rfl, ?_⟩) (by assumption) ?_
  rotate_left
  · (intro w hSw; (try dsimp only at hSw); go_simp); (try with_reducible rfl)
  simp only [Act.put, List.setIfInBounds_toArray, List.set_cons_zero, List.set_cons_succ]
  refine wpAnyH_take (i := 8) (oi := { dst := some 14, op := _, type := _, pos := _, after := _, guard := _ }) (v := ?_) rfl (by kernel_rfl) (by kernel_rfl) (by kernel_rfl) (fun _ _ _ h => h) (Or.inl ⟨by rfl, ?_⟩) (by assumption) ?_
  rotate_left
  · (intro w hSw; (try dsimp only at hSw); go_simp); (try with_reducible rfl)
  simp only [Act.put, List.setIfInBounds_toArray, List.set_cons_zero, List.set_cons_succ]
  refine wpAnyH_take (i := 9) (oi := { dst := some 15, op := _, type := _, pos := _, after := _, guard := _ }) (v := ?_) rfl (by kernel_rfl) (by kernel_rfl) (by kernel_rfl) (fun _ _ _ h => h) (Or.inl ⟨by rfl, ?_⟩) (by assumption) ?_
  rotate_left
  · (intro w hSw; (try dsimp only at hSw); go_simp); (try with_reducible rfl)
  simp only [Act.put, List.setIfInBounds_toArray, List.set_cons_zero, List.set_cons_succ]
  refine wpAnyH_take (i := 10) (oi := { dst := some 16, op := _, type := _, pos := _, after := _, guard := _ }) (v := ?_) rfl (by kernel_rfl) (by kernel_rfl) (by kernel_rfl) (fun _ _ _ h => h) (Or.inl ⟨by rfl, ?_⟩) (by assumption) ?_
  rotate_left
  · (intro w hSw; (try dsimp only at hSw); go_simp); (try with_reducible rfl)
  simp only [Act.put, List.setIfInBounds_toArray, List.set_cons_zero, List.set_cons_succ]
  refine wpAnyH_take (i := 11) (oi := { dst := some 17, op := _, type := _, pos := _, after := _, guard := _ }) (v := ?_) rfl (by kernel_rfl) (by kernel_rfl) (by kernel_rfl) (fun _ _ _ h => h) (Or.inl ⟨by rfl, ?_⟩) (by assumption) ?_
  rotate_left
  · (intro w hSw; (try dsimp only at hSw); go_simp); (try with_reducible rfl)
  simp only [Act.put, List.setIfInBounds_toArray, List.set_cons_zero, List.set_cons_succ]
  refine wpAnyH_take (i := 12) (oi := { dst := some 18, op := _, type := _, pos := _, after := _, guard := _ }) (v := ?_) rfl (by kernel_rfl) (by kernel_rfl) (by kernel_rfl) (fun _ _ _ h => h) (Or.inl ⟨by rfl, ?_⟩) (by assumption) ?_
  rotate_left
  · (intro w hSw; (try dsimp only at hSw); go_simp); (try with_reducible rfl)
  simp only [Act.put, List.setIfInBounds_toArray, List.set_cons_zero, List.set_cons_succ]
  refine wpAnyH_ready (rs := [6]) (by kernel_rfl) (by simp) ?_
  refine AllReadyH.cons (o := { dst := some 12, op := _, type := _, pos := _, after := _, guard := _ }) rfl (fun K hK => ?_) AllReadyH.nil
  go_simp
  go_at_call 74; refine (HA1.out _ b3.out).mono ?_; rintro e w3 ⟨rfl, b3, k1, k2, i0, i1, i2, i3, i4, i5, j0, j1, j2, j3, j4, j5⟩
  refine hK.out _ _ ?_ (fun hH1 => ?_)
  · exact ⟨k1, k2, i0, i1, i2, i3, i4, i5, j0, j1, j2, j3, j4, j5⟩
  clear hK K hH0
  try simp only [Act.put, List.setIfInBounds_toArray, List.set_cons_zero, List.set_cons_succ]
  refine wpAnyH_ready (rs := [13]) (by kernel_rfl) (by simp) ?_
  refine AllReadyH.cons (o := { dst := some 19, op := _, type := _, pos := _, after := _, guard := _ }) rfl (fun K hK => ?_) AllReadyH.nil
  go_simp
  go_at_call 74; refine (HB1.out _ b3.out).mono ?_; rintro e w3 ⟨rfl, b3, k1, k2, i0, i1, i2, i3, i4, i5, j0, j1, j2, j3, j4, j5⟩
  refine hK.out _ _ ?_ (fun hH2 => ?_)
  · exact ⟨k1, k2, i0, i1, i2, i3, i4, i5, j0, j1, j2, j3, j4, j5⟩
  clear hK K hH1
  try simp only [Act.put, List.setIfInBounds_toArray, List.set_cons_zero, List.set_cons_succ]
  refine wpAnyH_take (i := 14) (oi := { dst := some 20, op := _, type := _, pos := _, after := _, guard := _ }) (v := ?_) rfl (by kernel_rfl) (by kernel_rfl) (by kernel_rfl) (fun _ _ _ h => h) (Or.inl ⟨by rfl, ?_⟩) (by assumption) ?_
  rotate_left
  · (intro w hSw; (try dsimp only at hSw); go_simp); (try with_reducible rfl)
  simp only [Act.put, List.setIfInBounds_toArray, List.set_cons_zero, List.set_cons_succ]
  refine wpAnyH_take (i := 15) (oi := { dst := some 5, op := _, type := _, pos := _, after := _, guard := _ }) (v := ?_) rfl (by kernel_rfl) (by kernel_rfl) (by kernel_rfl) (fun _ _ _ h => h) (Or.inl ⟨by rfl, ?_⟩) (by assumption) ?_
  rotate_left
  · (intro w hSw; (try dsimp only at hSw); go_simp); (try with_reducible rfl)
  simp only [Act.put, List.setIfInBounds_toArray, List.set_cons_zero, List.set_cons_succ]
  refine wpAnyH_done (by kernel_rfl) ?_ _
  have hfin := Rg.hid (Rg.chain b0.out b3.out)
  clear b3 k1 k2 i0 i1 i2 i3 i4 i5 j0 j1 j2 j3 j4 j5 b0 HA1 HB1 c1 c2 g0 g1 g2 g3 g4 g5 f0 f1 f2 f3 f4 f5
  go_wp2
  go_ret
  exact ⟨rfl, hfin.out⟩
end Go.Proofs.Ytlclfkogbfigbaa
