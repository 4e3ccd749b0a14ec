/-
  Layer 7: a row of calls and one more, behind each other.
-/
import Derived.Test.YtalleocmnnnchaaLn22
import Derived.ArgAppend
import Derived.OwnWalk
namespace Go.Proofs.Ytalleocmnnnchaa
open Go.RowKit

theorem infoCall : (Try.prog.info? 33).map (fun i => (i.zero, i.size, i.bytes)) = some (some (.agg #[.int .i64 0, .int .i64 0, .int .i64 0, .int .i64 0, .string ByteArray.empty]), 5, 48) := by kernel_rfl
theorem infoCall' : ∃ i0, Try.prog.info? 33 = some i0 ∧ i0.zero = some (.agg #[.int .i64 0, .int .i64 0, .int .i64 0, .int .i64 0, .string ByteArray.empty]) ∧ i0.size = 5 ∧ i0.bytes = 48 := by
  have := infoCall
  cases h : Try.prog.info? 33 with
  | none => rw [h] at this; cases this
  | some i => rw [h] at this; simp only [Option.map_some, Option.some.injEq, Prod.mk.injEq] at this; exact ⟨i, rfl, this.1, this.2.1, this.2.2⟩
/-- 'append([]Op{}, l...)' -/
theorem app_calls {w W : World} {a : Option Addr} {ca : Nat} {l : List Ln.Cl} (hrow : CRow0 w a l) (hnil : a = none → l = []) (hlen : l.length * 48 ≤ 140737488351232) (hb : Below w.heap.size w W) (g0 : Nat) (hg : Rg.Bk g0 [] 33 W) (hg0 : w.heap.size ≤ g0) :
    ∃ v' W', (Builtin.append_ #[22, 22] 22 #[.slice (some ⟨g0, 0, none⟩) 0 0, .slice a l.length ca]).run Try.prog W = .ok v' W' ∧ ∃ g cap rest, v' = .slice (some ⟨g, 0, none⟩) l.length cap ∧ callE.Own w.heap.size W' g cap l rest ∧ Below W.heap.size W W' := by
  obtain ⟨i0, hi, hz0, hz1, hz2⟩ := infoCall'
  have hown : W.ownsRow w.heap.size 33 5 (.slice (some ⟨g0, 0, none⟩) 0 0) 0 [] := ⟨rfl, .inr ⟨g0, 0, #[], rfl, hg0, hg, Nat.le_refl _, Nat.zero_le _, rfl, rfl⟩⟩
  have hOwn0 : callE.Own w.heap.size W g0 0 [] [] := ⟨hg, hg0, Nat.le_refl _, Nat.zero_le _, Nat.le_refl _⟩
  cases a with
  | none =>
    obtain rfl := hnil rfl
    refine ⟨.slice (some ⟨g0, 0, none⟩) 0 0, W, ?_, g0, 0, [], rfl, hOwn0, Below.refl _ _⟩
    simp [Builtin.append_, run_underlying Try.underlying22, sizeOf, typeInfo, hi, Builtin.lenOf, Builtin.firstCells, storeCells]
  | some ad =>
    have hnews : ∀ j u, (callE.flat l)[j]? = some u → W.cell? (ad.add j) = some u := by
      rcases hrow with rfl | ⟨b, o, e, hlt, hat⟩
      · intro j u hj; simp [Rg.El.flat] at hj
      · cases e; exact (hat.below hb hlt).add
    have hfl : (callE.flat l).length = l.length * 5 := callE.flat_length l
    obtain ⟨v', W', hrun, hown', hgr, hiff⟩ := run_append_own (P := Try.prog) W w.heap.size 22 22 33 i0 _ 5 48 Try.underlying22 hi hz0 hz1 hz2 rfl (by decide) (.slice (some ⟨g0, 0, none⟩) 0 0) 0 [] hown ad l.length ca (callE.flat l) hfl hnews (callE.flat_cells l) (by unfold maxLen; omega) (by omega) hb.size
    rw [Nat.zero_add, List.nil_append] at hown'
    have hv : ¬ v' = .slice none 0 0 := fun e => by have := (hiff.1 e).1; cases this
    obtain ⟨g, cap, rest, e, ho⟩ := Rg.El.Own.of (E := callE) hown' hv rfl
    by_cases h0 : l = []
    · subst h0
      have hr2 : (Builtin.append_ #[22, 22] 22 #[.slice (some ⟨g0, 0, none⟩) 0 0, .slice (some ad) 0 ca]).run Try.prog W = .ok (.slice (some ⟨g0, 0, none⟩) 0 0) W := by
        simp [Builtin.append_, run_underlying Try.underlying22, sizeOf, typeInfo, hi, Builtin.lenOf, Builtin.firstCells, storeCells, loadCells, loadCellsFrom]
      exact ⟨.slice (some ⟨g0, 0, none⟩) 0 0, W, hr2, g0, 0, [], rfl, hOwn0, Below.refl _ _⟩
    · have hpos : 0 < l.length := List.length_pos_iff.2 h0
      obtain ⟨v2, W2, hrun2, hown2, hgr2⟩ := run_append_arg_grows (P := Try.prog) W 22 22 33 i0 _ 5 48 Try.underlying22 hi hz0 hz1 hz2 rfl (by decide) ⟨g0, 0, none⟩ 0 0 [] rfl (fun j u hj => by simp at hj) ad l.length ca (callE.flat l) hfl hnews (by omega) (by unfold maxLen; omega) (by omega)
      rw [Nat.zero_add, List.nil_append] at hown2
      have hv2 : ¬ v2 = .slice none 0 0 := fun e => by
        subst e
        rcases hown2.2 with ⟨_, e⟩ | ⟨_, _, _, e, _⟩
        · omega
        · cases e
      obtain ⟨g, cap, rest, e, ho⟩ := Rg.El.Own.of (E := callE) hown2 hv2 rfl
      exact ⟨v2, W2, hrun2, g, cap, rest, e, ⟨ho.blk, Nat.le_trans hb.size ho.new, ho.le, ho.max, ho.fit⟩, (Below.refl _ _).grown hgr2 (Nat.le_refl _) (fun k hk => by cases hk)⟩
/-- 'append(.., o)' -/
theorem app_one {base g cap : Nat} {W : World} {l : List Ln.Cl} {rest : List Value} (h : callE.Own base W g cap l rest) (c : Ln.Cl) (hlen : l.length * 48 ≤ 140737488351232) (hB : base ≤ W.heap.size) (ad : Nat) (hc : Rg.At W ad 0 (callE.enc c)) :
    ∃ v' W', (Builtin.append_ #[22, 22] 22 #[.slice (some ⟨g, 0, none⟩) l.length cap, .slice (some ⟨ad, 0, none⟩) 1 1]).run Try.prog W = .ok v' W' ∧ ∃ g' cap', v' = .slice (some ⟨g', 0, none⟩) (l.length + 1) cap' ∧ CRow0 W' (some ⟨g', 0, none⟩) (l ++ [c]) ∧ Below base W W' := by
  obtain ⟨i0, hi, hz0, hz1, hz2⟩ := infoCall'
  obtain ⟨g', cap', rest', W', hrun, hown, _, hb, _⟩ := h.append (P := Try.prog) c 22 22 i0 _ 48 Try.underlying22 hi hz0 hz1 hz2 rfl ⟨ad, 0, none⟩ 1 hc.add hB (by omega) (by unfold maxLen; omega)
  exact ⟨_, W', hrun, g', cap', rfl, .inr ⟨g', 0, rfl, hown.lt, hown.row⟩, hb⟩

theorem Ln.play_refused (L : Ln.Li) (c : Ln.Cl) (h : (Ln.play L c).2.2 ≠ 0) : (Ln.play L c).1 = L := by
  obtain ⟨k, y, a, n, s⟩ := c
  unfold Ln.play at *
  dsimp only at *
  split at h
  · rename_i e; rw [if_pos e]
    revert h
    unfold Ln.send
    repeat' split
    all_goals simp
  rename_i e0; rw [if_neg e0]
  split at h
  · exact absurd rfl h
  rename_i e1; rw [if_neg e1]
  split at h
  · rename_i e; rw [if_pos e]
    revert h
    unfold Ln.flip
    repeat' split
    all_goals simp
  rename_i e2; rw [if_neg e2]
  split at h
  · rename_i e; rw [if_pos e]
    revert h
    unfold Ln.lose
    repeat' split
    all_goals simp
  rename_i e3; rw [if_neg e3]
  split at h
  · rename_i e; rw [if_pos e]
    revert h
    unfold Ln.add
    repeat' split
    all_goals simp
  rename_i e4; rw [if_neg e4]
  split at h
  · exact absurd rfl h
  rename_i e5; rw [if_neg e5]
  revert h
  unfold Ln.open_
  repeat' split
  all_goals simp
/-- 'same' of a line and itself, wherever each lies -/
theorem same_at (v v' : Value) (L : Ln.Li) (N : Nat) (w : World) (hL : Ln.LOk N L) (hN : N ≤ 1000000) (h : LAt w v L) (h' : LAt w v' L) : Calls Try.prog 15 #[v, v'] w fun e w' => VPost (.bool true) w e w' := by
  obtain ⟨b0, c0, g0, d0, b1, c1, g1, d1, rfl, h1, h2, h3, h4, h5, h6, h7, h8⟩ := h
  obtain ⟨b0', c0', g0', d0', b1', c1', g1', d1', rfl, k1, k2, k3, k4, k5, k6, k7, k8⟩ := h'
  have lba := hL.a.lbad
  have lga := hL.a.lgap
  have lbb := hL.b.lbad
  have lgb := hL.b.lgap
  have yes : ∀ l : List Int, decide (l = l) = true := fun l => by simp
  refine same_cells _ _ _ _ _ _ _ _ _ _ _ _ _ _ _ _ _ _ _ _ _ _ _ _ _ w ?_ ?_ ?_ ?_
  · exact fun W hW => by have := ints_any b0 c0 L.a.bad b0' c0' L.a.bad W (by omega) (h1.below hW) (k1.below hW); rwa [yes] at this
  · exact fun W hW => by have := ints_any g0 d0 L.a.gap g0' d0' L.a.gap W (by omega) (h3.below hW) (k3.below hW); rwa [yes] at this
  · exact fun W hW => by have := ints_any b1 c1 L.b.bad b1' c1' L.b.bad W (by omega) (h5.below hW) (k5.below hW); rwa [yes] at this
  · exact fun W hW => by have := ints_any g1 d1 L.b.gap g1' d1' L.b.gap W (by omega) (h7.below hW) (k7.below hW); rwa [yes] at this
end Go.Proofs.Ytalleocmnnnchaa
