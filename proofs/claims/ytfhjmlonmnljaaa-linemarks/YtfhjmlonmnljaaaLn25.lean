/-
  Layer 7: LineMarks: mathematics of its walk.
-/
import Derived.Test.YtfhjmlonmnljaaaLn24
import Derived.Test.YtfhjmlonmnljaaaMathR
namespace Go.Proofs.Ytfhjmlonmnljaaa
open Go.RowKit

theorem Ln.play_good (L : Ln.Li) (c : Ln.Cl) (h1 : 1 ≤ c.k) (h4 : c.k ≤ 4) (hy : c.y = 0) {d o : List UInt8} (h : Ln.Good d o L.a) : Ln.Good d (o ++ (Ln.play L c).2.1) (Ln.play L c).1.a := by
  obtain ⟨k, y, a, n, s⟩ := c
  dsimp only at h1 h4 hy
  subst hy
  have hp : ∀ r, (Ln.put L 0 r).a = r := fun r => by simp [Ln.put]
  have hw : Ln.way L 0 = L.a := by simp [Ln.way]
  unfold Ln.play
  dsimp only
  rw [if_neg (by omega)]
  split
  · unfold Ln.take
    split
    · simpa using h
    · rw [hp, hw]; exact h.take _ (by unfold Ln.much; omega)
  split
  · rw [List.append_nil]
    unfold Ln.flip
    split
    · rename_i ht
      simp only [Ln.there, Bool.and_eq_true, decide_eq_true_eq, hw] at ht
      rw [hp, hw]; exact h.flip _ (by omega) _
    · exact h
  split
  · rw [List.append_nil]
    unfold Ln.lose
    split
    · rename_i ht
      simp only [Ln.there, Bool.and_eq_true, decide_eq_true_eq, hw] at ht
      rw [hp, hw]; exact h.lose _ (by omega)
    · exact h
  rw [if_pos (by omega)]
  rw [List.append_nil]
  unfold Ln.add
  split
  · rename_i ht
    simp only [Bool.and_eq_true, decide_eq_true_eq, hw] at ht
    split
    · exact h
    · rw [hp, hw]; exact h.add _ (by omega) _
  · exact h

theorem Ln.umod (x : Int) (m : Nat) : ∃ F : Nat, (IntKind.u64.wrap x).tmod ((m : Int) + 1) = (F : Int) ∧ F ≤ m := by
  have h : 0 ≤ IntKind.u64.wrap x := by rw [IntKind.wrap_u64]; omega
  have h1 := Int.emod_nonneg (IntKind.u64.wrap x) (show ((m : Int) + 1) ≠ 0 by omega)
  have h2 := Int.emod_lt_of_pos (IntKind.u64.wrap x) (show 0 < ((m : Int) + 1) by omega)
  exact ⟨(IntKind.u64.wrap x % ((m : Int) + 1)).toNat, by rw [Int.tmod_eq_emod_of_nonneg h]; omega, by omega⟩
theorem Ln.spans (sf st : Int) (Z : Nat) (hZ : Z ≤ 100000000) : ∃ (F D G E : Nat) (U1 U2 Z1 D1 : Int), IntKind.u64.wrap sf = U1 ∧ IntKind.u64.wrap st = U2 ∧ U1.tmod Z1 = (F : Int) ∧ U2.tmod D1 = (G : Int) ∧
    IntKind.i64.wrap ((Z : Int) + 1) = Z1 ∧ wrap64 ((Z : Int) + 1) = Z1 ∧ IntKind.u64.wrap Z1 = Z1 ∧ IntKind.i64.wrap (F : Int) = (F : Int) ∧ (Z1 == 0) = false ∧
    IntKind.i64.wrap ((Z : Int) - (F : Int)) = (D : Int) ∧ wrap64 ((Z : Int) - (F : Int)) = (D : Int) ∧ IntKind.i64.wrap ((D : Int) + 1) = D1 ∧ wrap64 ((D : Int) + 1) = D1 ∧ IntKind.u64.wrap D1 = D1 ∧ IntKind.i64.wrap (G : Int) = (G : Int) ∧ (D1 == 0) = false ∧
    IntKind.i64.wrap ((F : Int) + (G : Int)) = (E : Int) ∧ wrap64 ((F : Int) + (G : Int)) = (E : Int) ∧ F ≤ E ∧ E ≤ Z ∧ E - F = G := by
  obtain ⟨F, hF, hFM⟩ := Ln.umod sf Z
  obtain ⟨D, hD⟩ : ∃ D : Nat, F + D = Z := ⟨Z - F, by omega⟩
  obtain ⟨G, hG, hGD⟩ := Ln.umod st D
  refine ⟨F, D, G, F + G, _, _, (Z : Int) + 1, (D : Int) + 1, rfl, rfl, hF, hG, ?_⟩
  clear hF hG
  simp only [IntKind.wrap_i64, IntKind.wrap_u64, wrap64, beq_eq_false_iff_ne, ne_eq]
  refine ⟨?_, ?_, ?_, ?_, ?_, ?_, ?_, ?_, ?_, ?_, ?_, ?_, ?_, ?_, ?_, ?_, ?_⟩ <;> omega
theorem Ln.find (d Pt : ByteArray) (K k : Nat) (hk : k ≤ K) (hK1 : K + Pt.size ≤ d.size) (hds : d.size ≤ 600) (hK2 : d.extract K (K + Pt.size) = Pt) :
    ∃ H : Nat, IntKind.i64.wrap ((k : Int) + (Pt.size : Int)) = (H : Int) ∧ wrap64 ((k : Int) + (Pt.size : Int)) = (H : Int) ∧ decide ((H : Int) ≤ (d.size : Int)) = true ∧ (k : Int) ≤ (H : Int) ∧ (H : Int) ≤ (d.size : Int) ∧ (((d.extract k H).toList == Pt.toList) = false → k < K) ∧ k ≤ 600 := by
  refine ⟨k + Pt.size, ?_, ?_, ?_, ?_, ?_, ?_, ?_⟩
  · rw [IntKind.wrap_i64]; omega
  · unfold wrap64; omega
  · simp only [decide_eq_true_eq]; omega
  · omega
  · omega
  · intro h
    rcases Nat.lt_or_ge k K with h' | h'
    · exact h'
    · have e : k = K := by omega
      rw [e, hK2] at h
      simp at h
  · omega
end Go.Proofs.Ytfhjmlonmnljaaa
