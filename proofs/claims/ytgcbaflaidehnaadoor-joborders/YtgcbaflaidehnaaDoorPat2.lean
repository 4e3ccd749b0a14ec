/-
  Walk of layer 4: the document's split.
-/
import Derived.Test.YtgcbaflaidehnaaDoorPat1
import Derived.Laws.AppendOwn
namespace Go.Proofs.YtgcbaflaidehnaaDoor
open Go.RowKit

theorem cut_data (s : ByteArray) (a b : Nat) : (s.extract a b).data.toList = (s.data.toList.drop a).take (b - a) := by
  simp [List.extract]

namespace Pth
/-- where the document's split stands at place k: what lies behind 'fr' is still to be cut -/
def Cut (t : Bs) (fr k : Nat) (L : List Bs) : Prop :=
  (k ≤ t.length ∧ 1 ≤ fr ∧ fr ≤ k ∧ L ++ spl (t.drop fr) = spl (t.drop 1) ∧ (47 : UInt8) ∉ (t.drop fr).take (k - fr)) ∨ (k = t.length + 1 ∧ L = spl (t.drop 1))
theorem cut_start {t : Bs} (h : 1 ≤ t.length) : Cut t 1 1 [] := .inl ⟨h, Nat.le_refl _, Nat.le_refl _, rfl, by simp⟩
theorem cut_le {t : Bs} {fr k : Nat} {L : List Bs} (h : Cut t fr k L) (hk : k ≤ t.length) : fr ≤ k := by
  rcases h with h | h
  · exact h.2.2.1
  · omega
theorem drop_at {t : Bs} {fr k : Nat} {c : UInt8} (hf : fr ≤ k) (hc : t[k]? = some c) : t.drop fr = (t.drop fr).take (k - fr) ++ c :: t.drop (k + 1) := by
  have hk : k < t.length := by
    rcases Nat.lt_or_ge k t.length with h | h
    · exact h
    · rw [List.getElem?_eq_none h] at hc; cases hc
  have e : t.drop k = c :: t.drop (k + 1) := by
    rw [List.getElem?_eq_getElem hk] at hc
    injection hc with hc
    rw [← hc, List.drop_eq_getElem_cons hk]
  have e2 := List.take_append_drop (k - fr) (t.drop fr)
  rw [List.drop_drop, show fr + (k - fr) = k by omega, e] at e2
  exact e2.symm
theorem cut_go {t : Bs} {fr k : Nat} {L : List Bs} {c : UInt8} (h : Cut t fr k L) (hc : t[k]? = some c) (h2 : c ≠ 47) : Cut t fr (k + 1) L := by
  have hk : k < t.length := by
    rcases Nat.lt_or_ge k t.length with h | h
    · exact h
    · rw [List.getElem?_eq_none h] at hc; cases hc
  rcases h with ⟨_, h0, h1, h3, h4⟩ | h
  · refine .inl ⟨hk, h0, by omega, h3, ?_⟩
    have e := drop_at h1 hc
    have e3 : (t.drop fr).take (k + 1 - fr) = (t.drop fr).take (k - fr) ++ [c] := by
      rw [show k + 1 - fr = (k - fr) + 1 by omega, List.take_add_one, List.getElem?_drop, show fr + (k - fr) = k by omega, hc]; rfl
    rw [e3]
    simp only [List.mem_append, List.mem_singleton, not_or]
    exact ⟨h4, fun x => h2 x.symm⟩
  · omega
theorem cut_at {t : Bs} {fr k : Nat} {L : List Bs} (h : Cut t fr k L) (hc : t[k]? = some 47) : Cut t (k + 1) (k + 1) (L ++ [(t.drop fr).take (k - fr)]) := by
  have hk : k < t.length := by
    rcases Nat.lt_or_ge k t.length with h | h
    · exact h
    · rw [List.getElem?_eq_none h] at hc; cases hc
  rcases h with ⟨_, h0, h1, h3, h4⟩ | h
  · refine .inl ⟨hk, by omega, Nat.le_refl _, ?_, by simp⟩
    rw [drop_at h1 hc, spl_append, spl_one _ h4] at h3
    rw [← h3, List.append_assoc]
  · omega
theorem cut_end {t : Bs} {fr : Nat} {L : List Bs} (h : Cut t fr t.length L) : Cut t (t.length + 1) (t.length + 1) (L ++ [(t.drop fr).take (t.length - fr)]) := by
  rcases h with ⟨_, h0, h1, h3, h4⟩ | h
  · refine .inr ⟨rfl, ?_⟩
    have e : (t.drop fr).take (t.length - fr) = t.drop fr := List.take_of_length_le (by simp)
    rw [e] at h4 ⊢
    rw [spl_one _ h4] at h3
    exact h3
  · omega
theorem cut_done {t : Bs} {fr k : Nat} {L : List Bs} (h : Cut t fr k L) (hk : t.length < k) : L = spl t.tail := by
  rcases h with h | h
  · omega
  · rw [← List.drop_one]; exact h.2
end Pth

theorem infoStr : (Tryd.prog.info? 9).map (fun i => (i.zero, i.size, i.bytes)) = some (some (.string ByteArray.empty), 1, 16) := by kernel_rfl
theorem news9 (w : World) (x : Value) : ∀ (j : Nat) (u : Value), [x][j]? = some u → (w.alloc (.cells #[x] 9)).cell? ((⟨w.heap.size, 0, none⟩ : Addr).add j) = some u := by
  intro j u hj
  match j, hj with
  | 0, hj => simp at hj; subst hj; simp [Addr.add]
theorem below_own {B : Nat} {a w w' : World} {o : Obj} {e size n : Nat} {v : Value} {xs : List Value} (h : Below B a w) (hB : B ≤ w.heap.size) (hg : (w.alloc o).grownBy w' v.ownBlock) (ho : w.ownsRow B e size v n xs) : Below B a w' :=
  (h.alloc hB o).grown hg (by simp; omega) (fun k hk => by
    rcases ho.2 with ⟨rfl, _⟩ | ⟨g, cap, cur, rfl, hgB, _⟩
    · cases hk
    · simp [Value.ownBlock] at hk; omega)

end Go.Proofs.YtgcbaflaidehnaaDoor
