/-
  Layer 8: a chat in memory; bytes that are sent.
-/
import Derived.Test.YtpggnhnpphbaeaaDoorCh5
import Derived.Test.YtpggnhnpphbaeaaDoorMathY
import Derived.Lib.AppendStr
namespace Go.Proofs.YtpggnhnpphbaeaaDoor
open Go.RowKit

/-- bytes of one's own -/
def BOwn (base : Nat) (W : World) (v : Value) (l : List UInt8) : Prop := W.ownsRow base 5 1 v l.length (l.map fun b => Value.int .u8 (b.toNat : Int))
theorem BOwn.nil {base : Nat} {W : World} : BOwn base W (.slice none 0 0) [] := World.ownsRow_nil W base 5 1
theorem BOwn.below {base : Nat} {W W' : World} {v : Value} {l : List UInt8} (h : BOwn base W v l) (hb : Below W.heap.size W W') : BOwn base W' v l := by
  obtain ⟨h1, h2⟩ := h
  refine ⟨h1, ?_⟩
  rcases h2 with h2 | ⟨g, cap, cur, e, a1, a2, a3⟩
  · exact .inl h2
  · refine .inr ⟨g, cap, cur, e, a1, ?_, a3⟩
    rw [hb.block g (by
      rcases Nat.lt_or_ge g W.heap.size with c | c
      · exact c
      · rw [Array.getElem?_eq_none c] at a2; cases a2)]
    exact a2
theorem BOwn.only {base : Nat} {W W' : World} {v : Value} {l : List UInt8} {R : Nat} {C : List Value} {ty : TypeId} (h : BOwn base W v l) (k : Rg.Bk R C ty W) (hty : ty ≠ 5) (ho : Rg.Only R W W') : BOwn base W' v l := by
  obtain ⟨h1, h2⟩ := h
  refine ⟨h1, ?_⟩
  rcases h2 with h2 | ⟨g, cap, cur, e, a1, a2, a3⟩
  · exact .inl h2
  · refine .inr ⟨g, cap, cur, e, a1, ?_, a3⟩
    rw [ho.block g (fun e2 => by
      subst e2
      unfold Rg.Bk at k
      rw [k] at a2
      injection a2 with a2
      injection a2 with _ a2 _
      exact hty a2)]
    exact a2
theorem BOwn.conv {base : Nat} {W : World} {v : Value} {l : List UInt8} (h : BOwn base W v l) : (convert 51 9 v).run Tryd.prog W = .ok (.string ⟨l.toArray⟩) W := by
  obtain ⟨h1, h2⟩ := h
  rcases h2 with ⟨rfl, h2⟩ | ⟨g, cap, cur, rfl, a1, a2, a3, a4, a5, a6⟩
  · have : l = [] := List.eq_nil_of_length_eq_zero h2
    subst this
    exact conv_none W
  · refine conv_bytes (fun t u ht => ?_)
    rw [byte_flat] at ht
    have hc : W.cell? ⟨g, 0 + t, none⟩ = cur.toList[t]? := by
      rw [Nat.zero_add]
      unfold World.cell?
      rw [a2]
      simp
    rw [hc, ← ht, ← a6, List.getElem?_take]
    rw [if_pos (by have := (List.getElem?_eq_some_iff.1 ht).1; simpa using this)]
/-- append of a text's bytes -/
theorem BOwn.add {base : Nat} {W : World} {v : Value} {l : List UInt8} (h : BOwn base W v l) (s : ByteArray) (hB : base ≤ W.heap.size) (hlen : l.length + s.size ≤ 1000000000) :
    ∃ v' W', (Builtin.append_ #[51, 9] 51 #[v, .string s]).run Tryd.prog W = .ok v' W' ∧ BOwn base W' v' (l ++ s.data.toList) ∧ Below base W W' ∧ (∀ k, k < W.heap.size → v.ownBlock ≠ some k → W'.heap[k]? = W.heap[k]?) := by
  obtain ⟨i0, hi, hz0, hz1, hz2⟩ := infoByte'
  obtain ⟨v', W', h1, h2, h3, _⟩ := Lib.run_append_own_string (P := Tryd.prog) W base 51 9 51 5 i0 Tryd.underlying51 Tryd.underlying9 hi hz0 hz1 hz2 v l.length _ h s (by unfold maxLen; omega) (by omega) hB
  refine ⟨v', W', h1, ?_, (Below.refl _ _).grown h3 hB (fun k hk => ?_), fun k hk hne => h3.block k hk (fun e => hne e.symm)⟩
  · unfold BOwn
    rw [List.length_append, List.map_append]
    exact h2
  · rcases h.2 with ⟨rfl, _⟩ | ⟨g, cap, cur, rfl, a1, _⟩
    · cases hk
    · simp [Value.ownBlock] at hk; omega
theorem BOwn.typed {base : Nat} {W : World} {v : Value} {l : List UInt8} (h : BOwn base W v l) : ∀ g, v.ownBlock = some g → ∃ C, Rg.Bk g C 5 W ∧ base ≤ g := fun g e => by
  rcases h.2 with ⟨rfl, _⟩ | ⟨g', cap, cur, rfl, a1, a2, _⟩
  · cases e
  · simp [Value.ownBlock] at e
    subst e
    exact ⟨cur.toList, by unfold Rg.Bk; rw [Array.toArray_toList]; exact a2, a1⟩
end Go.Proofs.YtpggnhnpphbaeaaDoor
