/-
  Rows told with their block's type: they stay whatever is stored in a block of another type. Rows of one's own, or none.
-/
import Derived.Test.YtpggnhnpphbaeaaDoorRowJ
namespace Go.Proofs.YtpggnhnpphbaeaaDoor
namespace Rg
open Go.RowKit

section
variable {α : Type} {E : El α} {P : Program}
def Tow (E : El α) (W : World) (a : Option Addr) (l : List α) : Prop := E.Row W a l ∧ ∀ b o, a = some ⟨b, o, none⟩ → ∃ C, Bk b C E.ty W
theorem Tow.nil {W : World} : Tow E W none [] := ⟨.inl ⟨rfl, rfl⟩, fun _ _ h => by cases h⟩
theorem Tow.below {W W' : World} {a : Option Addr} {l : List α} (h : Tow E W a l) (hb : Below W.heap.size W W') : Tow E W' a l :=
  ⟨h.1.below hb, fun b o e => by obtain ⟨C, k⟩ := h.2 b o e; exact ⟨C, k.below hb k.lt⟩⟩
theorem Tow.drew {W : World} {a : Option Addr} {l : List α} (h : Tow E W a l) : Tow E W.drew a l := h
theorem Tow.only {W W' : World} {a : Option Addr} {l : List α} {R : Nat} {C : List Value} {ty : TypeId} (h : Tow E W a l) (k : Bk R C ty W) (hty : ty ≠ E.ty) (ho : Only R W W') : Tow E W' a l := by
  have hne : ∀ b o, a = some ⟨b, o, none⟩ → b ≠ R := fun b o e e2 => by
    obtain ⟨C', k'⟩ := h.2 b o e
    subst e2
    unfold Bk at k k'
    rw [k] at k'
    injection k' with k'
    injection k' with _ k' _
    exact hty k'
  refine ⟨?_, fun b o e => ?_⟩
  · rcases h.1 with h1 | ⟨b, o, e, h1, h2⟩
    · exact .inl h1
    · exact .inr ⟨b, o, e, by rw [ho.size]; exact h1, h2.same (ho.block b (hne b o e))⟩
  · obtain ⟨C', k'⟩ := h.2 b o e
    exact ⟨C', k'.same (ho.block b (hne b o e))⟩
/-- where it stands, if there is something -/
theorem Tow.place {W : World} {a : Option Addr} {l : List α} (h : Tow E W a l) {i : Nat} (hi : i < l.length) : ∃ b o, a = some ⟨b, o, none⟩ ∧ b < W.heap.size := by
  rcases h.1 with ⟨_, rfl⟩ | ⟨b, o, e, h1, _⟩
  · simp at hi
  · exact ⟨b, o, e, h1⟩
theorem Tow.elem {W : World} {b o : Nat} {l : List α} (h : Tow E W (some ⟨b, o, none⟩) l) {i : Nat} (hi : i < l.length) : At W b (o + i * E.m) (E.enc l[i]) := h.1.some.2.elem hi
theorem Tow.take {W : World} {a : Option Addr} {l : List α} (h : Tow E W a l) (k : Nat) : Tow E W a (l.take k) := ⟨h.1.take k, h.2⟩
theorem El.Own.tow {base g cap : Nat} {W : World} {l : List α} {rest : List Value} (h : E.Own base W g cap l rest) : Tow E W (some ⟨g, 0, none⟩) l :=
  ⟨h.toRow, fun b o e => by injection e with e; injection e with e1 e2; subst e1; exact ⟨_, h.blk⟩⟩

/-- a row of one's own, or none -/
def Sow (E : El α) (base : Nat) (W : World) (a : Option Addr) (cap : Nat) (l : List α) : Prop := (a = none ∧ l = [] ∧ cap = 0) ∨ ∃ g rest, a = some ⟨g, 0, none⟩ ∧ E.Own base W g cap l rest
theorem Sow.nil {base : Nat} {W : World} : Sow E base W none 0 [] := .inl ⟨rfl, rfl, rfl⟩
theorem Sow.tow {base cap : Nat} {W : World} {a : Option Addr} {l : List α} (h : Sow E base W a cap l) : Tow E W a l := by
  rcases h with ⟨rfl, rfl, _⟩ | ⟨g, rest, rfl, h⟩
  · exact Tow.nil
  · exact h.tow
theorem Sow.le {base cap : Nat} {W : World} {a : Option Addr} {l : List α} (h : Sow E base W a cap l) : l.length ≤ cap := by
  rcases h with ⟨_, rfl, _⟩ | ⟨g, rest, _, h⟩
  · exact Nat.zero_le _
  · exact h.le
theorem Sow.below {base cap : Nat} {W W' : World} {a : Option Addr} {l : List α} (h : Sow E base W a cap l) (hb : Below W.heap.size W W') : Sow E base W' a cap l := by
  rcases h with h | ⟨g, rest, e, h⟩
  · exact .inl h
  · exact .inr ⟨g, rest, e, h.below hb⟩
theorem Sow.drew {base cap : Nat} {W : World} {a : Option Addr} {l : List α} (h : Sow E base W a cap l) : Sow E base W.drew a cap l := h.below ((Below.refl _ _).drew)
theorem Sow.lower {base base' cap : Nat} {W : World} {a : Option Addr} {l : List α} (h : Sow E base W a cap l) (hb : base' ≤ base) : Sow E base' W a cap l := by
  rcases h with h | ⟨g, rest, e, h⟩
  · exact .inl h
  · exact .inr ⟨g, rest, e, ⟨h.blk, Nat.le_trans hb h.new, h.le, h.max, h.fit⟩⟩
/-- the row stays where its block does -/
theorem Sow.same {base cap : Nat} {W W' : World} {a : Option Addr} {l : List α} (h : Sow E base W a cap l) (hs : ∀ g, a = some ⟨g, 0, none⟩ → g < W.heap.size → W'.heap[g]? = W.heap[g]?) : Sow E base W' a cap l := by
  rcases h with h | ⟨g, rest, e, h⟩
  · exact .inl h
  · exact .inr ⟨g, rest, e, h.same (hs g e h.lt)⟩
theorem Sow.only {base cap : Nat} {W W' : World} {a : Option Addr} {l : List α} {R : Nat} {C : List Value} {ty : TypeId} (h : Sow E base W a cap l) (k : Bk R C ty W) (hty : ty ≠ E.ty) (ho : Only R W W') : Sow E base W' a cap l := by
  rcases h with h | ⟨g, rest, e, h⟩
  · exact .inl h
  · refine .inr ⟨g, rest, e, h.same (ho.block g fun e2 => ?_)⟩
    have k' := h.blk
    subst e2
    unfold Bk at k
    rw [k] at k'
    injection k' with k'
    injection k' with _ k' _
    exact hty k'
/-- append of one element -/
theorem Sow.append {base cap : Nat} {W : World} {a : Option Addr} {l : List α} (h : Sow E base W a cap l) (hB : base ≤ W.heap.size) (x : α) (t ty : TypeId) (i : TypeInfo) (z : Value) (bytes : Nat)
    (ht : P.underlying t = some (.slice E.ty)) (hi : P.info? E.ty = some i) (hz : i.zero = some z) (hsize : i.size = E.m) (hby : i.bytes = bytes) (hzs : z.cells.size = E.m)
    (ad : Nat) (hk : At W ad 0 (E.enc x)) (hbig : (l.length + 1) * bytes ≤ 140737488355328) (hmax : l.length + 1 ≤ maxLen) :
    ∃ a' cap' W', (Builtin.append_ #[t, t] ty #[.slice a l.length cap, .slice (some ⟨ad, 0, none⟩) 1 1]).run P W = .ok (.slice a' (l.length + 1) cap') W' ∧ Sow E base W' a' cap' (l ++ [x]) ∧ Below base W W' ∧ (∀ k, k < W.heap.size → a ≠ some ⟨k, 0, none⟩ → W'.heap[k]? = W.heap[k]?) ∧ (∀ g, a' = some ⟨g, 0, none⟩ → a = some ⟨g, 0, none⟩ ∨ W.heap.size ≤ g) := by
  rcases h with ⟨rfl, rfl, rfl⟩ | ⟨g, rest, rfl, h⟩
  · obtain ⟨g', cap', rest', W', h1, h2, h3, h4⟩ := E.append0 (P := P) W base x t ty i z bytes ht hi hz hsize hby hzs ⟨ad, 0, none⟩ 1 hk.add hB (by have := hbig; simp at this; exact this)
    exact ⟨_, cap', W', h1, .inr ⟨g', rest', rfl, h2⟩, h3.mono hB, fun k hk _ => h3.block k hk, fun g e => by injection e with e; injection e with e; subst e; exact .inr h4⟩
  · obtain ⟨g', cap', rest', W', h1, h2, _, h4, h5, h6⟩ := h.append (P := P) x t ty i z bytes ht hi hz hsize hby hzs ⟨ad, 0, none⟩ 1 hk.add hB hbig hmax
    refine ⟨_, cap', W', h1, .inr ⟨g', rest', rfl, h2⟩, h4, fun k hk hne => h5 k hk (fun e => hne (by rw [e])), fun g2 e => ?_⟩
    injection e with e
    injection e with e
    subst e
    rcases h6 with e | e
    · subst e; exact .inl rfl
    · exact .inr e
end
end Rg
end Go.Proofs.YtpggnhnpphbaeaaDoor
