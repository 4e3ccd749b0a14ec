/-
  A block of memory that is known whole.
-/
import Derived.Test.YtnglfefgcdbgmaaRowG
namespace Go.Proofs.Ytnglfefgcdbgmaa
namespace Rg
open Go.RowKit

def Bk (b : Nat) (C : List Value) (ty : TypeId) (W : World) : Prop := W.heap[b]? = some (.cells C.toArray ty (0, 0))
theorem Bk.same {b : Nat} {C : List Value} {ty : TypeId} {W W' : World} (h : Bk b C ty W) (e : W'.heap[b]? = W.heap[b]?) : Bk b C ty W' := by unfold Bk; rw [e]; exact h
theorem Bk.below {b B : Nat} {C : List Value} {ty : TypeId} {W W' : World} (h : Bk b C ty W) (hb : Below B W W') (hB : b < B) : Bk b C ty W' := h.same (hb.block b hB)
theorem Bk.lt {b : Nat} {C : List Value} {ty : TypeId} {W : World} (h : Bk b C ty W) : b < W.heap.size := by
  unfold Bk at h
  rcases Nat.lt_or_ge b W.heap.size with h' | h'
  · exact h'
  · rw [Array.getElem?_eq_none h'] at h; cases h
theorem Bk.cell {b : Nat} {C : List Value} {ty : TypeId} {W : World} (h : Bk b C ty W) (i : Nat) : W.cell? ⟨b, i, none⟩ = C[i]? := by unfold Bk at h; simp [World.cell?, h]
theorem Bk.thaw {b : Nat} {C : List Value} {ty : TypeId} {W : World} (h : Bk b C ty W) (i : Nat) : W.frozen? ⟨b, i, none⟩ = false := by unfold Bk at h; unfold World.frozen?; simp [h]
theorem Bk.set {b : Nat} {C : List Value} {ty : TypeId} {W : World} (h : Bk b C ty W) (i : Nat) (v : Value) : Bk b (C.set i v) ty (W.setCell ⟨b, i, none⟩ v) := by
  unfold Bk at *; rw [heap_setCell_same W b i _ _ v h]; simp
theorem Bk.other {b c i : Nat} {C : List Value} {ty : TypeId} {W : World} (h : Bk b C ty W) (hc : b ≠ c) (v : Value) : Bk b C ty (W.setCell ⟨c, i, none⟩ v) := h.same (Below.heap_setCell _ _ _ _ hc)
theorem Bk.drew {b : Nat} {C : List Value} {ty : TypeId} {W : World} (h : Bk b C ty W) : Bk b C ty W.drew := h
theorem Bk.new {b : Nat} {C : List Value} {ty : TypeId} {W : World} (hb : b = W.heap.size) : Bk b C ty (W.alloc (.cells C.toArray ty)) := by subst hb; exact heap_alloc_new W _
theorem Bk.old {b : Nat} {C : List Value} {ty : TypeId} {W : World} (h : Bk b C ty W) (o : Obj) : Bk b C ty (W.alloc o) := h.same (Below.heap_alloc W o b h.lt)
theorem El.Row.other {α : Type} {E : El α} {W : World} {g o c i : Nat} {l : List α} (h : E.Row W (Option.some ⟨g, o, none⟩) l) (hc : g ≠ c) (v : Value) : E.Row (W.setCell ⟨c, i, none⟩ v) (Option.some ⟨g, o, none⟩) l := by
  obtain ⟨h1, h2⟩ := h.some
  exact .inr ⟨g, o, rfl, by simpa [World.setCell] using h1, h2.same (Below.heap_setCell _ _ _ _ hc)⟩
/-- five stores: a struct of five cells handed back -/
theorem ret5 {b : Nat} {C : List Value} {ty : TypeId} {W : World} (h : Bk b C ty W) (hC : C.length = 5) (v0 v1 v2 v3 v4 : Value) :
    Bk b [v0, v1, v2, v3, v4] ty (((((W.setCell ⟨b, 0, none⟩ v0).setCell ⟨b, 1, none⟩ v1).setCell ⟨b, 2, none⟩ v2).setCell ⟨b, 3, none⟩ v3).setCell ⟨b, 4, none⟩ v4) ∧
    Only b W (((((W.setCell ⟨b, 0, none⟩ v0).setCell ⟨b, 1, none⟩ v1).setCell ⟨b, 2, none⟩ v2).setCell ⟨b, 3, none⟩ v3).setCell ⟨b, 4, none⟩ v4) := by
  have k := ((((h.set 0 v0).set 1 v1).set 2 v2).set 3 v3).set 4 v4
  match C, hC with
  | [_, _, _, _, _], _ => exact ⟨k, ((((Only.setCell W b 0 v0).trans (Only.setCell _ b 1 v1)).trans (Only.setCell _ b 2 v2)).trans (Only.setCell _ b 3 v3)).trans (Only.setCell _ b 4 v4)⟩
/-- a row is not in a block that has none of its cells -/
theorem El.Row.only {α : Type} {E : El α} {W W' : World} {a : Option Addr} {l : List α} {R : Nat} {C : List Value} {ty : TypeId} (h : E.Row W a l) (k : Bk R C ty W) (t : Nat) (ht : t < E.m) (hC : ∀ x : α, ∀ u ∈ C, (E.enc x)[t]? ≠ Option.some u) (ho : Only R W W') : E.Row W' a l := by
  rcases h with h | ⟨b, o, rfl, hb, hat⟩
  · exact .inl h
  · refine .inr ⟨b, o, rfl, by rw [ho.size]; exact hb, ?_⟩
    by_cases e : b = R
    · subst e
      match l, hat with
      | [], _ => exact At.nil
      | x :: l, hat =>
        exfalso
        rw [El.flat_cons] at hat
        have hx : (E.enc x)[t]? = Option.some ((E.enc x)[t]'(by rw [E.hm]; exact ht)) := List.getElem?_eq_getElem _
        have := hat.left t _ hx
        rw [k.cell] at this
        exact hC x _ (List.mem_of_getElem? this) hx
    · exact hat.same (ho.block b e)
end Rg
end Go.Proofs.Ytnglfefgcdbgmaa
