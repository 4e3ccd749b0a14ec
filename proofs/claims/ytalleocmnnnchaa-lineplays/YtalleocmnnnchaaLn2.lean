/-
  Layer 7: rows of places in memory; slices.Clone, Compact, Insert, BinarySearch of them.
-/
import Derived.Test.YtalleocmnnnchaaLn1
import Derived.Test.YtalleocmnnnchaaMathL
import Derived.Test.YtalleocmnnnchaaRowH
import Derived.Test.YtalleocmnnnchaaShelf
import Derived.Shelf.Spec.SlicesInsert
import Derived.Shelf.Spec.SlicesInsertGrow
import Derived.Deep.RegionHeld3
import Derived.Deep.RegionWith
import Derived.Deep.RegionLaw
import Derived.Deep.DeepCutAuto
namespace Go.Proofs.Ytalleocmnnnchaa
open Go.RowKit

def intE : Rg.El Int := { enc := fun x => [.int .i64 x], m := 1, hm := fun _ => rfl, pos := by decide, one := fun x u hu => by simp at hu; subst hu; rfl, ty := 3 }
/-- a row's block is one of ints -/
def Ty (W : World) (a : Option Addr) : Prop := ∀ b o, a = some ⟨b, o, none⟩ → ∃ C, Rg.Bk b C 3 W
def IRow (W : World) (a : Option Addr) (l : List Int) : Prop := intE.Row W a l ∧ Ty W a
theorem IRow.nil {W : World} : IRow W none [] := ⟨.inl ⟨rfl, rfl⟩, fun _ _ h => by cases h⟩
theorem IRow.below {W W' : World} {a : Option Addr} {l : List Int} (h : IRow W a l) (hb : Below W.heap.size W W') : IRow W' a l :=
  ⟨h.1.below hb, fun b o e => by obtain ⟨C, k⟩ := h.2 b o e; exact ⟨C, k.below hb k.lt⟩⟩
theorem IRow.drew {W : World} {a : Option Addr} {l : List Int} (h : IRow W a l) : IRow W.drew a l := h
theorem IRow.drewN {W : World} {a : Option Addr} {l : List Int} (h : IRow W a l) (q : Nat) : IRow (W.drewN q) a l := h
theorem IRow.only {W W' : World} {a : Option Addr} {l : List Int} {R : Nat} {C : List Value} {ty : TypeId} (h : IRow W a l) (k : Rg.Bk R C ty W) (hty : ty ≠ 3) (ho : Rg.Only R W W') : IRow W' a l := by
  have hne : ∀ b o, a = some ⟨b, o, none⟩ → b ≠ R := fun b o e e2 => by
    obtain ⟨C', k'⟩ := h.2 b o e
    subst e2
    unfold Rg.Bk at k k'
    rw [k] at k'
    injection k' with k'
    injection k' with _ k' _
    exact hty k'
  refine ⟨?_, fun b o e => ?_⟩
  · rcases h.1 with h1 | ⟨b, o, e, h1, h2⟩
    · exact .inl h1
    · exact .inr ⟨b, o, e, by rw [ho.size]; exact h1, h2.same (ho.block b (hne b o e))⟩
  · obtain ⟨C', k'⟩ := h.2 b o e
    exact ⟨C', k'.same (ho.block b (hne b o e))⟩
theorem int_flat (l : List Int) : intE.flat l = l.map (Value.int .i64) := by
  induction l with
  | nil => rfl
  | cons x l ih => rw [intE.flat_cons, ih]; rfl
theorem IRow.cell {W : World} {b o : Nat} {l : List Int} (h : IRow W (some ⟨b, o, none⟩) l) {j : Nat} (hj : j < l.length) : W.cell? ⟨b, o + j, none⟩ = some (.int .i64 l[j]) := by
  have := h.1.some.2
  rw [int_flat] at this
  exact this j _ (by simp [hj])
theorem IRow.getD {W : World} {b o : Nat} {l : List Int} (h : IRow W (some ⟨b, o, none⟩) l) : ∀ j, j < l.length → W.cell? ⟨b, o + j, none⟩ = some (.int .i64 (l.getD j 0)) := fun j hj => by
  rw [h.cell hj, List.getD_eq_getElem?_getD, List.getElem?_eq_getElem hj]; rfl
theorem IRow.of {W : World} {b o : Nat} {l : List Int} {C : List Value} (k : Rg.Bk b C 3 W) (h : ∀ j (hj : j < l.length), W.cell? ⟨b, o + j, none⟩ = some (.int .i64 l[j])) : IRow W (some ⟨b, o, none⟩) l :=
  ⟨.inr ⟨b, o, rfl, k.lt, fun t u ht => by
    rw [int_flat, List.getElem?_map] at ht
    cases e : l[t]? with
    | none => rw [e] at ht; cases ht
    | some x =>
      rw [e] at ht
      obtain ⟨hj, e2⟩ := List.getElem?_eq_some_iff.1 e
      rw [h t hj, e2]; exact ht⟩, fun b' o' e => by injection e with e; injection e with e1 e2; subst e1; exact ⟨C, k⟩⟩
theorem Bk_setCells {b : Nat} {ty : TypeId} : ∀ (vs : List Value) (o : Nat) {C : List Value} {W : World}, Rg.Bk b C ty W → ∃ C', Rg.Bk b C' ty (W.setCells b o vs)
  | [], _, C, _, h => ⟨C, h⟩
  | v :: r, o, _, _, h => Bk_setCells r (o + 1) (h.set o v)
theorem Only_setCells (b : Nat) : ∀ (vs : List Value) (o : Nat) (W : World), Rg.Only b W (W.setCells b o vs)
  | [], _, _ => Rg.Only.refl _ _
  | v :: r, o, W => (Rg.Only.setCell W b o v).trans (Only_setCells b r (o + 1) _)

/-- a row of one's own, or nil -/
def SI (base : Nat) (W : World) (a : Option Addr) (cap : Nat) (l : List Int) : Prop := (a = none ∧ l = [] ∧ cap = 0) ∨ ∃ g rest, a = some ⟨g, 0, none⟩ ∧ intE.Own base W g cap l rest
theorem Own.irow {base g cap : Nat} {W : World} {l : List Int} {rest : List Value} (h : intE.Own base W g cap l rest) : IRow W (some ⟨g, 0, none⟩) l :=
  ⟨h.toRow, fun b o e => by injection e with e; injection e with e1 e2; subst e1; exact ⟨_, h.blk⟩⟩
theorem SI.irow {base cap : Nat} {W : World} {a : Option Addr} {l : List Int} (h : SI base W a cap l) : IRow W a l := by
  rcases h with ⟨rfl, rfl, _⟩ | ⟨g, rest, rfl, h⟩
  · exact IRow.nil
  · exact Own.irow h
theorem SI.le {base cap : Nat} {W : World} {a : Option Addr} {l : List Int} (h : SI base W a cap l) : l.length ≤ cap := by
  rcases h with ⟨_, rfl, _⟩ | ⟨g, rest, _, h⟩
  · exact Nat.zero_le _
  · exact h.le
/-- behind a call that hands back places -/
def IPost (w : World) (l : List Int) (e : Ending) (w' : World) : Prop := ∃ a c, e = .returned (.slice a l.length c) ∧ IRow w' a l ∧ l.length ≤ c ∧ Below w.heap.size w w'
def CPost (w : World) (l : List Int) (e : Ending) (w' : World) : Prop := ∃ a c, e = .returned (.slice a l.length c) ∧ SI w.heap.size w' a c l ∧ Below w.heap.size w w'

theorem clone_any (a : Option Addr) (c : Nat) (l : List Int) (w : World) (hn : l.length ≤ 1000000000) (hr : IRow w a l) :
    Calls Try.prog 48 #[.slice a l.length c] w fun e w' => CPost w l e w' := by
  rcases hr.1 with ⟨rfl, rfl⟩ | ⟨b, o, rfl, hb, hat⟩
  · exact (Try.slices_Clone_int_nil 0 c w).mono fun e w' ⟨h1, h2⟩ => ⟨none, 0, h1, .inl ⟨rfl, rfl, rfl⟩, by rw [h2]; exact Below.refl _ _⟩
  · refine (Try.slices_Clone_int b o l.length c l w (Nat.le_refl _) (by omega) hr.getD).mono fun e w' ⟨v', h1, h2, h3, h4⟩ => ?_
    rw [List.take_length, ← int_flat] at h2
    obtain ⟨g, cap, rest, e2, h5⟩ := Rg.El.Own.of (E := intE) h2 h3 rfl
    exact ⟨some ⟨g, 0, none⟩, cap, by rw [h1, e2], .inr ⟨g, rest, rfl, h5⟩, h4⟩

def ins_ren : Go.Shelf.Ren := ⟨fun | 21 => 53 | 27 => 56 | 28 => 57 | 35 => 59 | 39 => 60 | n => n, fun | 22 => 25 | 3 => 3 | 4 => 4 | 0 => 0 | n => n, fun | n => n⟩
theorem insLays : Go.Proofs.Lays2.n21 Try.prog ins_ren := {
  mixed := by kernel_rfl
  f21 := Try.func53.trans (congrArg some (by kernel_rfl))
  f27 := Try.func56.trans (congrArg some (by kernel_rfl))
  f28 := Try.func57.trans (congrArg some (by kernel_rfl))
  f35 := Try.func59.trans (congrArg some (by kernel_rfl))
  f39 := Try.func60.trans (congrArg some (by kernel_rfl))
  t0 := Try.underlying0
  a0 := Try.isAgg0
  z0 := Try.sizeOf0
  v0 := Try.zeroValue0
  t3 := Try.underlying3
  a3 := Try.isAgg3
  z3 := Try.sizeOf3
  v3 := Try.zeroValue3
  t4 := Try.underlying4
  a4 := Try.isAgg4
  z4 := Try.sizeOf4
  v4 := Try.zeroValue4
  t22 := Try.underlying25
  a22 := Try.isAgg25
  z22 := Try.sizeOf25
  v22 := Try.zeroValue25
  i3 := by kernel_rfl
}
end Go.Proofs.Ytalleocmnnnchaa
