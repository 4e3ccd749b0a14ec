/-
  Walks of the laws of layers 15 to 17: what a call that holds a block leaves; a load or a store at any place as one step.
-/
import Derived.Test.YtlclfkogbfigbaaGreatCuBM
namespace Go.Proofs.YtlclfkogbfigbaaGreat
open Go.RowKit
/-- what a call that holds a block B leaves of all others -/
structure Oth (B : Nat) (W W' : World) : Prop where
  os : W'.os = W.os
  tape : W'.tape = W.tape
  output : W'.output = W.output
  size : W.heap.size ≤ W'.heap.size
  block : ∀ k, k < W.heap.size → k ≠ B → W'.heap[k]? = W.heap[k]?
theorem Oth.refl (B : Nat) (W : World) : Oth B W W := ⟨rfl, rfl, rfl, Nat.le_refl _, fun _ _ _ => rfl⟩
theorem Oth.of {B : Nat} {W W' : World} (h : Below W.heap.size W W') : Oth B W W' := ⟨h.os, h.tape, h.output, h.size, fun k hk _ => h.block k hk⟩
theorem Oth.only {B : Nat} {W W' : World} (h : Rg.Only B W W') : Oth B W W' := ⟨h.os, h.tape, h.output, Nat.le_of_eq h.size.symm, fun k _ hk => h.block k hk⟩
theorem Oth.trans {B : Nat} {a b c : World} (h : Oth B a b) (k : Oth B b c) : Oth B a c := ⟨k.os.trans h.os, k.tape.trans h.tape, k.output.trans h.output, Nat.le_trans h.size k.size, fun i hi hB => (k.block i (Nat.lt_of_lt_of_le hi h.size) hB).trans (h.block i hi hB)⟩
theorem Oth.bel {B base : Nat} {W W' : World} (h : Oth B W W') (h1 : base ≤ B) (h2 : base ≤ W.heap.size) : Below base W W' := ⟨h.os, h.tape, h.output, h.size, fun k hk => h.block k (by omega) (by omega)⟩
theorem Oth.bk {B b : Nat} {C : List Value} {T : TypeId} {W W' : World} (h : Oth B W W') (k : Rg.Bk b C T W) (hb : b ≠ B) : Rg.Bk b C T W' := k.same (h.block b k.lt hb)
theorem exec_load_any {Q : Program} {ρ : Operand → Value} {o : Oper} {w : World} (t : TypeId) (x : Operand) (ho : o.op = .load t x) {B i : Nat} (hx : ρ x = .pointer (some ⟨B, i, none⟩)) {v : Value} (hrun : (loadVar t ⟨B, i, none⟩).run Q w = .ok v w) : (execOp ρ o).run Q w = .ok (.value v) w := by
  simp [execOp, ho, hx, Instr.loadAt, Instr.sureAddr, hrun, Result.andThen]
theorem step_store_any {Q : Program} {ops : Array Oper} {o : Oper} {a : Act} {w w' : World} {K : Act → World → Prop} {R : Exit → Act → World → Prop} {E : Prop} (hg : o.guard = none) (x y : Operand) (t : TypeId)
    (ho : o.op = .store t x y) {B i : Nat} (hx : a.eval x = .pointer (some ⟨B, i, none⟩)) {v : Value} (hy : a.eval y = v) (hrun : (storeVar t ⟨B, i, none⟩ v).run Q w = .ok () w') (h : K (a.put o.dst undef) w') : if Region.wanted o (yielded ops a.tmps) = true then Oper.wp Q o a w K R else E := by
  have hw : Region.wanted o (yielded ops a.tmps) = true := by simp [Region.wanted, hg]
  rw [if_pos hw]
  unfold Oper.wp
  simp [execOp, ho, hx, hy, Instr.storeAt, Instr.sureAddr, hrun, Result.andThen, Oper.upon]
  exact h
theorem ext_nil {X : ByteArray} {n : Nat} (h : X.size = n) : X.extract n X.size = ⟨([] : List UInt8).toArray⟩ := by
  rw [h]
  exact ByteArray.extract_eq_empty_iff.2 (by omega)
theorem at_wrap {t : Int} {x : List UInt8} {n : Nat} (h : 0 ≤ t ∧ t ≤ 1099511627776) (_hn : n = x.length) (h2 : n ≤ 40000) : wrap64 (t + (n : Int)) = t + n := by unfold wrap64; omega
theorem at_wrap2 {t : Int} {x : List UInt8} {n : Nat} (h : 0 ≤ t ∧ t ≤ 1099511627776) (_hn : n = x.length) (h2 : n ≤ 40000) : IntKind.i64.wrap (t + (n : Int)) = t + n := by rw [IntKind.wrap_i64]; omega
theorem fit_y {y s : List UInt8} (h : y.length + s.length ≤ 20000) : ¬ (20000 : Int) < (((y ++ s).length : Nat) : Int) := by rw [List.length_append]; omega
end Go.Proofs.YtlclfkogbfigbaaGreat
