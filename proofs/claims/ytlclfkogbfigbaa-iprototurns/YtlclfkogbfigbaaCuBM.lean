/-
  Layer 16: the four rounds of awake, reckoned. Walks of the laws of layers 15 to 17: a struct loaded and stored as one step, within a block, too. No package is spoken of.
-/
import Derived.Test.YtlclfkogbfigbaaCuBL
import Derived.Test.YtlclfkogbfigbaaCuAV
import Derived.Deep.MidRow
namespace Go.Proofs.Ytlclfkogbfigbaa
namespace Ip
open Gp (Dr Pc Fi)
/-- the two ends of awake, what is under way, and what has come in channel 1 -/
structure Aw where
  a : Dr
  s : List UInt8
  b : Dr
  t : List UInt8
  c : List UInt8
def hello : List UInt8 := [104, 101, 108, 108, 111]
def inOne (l : List Pc) : List UInt8 := (l.filter fun x => x.ch == 1).flatMap fun x => x.data.data.toList
def aw0 : Aw := ⟨(send (begin_ true 100 3) ⟨1, ⟨hello.toArray⟩⟩).1, sync (begin_ true 100 3), begin_ false 50 16, sync (begin_ false 50 16), []⟩
def aw1 (x : Aw) : Aw := ⟨(feed x.a x.t).1, (feed x.a x.t).2.1, (feed x.b x.s).1, (feed x.b x.s).2.1, x.c ++ inOne (join (feed x.b x.s).2.2)⟩
def awN : Nat → Aw
  | 0 => aw0
  | n + 1 => aw1 (awN n)
set_option maxRecDepth 100000 in
theorem aw_small : ∀ n, n < 5 → (awN n).a.at_ ≤ 1000 ∧ (awN n).a.buf.length ≤ 1000 ∧ (awN n).t.length ≤ 1000 ∧ (awN n).b.at_ ≤ 1000 ∧ (awN n).b.buf.length ≤ 1000 ∧ (awN n).s.length ≤ 1000 ∧ (awN n).c.length ≤ 1000 ∧ (join (feed (awN n).b (awN n).s).2.2).length ≤ 1000 := by decide +kernel
set_option maxRecDepth 100000 in
theorem aw_end : (awN 4).c = hello ∧ (awN 4).a.phase = 2 ∧ (awN 4).a.size = 50 ∧ (awN 4).b.room = 3 ∧ (awN 4).a.win.l.length = 0 := by decide +kernel
theorem right_begin (ca : Bool) {z r : Int} (h1 : 1 ≤ z ∧ z ≤ 4095) (h2 : 1 ≤ r ∧ r ≤ 16) : right (begin_ ca z r) :=
  ⟨⟨rfl, h1, h2, (show (0 : Int) ≤ 1 ∧ (1 : Int) ≤ 31 by decide), (show (0 : Int) ≤ 0 ∧ (0 : Int) ≤ 1099511627776 by decide), (show (0 : Int) ≤ 0 ∧ (0 : Int) ≤ 3 by decide), (show (0 : Int) ≤ 0 ∧ (0 : Int) ≤ 13 by decide), (fun _ h => by cases h), (fun _ h => by cases h), trivial⟩, .inl ⟨rfl, rfl, rfl⟩⟩
theorem feed_right {d : Dr} (hr : right d) {s : List UInt8} (hm : d.at_ + d.buf.length + s.length ≤ 1099511627776) : right (feed d s).1 := by
  have hr2 := right_fed hr s
  have hm2 : ({ Gp.own d with buf := d.buf ++ s } : Dr).at_ + (({ Gp.own d with buf := d.buf ++ s } : Dr).buf.length : Int) ≤ 1099511627776 := by
    show d.at_ + ((d.buf ++ s).length : Int) ≤ _
    rw [List.length_append]; omega
  exact (right_fill (feedN_right (d.buf.length + s.length + 1) { Gp.own d with buf := d.buf ++ s } [] [] (by show (d.buf ++ s).length < _; rw [List.length_append]; omega) hr2 hm2)).1
theorem aw_right : ∀ n, n < 5 → right (awN n).a ∧ right (awN n).b
  | 0, _ => ⟨((Ok.begin_ true (by decide) (by decide)).send ⟨1, ⟨hello.toArray⟩⟩).rt, right_begin false (by decide) (by decide)⟩
  | n + 1, h => by
    have ih := aw_right n (by omega)
    obtain ⟨s1, s2, s3, s4, s5, s6, _⟩ := aw_small n (by omega)
    exact ⟨feed_right ih.1 (by omega), feed_right ih.2 (by omega)⟩
theorem aw_short : ∀ n, small (awN n).a ∧ small (awN n).b
  | 0 => ⟨send_small (begin_small true 100 3) _, begin_small false 50 16⟩
  | n + 1 => ⟨(feed_small (aw_short n).1 _).1, (feed_small (aw_short n).2 _).1⟩
end Ip
end Go.Proofs.Ytlclfkogbfigbaa

namespace Go.Proofs.Ytlclfkogbfigbaa
open Go.RowKit
theorem list_store {P : Program} {w w' : World} {ops : Array Oper} {rest : List Oper} {a : Act} {Q : Exit → Act → World → Prop} {dst : Option Tmp} {ty : TypeId} {ps : String} {af} (x y : Operand) (t : TypeId) {R : Nat} (hx : a.eval x = .pointer (some ⟨R, 0, none⟩)) {v : Value} (hy : a.eval y = v) (hrun : (storeVar t ⟨R, 0, none⟩ v).run P w = .ok () w') (h : wpList P ops Q rest (a.put dst undef) w') :
    wpList P ops Q ({ dst := dst, op := .store t x y, type := ty, pos := ps, after := af, guard := none } :: rest) a w := Rg.wpList_store_row (by simp [Region.wanted]) x y t rfl hx hy hrun h
theorem list_load {P : Program} {w : World} {ops : Array Oper} {rest : List Oper} {a : Act} {Q : Exit → Act → World → Prop} {dst : Option Tmp} {ty : TypeId} {ps : String} {af} (x : Operand) (t : TypeId) {B : Nat} (hx : a.eval x = .pointer (some ⟨B, 0, none⟩)) {CS : Array Value} (hrun : (loadVar t ⟨B, 0, none⟩).run P w = .ok (.agg CS) w) (h : wpList P ops Q rest (a.put dst (.agg CS)) w) :
    wpList P ops Q ({ dst := dst, op := .load t x, type := ty, pos := ps, after := af, guard := none } :: rest) a w := Rg.wpList_load_row (by simp [Region.wanted]) x t rfl hx hrun h
theorem is_store {P : Program} {w : World} {ops : Array Oper} {rest : List Oper} {a : Act} {Q : Exit → Act → World → Prop} {dst : Option Tmp} {ty : TypeId} {ps : String} {af} {gd} (x y : Operand) (t : TypeId) (h : wpList P ops Q ({ dst := dst, op := .store t x y, type := ty, pos := ps, after := af, guard := gd } :: rest) a w) : wpList P ops Q ({ dst := dst, op := .store t x y, type := ty, pos := ps, after := af, guard := gd } :: rest) a w := h
theorem is_load {P : Program} {w : World} {ops : Array Oper} {rest : List Oper} {a : Act} {Q : Exit → Act → World → Prop} {dst : Option Tmp} {ty : TypeId} {ps : String} {af} {gd} (x : Operand) (t : TypeId) (h : wpList P ops Q ({ dst := dst, op := .load t x, type := ty, pos := ps, after := af, guard := gd } :: rest) a w) : wpList P ops Q ({ dst := dst, op := .load t x, type := ty, pos := ps, after := af, guard := gd } :: rest) a w := h
namespace Rg
theorem Bk.setCells {b : Nat} {ty : TypeId} : ∀ (V X Y Z : List Value) (W : World), Bk b (X ++ (Y ++ Z)) ty W → Y.length = V.length → Bk b (X ++ (V ++ Z)) ty (W.setCells b X.length V) ∧ Only b W (W.setCells b X.length V)
  | [], X, Y, Z, W, h, hl => by
    have hy : Y = [] := List.length_eq_zero_iff.1 hl
    subst hy
    exact ⟨h, Only.refl _ _⟩
  | v :: r, X, [], Z, W, h, hl => by simp at hl
  | v :: r, X, y :: s, Z, W, h, hl => by
    have h1 := h.set X.length v
    have e : (X ++ (y :: s ++ Z)).set X.length v = (X ++ [v]) ++ (s ++ Z) := by simp
    rw [e] at h1
    obtain ⟨k1, k2⟩ := Bk.setCells r (X ++ [v]) s Z _ h1 (by simpa using hl)
    have el : (X ++ [v]).length = X.length + 1 := by simp
    rw [el] at k1 k2
    refine ⟨?_, (Only.setCell W b X.length v).trans k2⟩
    have e2 : X ++ (v :: r ++ Z) = X ++ [v] ++ (r ++ Z) := by simp
    rw [e2]
    exact k1
theorem Bk.range {b : Nat} {ty : TypeId} {X Y Z : List Value} {W : World} (h : Bk b (X ++ (Y ++ Z)) ty W) : W.rangeAt b X.length Y := fun j v hv => by
  have hj : j < Y.length := (List.getElem?_eq_some_iff.1 hv).1
  rw [h.cell, List.getElem?_append_right (by omega), Nat.add_sub_cancel_left, List.getElem?_append_left hj]
  exact hv
theorem Bk.there {b : Nat} {ty : TypeId} {X Y Z : List Value} {W : World} (h : Bk b (X ++ (Y ++ Z)) ty W) : W.there b X.length Y.length := fun j hj => by
  refine ⟨?_, h.thaw _⟩
  rw [h.range j _ (List.getElem?_eq_getElem hj)]
  rfl
end Rg
theorem list_mstore {P : Program} {w w' : World} {ops : Array Oper} {rest : List Oper} {a : Act} {Q : Exit → Act → World → Prop} {dst : Option Tmp} {ty : TypeId} {ps : String} {af} (x y : Operand) (t : TypeId) {R o : Nat} (hx : a.eval x = .pointer (some ⟨R, o, none⟩)) {v : Value} (hy : a.eval y = v) (hrun : (storeVar t ⟨R, o, none⟩ v).run P w = .ok () w') (h : wpList P ops Q rest (a.put dst undef) w') :
    wpList P ops Q ({ dst := dst, op := .store t x y, type := ty, pos := ps, after := af, guard := none } :: rest) a w := by
  refine wpList_step fun K hK => ?_
  rw [if_pos (by simp [Region.wanted])]
  unfold Oper.wp
  simp [execOp, hx, hy, Instr.storeAt, Instr.sureAddr, hrun, Result.andThen, Oper.upon]
  exact hK _ _ h
theorem list_mload {P : Program} {w : World} {ops : Array Oper} {rest : List Oper} {a : Act} {Q : Exit → Act → World → Prop} {dst : Option Tmp} {ty : TypeId} {ps : String} {af} (x : Operand) (t : TypeId) {B o : Nat} (hx : a.eval x = .pointer (some ⟨B, o, none⟩)) {v : Value} (hrun : (loadVar t ⟨B, o, none⟩).run P w = .ok v w) (h : wpList P ops Q rest (a.put dst v) w) :
    wpList P ops Q ({ dst := dst, op := .load t x, type := ty, pos := ps, after := af, guard := none } :: rest) a w := by
  refine wpList_step fun K hK => ?_
  rw [if_pos (by simp [Region.wanted])]
  unfold Oper.wp
  simp [execOp, hx, Instr.loadAt, Instr.sureAddr, hrun, Result.andThen, Oper.upon]
  exact hK _ _ h
end Go.Proofs.Ytlclfkogbfigbaa
