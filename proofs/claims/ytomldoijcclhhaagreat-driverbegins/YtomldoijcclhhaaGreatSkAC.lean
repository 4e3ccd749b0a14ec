/-
  append of one element to a row of one's own, with what lies behind it; rows that stay. Walks of layer 15: a drive in memory; its rows of pieces, packets and places. A whole struct out of and into a block, as one step of a walk: no cell of it is opened. Walks of layers 15 and 16: rows that an end on its way through a call holds, what stays, a builder of the call's own. Walks of layer 14: rows of texts of one's own; slices.Clone, slices.Grow, slices.Concat of texts. Walks of layers 15 and 16: rows of pieces: Grow, Clone, Concat; a row of pieces of one's own. Walks of the laws of layers 15 to 17: a struct loaded and stored as one step, within a block, too. No package is spoken of.
-/
import Derived.Test.YtomldoijcclhhaaGreatSkAB
import Derived.OwnWalk
import Derived.Deep.WholeRow
import Derived.Lib.OthersKept
import Derived.Lib.FrozenHead2
import Derived.Test.YtomldoijcclhhaaGreatShelf
import Derived.Shelf.Spec.SlicesGrow
import Derived.Deep.RegionHeld3
import Derived.Deep.DeepCutAuto
import Derived.Deep.MidRow
namespace Go.Proofs.YtomldoijcclhhaaGreat
namespace Rg
open Go.RowKit

section
variable {α : Type} {E : El α} {P : Program}
/-- a row stays where a block that has none of its cells turns, and others come -/
theorem El.Row.turned {W W' : World} {a : Option Addr} {l : List α} {R : Nat} {C : List Value} {ty : TypeId} (h : E.Row W a l) (k : Bk R C ty W) (t : Nat) (ht : t < E.m) (hC : ∀ x : α, ∀ u ∈ C, (E.enc x)[t]? ≠ Option.some u) (hs : W.heap.size ≤ W'.heap.size) (ho : ∀ j, j < W.heap.size → j ≠ R → W'.heap[j]? = W.heap[j]?) : E.Row W' a l := by
  rcases h with h | ⟨b, o, rfl, hb, hat⟩
  · exact .inl h
  · refine .inr ⟨b, o, rfl, Nat.lt_of_lt_of_le hb hs, ?_⟩
    by_cases e : b = R
    · subst e
      match l, hat with
      | [], _ => exact At.nil
      | x :: l, hat =>
        exfalso
        rw [El.flat_cons] at hat
        have hx : (E.enc x)[t]? = Option.some ((E.enc x)[t]'(by rw [E.hm]; exact ht)) := List.getElem?_eq_getElem _
        have := hat.left t _ hx
        rw [k.cell] at this
        exact hC x _ (List.mem_of_getElem? this) hx
    · exact hat.same (ho b hb e)
end
end Rg
end Go.Proofs.YtomldoijcclhhaaGreat

namespace Go.Proofs.YtomldoijcclhhaaGreat
open Go.RowKit
/-- a piece's cells -/
def pcE : Rg.El Gp.Pc := { enc := fun p => [.int .i64 p.ch, .string p.data], m := 2, hm := fun _ => rfl, pos := by decide, one := fun x u hu => by simp at hu; rcases hu with rfl | rfl <;> rfl, ty := 44 }
/-- the cells of a packet of the protocol i -/
def fiE : Rg.El Gp.Fi := { enc := fun f => [.int .i64 f.kd, .int .i64 f.nm, .int .i64 f.ak, .int .i64 f.ch, .bool f.ca, .string f.data], m := 6, hm := fun _ => rfl, pos := by decide, one := fun x u hu => by simp at hu; rcases hu with rfl | rfl | rfl | rfl | rfl | rfl <;> rfl, ty := 55 }
/-- the cells of places -/
def spE : Rg.El (Int × Int) := { enc := fun p => [.int .i64 p.1, .int .i64 p.2], m := 2, hm := fun _ => rfl, pos := by decide, one := fun x u hu => by simp at hu; rcases hu with rfl | rfl <;> rfl, ty := 57 }
/-- nothing, or a row that is read -/
def ERow {α : Type} (E : Rg.El α) (W : World) (a : Option Addr) (l : List α) : Prop := l = [] ∨ ∃ b o, a = some ⟨b, o, none⟩ ∧ b < W.heap.size ∧ Rg.At W b o (E.flat l)
theorem ERow.nil {α : Type} {E : Rg.El α} {W : World} {a : Option Addr} : ERow E W a [] := .inl rfl
theorem ERow.of {α : Type} {E : Rg.El α} {W : World} {a : Option Addr} {l : List α} (h : E.Row W a l) : ERow E W a l := by
  rcases h with ⟨_, h⟩ | h
  · exact .inl h
  · exact .inr h
theorem ERow.below {α : Type} {E : Rg.El α} {W W' : World} {a : Option Addr} {l : List α} (h : ERow E W a l) (hb : Below W.heap.size W W') : ERow E W' a l := by
  rcases h with h | ⟨b, o, h1, h2, h3⟩
  · exact .inl h
  · exact .inr ⟨b, o, h1, Nat.lt_of_lt_of_le h2 hb.size, h3.below hb h2⟩
theorem ERow.cell {α : Type} {E : Rg.El α} {W : World} {a : Option Addr} {l : List α} (h : ERow E W a l) {i : Nat} (hi : i < l.length) : ∃ b o, a = some ⟨b, o, none⟩ ∧ b < W.heap.size ∧ Rg.At W b o (E.flat l) ∧ Rg.At W b (o + i * E.m) (E.enc l[i]) := by
  rcases h with rfl | ⟨b, o, rfl, hb, hat⟩
  · simp at hi
  · exact ⟨b, o, rfl, hb, hat, hat.elem hi⟩
theorem SRow.e {W : World} {a : Option Addr} {l : List ByteArray} (h : SRow W a l) : ERow strE W a l := h
theorem pc_at {W : World} {b o : Nat} {p : Gp.Pc} (h : Rg.At W b o (pcE.enc p)) : W.cell? ⟨b, o, none⟩ = some (.int .i64 p.ch) ∧ W.cell? ⟨b, o + 1, none⟩ = some (.string p.data) := ⟨h 0 _ rfl, h 1 _ rfl⟩
theorem sp_at {W : World} {b o : Nat} {p : Int × Int} (h : Rg.At W b o (spE.enc p)) : W.cell? ⟨b, o, none⟩ = some (.int .i64 p.1) ∧ W.cell? ⟨b, o + 1, none⟩ = some (.int .i64 p.2) := ⟨h 0 _ rfl, h 1 _ rfl⟩
theorem fi_at {W : World} {b o : Nat} {f : Gp.Fi} (h : Rg.At W b o (fiE.enc f)) : W.cell? ⟨b, o, none⟩ = some (.int .i64 f.kd) ∧ W.cell? ⟨b, o + 1, none⟩ = some (.int .i64 f.nm) ∧ W.cell? ⟨b, o + 2, none⟩ = some (.int .i64 f.ak) ∧ W.cell? ⟨b, o + 3, none⟩ = some (.int .i64 f.ch) ∧ W.cell? ⟨b, o + 4, none⟩ = some (.bool f.ca) ∧ W.cell? ⟨b, o + 5, none⟩ = some (.string f.data) := ⟨h 0 _ rfl, h 1 _ rfl, h 2 _ rfl, h 3 _ rfl, h 4 _ rfl, h 5 _ rfl⟩
/-- where a drive's lists lie -/
structure Pl where
  w : Option Addr
  wc : Nat
  a : Option Addr
  ac : Nat
  q : Option Addr
  qc : Nat
  t : Option Addr
  tc : Nat
/-- a drive's cells -/
def DC (d : Gp.Dr) (p : Pl) : List Value := [.int .i64 d.letter, .int .i64 d.phase, .bool d.caller, .int .i64 d.step, .int .i64 d.size, .int .i64 d.room, .int .i64 d.win.md, .int .i64 d.win.sz, .int .i64 d.win.bs, .slice p.w d.win.l.length p.wc, .int .i64 d.wants, .slice p.a d.ahead.length p.ac, .string ⟨d.buf.toArray⟩, .int .i64 d.at_, .slice p.q d.queue.length p.qc, .int .i64 d.wait, .int .i64 d.tries, .slice p.t d.took.length p.tc]
/-- a drive as a value: one row of cells, the window's among them -/
def DV (d : Gp.Dr) (p : Pl) : Value := .agg #[.int .i64 d.letter, .int .i64 d.phase, .bool d.caller, .int .i64 d.step, .int .i64 d.size, .int .i64 d.room, .int .i64 d.win.md, .int .i64 d.win.sz, .int .i64 d.win.bs, .slice p.w d.win.l.length p.wc, .int .i64 d.wants, .slice p.a d.ahead.length p.ac, .string ⟨d.buf.toArray⟩, .int .i64 d.at_, .slice p.q d.queue.length p.qc, .int .i64 d.wait, .int .i64 d.tries, .slice p.t d.took.length p.tc]
/-- a drive's lists are rows, or nothing -/
structure DAt (W : World) (d : Gp.Dr) (p : Pl) : Prop where
  win : SRow W p.w d.win.l
  ahead : ERow fiE W p.a d.ahead
  queue : ERow pcE W p.q d.queue
  took : ERow spE W p.t d.took
theorem DAt.below {W W' : World} {d : Gp.Dr} {p : Pl} (h : DAt W d p) (hb : Below W.heap.size W W') : DAt W' d p := ⟨h.win.below hb, h.ahead.below hb, h.queue.below hb, h.took.below hb⟩
end Go.Proofs.YtomldoijcclhhaaGreat

namespace Go.Proofs.YtomldoijcclhhaaGreat
namespace Rg
open Go.RowKit
theorem row_loadVar {P : Program} {B : Nat} {CS : Array Value} {ty t : TypeId} {d : TypeDesc} {W : World} (h : Bk B CS.toList ty W) (hu : P.underlying t = some d) (hd : (match d with | .struct _ | .array _ _ => true | _ => false) = true) (hi : (P.info? t).map (·.size) = some CS.size) :
    (loadVar t ⟨B, 0, none⟩).run P W = .ok (.agg CS) W := run_loadVar_row W B ty t CS (0, 0) d h hu hd hi
theorem row_storeVar {P : Program} {R : Nat} {C : List Value} {CS : Array Value} {ty t : TypeId} {W : World} (h : Bk R C ty W) (hi : (P.info? t).map (·.size) = some CS.size) (hn : C.length = CS.size) (h1 : CS.all (·.oneCell') = true) :
    ∃ W', (storeVar t ⟨R, 0, none⟩ (.agg CS)).run P W = .ok () W' ∧ Bk R CS.toList ty W' ∧ Only R W W' := by
  refine ⟨W.setRow R CS, run_storeVar_row W R ty t C.toArray CS h hi hn h1, ?_, Only.setRow W R CS⟩
  have := setRow_heap W R _ CS _ _ h
  simpa [Bk] using this
theorem wpList_load_row {P : Program} {w : World} {ops : Array Oper} {rest : List Oper} {o : Oper} {a : Act} {Q : Exit → Act → World → Prop} (hw : Region.wanted o (yielded ops a.tmps) = true) (x : Operand) (t : TypeId)
    (ho : o.op = .load t x) {B : Nat} (hx : a.eval x = .pointer (some ⟨B, 0, none⟩)) {CS : Array Value} (hrun : (loadVar t ⟨B, 0, none⟩).run P w = .ok (.agg CS) w) (h : wpList P ops Q rest (a.put o.dst (.agg CS)) w) : wpList P ops Q (o :: rest) a w := by
  refine wpList_step fun K hK => ?_
  rw [if_pos hw]
  unfold Oper.wp
  simp [execOp, ho, hx, Instr.loadAt, Instr.sureAddr, hrun, Result.andThen, Oper.upon]
  exact hK _ _ h
theorem wpList_store_row {P : Program} {w w' : World} {ops : Array Oper} {rest : List Oper} {o : Oper} {a : Act} {Q : Exit → Act → World → Prop} (hw : Region.wanted o (yielded ops a.tmps) = true) (x y : Operand) (t : TypeId)
    (ho : o.op = .store t x y) {R : Nat} (hx : a.eval x = .pointer (some ⟨R, 0, none⟩)) {v : Value} (hy : a.eval y = v) (hrun : (storeVar t ⟨R, 0, none⟩ v).run P w = .ok () w') (h : wpList P ops Q rest (a.put o.dst undef) w') : wpList P ops Q (o :: rest) a w := by
  refine wpList_step fun K hK => ?_
  rw [if_pos hw]
  unfold Oper.wp
  simp [execOp, ho, hx, hy, Instr.storeAt, Instr.sureAddr, hrun, Result.andThen, Oper.upon]
  exact hK _ _ h
theorem results_row {P : Program} {fn : Func} {tm : Tmp} {t : TypeId} (hf : fn.results = #[.cell tm t]) {tmps : Array Value} {R : Nat} (hp : tmps.getD tm undef = .pointer (some ⟨R, 0, none⟩)) {CS : Array Value} {W : World} (hrun : (loadVar t ⟨R, 0, none⟩).run P W = .ok (.agg CS) W) : (results fn tmps).run P W = .ok (.agg CS) W := by
  simp only [Array.getD_eq_getD_getElem?] at hp
  simp [results, hf, hp, asAddr, hrun]
end Rg
end Go.Proofs.YtomldoijcclhhaaGreat

namespace Go.Proofs.YtomldoijcclhhaaGreat
open Go.RowKit
/-- a row that is old, or lies in no block that turns -/
def TRow (Kp : Nat → Prop) {α : Type} (E : Rg.El α) (base eb : Nat) (vs : List Value) (W : World) (a : Option Addr) (l : List α) : Prop := l = [] ∨ ∃ b o, a = some ⟨b, o, none⟩ ∧ b < W.heap.size ∧ Rg.At W b o (E.flat l) ∧ ((b < base ∧ Kp b) ∨ (eb < b ∧ ∀ v ∈ vs, v.ownBlock ≠ some b))
theorem TRow.nil {Kp : Nat → Prop} {α : Type} {E : Rg.El α} {base eb : Nat} {vs : List Value} {W : World} {a : Option Addr} : TRow Kp E base eb vs W a [] := .inl rfl
theorem TRow.e {Kp : Nat → Prop} {α : Type} {E : Rg.El α} {base eb : Nat} {vs : List Value} {W : World} {a : Option Addr} {l : List α} (h : TRow Kp E base eb vs W a l) : ERow E W a l := by
  rcases h with h | ⟨b, o, h1, h2, h3, _⟩
  · exact .inl h
  · exact .inr ⟨b, o, h1, h2, h3⟩
theorem TRow.kept {Kp : Nat → Prop} {α : Type} {E : Rg.El α} {base eb : Nat} {vs vs' : List Value} {W W' : World} {a : Option Addr} {l : List α} (h : TRow Kp E base eb vs W a l) (hb : Below base W W') (hk : ∀ k, k < W.heap.size → k ≠ eb → (∀ v ∈ vs, v.ownBlock ≠ some k) → W'.heap[k]? = W.heap[k]?)
    (hv : ∀ v' ∈ vs', ∀ g, v'.ownBlock = some g → (∃ v ∈ vs, v.ownBlock = some g) ∨ W.heap.size ≤ g) : TRow Kp E base eb vs' W' a l := by
  rcases h with h | ⟨b, o, h1, h2, h3, h4⟩
  · exact .inl h
  · refine .inr ⟨b, o, h1, Nat.lt_of_lt_of_le h2 hb.size, ?_, ?_⟩
    · rcases h4 with h4 | ⟨h4, h5⟩
      · exact h3.below hb h4.1
      · exact h3.same (hk b h2 (by omega) h5)
    · rcases h4 with h4 | ⟨h4, h5⟩
      · exact .inl h4
      · refine .inr ⟨h4, fun v hm hg => ?_⟩
        rcases hv v hm b hg with ⟨v2, m2, e2⟩ | hlt
        · exact h5 v2 m2 e2
        · omega
/-- what stays: all that was there before the call, and every block but the end's own and rows of bytes -/
structure Fr (base eb : Nat) (W W' : World) : Prop where
  bel : Below base W W'
  oth : Lib.OthersKept 5 (some eb) W W'
theorem Fr.refl (base eb : Nat) (W : World) : Fr base eb W W := ⟨Below.refl _ _, Lib.OthersKept.refl _ _ _⟩
theorem Fr.trans {base eb : Nat} {a b c : World} (h : Fr base eb a b) (k : Fr base eb b c) : Fr base eb a c := ⟨h.bel.trans k.bel, h.oth.trans k.oth⟩
theorem Fr.of {base eb : Nat} {W W' : World} (h : Below W.heap.size W W') (hB : base ≤ W.heap.size) : Fr base eb W W' :=
  ⟨h.mono hB, fun k o hk _ _ => by rw [h.block k (Array.getElem?_eq_some_iff.1 hk).1]; exact hk⟩
theorem Fr.set {base eb : Nat} {W : World} (hB : base ≤ eb) (k : Nat) (v : Value) : Fr base eb W (W.setCell ⟨eb, k, none⟩ v) :=
  ⟨(Below.refl _ _).setCell (p := ⟨eb, k, none⟩) hB _, (Lib.OthersKept.refl _ _ W).setCell ⟨eb, k, none⟩ rfl _⟩
theorem Fr.alloc {base eb : Nat} {W : World} (hB : base ≤ W.heap.size) (o : Obj) : Fr base eb W (W.alloc o) := Fr.of (Rg.al1 W o) hB
theorem Fr.drew {base eb : Nat} {W W' : World} (h : Fr base eb W W') : Fr base eb W W'.drew := ⟨h.bel.drew, h.oth.drew⟩
theorem Fr.bk {base eb b : Nat} {C : List Value} {T : TypeId} {W W' : World} (h : Fr base eb W W') (k : Rg.Bk b C T W) (hb : b ≠ eb) (h5 : T ≠ 5) : Rg.Bk b C T W' :=
  h.oth b _ k (fun e => hb (Option.some.inj e)) (fun c fz e => h5 (by injection e))
/-- a builder of the call's own, from block base on: its bytes; of none it has no row -/
structure BAt (base : Nat) (W : World) (v : Value) (S : List UInt8) : Prop where
  own : W.ownsRowF base 5 1 v S.length (Lib.byteCells S)
  nil : S = [] → v = .slice none 0 0
theorem BAt.start (base : Nat) (W : World) : BAt base W (.slice none 0 0) [] := ⟨World.ownsRowF_nil W base 5 1, fun _ => rfl⟩
theorem BAt.kept {base : Nat} {W W' : World} {v : Value} {S : List UInt8} (h : BAt base W v S) (hg : ∀ g, v.ownBlock = some g → W'.heap[g]? = W.heap[g]?) : BAt base W' v S := by
  refine ⟨⟨h.own.1, ?_⟩, h.nil⟩
  rcases h.own.2 with hn | ⟨g, cap, cur, fz, rfl, hb, hgg, rest⟩
  · exact .inl hn
  · exact .inr ⟨g, cap, cur, fz, rfl, hb, by rw [hg g rfl]; exact hgg, rest⟩
theorem BAt.ne {base b : Nat} {W : World} {v : Value} {S : List UInt8} {C : List Value} {T : TypeId} (h : BAt base W v S) (k : Rg.Bk b C T W) (hT : T ≠ 5) : v.ownBlock ≠ some b := Lib.ownBlock_neF h.own k hT
theorem BAt.below {base : Nat} {W W' : World} {v : Value} {S : List UInt8} (h : BAt base W v S) (hb : Below W.heap.size W W') : BAt base W' v S := h.kept fun g hg => hb.block g (h.own.lt g hg).2
theorem BAt.set {base b k : Nat} {W : World} {v : Value} {S : List UInt8} {C : List Value} {T : TypeId} (h : BAt base W v S) (kb : Rg.Bk b C T W) (hT : T ≠ 5) (x : Value) : BAt base (W.setCell ⟨b, k, none⟩ x) v S :=
  h.kept fun g hg => Below.heap_setCell _ _ _ _ (fun e => h.ne kb hT (by rw [hg, e]))
theorem own_fr {base eb n : Nat} {T : TypeId} {v : Value} {xs C : List Value} {W W' : World} (h : W.ownsRow base 57 2 v n xs) (hf : Fr base eb W W') (k : Rg.Bk eb C T W) (hT : 57 ≠ T) : W'.ownsRow base 57 2 v n xs := by
  refine ⟨h.1, ?_⟩
  rcases h.2 with hn | ⟨g, cap, cur, rfl, hb, hgg, rest⟩
  · exact .inl hn
  · refine .inr ⟨g, cap, cur, rfl, hb, hf.oth g _ hgg (fun e => ?_) (fun c fz e => by cases e), rest⟩
    have e2 := Option.some.inj e
    subst e2
    unfold Rg.Bk at k
    rw [k] at hgg
    cases hgg
    exact hT rfl
theorem same_vs {vs : List Value} {n : Nat} : ∀ v' ∈ vs, ∀ g, v'.ownBlock = some g → (∃ v ∈ vs, v.ownBlock = some g) ∨ n ≤ g := fun v' hm _ hg => .inl ⟨v', hm, hg⟩
end Go.Proofs.YtomldoijcclhhaaGreat

namespace Go.Proofs.YtomldoijcclhhaaGreat
open Go.RowKit
/-- an address of a block that w has not -/
def New (w : World) (a : Option Addr) : Prop := ∀ b o, a = some ⟨b, o, none⟩ → w.heap.size ≤ b
theorem New.nil {w : World} : New w none := fun _ _ h => by cases h
theorem New.blk {w : World} {g o : Nat} (h : w.heap.size ≤ g) : New w (some ⟨g, o, none⟩) := fun _ _ e => by cases e; exact h
theorem New.mono {w w' : World} {a : Option Addr} (h : New w' a) (hs : w.heap.size ≤ w'.heap.size) : New w a := fun b o e => Nat.le_trans hs (h b o e)
/-- what a concatenation has summed up, and has gathered, behind i of the two rows -/
def Wn.cs (n i : Nat) : Nat := if i = 0 then 0 else if i = 1 then n else n + 1
def Wn.cl (l : List ByteArray) (x : ByteArray) (i : Nat) : List ByteArray := if i = 0 then [] else if i = 1 then l else l ++ [x]
end Go.Proofs.YtomldoijcclhhaaGreat

namespace Go.Proofs.YtomldoijcclhhaaGreat
open Go.RowKit
/-- what a concatenation has summed up, and has gathered, behind i of the two rows -/
def Gp.cs (n i : Nat) : Nat := if i = 0 then 0 else if i = 1 then n else n + 1
def Gp.cl (l : List Gp.Pc) (x : Gp.Pc) (i : Nat) : List Gp.Pc := if i = 0 then [] else if i = 1 then l else l ++ [x]
/-- a row of pieces of one's own, or nothing: the slice a, n, c -/
def PQ (base : Nat) (W : World) (a : Option Addr) (c : Nat) (l : List Gp.Pc) : Prop := l.length ≤ c ∧ (l = [] ∨ ∃ g o C, a = some ⟨g, o, none⟩ ∧ base ≤ g ∧ Rg.Bk g C 44 W ∧ ∀ t u, (pcE.flat l)[t]? = some u → C[o + t]? = some u)
theorem PQ.nil {base : Nat} {W : World} {a : Option Addr} {c : Nat} : PQ base W a c [] := ⟨Nat.zero_le _, .inl rfl⟩
theorem PQ.own {base g cap : Nat} {W : World} {l : List Gp.Pc} {rest : List Value} (h : pcE.Own base W g cap l rest) : PQ base W (some ⟨g, 0, none⟩) cap l := by
  refine ⟨h.le, .inr ⟨g, 0, pcE.flat l ++ rest, rfl, h.new, h.blk, fun t u ht => ?_⟩⟩
  rw [Nat.zero_add, List.getElem?_append_left]; (· exact ht)
  rcases Nat.lt_or_ge t (pcE.flat l).length with c | c
  · exact c
  · rw [List.getElem?_eq_none c] at ht; cases ht
theorem PQ.below {base : Nat} {W W' : World} {a : Option Addr} {c : Nat} {l : List Gp.Pc} (h : PQ base W a c l) (hb : Below W.heap.size W W') : PQ base W' a c l := by
  refine ⟨h.1, ?_⟩
  rcases h.2 with h2 | ⟨g, o, C, h1, h2, h3, h4⟩
  · exact .inl h2
  · exact .inr ⟨g, o, C, h1, h2, h3.below hb h3.lt, h4⟩
theorem PQ.e {base : Nat} {W : World} {a : Option Addr} {c : Nat} {l : List Gp.Pc} (h : PQ base W a c l) : ERow pcE W a l := by
  rcases h.2 with h2 | ⟨g, o, C, h1, h2, h3, h4⟩
  · exact .inl h2
  · exact .inr ⟨g, o, h1, h3.lt, fun t u ht => by rw [h3.cell]; exact h4 t u ht⟩
theorem PQ.cons {base : Nat} {W : World} {a : Option Addr} {c : Nat} {x : Gp.Pc} {l : List Gp.Pc} (h : PQ base W a c (x :: l)) : ∃ g o C, a = some ⟨g, o, none⟩ ∧ base ≤ g ∧ Rg.Bk g C 44 W ∧ C[o]? = some (.int .i64 x.ch) ∧ C[o + 1]? = some (.string x.data) ∧ (∀ t u, (pcE.flat l)[t]? = some u → C[o + 2 + t]? = some u) ∧ l.length + 1 ≤ c := by
  rcases h.2 with h2 | ⟨g, o, C, h1, h2, h3, h4⟩
  · cases h2
  · have e : pcE.flat (x :: l) = [.int .i64 x.ch, .string x.data] ++ pcE.flat l := pcE.flat_cons x l
    rw [e] at h4
    refine ⟨g, o, C, h1, h2, h3, h4 0 _ rfl, h4 1 _ rfl, fun t u ht => ?_, h.1⟩
    have := h4 (2 + t) u (by rw [List.getElem?_append_right (by simp)]; simpa using ht)
    rw [← Nat.add_assoc] at this
    exact this
/-- the first piece is gone -/
theorem PQ.tail {base g o c : Nat} {W : World} {C : List Value} {l : List Gp.Pc} (hb : base ≤ g) (k : Rg.Bk g C 44 W) (h : ∀ t u, (pcE.flat l)[t]? = some u → C[o + 2 + t]? = some u) (hc : l.length + 1 ≤ c) (oo : Nat) (ho : oo = o + 2 ∨ l = []) : PQ base W (some ⟨g, oo, none⟩) (c - 1) l := by
  refine ⟨by omega, ?_⟩
  rcases ho with rfl | ho
  · exact .inr ⟨g, o + 2, C, rfl, hb, k, h⟩
  · exact .inl ho
/-- the first piece is shorter -/
theorem PQ.head {base g o c i : Nat} {W : World} {C : List Value} {x : Gp.Pc} {l : List Gp.Pc} (hb : base ≤ g) (k : Rg.Bk g C 44 W) (h0 : C[o]? = some (.int .i64 x.ch)) (h1 : C[o + 1]? = some (.string x.data)) (h : ∀ t u, (pcE.flat l)[t]? = some u → C[o + 2 + t]? = some u) (hc : l.length + 1 ≤ c) (s : ByteArray) (hi : i = o + 1) : PQ base (W.setCell ⟨g, i, none⟩ (.string s)) (some ⟨g, o, none⟩) c (⟨x.ch, s⟩ :: l) := by
  subst hi
  refine ⟨by simpa using hc, .inr ⟨g, o, C.set (o + 1) (.string s), rfl, hb, k.set (o + 1) _, fun t u ht => ?_⟩⟩
  have e : pcE.flat ((⟨x.ch, s⟩ : Gp.Pc) :: l) = .int .i64 x.ch :: .string s :: pcE.flat l := pcE.flat_cons _ l
  rw [e] at ht
  have hlt : o + 1 < C.length := by
    rcases Nat.lt_or_ge (o + 1) C.length with c | c
    · exact c
    · rw [List.getElem?_eq_none c] at h1; cases h1
  match t, ht with
  | 0, ht => rw [List.getElem?_set_ne (by omega)]; simp at ht; subst ht; exact h0
  | 1, ht => rw [List.getElem?_set_self hlt]; simp at ht; subst ht; rfl
  | t + 2, ht =>
    rw [List.getElem?_set_ne (by omega)]
    have := h t u (by simpa using ht)
    rw [show o + (t + 2) = o + 2 + t by omega]
    exact this
end Go.Proofs.YtomldoijcclhhaaGreat

namespace Go.Proofs.YtomldoijcclhhaaGreat
open Go.RowKit
theorem list_store {P : Program} {w w' : World} {ops : Array Oper} {rest : List Oper} {a : Act} {Q : Exit → Act → World → Prop} {dst : Option Tmp} {ty : TypeId} {ps : String} {af} (x y : Operand) (t : TypeId) {R : Nat} (hx : a.eval x = .pointer (some ⟨R, 0, none⟩)) {v : Value} (hy : a.eval y = v) (hrun : (storeVar t ⟨R, 0, none⟩ v).run P w = .ok () w') (h : wpList P ops Q rest (a.put dst undef) w') :
    wpList P ops Q ({ dst := dst, op := .store t x y, type := ty, pos := ps, after := af, guard := none } :: rest) a w := Rg.wpList_store_row (by simp [Region.wanted]) x y t rfl hx hy hrun h
theorem list_load {P : Program} {w : World} {ops : Array Oper} {rest : List Oper} {a : Act} {Q : Exit → Act → World → Prop} {dst : Option Tmp} {ty : TypeId} {ps : String} {af} (x : Operand) (t : TypeId) {B : Nat} (hx : a.eval x = .pointer (some ⟨B, 0, none⟩)) {CS : Array Value} (hrun : (loadVar t ⟨B, 0, none⟩).run P w = .ok (.agg CS) w) (h : wpList P ops Q rest (a.put dst (.agg CS)) w) :
    wpList P ops Q ({ dst := dst, op := .load t x, type := ty, pos := ps, after := af, guard := none } :: rest) a w := Rg.wpList_load_row (by simp [Region.wanted]) x t rfl hx hrun h
theorem is_store {P : Program} {w : World} {ops : Array Oper} {rest : List Oper} {a : Act} {Q : Exit → Act → World → Prop} {dst : Option Tmp} {ty : TypeId} {ps : String} {af} {gd} (x y : Operand) (t : TypeId) (h : wpList P ops Q ({ dst := dst, op := .store t x y, type := ty, pos := ps, after := af, guard := gd } :: rest) a w) : wpList P ops Q ({ dst := dst, op := .store t x y, type := ty, pos := ps, after := af, guard := gd } :: rest) a w := h
theorem is_load {P : Program} {w : World} {ops : Array Oper} {rest : List Oper} {a : Act} {Q : Exit → Act → World → Prop} {dst : Option Tmp} {ty : TypeId} {ps : String} {af} {gd} (x : Operand) (t : TypeId) (h : wpList P ops Q ({ dst := dst, op := .load t x, type := ty, pos := ps, after := af, guard := gd } :: rest) a w) : wpList P ops Q ({ dst := dst, op := .load t x, type := ty, pos := ps, after := af, guard := gd } :: rest) a w := h
namespace Rg
theorem Bk.range {b : Nat} {ty : TypeId} {X Y Z : List Value} {W : World} (h : Bk b (X ++ (Y ++ Z)) ty W) : W.rangeAt b X.length Y := fun j v hv => by
  have hj : j < Y.length := (List.getElem?_eq_some_iff.1 hv).1
  rw [h.cell, List.getElem?_append_right (by omega), Nat.add_sub_cancel_left, List.getElem?_append_left hj]
  exact hv
theorem Bk.there {b : Nat} {ty : TypeId} {X Y Z : List Value} {W : World} (h : Bk b (X ++ (Y ++ Z)) ty W) : W.there b X.length Y.length := fun j hj => by
  refine ⟨?_, h.thaw _⟩
  rw [h.range j _ (List.getElem?_eq_getElem hj)]
  rfl
end Rg
end Go.Proofs.YtomldoijcclhhaaGreat
