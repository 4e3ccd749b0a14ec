/-
  A block of memory that is known whole. A whole struct out of and into a block, as one step of a walk: no cell of it is opened. New blocks, all at once. Layers 18, 19: jobs with their bytes in memory; how they are ordered. Layer 18: the statements' calls in memory. Walks of layer 5: the letter of a kind, the kind of a letter, users and commands; the document's user and word.
-/
import Derived.Test.YtmilfamjkiemaaaGreatDoorSzAF
import Derived.OwnWalk
import Derived.Deep.WholeRow
import Derived.Test.YtmilfamjkiemaaaGreatDoorSzAD
import Derived.Test.YtmilfamjkiemaaaGreatDoorSzAE
import Derived.Shelf.SlSortCmp.NoneTotal
import Derived.Laws.Cover1
import Derived.Test.YtmilfamjkiemaaaGreatDoorShelf
import Derived.WalkMore
namespace Go.Proofs.YtmilfamjkiemaaaGreatDoor
namespace Rg
open Go.RowKit

def Bk (b : Nat) (C : List Value) (ty : TypeId) (W : World) : Prop := W.heap[b]? = some (.cells C.toArray ty (0, 0))
theorem Bk.same {b : Nat} {C : List Value} {ty : TypeId} {W W' : World} (h : Bk b C ty W) (e : W'.heap[b]? = W.heap[b]?) : Bk b C ty W' := by unfold Bk; rw [e]; exact h
theorem Bk.below {b B : Nat} {C : List Value} {ty : TypeId} {W W' : World} (h : Bk b C ty W) (hb : Below B W W') (hB : b < B) : Bk b C ty W' := h.same (hb.block b hB)
theorem Bk.lt {b : Nat} {C : List Value} {ty : TypeId} {W : World} (h : Bk b C ty W) : b < W.heap.size := by
  unfold Bk at h
  rcases Nat.lt_or_ge b W.heap.size with h' | h'
  · exact h'
  · rw [Array.getElem?_eq_none h'] at h; cases h
theorem Bk.cell {b : Nat} {C : List Value} {ty : TypeId} {W : World} (h : Bk b C ty W) (i : Nat) : W.cell? ⟨b, i, none⟩ = C[i]? := by unfold Bk at h; simp [World.cell?, h]
theorem Bk.thaw {b : Nat} {C : List Value} {ty : TypeId} {W : World} (h : Bk b C ty W) (i : Nat) : W.frozen? ⟨b, i, none⟩ = false := by unfold Bk at h; unfold World.frozen?; simp [h]
theorem Bk.set {b : Nat} {C : List Value} {ty : TypeId} {W : World} (h : Bk b C ty W) (i : Nat) (v : Value) : Bk b (C.set i v) ty (W.setCell ⟨b, i, none⟩ v) := by
  unfold Bk at *; rw [heap_setCell_same W b i _ _ v h]; simp
theorem Bk.other {b c i : Nat} {C : List Value} {ty : TypeId} {W : World} (h : Bk b C ty W) (hc : b ≠ c) (v : Value) : Bk b C ty (W.setCell ⟨c, i, none⟩ v) := h.same (Below.heap_setCell _ _ _ _ hc)
theorem Bk.drew {b : Nat} {C : List Value} {ty : TypeId} {W : World} (h : Bk b C ty W) : Bk b C ty W.drew := h
theorem Bk.new {b : Nat} {C : List Value} {ty : TypeId} {W : World} (hb : b = W.heap.size) : Bk b C ty (W.alloc (.cells C.toArray ty)) := by subst hb; exact heap_alloc_new W _
theorem Bk.old {b : Nat} {C : List Value} {ty : TypeId} {W : World} (h : Bk b C ty W) (o : Obj) : Bk b C ty (W.alloc o) := h.same (Below.heap_alloc W o b h.lt)
theorem El.Row.other {α : Type} {E : El α} {W : World} {g o c i : Nat} {l : List α} (h : E.Row W (Option.some ⟨g, o, none⟩) l) (hc : g ≠ c) (v : Value) : E.Row (W.setCell ⟨c, i, none⟩ v) (Option.some ⟨g, o, none⟩) l := by
  obtain ⟨h1, h2⟩ := h.some
  exact .inr ⟨g, o, rfl, by simpa [World.setCell] using h1, h2.same (Below.heap_setCell _ _ _ _ hc)⟩
/-- five stores: a struct of five cells handed back -/
theorem ret5 {b : Nat} {C : List Value} {ty : TypeId} {W : World} (h : Bk b C ty W) (hC : C.length = 5) (v0 v1 v2 v3 v4 : Value) :
    Bk b [v0, v1, v2, v3, v4] ty (((((W.setCell ⟨b, 0, none⟩ v0).setCell ⟨b, 1, none⟩ v1).setCell ⟨b, 2, none⟩ v2).setCell ⟨b, 3, none⟩ v3).setCell ⟨b, 4, none⟩ v4) ∧
    Only b W (((((W.setCell ⟨b, 0, none⟩ v0).setCell ⟨b, 1, none⟩ v1).setCell ⟨b, 2, none⟩ v2).setCell ⟨b, 3, none⟩ v3).setCell ⟨b, 4, none⟩ v4) := by
  have k := ((((h.set 0 v0).set 1 v1).set 2 v2).set 3 v3).set 4 v4
  match C, hC with
  | [_, _, _, _, _], _ => exact ⟨k, ((((Only.setCell W b 0 v0).trans (Only.setCell _ b 1 v1)).trans (Only.setCell _ b 2 v2)).trans (Only.setCell _ b 3 v3)).trans (Only.setCell _ b 4 v4)⟩
/-- a row is not in a block that has none of its cells -/
theorem El.Row.only {α : Type} {E : El α} {W W' : World} {a : Option Addr} {l : List α} {R : Nat} {C : List Value} {ty : TypeId} (h : E.Row W a l) (k : Bk R C ty W) (t : Nat) (ht : t < E.m) (hC : ∀ x : α, ∀ u ∈ C, (E.enc x)[t]? ≠ Option.some u) (ho : Only R W W') : E.Row W' a l := by
  rcases h with h | ⟨b, o, rfl, hb, hat⟩
  · exact .inl h
  · refine .inr ⟨b, o, rfl, by rw [ho.size]; exact hb, ?_⟩
    by_cases e : b = R
    · subst e
      match l, hat with
      | [], _ => exact At.nil
      | x :: l, hat =>
        exfalso
        rw [El.flat_cons] at hat
        have hx : (E.enc x)[t]? = Option.some ((E.enc x)[t]'(by rw [E.hm]; exact ht)) := List.getElem?_eq_getElem _
        have := hat.left t _ hx
        rw [k.cell] at this
        exact hC x _ (List.mem_of_getElem? this) hx
    · exact hat.same (ho.block b e)
end Rg
end Go.Proofs.YtmilfamjkiemaaaGreatDoor

namespace Go.Proofs.YtmilfamjkiemaaaGreatDoor
namespace Rg
open Go.RowKit
theorem row_loadVar {P : Program} {B : Nat} {CS : Array Value} {ty t : TypeId} {d : TypeDesc} {W : World} (h : Bk B CS.toList ty W) (hu : P.underlying t = some d) (hd : (match d with | .struct _ | .array _ _ => true | _ => false) = true) (hi : (P.info? t).map (·.size) = some CS.size) :
    (loadVar t ⟨B, 0, none⟩).run P W = .ok (.agg CS) W := run_loadVar_row W B ty t CS (0, 0) d h hu hd hi
theorem row_storeVar {P : Program} {R : Nat} {C : List Value} {CS : Array Value} {ty t : TypeId} {W : World} (h : Bk R C ty W) (hi : (P.info? t).map (·.size) = some CS.size) (hn : C.length = CS.size) (h1 : CS.all (·.oneCell') = true) :
    ∃ W', (storeVar t ⟨R, 0, none⟩ (.agg CS)).run P W = .ok () W' ∧ Bk R CS.toList ty W' ∧ Only R W W' := by
  refine ⟨W.setRow R CS, run_storeVar_row W R ty t C.toArray CS h hi hn h1, ?_, Only.setRow W R CS⟩
  have := setRow_heap W R _ CS _ _ h
  simpa [Bk] using this
theorem wpList_load_row {P : Program} {w : World} {ops : Array Oper} {rest : List Oper} {o : Oper} {a : Act} {Q : Exit → Act → World → Prop} (hw : Region.wanted o (yielded ops a.tmps) = true) (x : Operand) (t : TypeId)
    (ho : o.op = .load t x) {B : Nat} (hx : a.eval x = .pointer (some ⟨B, 0, none⟩)) {CS : Array Value} (hrun : (loadVar t ⟨B, 0, none⟩).run P w = .ok (.agg CS) w) (h : wpList P ops Q rest (a.put o.dst (.agg CS)) w) : wpList P ops Q (o :: rest) a w := by
  refine wpList_step fun K hK => ?_
  rw [if_pos hw]
  unfold Oper.wp
  simp [execOp, ho, hx, Instr.loadAt, Instr.sureAddr, hrun, Result.andThen, Oper.upon]
  exact hK _ _ h
theorem wpList_store_row {P : Program} {w w' : World} {ops : Array Oper} {rest : List Oper} {o : Oper} {a : Act} {Q : Exit → Act → World → Prop} (hw : Region.wanted o (yielded ops a.tmps) = true) (x y : Operand) (t : TypeId)
    (ho : o.op = .store t x y) {R : Nat} (hx : a.eval x = .pointer (some ⟨R, 0, none⟩)) {v : Value} (hy : a.eval y = v) (hrun : (storeVar t ⟨R, 0, none⟩ v).run P w = .ok () w') (h : wpList P ops Q rest (a.put o.dst undef) w') : wpList P ops Q (o :: rest) a w := by
  refine wpList_step fun K hK => ?_
  rw [if_pos hw]
  unfold Oper.wp
  simp [execOp, ho, hx, hy, Instr.storeAt, Instr.sureAddr, hrun, Result.andThen, Oper.upon]
  exact hK _ _ h
end Rg
end Go.Proofs.YtmilfamjkiemaaaGreatDoor

namespace Go.Proofs.YtmilfamjkiemaaaGreatDoor.Rg
open Go.RowKit
theorem box2 (w : World) (L0 : List Value) (t0 : TypeId) (L1 : List Value) (t1 : TypeId) : Hid (Bk w.heap.size L0 t0 ((w.alloc (.cells L0.toArray t0)).alloc (.cells L1.toArray t1))) ∧ Hid (Bk (w.heap.size + 1) L1 t1 ((w.alloc (.cells L0.toArray t0)).alloc (.cells L1.toArray t1))) ∧ Hid (Below w.heap.size w ((w.alloc (.cells L0.toArray t0)).alloc (.cells L1.toArray t1))) := ⟨(Bk.new rfl).old _, Bk.new (by simp), al2 w _ _⟩
end Go.Proofs.YtmilfamjkiemaaaGreatDoor.Rg

namespace Go.Proofs.YtmilfamjkiemaaaGreatDoor
open Go.RowKit

/-- a job with its bytes: ten cells -/
def hc (h : Spl.Hd) : List Value := [.string h.s, .int .i64 h.j.g, .int .i64 h.j.n, .int .i64 h.j.k, .string h.j.u, .string h.j.f, .string h.j.t, .string h.j.c, .int .i64 h.j.z, .string h.x]
def heldE : Rg.El Spl.Hd := { enc := hc, m := 10, hm := fun _ => rfl, pos := by decide, one := fun x u hu => by simp [hc] at hu; rcases hu with rfl | rfl | rfl | rfl | rfl | rfl | rfl | rfl | rfl | rfl <;> rfl, ty := 42 }
theorem held_at {W : World} {b o : Nat} {h : Spl.Hd} (q : Rg.At W b o (heldE.enc h)) : W.cell? ⟨b, o, none⟩ = some (.string h.s) ∧ W.cell? ⟨b, o + 1, none⟩ = some (.int .i64 h.j.g) ∧ W.cell? ⟨b, o + 2, none⟩ = some (.int .i64 h.j.n) ∧ W.cell? ⟨b, o + 3, none⟩ = some (.int .i64 h.j.k) ∧ W.cell? ⟨b, o + 4, none⟩ = some (.string h.j.u) ∧ W.cell? ⟨b, o + 5, none⟩ = some (.string h.j.f) ∧ W.cell? ⟨b, o + 6, none⟩ = some (.string h.j.t) ∧ W.cell? ⟨b, o + 7, none⟩ = some (.string h.j.c) ∧ W.cell? ⟨b, o + 8, none⟩ = some (.int .i64 h.j.z) ∧ W.cell? ⟨b, o + 9, none⟩ = some (.string h.x) :=
  ⟨q 0 _ rfl, q 1 _ rfl, q 2 _ rfl, q 3 _ rfl, q 4 _ rfl, q 5 _ rfl, q 6 _ rfl, q 7 _ rfl, q 8 _ rfl, q 9 _ rfl⟩

/-- a world that only grew -/
def Gro (w w' : World) : Prop := ∃ q os, w' = Go.Sort.grow (w.drewN q) os
theorem Gro.refl (w : World) : Gro w w := ⟨0, #[], by rw [Go.Sort.grow_empty]; rfl⟩
theorem Gro.alloc {w w' : World} (h : Gro w w') (o : Obj) : Gro w (w'.alloc o) := by
  obtain ⟨q, os, rfl⟩ := h
  exact ⟨q, _, by rw [Go.Sort.alloc_eq_grow, Go.Sort.grow_grow]⟩
theorem Gro.trans {a b c : World} (h : Gro a b) (k : Gro b c) : Gro a c := by
  obtain ⟨q, os, rfl⟩ := h
  obtain ⟨q', os', rfl⟩ := k
  refine ⟨q + q', os ++ os', ?_⟩
  rw [← Go.Sort.grow_grow]
  unfold Go.Sort.grow World.drewN
  simp [Nat.add_assoc]
theorem Gro.below {w w' : World} (h : Gro w w') : Below w.heap.size w w' := by
  obtain ⟨q, os, rfl⟩ := h
  refine ⟨rfl, rfl, rfl, by simp [Go.Sort.grow, World.drewN], fun i hi => ?_⟩
  show (w.heap ++ os)[i]? = _
  rw [Array.getElem?_append_left hi]

set_option maxHeartbeats 1000000 in
theorem less_gro (g n g' n' : Int) (w : World) : Calls Tryz.prog 130 #[.agg #[.int .i64 g, .int .i64 n], .agg #[.int .i64 g', .int .i64 n']] w fun e w' => e = .returned (.bool (Spl.les g n g' n')) ∧ Gro w w' := by
  by_cases h : g = g'
  · have hr : Hid (Spl.les g n g' n' = decide (n < n')) := by show _ = _; simp [Spl.les, h]
    subst h
    go_enter Tryz.func130, Tryz.ntmps130
    go_wp2
    go_ret
    exact ⟨ret_bool hr.out.symm, ((Gro.refl _).alloc _).alloc _⟩
  · have hr : Hid (Spl.les g n g' n' = decide (g < g')) := by show _ = _; simp [Spl.les, h]
    have d : (g != g') = true := by rw [bne_iff_ne]; exact h
    clear h
    go_enter Tryz.func130, Tryz.ntmps130
    go_wp2
    go_ret
    exact ⟨ret_bool hr.out.symm, ((Gro.refl _).alloc _).alloc _⟩

set_option maxHeartbeats 1000000 in
theorem nan_any (a : ByteArray) (w : World) : Calls Tryz.prog 158 #[.string a] w fun e w' => e = .returned (.bool false) ∧ w' = w := by
  go_enter Tryz.func158, Tryz.ntmps158
  go_wp2
  go_ret
  exact ⟨by simp, rfl⟩
set_option maxHeartbeats 1000000 in
theorem cmpS_any (a b : ByteArray) (w : World) : Calls Tryz.prog 131 #[.string a, .string b] w fun e w' => e = .returned (.int .i64 (Spl.cmpS a b)) ∧ w' = w := by
  have HN : Hid (∀ s W, Calls Tryz.prog 158 #[.string s] W fun e w' => e = .returned (.bool false) ∧ w' = W) := nan_any
  have e1 : Op.bytesLess a.toList b.toList = Dsk.lt a b := by rw [tl_eq, tl_eq]; rfl
  have e2 : Op.bytesLess b.toList a.toList = Dsk.lt b a := by rw [tl_eq, tl_eq]; rfl
  have hr : Hid (Spl.cmpS a b = if Op.bytesLess a.toList b.toList = true then -1 else if Op.bytesLess b.toList a.toList = true then 1 else 0) := by show _ = _; rw [e1, e2]; rfl
  clear e1 e2
  cases h1 : Op.bytesLess a.toList b.toList
  · rw [h1, if_neg (by simp)] at hr
    cases h3 : (a.toList == b.toList)
    · have hne : a.toList ≠ b.toList := by simpa using h3
      have h2 : Op.bytesLess b.toList a.toList = true := by
        rw [tl_eq, tl_eq] at *
        exact Dsk.ltL_total h1 hne
      rw [h2, if_pos rfl] at hr
      rw [hr.out]
      clear h2 hne
      go_enter Tryz.func131, Tryz.ntmps131
      go_wp2_with (go_at_call 158; refine (HN.out _ _).mono ?_; rintro e w' ⟨rfl, rfl⟩)
      go_ret
      exact ⟨rfl, rfl⟩
    · have he : a.toList = b.toList := by simpa using h3
      have h2 : Op.bytesLess b.toList a.toList = false := by rw [← he, tl_eq]; exact Dsk.ltL_irrefl _
      rw [h2, if_neg (by simp)] at hr
      rw [hr.out]
      clear h2 he
      go_enter Tryz.func131, Tryz.ntmps131
      go_wp2_with (go_at_call 158; refine (HN.out _ _).mono ?_; rintro e w' ⟨rfl, rfl⟩)
      go_ret
      exact ⟨rfl, rfl⟩
  · rw [h1, if_pos rfl] at hr
    rw [hr.out]
    go_enter Tryz.func131, Tryz.ntmps131
    go_wp2_with (go_at_call 158; refine (HN.out _ _).mono ?_; rintro e w' ⟨rfl, rfl⟩)
    go_ret
    exact ⟨rfl, rfl⟩

/-- how two jobs are ordered, in whatever world -/
def ByPost (a b : Spl.Hd) (w : World) (e : Ending) (w' : World) : Prop := e = .returned (.int .i64 (Spl.cf a b)) ∧ Gro w w'
set_option maxHeartbeats 1000000 in
set_option maxRecDepth 100000 in
theorem byId_gro (a b : Spl.Hd) (w : World) : Calls Tryz.prog 97 #[.agg (hc a).toArray, .agg (hc b).toArray] w fun e w' => ByPost a b w e w' := by
  have HC : Hid (∀ a b W, Calls Tryz.prog 131 #[.string a, .string b] W fun e w' => e = .returned (.int .i64 (Spl.cmpS a b)) ∧ w' = W) := cmpS_any
  have hr : Hid (Spl.cf a b = if Spl.les a.j.g a.j.n b.j.g b.j.n = true then -1 else if Spl.les b.j.g b.j.n a.j.g a.j.n = true then 1 else Spl.cmpS a.s b.s) := rfl
  obtain ⟨ay, ⟨ag, an, ak, au, af, ad, ac, az⟩, ax⟩ := a
  obtain ⟨bs, ⟨bg, bn, bk, bu, bf, bt, bc, bz⟩, bx⟩ := b
  have HL1 : Hid (∀ W, Calls Tryz.prog 130 #[.agg #[.int .i64 ag, .int .i64 an], .agg #[.int .i64 bg, .int .i64 bn]] W fun e w' => e = .returned (.bool (Spl.les ag an bg bn)) ∧ Gro W w') := less_gro _ _ _ _
  have HL2 : Hid (∀ W, Calls Tryz.prog 130 #[.agg #[.int .i64 bg, .int .i64 bn], .agg #[.int .i64 ag, .int .i64 an]] W fun e w' => e = .returned (.bool (Spl.les bg bn ag an)) ∧ Gro W w') := less_gro _ _ _ _
  unfold hc
  dsimp only at hr ⊢
  obtain ⟨kA, kB, _⟩ := Rg.box2 w [.string ay, .int .i64 ag, .int .i64 an, .int .i64 ak, .string au, .string af, .string ad, .string ac, .int .i64 az, .string ax] 42 [.string bs, .int .i64 bg, .int .i64 bn, .int .i64 bk, .string bu, .string bf, .string bt, .string bc, .int .i64 bz, .string bx] 42
  have hg : Hid (Gro w ((w.alloc (.cells #[.string ay, .int .i64 ag, .int .i64 an, .int .i64 ak, .string au, .string af, .string ad, .string ac, .int .i64 az, .string ax] 42)).alloc (.cells #[.string bs, .int .i64 bg, .int .i64 bn, .int .i64 bk, .string bu, .string bf, .string bt, .string bc, .int .i64 bz, .string bx] 42))) := ((Gro.refl _).alloc _).alloc _
  generalize Spl.les ag an bg bn = l1 at *
  generalize Spl.les bg bn ag an = l2 at *
  go_enter Tryz.func97, Tryz.ntmps97
  go_upto_region 1 with fail
  generalize World.alloc _ _ = w1 at *
  generalize w.heap.size = B at *
  have a1 : w1.cell? ⟨B, 1, none⟩ = some (.int .i64 ag) := kA.out.cell 1
  have a2 : w1.cell? ⟨B, 2, none⟩ = some (.int .i64 an) := kA.out.cell 2
  have b1 : w1.cell? ⟨B + 1, 1, none⟩ = some (.int .i64 bg) := kB.out.cell 1
  have b2 : w1.cell? ⟨B + 1, 2, none⟩ = some (.int .i64 bn) := kB.out.cell 2
  cases l1
  case true =>
    rw [if_pos rfl] at hr
    go_wp2_with (go_at_call 130; refine (HL1.out _).mono ?_; rintro e w2 ⟨rfl, g2⟩)
    go_ret
    exact ⟨ret_int hr.out.symm, hg.out.trans g2⟩
  case false =>
    rw [if_neg (by simp)] at hr
    go_upto_region 3 with (go_at_call 130; refine (HL1.out _).mono ?_; rintro e w2 ⟨rfl, g2⟩)
    replace kA := Rg.hid (kA.out.below g2.below kA.out.lt)
    replace kB := Rg.hid (kB.out.below g2.below kB.out.lt)
    replace hg := Rg.hid (hg.out.trans g2)
    clear a1 a2 b1 b2 g2
    have a1 : w2.cell? ⟨B, 1, none⟩ = some (.int .i64 ag) := kA.out.cell 1
    have a2 : w2.cell? ⟨B, 2, none⟩ = some (.int .i64 an) := kA.out.cell 2
    have b1 : w2.cell? ⟨B + 1, 1, none⟩ = some (.int .i64 bg) := kB.out.cell 1
    have b2 : w2.cell? ⟨B + 1, 2, none⟩ = some (.int .i64 bn) := kB.out.cell 2
    cases l2
    case true =>
      rw [if_pos rfl] at hr
      go_wp2_with (go_at_call 130; refine (HL2.out _).mono ?_; rintro e w3 ⟨rfl, g3⟩)
      go_ret
      exact ⟨ret_int hr.out.symm, hg.out.trans g3⟩
    case false =>
      rw [if_neg (by simp)] at hr
      go_upto_region 5 with (go_at_call 130; refine (HL2.out _).mono ?_; rintro e w3 ⟨rfl, g3⟩)
      replace kA := Rg.hid (kA.out.below g3.below kA.out.lt)
      replace kB := Rg.hid (kB.out.below g3.below kB.out.lt)
      replace hg := Rg.hid (hg.out.trans g3)
      clear a1 a2 b1 b2 g3
      have a0 : w3.cell? ⟨B, 0, none⟩ = some (.string ay) := kA.out.cell 0
      have b0 : w3.cell? ⟨B + 1, 0, none⟩ = some (.string bs) := kB.out.cell 0
      go_wp2_with (go_at_call 131; refine (HC.out _ _ _).mono ?_; rintro e w4 ⟨rfl, rfl⟩)
      go_ret
      exact ⟨ret_int hr.out.symm, hg.out⟩

end Go.Proofs.YtmilfamjkiemaaaGreatDoor

namespace Go.Proofs.YtmilfamjkiemaaaGreatDoor
open Go.RowKit
namespace Spl
/-- a call of the statements -/
structure SOp where
  k : Int
  s : ByteArray
  j : Job.Jb
  x : ByteArray
  m : Int
  deriving Inhabited
def SOp.zero : SOp := ⟨0, ⟨#[]⟩, Job.zero, ⟨#[]⟩, 0⟩
end Spl
/-- a call's cells -/
def oc (o : Spl.SOp) : List Value := [.int .i64 o.k, .string o.s, .int .i64 o.j.g, .int .i64 o.j.n, .int .i64 o.j.k, .string o.j.u, .string o.j.f, .string o.j.t, .string o.j.c, .int .i64 o.j.z, .string o.x, .int .i64 o.m]
def sopE : Rg.El Spl.SOp := { enc := oc, m := 12, hm := fun _ => rfl, pos := by decide, one := fun x u hu => by simp [oc] at hu; rcases hu with rfl | rfl | rfl | rfl | rfl | rfl | rfl | rfl | rfl | rfl | rfl | rfl <;> rfl, ty := 35 }
/-- what an argument of that type has -/
structure SFits (o : Spl.SOp) : Prop where
  s : o.s.size ≤ maxLen
  u : o.j.u.size ≤ maxLen
  f : o.j.f.size ≤ maxLen
  t : o.j.t.size ≤ maxLen
  c : o.j.c.size ≤ maxLen
  x : o.x.size ≤ maxLen
  m0 : -9223372036854775808 ≤ o.m
  m1 : o.m ≤ 9223372036854775807
  z0 : -9223372036854775808 ≤ o.j.z
  z1 : o.j.z ≤ 9223372036854775807
def SRow0 (W : World) (a : Option Addr) (l : List Spl.SOp) : Prop := l = [] ∨ ∃ b o, a = some ⟨b, o, none⟩ ∧ b < W.heap.size ∧ Rg.At W b o (sopE.flat l)
theorem SRow0.below {W W' : World} {a : Option Addr} {l : List Spl.SOp} (h : SRow0 W a l) (hb : Below W.heap.size W W') : SRow0 W' a l := by
  rcases h with h | ⟨b, o, h1, h2, h3⟩
  · exact .inl h
  · exact .inr ⟨b, o, h1, Nat.lt_of_lt_of_le h2 hb.size, h3.below hb h2⟩
/-- a call's cells, one by one -/
theorem SRow0.cell {W : World} {a : Option Addr} {l : List Spl.SOp} (h : SRow0 W a l) {i : Nat} (hi : i < l.length) : ∃ b o, a = some ⟨b, o, none⟩ ∧ b < W.heap.size ∧ Rg.At W b (o + i * 12) (sopE.enc l[i]) := by
  rcases h with h | ⟨b, o, h1, h2, h3⟩
  · subst h; simp at hi
  · exact ⟨b, o, h1, h2, h3.elem hi⟩
theorem sop_at {W : World} {b o : Nat} {c : Spl.SOp} (q : Rg.At W b o (sopE.enc c)) : W.cell? ⟨b, o, none⟩ = some (.int .i64 c.k) ∧ W.cell? ⟨b, o + 1, none⟩ = some (.string c.s) ∧ W.cell? ⟨b, o + 2, none⟩ = some (.int .i64 c.j.g) ∧ W.cell? ⟨b, o + 3, none⟩ = some (.int .i64 c.j.n) ∧ W.cell? ⟨b, o + 4, none⟩ = some (.int .i64 c.j.k) ∧ W.cell? ⟨b, o + 5, none⟩ = some (.string c.j.u) ∧ W.cell? ⟨b, o + 6, none⟩ = some (.string c.j.f) ∧ W.cell? ⟨b, o + 7, none⟩ = some (.string c.j.t) ∧ W.cell? ⟨b, o + 8, none⟩ = some (.string c.j.c) ∧ W.cell? ⟨b, o + 9, none⟩ = some (.int .i64 c.j.z) ∧ W.cell? ⟨b, o + 10, none⟩ = some (.string c.x) ∧ W.cell? ⟨b, o + 11, none⟩ = some (.int .i64 c.m) :=
  ⟨q 0 _ rfl, q 1 _ rfl, q 2 _ rfl, q 3 _ rfl, q 4 _ rfl, q 5 _ rfl, q 6 _ rfl, q 7 _ rfl, q 8 _ rfl, q 9 _ rfl, q 10 _ rfl, q 11 _ rfl⟩
end Go.Proofs.YtmilfamjkiemaaaGreatDoor

namespace Go.Proofs.YtmilfamjkiemaaaGreatDoor
open Go.RowKit

set_option maxHeartbeats 400000 in
theorem letter_any (k : Int) (w : World) : Calls Tryz.prog 63 #[.int .i64 k] w fun e w' => e = .returned (.string ⟨(Job.ltr k).toArray⟩) ∧ w' = w := by
  have hr : Hid (Job.ltr k = if k = 1 then [83] else if k = 2 then [69] else if k = 3 then [82] else []) := rfl
  go_enter Tryz.func63, Tryz.ntmps63
  by_cases h1 : k = 1
  · subst h1
    go_wp2
    go_ret
    exact ⟨rfl, rfl⟩
  · have d1 : (k == 1) = false := by simp [h1]
    have d1' : decide (k = 1) = false := by simp [h1]
    by_cases h2 : k = 2
    · subst h2
      go_wp2
      go_ret
      exact ⟨rfl, rfl⟩
    · have d2 : (k == 2) = false := by simp [h2]
      have d2' : decide (k = 2) = false := by simp [h2]
      by_cases h3 : k = 3
      · subst h3
        go_wp2
        go_ret
        exact ⟨rfl, rfl⟩
      · have d3 : (k == 3) = false := by simp [h3]
        have d3' : decide (k = 3) = false := by simp [h3]
        go_wp2
        go_ret
        exact ⟨by rw [hr.out, if_neg h1, if_neg h2, if_neg h3]; rfl, rfl⟩

set_option maxHeartbeats 400000 in
theorem kindOf_any (s : ByteArray) (w : World) : Calls Tryz.prog 142 #[.string s] w fun e w' => e = .returned (.int .i64 (Job.kof s.data.toList)) ∧ w' = w := by
  have hr : Hid (Job.kof s.data.toList = if (s.toList == [83]) = true then 1 else if (s.toList == [69]) = true then 2 else if (s.toList == [82]) = true then 3 else 0) := by
    show _ = _
    unfold Job.kof
    rw [tl_eq]
    simp only [beq_iff_eq]
  go_enter Tryz.func142, Tryz.ntmps142
  cases h1 : (s.toList == [83])
  · cases h2 : (s.toList == [69])
    · cases h3 : (s.toList == [82])
      all_goals
        rw [h1, h2, h3] at hr
        go_wp2
        go_ret
        exact ⟨ret_int hr.out.symm, rfl⟩
    · rw [h1, h2] at hr
      go_wp2
      go_ret
      exact ⟨ret_int hr.out.symm, rfl⟩
  · rw [h1] at hr
    go_wp2
    go_ret
    exact ⟨ret_int hr.out.symm, rfl⟩

namespace Job
theorem all_take {f : UInt8 → Bool} (s : ByteArray) (k : Nat) (h : k < s.size) (hk : (s.data.toList.take k).all f = true) (hc : f s[k] = true) : (s.data.toList.take (k + 1)).all f = true := by
  rw [Oct.take_snoc s k h, List.all_append, hk]; simp [hc]
theorem all_not {f : UInt8 → Bool} (s : ByteArray) (k : Nat) (h : k < s.size) (hc : f s[k] = false) : s.data.toList.all f = false := by
  rw [List.all_eq_false]; exact ⟨s[k], Oct.mem_at s k h, by simp [hc]⟩
theorem usr_no {l : Bs} (h : l.all Nam.okc = false) : usr l = false := by unfold usr; rw [h]; rfl
theorem usr_yes {l : Bs} (h : l.all Nam.okc = true) : usr l = (decide (1 ≤ l.length) && decide (l.length ≤ 8)) := by unfold usr; rw [h]; rfl
theorem wrd_no {l : Bs} (h : l.all okw = false) : wrd l = false := by unfold wrd; rw [h]; rfl
theorem okc_iff (c : UInt8) : Nam.okc c = (decide (48 ≤ c.toNat ∧ c.toNat ≤ 57) || decide (97 ≤ c.toNat ∧ c.toNat ≤ 122)) := by
  unfold Nam.okc Nam.dg Nam.sm
  have e (a b : Nat) : decide ((a : Int) ≤ (b : Int)) = decide (a ≤ b) := by simp
  rw [show (48 : Int) = ((48 : Nat) : Int) from rfl, show (57 : Int) = ((57 : Nat) : Int) from rfl, show (97 : Int) = ((97 : Nat) : Int) from rfl, show (122 : Int) = ((122 : Nat) : Int) from rfl, e, e, e, e]
  simp
end Job

set_option maxHeartbeats 1000000 in
theorem isUser_any (s : ByteArray) (w : World) (hs : s.size ≤ maxLen) :
    Calls Tryz.prog 98 #[.string s] w fun e w' => e = .returned (.bool (Job.usr s.data.toList)) ∧ w' = w := by
  unfold maxLen at hs
  go_enter Tryz.func98, Tryz.ntmps98
  go_wp2
  go_loop [7] (fun i => ∃ k : Nat, k ≤ s.size ∧ i = .int .i64 k ∧ Hid ((s.data.toList.take k).all Nam.okc = true)) (fun i => s.size - (intOf i).toNat)
  case atStart => exact ⟨0, Nat.zero_le _, rfl, rfl⟩
  case round =>
    obtain ⟨k, hk, rfl, hall⟩ := hrel
    by_cases hlt : k < s.size
    · cases ho : Nam.okc s[k]
      · have hr : Hid (Job.usr s.data.toList = false) := Job.usr_no (Job.all_not s k hlt ho)
        rw [Job.okc_iff] at ho
        simp only [Bool.or_eq_false_iff, decide_eq_false_iff_not] at ho
        obtain ⟨o1, o2⟩ := ho
        clear hall
        by_cases h1 : s[k].toNat < 97
        · have d1 : decide ((s[k].toNat : Int) < 97) = true := by simp; omega
          by_cases h2 : s[k].toNat < 48
          · have d2 : decide ((s[k].toNat : Int) < 48) = true := by simp; omega
            clear o1 o2
            go_wp2
            go_ret
            exact ⟨ret_bool hr.out.symm, rfl⟩
          · have d2 : decide ((s[k].toNat : Int) < 48) = false := by simp; omega
            have d3 : decide ((57 : Int) < (s[k].toNat : Int)) = true := by simp; omega
            clear o1 o2
            go_wp2
            go_ret
            exact ⟨ret_bool hr.out.symm, rfl⟩
        · have d1 : decide ((s[k].toNat : Int) < 97) = false := by simp; omega
          have d4 : decide ((122 : Int) < (s[k].toNat : Int)) = true := by simp; omega
          have d2 : decide ((s[k].toNat : Int) < 48) = false := by simp; omega
          have d3 : decide ((57 : Int) < (s[k].toNat : Int)) = true := by simp; omega
          clear o1 o2
          go_wp2
          go_ret
          exact ⟨ret_bool hr.out.symm, rfl⟩
      · have hn : Hid ((s.data.toList.take (k + 1)).all Nam.okc = true) := Job.all_take s k hlt hall.out ho
        rw [Job.okc_iff] at ho
        simp only [Bool.or_eq_true, decide_eq_true_eq] at ho
        clear hall
        by_cases h1 : s[k].toNat < 97
        · have d1 : decide ((s[k].toNat : Int) < 97) = true := by simp; omega
          have d2 : decide ((s[k].toNat : Int) < 48) = false := by simp; omega
          have d3 : decide ((57 : Int) < (s[k].toNat : Int)) = false := by simp; omega
          clear ho
          go_wp2
          go_round
          case rel => exact ⟨k + 1, by omega, by go_num, hn⟩
          case measure => simp [intOf]; omega
        · have d1 : decide ((s[k].toNat : Int) < 97) = false := by simp; omega
          have d4 : decide ((122 : Int) < (s[k].toNat : Int)) = false := by simp; omega
          clear ho
          go_wp2
          go_round
          case rel => exact ⟨k + 1, by omega, by go_num, hn⟩
          case measure => simp [intOf]; omega
    · obtain rfl : k = s.size := by omega
      have hr : Hid (Job.usr s.data.toList = (!(s.toList == []) && decide ((s.size : Int) ≤ 8))) := by
        show _ = _
        have := hall.out
        rw [Oct.take_all s s.size (Nat.le_refl _)] at this
        rw [tl_eq, Job.usr_yes this, Oct.len_eq]
        congr 1
        · rw [← Oct.len_eq]; cases s.data.toList <;> simp
        · simp
          omega
      clear hall
      cases h0 : (s.toList == [])
      · by_cases h1 : s.size ≤ 8
        · have d1 : decide ((s.size : Int) ≤ 8) = true := by simp; omega
          rw [h0, d1] at hr
          go_wp2
          go_ret
          exact ⟨ret_bool hr.out.symm, rfl⟩
        · have d1 : decide ((s.size : Int) ≤ 8) = false := by simp; omega
          rw [h0, d1] at hr
          go_wp2
          go_ret
          exact ⟨ret_bool hr.out.symm, rfl⟩
      · rw [h0] at hr
        go_wp2
        go_ret
        exact ⟨ret_bool hr.out.symm, rfl⟩
end Go.Proofs.YtmilfamjkiemaaaGreatDoor
