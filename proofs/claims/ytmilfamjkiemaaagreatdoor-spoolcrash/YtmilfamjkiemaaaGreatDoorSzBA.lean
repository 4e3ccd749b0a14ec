/-
  Layers 18, 19: rows of jobs of one's own; the files that a spool reads; held, in all. append of one element to a row of one's own, with what lies behind it; rows that stay. append of a row to a row of one's own. Layer 18: rows of calls of one's own (SpoolCrash hands far the calls and one more), rows of jobs joined anew.
-/
import Derived.Test.YtmilfamjkiemaaaGreatDoorSzAW
import Derived.Test.YtmilfamjkiemaaaGreatDoorSzAX
import Derived.Test.YtmilfamjkiemaaaGreatDoorSzAZ
import Derived.Test.YtmilfamjkiemaaaGreatDoorSzAG
import Derived.Test.YtmilfamjkiemaaaGreatDoorSzAJ
namespace Go.Proofs.YtmilfamjkiemaaaGreatDoor
open Go.RowKit
def zeroH : Array Value := #[.string ByteArray.empty, .int .i64 0, .int .i64 0, .int .i64 0, .string ByteArray.empty, .string ByteArray.empty, .string ByteArray.empty, .string ByteArray.empty, .int .i64 0, .string ByteArray.empty]
theorem infoHeldZ : (Tryz.prog.info? 42).map (fun i => (i.zero, i.size, i.bytes)) = some (some (.agg zeroH), 10, 128) := by kernel_rfl
theorem infoHeld' : ∃ i0, Tryz.prog.info? 42 = some i0 ∧ i0.zero = some (.agg zeroH) ∧ i0.size = 10 ∧ i0.bytes = 128 := by
  have := infoHeldZ
  cases h : Tryz.prog.info? 42 with
  | none => rw [h] at this; cases this
  | some i => rw [h] at this; simp only [Option.map_some, Option.some.injEq, Prod.mk.injEq] at this; exact ⟨i, rfl, this.1, this.2.1, this.2.2⟩
/-- none, or a row of one's own -/
def HO (base : Nat) (W : World) (A : Option Addr) (cap : Nat) (S : List Spl.Hd) : Prop := (A = none ∧ S = [] ∧ cap = 0) ∨ ∃ g rest, A = some ⟨g, 0, none⟩ ∧ heldE.Own base W g cap S rest
theorem HO.below {base : Nat} {W W' : World} {A : Option Addr} {cap : Nat} {S : List Spl.Hd} (h : HO base W A cap S) (hb : Below W.heap.size W W') : HO base W' A cap S := by
  rcases h with h | ⟨g, rest, h1, h2⟩
  · exact .inl h
  · exact .inr ⟨g, rest, h1, h2.below hb⟩
theorem HO.row {base : Nat} {W : World} {A : Option Addr} {cap : Nat} {S : List Spl.Hd} (h : HO base W A cap S) : heldE.Row W A S := by
  rcases h with ⟨rfl, rfl, _⟩ | ⟨g, rest, rfl, h2⟩
  · exact .inl ⟨rfl, rfl⟩
  · exact h2.toRow
theorem HO.new {base : Nat} {W : World} {A : Option Addr} {cap : Nat} {S : List Spl.Hd} (h : HO base W A cap S) {b o : Nat} {s : Option Nat} (e : A = some ⟨b, o, s⟩) : base ≤ b := by
  rcases h with ⟨rfl, _⟩ | ⟨g, rest, rfl, h2⟩
  · cases e
  · injection e with e; injection e with e; rw [← e]; exact h2.new
/-- append of one job, out of block ad -/
theorem HO.append {base : Nat} {W : World} {A : Option Addr} {cap : Nat} {S : List Spl.Hd} (h : HO base W A cap S) (x : Spl.Hd) (ad : Nat) (hx : Rg.At W ad 0 (heldE.enc x)) (hB : base ≤ W.heap.size) (hS : S.length ≤ 1000000) :
    ∃ W' A' cap', (Builtin.append_ #[49, 49] 49 #[.slice A S.length cap, .slice (some ⟨ad, 0, none⟩) 1 1]).run Tryz.prog W = .ok (.slice A' (S.length + 1) cap') W' ∧ HO base W' A' cap' (S ++ [x]) ∧ Below base W W' := by
  obtain ⟨i0, hi, hz0, hz1, hz2⟩ := infoHeld'
  rcases h with ⟨rfl, rfl, rfl⟩ | ⟨g, rest, rfl, h⟩
  · obtain ⟨g', cap', rest', W', h1, h2, h3, h4⟩ := heldE.append0 (P := Tryz.prog) W base x 49 49 i0 _ 128 Tryz.underlying49 hi hz0 hz1 hz2 rfl ⟨ad, 0, none⟩ 1 hx.add hB (by omega)
    exact ⟨W', _, cap', h1, .inr ⟨g', rest', rfl, h2⟩, h3.mono hB⟩
  · obtain ⟨g', cap', rest', W', h1, h2, _, h4, h5, h6⟩ := h.append (P := Tryz.prog) x 49 49 i0 _ 128 Tryz.underlying49 hi hz0 hz1 hz2 rfl ⟨ad, 0, none⟩ 1 hx.add hB (by omega) (by unfold maxLen; omega)
    exact ⟨W', _, cap', h1, .inr ⟨g', rest', rfl, h2⟩, h4⟩

/-- files that held reads -/
structure Mild (l : List Dsk.Fl) : Prop where
  srt : Dsk.Srt l
  len : l.length ≤ 1000000
  nam : ∀ f ∈ l, f.n.size ≤ maxLen
  dat : ∀ f ∈ l, f.d.size ≤ 1000000
theorem Mild.rd {l : List Dsk.Fl} (h : Mild l) (n : ByteArray) : (Spl.rd l n).size ≤ 1000000 := by
  unfold Spl.rd
  cases e : Dsk.get l n with
  | none => exact Nat.zero_le _
  | some x =>
    obtain ⟨hp, _, rfl⟩ := Dsk.get_some_iff.1 e
    exact h.dat _ (List.getElem_mem hp)
theorem held_any (al : Option Addr) (c : Nat) (l : List Dsk.Fl) (k : Int) (s : ByteArray) (g n : Int) (w : World) (hm : Mild l) (hrow : fileE.Row w al l) (hs : s.size ≤ maxLen) (hw : Ok w) :
    Calls Tryz.prog 43 #[.slice al l.length c, .int .i64 k, .string s, .agg #[.int .i64 g, .int .i64 n]] w fun e w' => HPost (Spl.held l k s g n) w e w' := by
  have HF : ∀ k : Int, Hid (∀ W, Below w.heap.size w W → Calls Tryz.prog 36 #[.int .i64 k, .string s, .agg #[.int .i64 g, .int .i64 n]] W fun e w' => e = .returned (.string (Spl.fn k s g n)) ∧ Below W.heap.size W w') := fun k W hW => fileOf_any k s g n W hs (hw.below hW)
  have HR : ∀ F : ByteArray, Hid (∀ W, Below w.heap.size w W → Calls Tryz.prog 79 #[.slice al l.length c, .string F] W fun e w' => e = .returned (.tuple #[.string (Spl.rd l F), .bool (Dsk.has l F)]) ∧ Below W.heap.size W w') := fun F W hW => sread_any al c l F W hm.srt (by have := hm.len; omega) (hrow.below hW)
  have HP : Hid (∀ W, Below w.heap.size w W → Calls Tryz.prog 80 #[.string (Spl.rd l (Spl.fn k s g n))] W fun e w' => e = .returned (.tuple #[jv (Spl.said l (Spl.fn k s g n)).1, .int .i64 (Spl.said l (Spl.fn k s g n)).2]) ∧ Below W.heap.size W w') := fun W hW => parse_any _ W (hw.below hW) (hm.rd _)
  have hr : Spl.held l k s g n = Spl.held l k s g n := rfl
  conv at hr => rhs; unfold Spl.held
  rw [hr]
  clear hr
  generalize Spl.said l (Spl.fn k s g n) = p at *
  obtain ⟨⟨jg, jn, jk, ju, jf, jt, jc, jz⟩, E⟩ := p
  dsimp only at HP ⊢
  unfold jv at HP
  by_cases hE : E = 0
  rotate_left
  · rw [if_neg (fun q => hE q.1)]
    exact held_err al c _ k s g n w _ _ _ jg jn jk ju jf jt jc jz E (HF k) (HR _) HP hE
  by_cases hid : jg = g ∧ jn = n
  rotate_left
  · rw [if_neg (fun q => hid q.2)]
    exact held_other al c _ k s g n w _ _ _ jg jn jk ju jf jt jc jz E (HF k) (HR _) HP hE hid
  rw [if_pos ⟨hE, hid⟩]
  obtain ⟨rfl, rfl⟩ := hid
  by_cases hb : k = 69 ∨ jk = 3
  · rw [if_pos hb]
    exact held_bare al c _ k s jg jn w _ _ _ jk ju jf jt jc jz E (HF k) (HR _) HP hE hb
  rw [if_neg hb]
  have h69 : ¬ k = 69 := fun q => hb (.inl q)
  have h3 : ¬ jk = 3 := fun q => hb (.inr q)
  cases hx : Dsk.get l (Spl.fn 68 s jg jn) with
  | none =>
    have ht : Dsk.has l (Spl.fn 68 s jg jn) = false := by unfold Dsk.has; rw [hx]; rfl
    exact held_gone al c _ k s jg jn w _ _ _ jk ju jf jt jc jz E (HF k) (HR _) HP _ _ _ (HF 68) (HR _) hE h69 h3 ht
  | some x =>
    have ht : Dsk.has l (Spl.fn 68 s jg jn) = true := by unfold Dsk.has; rw [hx]; rfl
    have hxr : Spl.rd l (Spl.fn 68 s jg jn) = x := by unfold Spl.rd; rw [hx]; rfl
    dsimp only
    by_cases hz : (x.size : Int) = jz
    · rw [if_pos hz]
      have := held_yes al c _ k s jg jn w _ _ _ jk ju jf jt jc jz E (HF k) (HR _) HP _ _ _ (HF 68) (HR _) hE h69 h3 ht (by rw [hxr]; exact hz)
      rw [hxr] at this
      exact this
    · rw [if_neg hz]
      exact held_size al c _ k s jg jn w _ _ _ jk ju jf jt jc jz E (HF k) (HR _) HP _ _ _ (HF 68) (HR _) hE h69 h3 ht (by rw [hxr]; exact hz)
end Go.Proofs.YtmilfamjkiemaaaGreatDoor

namespace Go.Proofs.YtmilfamjkiemaaaGreatDoor
namespace Rg
open Go.RowKit

section
variable {α : Type} {E : El α} {P : Program}
/-- a row stays where a block that has none of its cells turns, and others come -/
theorem El.Row.turned {W W' : World} {a : Option Addr} {l : List α} {R : Nat} {C : List Value} {ty : TypeId} (h : E.Row W a l) (k : Bk R C ty W) (t : Nat) (ht : t < E.m) (hC : ∀ x : α, ∀ u ∈ C, (E.enc x)[t]? ≠ Option.some u) (hs : W.heap.size ≤ W'.heap.size) (ho : ∀ j, j < W.heap.size → j ≠ R → W'.heap[j]? = W.heap[j]?) : E.Row W' a l := by
  rcases h with h | ⟨b, o, rfl, hb, hat⟩
  · exact .inl h
  · refine .inr ⟨b, o, rfl, Nat.lt_of_lt_of_le hb hs, ?_⟩
    by_cases e : b = R
    · subst e
      match l, hat with
      | [], _ => exact At.nil
      | x :: l, hat =>
        exfalso
        rw [El.flat_cons] at hat
        have hx : (E.enc x)[t]? = Option.some ((E.enc x)[t]'(by rw [E.hm]; exact ht)) := List.getElem?_eq_getElem _
        have := hat.left t _ hx
        rw [k.cell] at this
        exact hC x _ (List.mem_of_getElem? this) hx
    · exact hat.same (ho b hb e)
end
end Rg
end Go.Proofs.YtmilfamjkiemaaaGreatDoor

namespace Go.Proofs.YtmilfamjkiemaaaGreatDoor
namespace Rg
open Go.RowKit

section
variable {α : Type} {E : El α} {P : Program}
theorem El.Own.appendRow {base g cap : Nat} {W : World} {l : List α} {rest : List Value} (h : E.Own base W g cap l rest) (l2 : List α) (t ty : TypeId) (i : TypeInfo) (z : Value) (bytes : Nat)
    (ht : P.underlying t = some (.slice E.ty)) (hi : P.info? E.ty = some i) (hz : i.zero = some z) (hsize : i.size = E.m) (hby : i.bytes = bytes) (hzs : z.cells.size = E.m)
    (a : Option Addr) (c : Nat) (hrow : E.Row W a l2) (hB : base ≤ W.heap.size) (hbig : (l.length + l2.length) * bytes ≤ 140737488355328) (hmax : l.length + l2.length ≤ maxLen) :
    ∃ g' cap' rest' W', (Builtin.append_ #[t, t] ty #[.slice (Option.some ⟨g, 0, none⟩) l.length cap, .slice a l2.length c]).run P W = .ok (.slice (Option.some ⟨g', 0, none⟩) (l.length + l2.length) cap') W' ∧
      E.Own base W' g' cap' (l ++ l2) rest' ∧ Below base W W' ∧ (∀ k, k < W.heap.size → k ≠ g → W'.heap[k]? = W.heap[k]?) ∧ (g' = g ∨ W.heap.size ≤ g') := by
  rcases hrow with ⟨rfl, rfl⟩ | ⟨b, o, rfl, hb, hat⟩
  · refine ⟨g, cap, rest, W, ?_, by rw [List.append_nil]; exact h, Below.refl _ _, fun _ _ _ => rfl, .inl rfl⟩
    simp [Builtin.append_, run_underlying ht, sizeOf, typeInfo, hi, Builtin.lenOf, Builtin.firstCells, storeCells, h.le]
  have hnl : (E.flat l2).length = l2.length * E.m := El.flat_length E l2
  by_cases hr : l.length + l2.length ≤ cap
  · have hf := h.fit
    have hfit : l.length * i.size + (E.flat l2).length ≤ (E.flat l ++ rest).toArray.size := by
      rw [hsize, hnl, ← Nat.add_mul, List.size_toArray]
      exact Nat.le_trans (Nat.mul_le_mul_right _ hr) hf
    have hrun := run_append_room (P := P) W t ty E.ty i ht hi g l.length cap _ h.blk ⟨b, o, none⟩ l2.length c (E.flat l2) (by rw [hsize]; exact hnl) hat.add (E.flat_cells l2) hr hfit
    have e : ((E.flat l ++ rest).toArray.toList.take (l.length * i.size) ++ E.flat l2 ++ (E.flat l ++ rest).toArray.toList.drop (l.length * i.size + (E.flat l2).length)) = E.flat (l ++ l2) ++ rest.drop (E.flat l2).length := by
      rw [hsize, ← El.flat_length E l, El.flat_append]
      show (E.flat l ++ rest).take _ ++ _ ++ (E.flat l ++ rest).drop _ = _
      rw [List.take_left, ← List.drop_drop, List.drop_left]
    rw [e] at hrun
    refine ⟨g, cap, rest.drop (E.flat l2).length, _, hrun, ⟨setRow_heap W g _ _ _ _ h.blk, h.new, by simpa using hr, h.max, ?_⟩, (Only.setRow W g _).bel h.new, fun k _ hk => setRow_other W g k _ hk, .inl rfl⟩
    have hrl : (E.flat l2).length ≤ rest.length := by
      rw [List.size_toArray, List.length_append, El.flat_length E l, hsize] at hfit; omega
    have h2 := h.fit
    rw [List.length_append] at h2
    rw [List.length_append, El.flat_append, List.length_append, List.length_drop]; omega
  · have hrun := run_append_grow (P := P) W t ty E.ty i z ht hi hz ⟨g, 0, none⟩ l.length cap (E.flat l) (by rw [hsize]; exact El.flat_length E l) h.row.add ⟨b, o, none⟩ l2.length c (E.flat l2) (by rw [hsize]; exact hnl) hat.add (by omega) (by unfold maxLen at hmax; omega) (growslice_fits (by omega) (by rw [hby]; exact hbig))
    have hge := grownCap_ge W (l.length + l2.length) cap E.ty
    have hcm : grownCap W (l.length + l2.length) cap E.ty ≤ maxLen := grownCap_le_maxLen W (l.length + l2.length) cap E.ty hmax
    refine ⟨W.heap.size, _, (Builtin.zeroCells z.cells (grownCap W (l.length + l2.length) cap E.ty - (l.length + l2.length))).toList, _, hrun, ⟨?_, hB, by simpa using hge, hcm, ?_⟩, ⟨rfl, rfl, rfl, by simp, fun k hk => Below.heap_alloc W.drew _ k (by show k < W.heap.size; omega)⟩, fun k hk _ => Below.heap_alloc W.drew _ k hk, .inr (Nat.le_refl _)⟩
    · rw [show W.heap.size = W.drew.heap.size from rfl, heap_alloc_new]
      refine congrArg (fun x => some (Obj.cells x E.ty (0, 0))) ?_
      apply Array.ext'
      rw [El.flat_append]
      simp
    · have hzl : ∀ n, (Builtin.zeroCells z.cells n).toList.length = n * E.m := fun n => by rw [Array.length_toList, size_zeroCells, hzs]
      rw [List.length_append, El.flat_length, hzl, List.length_append, ← Nat.add_mul]
      exact Nat.mul_le_mul_right _ (by omega)
end
end Rg
end Go.Proofs.YtmilfamjkiemaaaGreatDoor

namespace Go.Proofs.YtmilfamjkiemaaaGreatDoor
open Go.RowKit
def zeroOp : Array Value := #[.int .i64 0, .string ByteArray.empty, .int .i64 0, .int .i64 0, .int .i64 0, .string ByteArray.empty, .string ByteArray.empty, .string ByteArray.empty, .string ByteArray.empty, .int .i64 0, .string ByteArray.empty, .int .i64 0]
theorem infoOpZ : (Tryz.prog.info? 35).map (fun i => (i.zero, i.size, i.bytes)) = some (some (.agg zeroOp), 12, 144) := by kernel_rfl
theorem infoOpZ' : ∃ i0, Tryz.prog.info? 35 = some i0 ∧ i0.zero = some (.agg zeroOp) ∧ i0.size = 12 ∧ i0.bytes = 144 := by
  have := infoOpZ
  cases h : Tryz.prog.info? 35 with
  | none => rw [h] at this; cases this
  | some i => rw [h] at this; simp only [Option.map_some, Option.some.injEq, Prod.mk.injEq] at this; exact ⟨i, rfl, this.1, this.2.1, this.2.2⟩
/-- a row of none, its own -/
theorem own0 {α : Type} (E : Rg.El α) (W : World) : E.Own W.heap.size (W.alloc (.cells #[] E.ty)) W.heap.size 0 [] [] :=
  ⟨heap_alloc_new W _, Nat.le_refl _, Nat.le_refl _, Nat.zero_le _, by rw [Nat.zero_mul]; exact Nat.zero_le _⟩
theorem sop_app1 {base g cap : Nat} {W : World} {rest : List Value} (h : sopE.Own base W g cap [] rest) (a : Option Addr) (ca : Nat) (l : List Spl.SOp) (hrow : SRow0 W a l) (hB : base ≤ W.heap.size) (hn : l.length ≤ 977343669106) :
    ∃ g' cap' rest' W', (Builtin.append_ #[22, 22] 22 #[.slice (some ⟨g, 0, none⟩) 0 cap, .slice a l.length ca]).run Tryz.prog W = .ok (.slice (some ⟨g', 0, none⟩) l.length cap') W' ∧ sopE.Own base W' g' cap' l rest' ∧ Below base W W' ∧ (∀ k, k < W.heap.size → k ≠ g → W'.heap[k]? = W.heap[k]?) := by
  obtain ⟨i0, hi, hz0, hz1, hz2⟩ := infoOpZ'
  rcases hrow with rfl | ⟨b, o, rfl, hb, hat⟩
  · refine ⟨g, cap, rest, W, ?_, h, Below.refl _ _, fun _ _ _ => rfl⟩
    have h0 : (0 : Nat) + 0 ≤ cap := Nat.zero_le _
    cases a <;> simp [Builtin.append_, run_underlying Tryz.underlying22, sizeOf, typeInfo, hi, Builtin.lenOf, Builtin.firstCells, storeCells, loadCells, loadCellsFrom]
  · obtain ⟨g', cap', rest', W', h1, h2, h3, h4, _⟩ := h.appendRow (P := Tryz.prog) l 22 22 i0 _ 144 Tryz.underlying22 hi hz0 hz1 hz2 rfl (some ⟨b, o, none⟩) ca (.inr ⟨b, o, rfl, hb, hat⟩) hB (by rw [List.length_nil]; omega) (by rw [List.length_nil]; unfold maxLen; omega)
    rw [List.length_nil, Nat.zero_add] at h1
    rw [List.nil_append] at h2
    exact ⟨g', cap', rest', W', h1, h2, h3, h4⟩
theorem sop_app2 {base g cap : Nat} {W : World} {rest : List Value} {l : List Spl.SOp} (h : sopE.Own base W g cap l rest) (c : Spl.SOp) (ad : Nat) (hc : Rg.At W ad 0 (sopE.enc c)) (hB : base ≤ W.heap.size) (hn : l.length ≤ 977343669106) :
    ∃ g' cap' rest' W', (Builtin.append_ #[22, 22] 22 #[.slice (some ⟨g, 0, none⟩) l.length cap, .slice (some ⟨ad, 0, none⟩) 1 1]).run Tryz.prog W = .ok (.slice (some ⟨g', 0, none⟩) (l.length + 1) cap') W' ∧ sopE.Own base W' g' cap' (l ++ [c]) rest' ∧ Below base W W' := by
  obtain ⟨i0, hi, hz0, hz1, hz2⟩ := infoOpZ'
  obtain ⟨g', cap', rest', W', h1, h2, _, h4, _, _⟩ := h.append (P := Tryz.prog) c 22 22 i0 _ 144 Tryz.underlying22 hi hz0 hz1 hz2 rfl ⟨ad, 0, none⟩ 1 hc.add hB (by omega) (by unfold maxLen; omega)
  exact ⟨g', cap', rest', W', h1, h2, h4⟩
/-- far of the calls and one more -/
theorem far_more {base g cap : Nat} {W : World} {rest : List Value} {l : List Spl.SOp} {c : Spl.SOp} (h : sopE.Own base W g cap (l ++ [c]) rest) (hl : ∀ x ∈ l, SFits x) (hc : SFits c) (hn : l.length + 1 ≤ maxLen) :
    Calls Tryz.prog 8 #[.slice (some ⟨g, 0, none⟩) (l.length + 1) cap] W fun e w' => FarPost (l.length + 1) W e w' := by
  have := far_any (some ⟨g, 0, none⟩) cap (l ++ [c]) W (by rw [List.length_append]; exact hn) (fun x hx => by
    rcases List.mem_append.1 hx with q | q
    · exact hl x q
    · rw [List.mem_singleton] at q; subst q; exact hc) (.inr ⟨g, 0, rfl, h.lt, h.row⟩)
  rw [List.length_append, List.length_singleton] at this
  exact this
/-- jobs behind one another, in a row of their own -/
theorem held_appR {base g cap : Nat} {W : World} {rest : List Value} {l : List Spl.Hd} (h : heldE.Own base W g cap l rest) (l2 : List Spl.Hd) (a : Option Addr) (ca : Nat) (hrow : heldE.Row W a l2) (hB : base ≤ W.heap.size) (hn : l.length + l2.length ≤ 1000000) :
    ∃ g' cap' rest' W', (Builtin.append_ #[49, 49] 49 #[.slice (some ⟨g, 0, none⟩) l.length cap, .slice a l2.length ca]).run Tryz.prog W = .ok (.slice (some ⟨g', 0, none⟩) (l.length + l2.length) cap') W' ∧ heldE.Own base W' g' cap' (l ++ l2) rest' ∧ Below base W W' ∧ (∀ k, k < W.heap.size → k ≠ g → W'.heap[k]? = W.heap[k]?) := by
  obtain ⟨i0, hi, hz0, hz1, hz2⟩ := infoHeld'
  obtain ⟨g', cap', rest', W', h1, h2, h3, h4, _⟩ := h.appendRow (P := Tryz.prog) l2 49 49 i0 _ 128 Tryz.underlying49 hi hz0 hz1 hz2 rfl a ca hrow hB (by omega) (by unfold maxLen; omega)
  exact ⟨g', cap', rest', W', h1, h2, h3, h4⟩
/-- a row's later part -/
theorem held_drop {W : World} {b o : Nat} {l : List Spl.Hd} (h : heldE.Row W (some ⟨b, o, none⟩) l) (k : Nat) (hk : k ≤ l.length) : heldE.Row W (some ⟨b, o + k * 10, none⟩) (l.drop k) := by
  obtain ⟨h1, h2⟩ := h.some
  refine .inr ⟨b, _, rfl, h1, ?_⟩
  rw [← List.take_append_drop k l, heldE.flat_append] at h2
  exact h2.right (heldE.flat_take l k hk)
end Go.Proofs.YtmilfamjkiemaaaGreatDoor
