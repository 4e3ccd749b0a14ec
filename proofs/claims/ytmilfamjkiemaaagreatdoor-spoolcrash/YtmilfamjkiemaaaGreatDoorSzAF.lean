/-
  Rows of structs in memory, of whatever cells: those that are read, and those of one's own (append, copy, stores). No program in it.
-/
import Derived.Lib.SlBuf
import Derived.Laws.CopyRow
import Derived.ArgAppend
import Derived.WalkKit
namespace Go.Proofs.YtmilfamjkiemaaaGreatDoor
namespace Rg
open Go.RowKit

theorem hid {p : Prop} (h : p) : Hid p := h
theorem al1 (w : World) (a : Obj) : Below w.heap.size w (w.alloc a) := (Below.refl _ _).alloc (Nat.le_refl _) _
theorem al2 (w : World) (a b : Obj) : Below w.heap.size w ((w.alloc a).alloc b) := (al1 w a).alloc (al1 w a).size _
theorem al3 (w : World) (a b c : Obj) : Below w.heap.size w (((w.alloc a).alloc b).alloc c) := (al2 w a b).alloc (al2 w a b).size _
theorem al4 (w : World) (a b c d : Obj) : Below w.heap.size w ((((w.alloc a).alloc b).alloc c).alloc d) := (al3 w a b c).alloc (al3 w a b c).size _
theorem cell_new {W : World} {cs : Array Value} {ty : TypeId} {g i : Nat} {v : Value} (hg : g = W.heap.size) (hv : cs[i]? = some v) : (W.alloc (.cells cs ty)).cell? ⟨g, i, none⟩ = some v := by
  subst hg; simp [hv]
theorem bcell {W w1 : World} (hb : Below W.heap.size W w1) : (∀ b o, b < W.heap.size → w1.cell? ⟨b, o, none⟩ = W.cell? ⟨b, o, none⟩) ∧ (∀ b o, b < W.heap.size → w1.frozen? ⟨b, o, none⟩ = W.frozen? ⟨b, o, none⟩) :=
  ⟨fun b o h => hb.cell (p := ⟨b, o, none⟩) h, fun b o h => hb.frozen (p := ⟨b, o, none⟩) h⟩
theorem chain {a b c : World} (h : Below a.heap.size a b) (k : Below b.heap.size b c) : Below a.heap.size a c := h.trans (k.mono h.size)
theorem drewN {B : Nat} {w w' : World} (h : Below B w w') (q : Nat) : Below B w (w'.drewN q) := ⟨h.1, h.2, h.3, h.4, h.5⟩

/-- nothing is asked of a world -/
def Free (_ : World) : Prop := True
theorem free (w : World) : Free w := trivial
/-- how an element lies in memory -/
structure El (α : Type) where
  enc : α → List Value
  m : Nat
  hm : ∀ x, (enc x).length = m
  pos : 0 < m
  one : ∀ x, ∀ u ∈ enc x, u.oneCell' = true
  ty : TypeId

section
variable {α : Type} (E : El α)
def El.flat (l : List α) : List Value := l.flatMap E.enc
theorem El.flat_cons (x : α) (l : List α) : E.flat (x :: l) = E.enc x ++ E.flat l := by simp [El.flat]
theorem El.flat_append (a b : List α) : E.flat (a ++ b) = E.flat a ++ E.flat b := by simp [El.flat]
theorem El.flat_one (x : α) : E.flat [x] = E.enc x := by simp [El.flat]
theorem El.flat_length : ∀ l : List α, (E.flat l).length = l.length * E.m
  | [] => by simp [El.flat]
  | x :: l => by rw [El.flat_cons, List.length_append, El.flat_length l, E.hm, List.length_cons, Nat.add_mul]; omega
theorem El.flat_cells (l : List α) : ∀ u ∈ E.flat l, u.oneCell' = true := by
  intro u hu
  unfold El.flat at hu
  rw [List.mem_flatMap] at hu
  obtain ⟨x, _, hu⟩ := hu
  exact E.one x u hu
theorem El.flat_take (l : List α) (i : Nat) (hi : i ≤ l.length) : (E.flat (l.take i)).length = i * E.m := by
  rw [El.flat_length, List.length_take]; congr 1; omega
theorem El.flat_at {l : List α} {i : Nat} (hi : i < l.length) (rest : List Value) : E.flat l ++ rest = E.flat (l.take i) ++ (E.enc l[i] ++ (E.flat (l.drop (i + 1)) ++ rest)) := by
  conv => lhs; rw [← List.take_append_drop i l, List.drop_eq_getElem_cons hi, El.flat_append, El.flat_cons]
  simp [List.append_assoc]
theorem El.flat_get {l : List α} {i t : Nat} (hi : i < l.length) (ht : t < E.m) (rest : List Value) : (E.flat l ++ rest)[i * E.m + t]? = (E.enc l[i])[t]? := by
  have hl := El.flat_take E l i (by omega)
  rw [El.flat_at E hi, List.getElem?_append_right (by omega), hl, Nat.add_sub_cancel_left, List.getElem?_append_left (by rw [E.hm]; exact ht)]
theorem El.flat_set {l : List α} {i t : Nat} (hi : i < l.length) (ht : t < E.m) (rest : List Value) (v : Value) : (E.flat l ++ rest).set (i * E.m + t) v = E.flat (l.take i) ++ ((E.enc l[i]).set t v ++ (E.flat (l.drop (i + 1)) ++ rest)) := by
  have hl := El.flat_take E l i (by omega)
  rw [El.flat_at E hi, List.set_append_right _ _ (by omega), hl, Nat.add_sub_cancel_left, List.set_append_left _ _ (by rw [E.hm]; exact ht)]
theorem El.flat_put {l : List α} {i : Nat} (hi : i < l.length) (rest : List Value) (x : α) : E.flat (l.set i x) ++ rest = E.flat (l.take i) ++ (E.enc x ++ (E.flat (l.drop (i + 1)) ++ rest)) := by
  rw [El.flat_at E (l := l.set i x) (i := i) (by simpa using hi), List.getElem_set_self, List.take_set, List.drop_set, if_pos (by omega)]
  congr 2
  rw [List.set_eq_of_length_le (by simp; omega)]

/-- cells in a row -/
def At (W : World) (b o : Nat) (cs : List Value) : Prop := ∀ t u, cs[t]? = some u → W.cell? ⟨b, o + t, none⟩ = some u
theorem At.below {W W' : World} {b o B : Nat} {cs : List Value} (h : At W b o cs) (hb : Below B W W') (hlt : b < B) : At W' b o cs := fun t u ht => by
  rw [hb.cell (p := ⟨b, o + t, none⟩) hlt]; exact h t u ht
theorem At.same {W W' : World} {b o : Nat} {cs : List Value} (h : At W b o cs) (e : W'.heap[b]? = W.heap[b]?) : At W' b o cs := fun t u ht => by
  rw [World.cell?_of_block (a := ⟨b, o + t, none⟩) e]; exact h t u ht
theorem At.left {W : World} {b o : Nat} {x y : List Value} (h : At W b o (x ++ y)) : At W b o x := fun t u ht => by
  refine h t u ?_
  rw [List.getElem?_append_left]; (· exact ht)
  rcases Nat.lt_or_ge t x.length with c | c
  · exact c
  · rw [List.getElem?_eq_none c] at ht; cases ht
theorem At.right {W : World} {b o k : Nat} {x y : List Value} (h : At W b o (x ++ y)) (hk : x.length = k) : At W b (o + k) y := fun t u ht => by
  have := h (k + t) u (by rw [List.getElem?_append_right (by omega), hk, Nat.add_sub_cancel_left]; exact ht)
  rw [← Nat.add_assoc] at this; exact this
theorem At.add {W : World} {b o : Nat} {cs : List Value} (h : At W b o cs) : ∀ j u, cs[j]? = some u → W.cell? ((⟨b, o, none⟩ : Addr).add j) = some u := fun j u hj => by
  have := h j u hj; cases j <;> simpa [Addr.add] using this
theorem At.get {W : World} {b o : Nat} {cs : List Value} (h : At W b o cs) (t : Nat) (ht : t < cs.length) : W.cell? ⟨b, o + t, none⟩ = some cs[t] := h t _ (List.getElem?_eq_getElem ht)
theorem At.nil {W : World} {b o : Nat} : At W b o [] := fun t u ht => by simp at ht

/-- a row that is read -/
def El.Row (W : World) (a : Option Addr) (l : List α) : Prop := (a = none ∧ l = []) ∨ ∃ b o, a = some ⟨b, o, none⟩ ∧ b < W.heap.size ∧ At W b o (E.flat l)
theorem El.Row.nil {W : World} : E.Row W none [] := .inl ⟨rfl, rfl⟩
variable {E}
theorem El.Row.below {W W' : World} {a : Option Addr} {l : List α} (h : E.Row W a l) (hb : Below W.heap.size W W') : E.Row W' a l := by
  rcases h with h | ⟨b, o, h1, h2, h3⟩
  · exact .inl h
  · exact .inr ⟨b, o, h1, Nat.lt_of_lt_of_le h2 hb.size, h3.below hb h2⟩
theorem El.Row.drew {W : World} {a : Option Addr} {l : List α} (h : E.Row W a l) : E.Row W.drew a l := h
theorem El.Row.take {W : World} {a : Option Addr} {l : List α} (h : E.Row W a l) (n : Nat) : E.Row W a (l.take n) := by
  rcases h with ⟨h, rfl⟩ | ⟨b, o, h1, h2, h3⟩
  · exact .inl ⟨h, by simp⟩
  · refine .inr ⟨b, o, h1, h2, ?_⟩
    rw [← List.take_append_drop n l, El.flat_append] at h3
    exact h3.left
theorem El.Row.some {W : World} {b o : Nat} {l : List α} (h : E.Row W (some ⟨b, o, none⟩) l) : b < W.heap.size ∧ At W b o (E.flat l) := by
  rcases h with ⟨h, _⟩ | ⟨b', o', h1, h2, h3⟩
  · cases h
  · cases h1; exact ⟨h2, h3⟩
theorem At.elem {W : World} {b o : Nat} {l : List α} (h : At W b o (E.flat l)) {i : Nat} (hi : i < l.length) : At W b (o + i * E.m) (E.enc l[i]) := by
  have e := El.flat_at E hi []
  rw [List.append_nil] at e
  rw [e] at h
  exact (h.right (El.flat_take E l i (by omega))).left

/-- a row of one's own, from block 'base' on; the slice is this row, its capacity cap -/
structure El.Own (E : El α) (base : Nat) (W : World) (g cap : Nat) (l : List α) (rest : List Value) : Prop where
  blk : W.heap[g]? = some (.cells (E.flat l ++ rest).toArray E.ty (0, 0))
  new : base ≤ g
  le : l.length ≤ cap
  max : cap ≤ maxLen
  fit : cap * E.m ≤ (E.flat l ++ rest).length
theorem El.Own.lt {base g cap : Nat} {W : World} {l : List α} {rest : List Value} (h : E.Own base W g cap l rest) : g < W.heap.size := by
  rcases Nat.lt_or_ge g W.heap.size with h' | h'
  · exact h'
  · have := h.blk; rw [Array.getElem?_eq_none h'] at this; cases this
theorem El.Own.cell {base g cap : Nat} {W : World} {l : List α} {rest : List Value} (h : E.Own base W g cap l rest) (i : Nat) : W.cell? ⟨g, i, none⟩ = (E.flat l ++ rest)[i]? := by
  simp [World.cell?, h.blk]
theorem El.Own.thaw {base g cap : Nat} {W : World} {l : List α} {rest : List Value} (h : E.Own base W g cap l rest) (i : Nat) : W.frozen? ⟨g, i, none⟩ = false := by
  have := h.blk; unfold World.frozen?; simp [this]
theorem El.Own.row {base g cap : Nat} {W : World} {l : List α} {rest : List Value} (h : E.Own base W g cap l rest) : At W g 0 (E.flat l) := fun t u ht => by
  rw [h.cell, Nat.zero_add, List.getElem?_append_left]; (· exact ht)
  rcases Nat.lt_or_ge t (E.flat l).length with c | c
  · exact c
  · rw [List.getElem?_eq_none c] at ht; cases ht
theorem El.Own.toRow {base g cap : Nat} {W : World} {l : List α} {rest : List Value} (h : E.Own base W g cap l rest) : E.Row W (some ⟨g, 0, none⟩) l := .inr ⟨g, 0, rfl, h.lt, h.row⟩
theorem El.Own.same {base g cap : Nat} {W W' : World} {l : List α} {rest : List Value} (h : E.Own base W g cap l rest) (e : W'.heap[g]? = W.heap[g]?) : E.Own base W' g cap l rest :=
  ⟨by rw [e]; exact h.blk, h.new, h.le, h.max, h.fit⟩
theorem El.Own.below {base g cap : Nat} {W W' : World} {l : List α} {rest : List Value} (h : E.Own base W g cap l rest) (hb : Below W.heap.size W W') : E.Own base W' g cap l rest := h.same (hb.block g h.lt)
theorem El.Own.drew {base g cap : Nat} {W : World} {l : List α} {rest : List Value} (h : E.Own base W g cap l rest) : E.Own base W.drew g cap l rest := h.same rfl
/-- a shorter slice of it -/
theorem El.Own.cut {base g cap : Nat} {W : World} {l : List α} {rest : List Value} (h : E.Own base W g cap l rest) (n : Nat) (hn : n ≤ l.length) : E.Own base W g n (l.take n) (E.flat (l.drop n) ++ rest) := by
  have e : E.flat (l.take n) ++ (E.flat (l.drop n) ++ rest) = E.flat l ++ rest := by rw [← List.append_assoc, ← El.flat_append, List.take_append_drop]
  refine ⟨by rw [e]; exact h.blk, h.new, by simp; omega, Nat.le_trans (Nat.le_trans hn h.le) h.max, ?_⟩
  rw [e]
  exact Nat.le_trans (Nat.mul_le_mul_right _ (Nat.le_trans hn h.le)) h.fit
theorem El.Own.of {base n : Nat} {W : World} {v : Value} {l : List α} (h : W.ownsRow base E.ty E.m v n (E.flat l)) (hv : ¬ v = .slice none 0 0) (hn : n = l.length) : ∃ g cap rest, v = .slice (Option.some ⟨g, 0, none⟩) l.length cap ∧ E.Own base W g cap l rest := by
  subst hn
  rcases h.2 with ⟨e, _⟩ | ⟨g, cap, cur, hv', hg, hc, hle, hm, hs, ht⟩
  · exact absurd e hv
  · have e : E.flat l ++ cur.toList.drop (l.length * E.m) = cur.toList := by rw [← ht, List.take_append_drop]
    refine ⟨g, cap, cur.toList.drop (l.length * E.m), hv', ⟨by rw [e]; exact hc, hg, hle, hm, ?_⟩⟩
    rw [e, Array.length_toList, hs]; exact Nat.le_refl _

/-- one block alone has turned -/
structure Only (g : Nat) (W W' : World) : Prop where
  os : W'.os = W.os
  tape : W'.tape = W.tape
  output : W'.output = W.output
  size : W'.heap.size = W.heap.size
  block : ∀ k, k ≠ g → W'.heap[k]? = W.heap[k]?
theorem Only.refl (g : Nat) (W : World) : Only g W W := ⟨rfl, rfl, rfl, rfl, fun _ _ => rfl⟩
theorem Only.trans {g : Nat} {a b c : World} (h : Only g a b) (k : Only g b c) : Only g a c := ⟨k.os.trans h.os, k.tape.trans h.tape, k.output.trans h.output, k.size.trans h.size, fun i hi => (k.block i hi).trans (h.block i hi)⟩
theorem Only.setCell (W : World) (g i : Nat) (v : Value) : Only g W (W.setCell ⟨g, i, none⟩ v) := ⟨rfl, rfl, rfl, by simp [World.setCell], fun k hk => Below.heap_setCell _ _ _ _ hk⟩
theorem Only.setRow (W : World) (g : Nat) (cs : Array Value) : Only g W (W.setRow g cs) := ⟨rfl, rfl, rfl, by simp, fun k hk => setRow_other W g k cs hk⟩
theorem Only.drew (W : World) (g : Nat) : Only g W W.drew := ⟨rfl, rfl, rfl, rfl, fun _ _ => rfl⟩
theorem Only.bel {g B : Nat} {W W' : World} (h : Only g W W') (hB : B ≤ g) : Below B W W' := ⟨h.os, h.tape, h.output, Nat.le_of_eq h.size.symm, fun k hk => h.block k (by omega)⟩
theorem Only.cell {g : Nat} {W W' : World} (h : Only g W W') {b o : Nat} (hb : b ≠ g) : W'.cell? ⟨b, o, none⟩ = W.cell? ⟨b, o, none⟩ := World.cell?_of_block (a := ⟨b, o, none⟩) (h.block b hb)
theorem Only.frozen {g : Nat} {W W' : World} (h : Only g W W') {b o : Nat} (hb : b ≠ g) : W'.frozen? ⟨b, o, none⟩ = W.frozen? ⟨b, o, none⟩ := World.frozen?_of_block (a := ⟨b, o, none⟩) (h.block b hb)

/-- one store -/
theorem El.Own.set1 {base g cap : Nat} {W : World} {l : List α} {rest : List Value} (h : E.Own base W g cap l rest) (j : Nat) (v : Value) :
    (W.setCell ⟨g, j, none⟩ v).heap[g]? = some (.cells ((E.flat l ++ rest).set j v).toArray E.ty (0, 0)) := by
  rw [heap_setCell_same W g j _ _ v h.blk]; simp
/-- what is there may be said of other elements -/
theorem El.Own.re {base g cap : Nat} {W W' : World} {l l' : List α} {rest rest' cs : List Value} (h : E.Own base W g cap l rest) (hb : W'.heap[g]? = some (.cells cs.toArray E.ty (0, 0))) (he : cs = E.flat l' ++ rest') (hle : l'.length ≤ cap)
    (hl : cs.length = (E.flat l ++ rest).length) : E.Own base W' g cap l' rest' :=
  ⟨by rw [← he]; exact hb, h.new, hle, h.max, by rw [← he, hl]; exact h.fit⟩

variable {P : Program}
/-- copy into a block that is known whole -/
theorem run_copyG (w : World) (dT sT ty elem : TypeId) (m g o dLen dCap : Nat) (a : Addr) (sLen sCap : Nat) (cur : Array Value) (t : TypeId) (cs : List Value)
    (hu : P.underlying dT = some (.slice elem)) (hs : (P.info? elem).map (·.size) = some m)
    (hg : w.heap[g]? = some (.cells cur t (0, 0))) (hn : cs.length = Nat.min sLen dLen * m)
    (hsrc : ∀ j v, cs[j]? = some v → w.cell? (a.add j) = some v) (hfit : o + cs.length ≤ cur.size) (h1 : ∀ v ∈ cs, v.oneCell' = true) :
    (Builtin.copy_ #[dT, sT] ty #[.slice (some ⟨g, o, none⟩) dLen dCap, .slice (some a) sLen sCap]).run P w =
      .ok (goInt (Nat.min sLen dLen)) (w.setRow g (cur.toList.take o ++ cs ++ cur.toList.drop (o + cs.length)).toArray) := by
  have hl := run_loadCells_list (P := P) w a cs hsrc
  have hst := run_storeCells_at P g o t cs 0 cur w hg (by simpa using hfit) h1
  cases hq : P.info? elem with
  | none => simp [hq] at hs
  | some i =>
    have hi : i.size = m := by simpa [hq] using hs
    rw [hn] at hl
    simp [Builtin.copy_, run_underlying hu, Builtin.lenOf, Builtin.firstCells, sizeOf, typeInfo, hq, hi, hl, hst, hn]
/-- copy of nothing -/
theorem run_copy0 (w : World) (dT sT ty elem : TypeId) (m : Nat) (ad : Option Addr) (dLen dCap : Nat) (sCap : Nat)
    (hu : P.underlying dT = some (.slice elem)) (hs : (P.info? elem).map (·.size) = some m) :
    (Builtin.copy_ #[dT, sT] ty #[.slice ad dLen dCap, .slice none 0 sCap]).run P w = .ok (goInt 0) w := by
  cases hq : P.info? elem with
  | none => simp [hq] at hs
  | some i =>
    have hmin : Nat.min 0 dLen = 0 := Nat.zero_min _
    cases ad <;> simp [Builtin.copy_, run_underlying hu, Builtin.lenOf, Builtin.firstCells, sizeOf, typeInfo, hq, storeCells, hmin]

/-- append of one element to a row of one's own: in its place, or anew -/
theorem El.Own.append {base g cap : Nat} {W : World} {l : List α} {rest : List Value} (h : E.Own base W g cap l rest) (x : α) (t ty : TypeId) (i : TypeInfo) (z : Value) (bytes : Nat)
    (ht : P.underlying t = some (.slice E.ty)) (hi : P.info? E.ty = some i) (hz : i.zero = some z) (hsize : i.size = E.m) (hby : i.bytes = bytes) (hzs : z.cells.size = E.m)
    (a : Addr) (c : Nat) (hnews : ∀ j u, (E.enc x)[j]? = some u → W.cell? (a.add j) = some u) (hB : base ≤ W.heap.size) (hbig : (l.length + 1) * bytes ≤ 140737488355328) (hmax : l.length + 1 ≤ maxLen) :
    ∃ g' cap' rest' W', (Builtin.append_ #[t, t] ty #[.slice (Option.some ⟨g, 0, none⟩) l.length cap, .slice (Option.some a) 1 c]).run P W = .ok (.slice (Option.some ⟨g', 0, none⟩) (l.length + 1) cap') W' ∧
      E.Own base W' g' cap' (l ++ [x]) rest' ∧ At W' g 0 (E.flat l) ∧ Below base W W' ∧ (∀ k, k < W.heap.size → k ≠ g → W'.heap[k]? = W.heap[k]?) ∧ (g' = g ∨ W.heap.size ≤ g') := by
  have hnl : (E.enc x).length = 1 * E.m := by rw [E.hm, Nat.one_mul]
  have hlen : (E.flat l ++ E.enc x).length = (l.length + 1) * E.m := by rw [List.length_append, El.flat_length, E.hm, Nat.add_mul, Nat.one_mul]
  by_cases hr : l.length + 1 ≤ cap
  · have hf := h.fit
    have hfit : l.length * i.size + (E.enc x).length ≤ (E.flat l ++ rest).toArray.size := by
      rw [hsize, hnl, ← Nat.add_mul, List.size_toArray]
      exact Nat.le_trans (Nat.mul_le_mul_right _ hr) hf
    have hrun := run_append_room (P := P) W t ty E.ty i ht hi g l.length cap _ h.blk a 1 c (E.enc x) (by rw [hsize]; exact hnl) hnews (E.one x) hr hfit
    have hrl : E.m ≤ rest.length := by
      rw [List.size_toArray, List.length_append, El.flat_length, hsize, E.hm] at hfit; omega
    have e : ((E.flat l ++ rest).toArray.toList.take (l.length * i.size) ++ E.enc x ++ (E.flat l ++ rest).toArray.toList.drop (l.length * i.size + (E.enc x).length)) = E.flat (l ++ [x]) ++ rest.drop E.m := by
      rw [hsize, E.hm, ← El.flat_length E l, El.flat_append, El.flat_one]
      show (E.flat l ++ rest).take _ ++ _ ++ (E.flat l ++ rest).drop _ = _
      rw [List.take_left, ← List.drop_drop, List.drop_left]
    rw [e] at hrun
    refine ⟨g, cap, rest.drop E.m, _, hrun, ⟨setRow_heap W g _ _ _ _ h.blk, h.new, by simpa using hr, h.max, ?_⟩, ?_, (Only.setRow W g _).bel h.new, fun k _ hk => setRow_other W g k _ hk, .inl rfl⟩
    · have h2 := h.fit
      rw [List.length_append, El.flat_length] at h2
      rw [List.length_append, El.flat_length, List.length_drop, List.length_append, List.length_singleton, Nat.add_mul, Nat.one_mul]; omega
    · intro j u hj
      have hlt : j < (E.flat l).length := by
        rcases Nat.lt_or_ge j (E.flat l).length with c | c
        · exact c
        · rw [List.getElem?_eq_none c] at hj; cases hj
      rw [Nat.zero_add, cell_setRow_same W g j _ _ _ _ h.blk, El.flat_append, List.append_assoc]
      simp only [List.getElem?_toArray]
      rw [List.getElem?_append_left hlt]; exact hj
  · obtain ⟨v', W', hrun, hown, hgr⟩ := run_append_arg_grows (P := P) W t ty E.ty i z E.m bytes ht hi hz hsize hby hzs E.pos ⟨g, 0, none⟩ l.length cap (E.flat l) (El.flat_length E l) h.row.add a 1 c (E.enc x) hnl hnews (by omega) hmax hbig
    rw [show E.flat l ++ E.enc x = E.flat (l ++ [x]) by rw [El.flat_append, El.flat_one]] at hown
    have hv : ¬ v' = .slice none 0 0 := fun e => by
      subst e
      rcases hown.2 with ⟨_, e⟩ | ⟨_, _, _, e, _⟩
      · omega
      · cases e
    obtain ⟨g', cap', rest', rfl, ho⟩ := El.Own.of hown hv (by simp)
    rw [List.length_append, List.length_singleton] at hrun
    refine ⟨g', cap', rest', W', hrun, ⟨ho.blk, Nat.le_trans hB ho.new, ho.le, ho.max, ho.fit⟩, ?_, ⟨hgr.os, hgr.tape, hgr.output, hgr.size, fun k hk => hgr.block k (by omega) (by simp)⟩, fun k hk _ => hgr.block k hk (by simp), .inr ho.new⟩
    exact h.row.same (hgr.block g h.lt (by simp))
/-- append of one element to a row that is full: it is laid anew -/
theorem El.append_full (E : El α) (W : World) (a : Option Addr) (l : List α) (hrow : E.Row W a l) (x : α) (t ty : TypeId) (i : TypeInfo) (z : Value) (bytes : Nat)
    (ht : P.underlying t = some (.slice E.ty)) (hi : P.info? E.ty = some i) (hz : i.zero = some z) (hsize : i.size = E.m) (hby : i.bytes = bytes) (hzs : z.cells.size = E.m)
    (ad : Addr) (c : Nat) (hnews : ∀ j u, (E.enc x)[j]? = some u → W.cell? (ad.add j) = some u) (hbig : (l.length + 1) * bytes ≤ 140737488355328) (hmax : l.length + 1 ≤ maxLen) :
    ∃ v' W', (Builtin.append_ #[t, t] ty #[.slice a l.length l.length, .slice (Option.some ad) 1 c]).run P W = .ok v' W' ∧ ∃ g' cap', v' = .slice (Option.some ⟨g', 0, none⟩) (l.length + 1) cap' ∧ E.Row W' (Option.some ⟨g', 0, none⟩) (l ++ [x]) ∧ l.length + 1 ≤ cap' ∧ Below W.heap.size W W' ∧ W.heap.size ≤ g' := by
  have hnl : (E.enc x).length = 1 * E.m := by rw [E.hm, Nat.one_mul]
  have key : ∃ v' W', (Builtin.append_ #[t, t] ty #[.slice a l.length l.length, .slice (Option.some ad) 1 c]).run P W = .ok v' W' ∧ W'.ownsRow W.heap.size E.ty E.m v' (l.length + 1) (E.flat l ++ E.enc x) ∧ W.grownBy W' none := by
    rcases hrow with ⟨rfl, rfl⟩ | ⟨b, o, rfl, hb, hat⟩
    · obtain ⟨v', W', hrun, hown, hgr, _⟩ := run_append_own (P := P) W W.heap.size t ty E.ty i z E.m bytes ht hi hz hsize hby hzs E.pos (.slice none 0 0) 0 [] (World.ownsRow_nil W _ E.ty E.m) ad 1 c (E.enc x) hnl hnews (E.one x) (by decide) (by simpa using hbig) (Nat.le_refl _)
      exact ⟨v', W', hrun, hown, hgr⟩
    · exact run_append_arg_grows (P := P) W t ty E.ty i z E.m bytes ht hi hz hsize hby hzs E.pos ⟨b, o, none⟩ l.length l.length (E.flat l) (El.flat_length E l) hat.add ad 1 c (E.enc x) hnl hnews (by omega) hmax hbig
  obtain ⟨v', W', hrun, hown, hgr⟩ := key
  rw [show E.flat l ++ E.enc x = E.flat (l ++ [x]) by rw [El.flat_append, El.flat_one]] at hown
  have hv : ¬ v' = .slice none 0 0 := fun e => by
    subst e
    rcases hown.2 with ⟨_, e⟩ | ⟨_, _, _, e, _⟩
    · omega
    · cases e
  obtain ⟨g', cap', rest', rfl, ho⟩ := El.Own.of hown hv (by simp)
  have hle := ho.le
  rw [List.length_append, List.length_singleton] at hle
  exact ⟨_, W', hrun, g', cap', by rw [List.length_append, List.length_singleton], ho.toRow, hle, (Below.refl _ _).grown hgr (Nat.le_refl _) (fun k hk => by cases hk), ho.new⟩
/-- append of one element to nothing -/
theorem El.append0 (E : El α) (W : World) (base : Nat) (x : α) (t ty : TypeId) (i : TypeInfo) (z : Value) (bytes : Nat)
    (ht : P.underlying t = some (.slice E.ty)) (hi : P.info? E.ty = some i) (hz : i.zero = some z) (hsize : i.size = E.m) (hby : i.bytes = bytes) (hzs : z.cells.size = E.m)
    (a : Addr) (c : Nat) (hnews : ∀ j u, (E.enc x)[j]? = some u → W.cell? (a.add j) = some u) (hB : base ≤ W.heap.size) (hbig : bytes ≤ 140737488355328) :
    ∃ g' cap' rest' W', (Builtin.append_ #[t, t] ty #[.slice none 0 0, .slice (Option.some a) 1 c]).run P W = .ok (.slice (Option.some ⟨g', 0, none⟩) 1 cap') W' ∧ E.Own base W' g' cap' [x] rest' ∧ Below W.heap.size W W' ∧ W.heap.size ≤ g' := by
  obtain ⟨v', W', hrun, hown, hgr, hiff⟩ := run_append_own (P := P) W W.heap.size t ty E.ty i z E.m bytes ht hi hz hsize hby hzs E.pos (.slice none 0 0) 0 [] (World.ownsRow_nil W _ E.ty E.m) a 1 c (E.enc x) (by rw [E.hm, Nat.one_mul]) hnews (E.one x) (by decide) (by omega) (Nat.le_refl _)
  have hv : ¬ v' = .slice none 0 0 := fun e => by have := hiff.1 e; omega
  rw [List.nil_append, ← El.flat_one] at hown
  obtain ⟨g', cap', rest', rfl, ho⟩ := El.Own.of hown hv (by simp)
  exact ⟨g', cap', rest', W', hrun, ⟨ho.blk, Nat.le_trans hB ho.new, ho.le, ho.max, ho.fit⟩, (Below.refl _ _).grown hgr (Nat.le_refl _) (fun k hk => by cases hk), ho.new⟩
end

theorem wpList_append_run {P : Program} {w : World} {ops : Array Oper} {rest : List Oper} {o : Oper} {a : Act} {Q : Exit → Act → World → Prop} (hw : Region.wanted o (yielded ops a.tmps) = true) (s x : Operand) (t : TypeId)
    (ho : o.op = .call { callee := .builtin .append, args := #[s, x], argTypes := #[t, t] }) (v u : Value) (hs : a.eval s = v) (hx : a.eval x = u) (v' : Value) (w' : World)
    (hrun : (Builtin.append_ #[t, t] o.type #[v, u]).run P w = .ok v' w') (h : wpList P ops Q rest (a.put o.dst v') w') : wpList P ops Q (o :: rest) a w := by
  refine wpList_step fun K hK => ?_
  rw [if_pos hw]
  unfold Oper.wp
  simp [execOp, ho, resolve, invoke, builtin, hs, hx, hrun, Result.andThen]
  exact hK _ _ h
theorem step_append_run {P : Program} {ops : Array Oper} {o : Oper} {a : Act} {w : World} {K : Act → World → Prop} {Q : Exit → Act → World → Prop} {E : Prop}
    (hg : o.guard = none) (s x : Operand) (t : TypeId) (ho : o.op = .call { callee := .builtin .append, args := #[s, x], argTypes := #[t, t] }) (v u : Value) (hs : a.eval s = v) (hx : a.eval x = u) {v' : Value} {w' : World}
    (hrun : (Builtin.append_ #[t, t] o.type #[v, u]).run P w = .ok v' w') (h : K (a.put o.dst v') w') :
    if Region.wanted o (yielded ops a.tmps) = true then Oper.wp P o a w K Q else E := by
  have hw : Region.wanted o (yielded ops a.tmps) = true := by simp [Region.wanted, hg]
  rw [if_pos hw]
  unfold Oper.wp
  simp [execOp, ho, resolve, invoke, builtin, hs, hx, hrun, Result.andThen]
  exact h
theorem step_append_ex {P : Program} {ops : Array Oper} {o : Oper} {a : Act} {w : World} {K : Act → World → Prop} {Q : Exit → Act → World → Prop} {E : Prop}
    (hg : o.guard = none) (s x : Operand) (t : TypeId) (ho : o.op = .call { callee := .builtin .append, args := #[s, x], argTypes := #[t, t] }) (v u : Value) (hs : a.eval s = v) (hx : a.eval x = u) (R : Value → World → Prop)
    (hrun : ∃ v' w', (Builtin.append_ #[t, t] o.type #[v, u]).run P w = .ok v' w' ∧ R v' w') (h : ∀ v' w', R v' w' → K (a.put o.dst v') w') :
    if Region.wanted o (yielded ops a.tmps) = true then Oper.wp P o a w K Q else E := by
  obtain ⟨v', w', h1, h2⟩ := hrun
  exact step_append_run hg s x t ho v u hs hx h1 (h v' w' h2)
theorem step_copy_run {P : Program} {ops : Array Oper} {o : Oper} {a : Act} {w : World} {K : Act → World → Prop} {Q : Exit → Act → World → Prop} {E : Prop}
    (hg : o.guard = none) (d s : Operand) (t t' : TypeId) (ho : o.op = .call { callee := .builtin .copy, args := #[d, s], argTypes := #[t, t'] }) (v u : Value) (hd : a.eval d = v) (hs : a.eval s = u) {v' : Value} {w' : World}
    (hr : (Builtin.copy_ #[t, t'] o.type #[v, u]).run P w = .ok v' w') (h : K (a.put o.dst v') w') :
    if Region.wanted o (yielded ops a.tmps) = true then Oper.wp P o a w K Q else E := by
  have hw : Region.wanted o (yielded ops a.tmps) = true := by simp [Region.wanted, hg]
  rw [if_pos hw]
  exact Lib.wp_copy_run w d s t t' ho v u hd hs hr h
end Rg
end Go.Proofs.YtmilfamjkiemaaaGreatDoor
