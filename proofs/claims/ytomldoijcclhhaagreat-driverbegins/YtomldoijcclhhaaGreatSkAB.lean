/-
  Mathematics of layer 15: one end of the protocols g and G, as the document says it; a drive that is right stays right. Small facts on what a call hands back, shared by the layers. Rows of structs in memory, of whatever cells: those that are read, and those of one's own (append, copy, stores). No program in it. A block of memory that is known whole. Walks of layer 14: a window in memory; isRight, numberAt, placeOf, Find.
-/
import Derived.Test.YtomldoijcclhhaaGreatSkAA
import Derived.Test.YtomldoijcclhhaaGreatProg
import Derived.WalkKit
import Derived.Lib.SlBuf
import Derived.Laws.CopyRow
import Derived.ArgAppend
import Derived.WalkMore
namespace Go.Proofs.YtomldoijcclhhaaGreat
namespace Gp
/-- A piece that waits. -/
structure Pc where
  ch : Int
  data : ByteArray
/-- A packet of the protocol i, which a drive of g never keeps. -/
structure Fi where
  kd : Int
  nm : Int
  ak : Int
  ch : Int
  ca : Bool
  data : ByteArray
/-- A drive. Phases: 1 Opening, 2 Running, 3 Closing, 4 Closed, 5 Failed. Letters: 103 g, 71 G. -/
structure Dr where
  letter : Int
  phase : Int
  caller : Bool
  step : Int
  size : Int
  room : Int
  win : Wn.W
  wants : Int
  ahead : List Fi
  buf : List UInt8
  at_ : Int
  queue : List Pc
  wait : Int
  tries : Int
  took : List (Int × Int)
/-- P15.6, but for the phase. -/
def base (d : Dr) : Prop := (d.letter = 103 ∨ d.letter = 71) ∧ Gf.code d.size ≠ 0 ∧ (d.letter = 103 → d.size ≤ 64) ∧ 1 ≤ d.room ∧ d.room ≤ 7 ∧ 0 ≤ d.wants ∧ d.wants ≤ 7 ∧ 0 ≤ d.at_ ∧ d.at_ ≤ 1099511627776 ∧ 0 ≤ d.wait ∧ d.wait ≤ 3 ∧ 0 ≤ d.tries ∧ d.tries ≤ 13 ∧ d.ahead = [] ∧ ∀ p ∈ d.queue, p.data.size ≠ 0
def runs (d : Dr) : Prop := (∀ s ∈ d.win.l, s.size ≠ 0 ∧ (s.size : Int) ≤ d.size) ∧ -1 ≤ d.step ∧ d.step ≤ 7 ∧ d.win.md = 8 ∧ d.win.sz = d.room ∧ 0 ≤ d.win.bs ∧ d.win.bs < 8 ∧ (d.win.l.length : Int) ≤ d.win.sz
/-- P15.6. -/
def right (d : Dr) : Prop := base d ∧ ((d.phase = 1 ∧ 0 ≤ d.step ∧ d.step ≤ 2 ∧ d.win.l = []) ∨ (d.phase = 2 ∧ runs d) ∨ d.phase = 3 ∨ d.phase = 4 ∨ d.phase = 5)
/-- A drive with lists of its own: nothing was taken. -/
def own (d : Dr) : Dr := { d with took := [] }
def ctrl (h l : Int) : List UInt8 := Gf.text ⟨0, h, l, 0, []⟩
/-- The packet by which a step of the opening is made. -/
def opening (d : Dr) (st : Int) : List UInt8 := if st = 0 then ctrl 7 d.room else if st = 1 then ctrl 6 ((Gf.code d.size : Int) - 1) else ctrl 5 d.room
def last (d : Dr) : Int := (d.wants + 7) % 8
def ready (d : Dr) : List UInt8 := ctrl 4 (last d)
def begin_ (letter : Int) (caller : Bool) (size room : Int) : Dr := ⟨letter, 1, caller, 0, size, room, Wn.zero, 1, [], [], 0, [], 0, 0, []⟩
/-- The size of a short packet of G. -/
def hv : Nat → Nat → Nat → Nat
  | 0, z, _ => z
  | k + 1, z, n => if 32 < z ∧ n < z / 2 then hv k (z / 2) n else z
def packet (d : Dr) (n : Int) (s : ByteArray) : List UInt8 :=
  if (s.size : Int) < d.size then Gf.text ⟨3, n, last d, if d.letter = 71 then (hv 7 d.size.toNat s.size : Nat) else d.size, s.data.toList⟩ else Gf.text ⟨2, n, last d, d.size, s.data.toList⟩
/-- All of the window, from place i on. -/
def allFrom (d : Dr) : List ByteArray → Nat → List UInt8
  | [], _ => []
  | s :: r, i => packet d (Wn.num d.win i) s ++ allFrom d r (i + 1)
def all (d : Dr) : List UInt8 := allFrom d d.win.l 0
def cutQ (q : List Pc) (k : Nat) : List Pc := match q with
  | [] => []
  | p :: r => if k = p.data.size then r else ⟨p.ch, p.data.extract k p.data.size⟩ :: r
/-- What waits goes: one text. -/
def fill1 (d : Dr) (p : Pc) : Dr × List UInt8 :=
  let k := min p.data.size d.size.toNat
  let s := p.data.extract 0 k
  let w := Wn.put d.win s
  ({ d with win := w.1, queue := cutQ d.queue k }, packet { d with win := w.1 } w.2.1 s)
def fillN : Nat → Dr → List UInt8 → Dr × List UInt8
  | 0, d, out => (d, out)
  | f + 1, d, out => match d.queue with
    | [] => (d, out)
    | p :: _ => if d.phase = 2 ∧ (d.win.l.length : Int) < d.win.sz then fillN f (fill1 d p).1 (out ++ (fill1 d p).2) else (d, out)
def fill (d : Dr) : Dr × List UInt8 := fillN 8 d []
def open_ (d : Dr) : Dr := { d with phase := 2, step := -1, tries := 0, win := (Wn.begin_ 8 d.room 1).1 }
def or1 (w : Int) : Int := if w % 2 = 1 then w else w + 1
def or2 (w : Int) : Int := if 2 ≤ w then w else w + 2
/-- A packet of the opening. -/
def begins (d : Dr) (q low : Int) : Dr × List UInt8 :=
  if d.phase = 2 then (d, if q = 2 then ready d else [])
  else if d.phase ≠ 1 ∨ d.step < q then (d, [])
  else if q < d.step then (if q ≠ d.step - 1 ∨ d.wait % 2 = 1 then (d, []) else ({ d with wait := or1 d.wait }, opening { d with wait := or1 d.wait } q))
  else if q = 1 then
    let e : Dr := { d with size := min d.size (32 * 2 ^ low.toNat), step := d.step + 1, tries := 0 }
    (e, opening e e.step)
  else if low < 1 then (d, [])
  else
    let e : Dr := { d with room := min d.room low, step := d.step + 1, tries := 0 }
    if e.step = 3 then (open_ e, []) else (e, opening e e.step)
def acked (d : Dr) (n : Int) : Dr := { d with win := (Wn.ack d.win n).1, tries := if 0 < (Wn.ack d.win n).2 then 0 else d.tries }
def closes (d : Dr) : Dr × List UInt8 :=
  if d.phase = 3 then ({ d with phase := 4, step := 0 }, [])
  else if d.phase = 4 then (d, if d.step = 1 then ctrl 1 0 else [])
  else if d.phase = 5 then (d, [])
  else ({ d with phase := 4, step := 1 }, ctrl 1 0)
/-- A packet that is none of the opening's, nor a close. -/
def takes2 (d : Dr) (f : Gf.Fr) : Dr × List UInt8 × List UInt8 :=
  let d := if d.phase = 1 ∧ d.step = 2 then open_ d else d
  if d.phase = 3 then (d, ctrl 1 0, [])
  else if d.phase ≠ 2 then (d, [], [])
  else
    let d := acked d f.lo
    if f.ty = 0 then (if f.hi ≠ 2 ∨ d.wait % 2 = 1 then (d, [], []) else ({ d with wait := or1 d.wait }, all { d with wait := or1 d.wait }, []))
    else
      let k := Wn.ahead d.wants f.hi 8
      if k = 0 then
        let e : Dr := { d with wants := (d.wants + 1) % 8 }
        (e, ready e, f.data)
      else if k < d.room then (d, ctrl 2 (last d), []) else (d, ready d, [])
/-- A packet came. -/
def takes (d : Dr) (f : Gf.Fr) : Dr × List UInt8 × List UInt8 :=
  let d : Dr := { d with wait := or2 d.wait }
  if f.ty = 0 ∧ 5 ≤ f.hi then ((begins d (7 - f.hi) f.lo).1, (begins d (7 - f.hi) f.lo).2, [])
  else if f.ty = 0 ∧ f.hi = 1 then ((closes d).1, (closes d).2, [])
  else takes2 d f
/-- The packets that are found. -/
def feedN : Nat → Dr → List UInt8 → List UInt8 → Dr × List UInt8 × List UInt8
  | 0, d, out, came => (d, out, came)
  | f + 1, d, out, came =>
    let x := Gf.scan 0 d.buf
    if x.ok = true then
      let e : Dr := { d with took := d.took ++ [(d.at_ + x.a, d.at_ + x.b)], buf := d.buf.drop x.b, at_ := d.at_ + x.b }
      let r := takes e x.f
      feedN f r.1 (out ++ r.2.1) (came ++ r.2.2)
    else ({ d with buf := d.buf.drop x.a, at_ := d.at_ + x.a }, out, came)
def feed (d : Dr) (s : List UInt8) : Dr × List UInt8 × List UInt8 :=
  let r := feedN (d.buf.length + s.length + 1) { own d with buf := d.buf ++ s } [] []
  ((fill r.1).1, r.2.1 ++ (fill r.1).2, r.2.2)
def tick (d : Dr) : Dr × List UInt8 :=
  let d := own d
  let d : Dr := if 2 ≤ d.wait then { d with wait := 0 } else { d with at_ := d.at_ + d.buf.length, buf := [], wait := 0 }
  if d.phase = 1 ∨ d.phase = 3 then
    let d : Dr := { d with tries := d.tries + 1 }
    if 12 < d.tries then (if d.phase = 3 then ({ d with phase := 4, step := 0 }, []) else ({ d with phase := 5 }, []))
    else if d.phase = 3 then (d, ctrl 1 0) else (d, opening d d.step)
  else if d.phase = 2 then
    if d.win.l = [] then ({ d with step := -1 }, [])
    else if d.step ≠ d.win.bs then ({ d with step := d.win.bs }, [])
    else
      let d : Dr := { d with tries := d.tries + 1 }
      if 12 < d.tries then ({ d with phase := 5 }, []) else (d, all d)
  else (d, [])
def close (d : Dr) : Dr × List UInt8 := if d.phase ≠ 1 ∧ d.phase ≠ 2 then (own d, []) else ({ own d with phase := 3, tries := 0, step := 0 }, ctrl 1 0)
end Gp
end Go.Proofs.YtomldoijcclhhaaGreat

namespace Go.Proofs.YtomldoijcclhhaaGreat
theorem ret_bool {a b : Bool} (h : a = b) : Ending.returned (.bool a) = .returned (.bool b) := by rw [h]
theorem ret_s {a b : ByteArray} (h : a = b) : Ending.returned (.string a) = .returned (.string b) := by rw [h]
theorem ret_se {a b : ByteArray} {x y : Int} (h : a = b) (h2 : x = y) : Ending.returned (.tuple #[.string a, .int .i64 x]) = .returned (.tuple #[.string b, .int .i64 y]) := by rw [h, h2]
theorem tl_eq (s : ByteArray) : s.toList = s.data.toList := ByteArray.toList_eq s
end Go.Proofs.YtomldoijcclhhaaGreat

namespace Go.Proofs.YtomldoijcclhhaaGreat
namespace Rg
open Go.RowKit

theorem hid {p : Prop} (h : p) : Hid p := h
theorem al1 (w : World) (a : Obj) : Below w.heap.size w (w.alloc a) := (Below.refl _ _).alloc (Nat.le_refl _) _
theorem al2 (w : World) (a b : Obj) : Below w.heap.size w ((w.alloc a).alloc b) := (al1 w a).alloc (al1 w a).size _
theorem al3 (w : World) (a b c : Obj) : Below w.heap.size w (((w.alloc a).alloc b).alloc c) := (al2 w a b).alloc (al2 w a b).size _
theorem chain {a b c : World} (h : Below a.heap.size a b) (k : Below b.heap.size b c) : Below a.heap.size a c := h.trans (k.mono h.size)
theorem drewN {B : Nat} {w w' : World} (h : Below B w w') (q : Nat) : Below B w (w'.drewN q) := ⟨h.1, h.2, h.3, h.4, h.5⟩

/-- how an element lies in memory -/
structure El (α : Type) where
  enc : α → List Value
  m : Nat
  hm : ∀ x, (enc x).length = m
  pos : 0 < m
  one : ∀ x, ∀ u ∈ enc x, u.oneCell' = true
  ty : TypeId

section
variable {α : Type} (E : El α)
def El.flat (l : List α) : List Value := l.flatMap E.enc
theorem El.flat_nil : E.flat [] = [] := rfl
theorem El.flat_cons (x : α) (l : List α) : E.flat (x :: l) = E.enc x ++ E.flat l := by simp [El.flat]
theorem El.flat_append (a b : List α) : E.flat (a ++ b) = E.flat a ++ E.flat b := by simp [El.flat]
theorem El.flat_one (x : α) : E.flat [x] = E.enc x := by simp [El.flat]
theorem El.flat_length : ∀ l : List α, (E.flat l).length = l.length * E.m
  | [] => by simp [El.flat]
  | x :: l => by rw [El.flat_cons, List.length_append, El.flat_length l, E.hm, List.length_cons, Nat.add_mul]; omega
theorem El.flat_take (l : List α) (i : Nat) (hi : i ≤ l.length) : (E.flat (l.take i)).length = i * E.m := by
  rw [El.flat_length, List.length_take]; congr 1; omega
theorem El.flat_at {l : List α} {i : Nat} (hi : i < l.length) (rest : List Value) : E.flat l ++ rest = E.flat (l.take i) ++ (E.enc l[i] ++ (E.flat (l.drop (i + 1)) ++ rest)) := by
  conv => lhs; rw [← List.take_append_drop i l, List.drop_eq_getElem_cons hi, El.flat_append, El.flat_cons]
  simp [List.append_assoc]
/-- cells in a row -/
def At (W : World) (b o : Nat) (cs : List Value) : Prop := ∀ t u, cs[t]? = some u → W.cell? ⟨b, o + t, none⟩ = some u
theorem At.below {W W' : World} {b o B : Nat} {cs : List Value} (h : At W b o cs) (hb : Below B W W') (hlt : b < B) : At W' b o cs := fun t u ht => by
  rw [hb.cell (p := ⟨b, o + t, none⟩) hlt]; exact h t u ht
theorem At.same {W W' : World} {b o : Nat} {cs : List Value} (h : At W b o cs) (e : W'.heap[b]? = W.heap[b]?) : At W' b o cs := fun t u ht => by
  rw [World.cell?_of_block (a := ⟨b, o + t, none⟩) e]; exact h t u ht
theorem At.left {W : World} {b o : Nat} {x y : List Value} (h : At W b o (x ++ y)) : At W b o x := fun t u ht => by
  refine h t u ?_
  rw [List.getElem?_append_left]; (· exact ht)
  rcases Nat.lt_or_ge t x.length with c | c
  · exact c
  · rw [List.getElem?_eq_none c] at ht; cases ht
theorem At.right {W : World} {b o k : Nat} {x y : List Value} (h : At W b o (x ++ y)) (hk : x.length = k) : At W b (o + k) y := fun t u ht => by
  have := h (k + t) u (by rw [List.getElem?_append_right (by omega), hk, Nat.add_sub_cancel_left]; exact ht)
  rw [← Nat.add_assoc] at this; exact this
theorem At.add {W : World} {b o : Nat} {cs : List Value} (h : At W b o cs) : ∀ j u, cs[j]? = some u → W.cell? ((⟨b, o, none⟩ : Addr).add j) = some u := fun j u hj => by
  have := h j u hj; cases j <;> simpa [Addr.add] using this
theorem At.nil {W : World} {b o : Nat} : At W b o [] := fun t u ht => by simp at ht

/-- a row that is read -/
def El.Row (W : World) (a : Option Addr) (l : List α) : Prop := (a = none ∧ l = []) ∨ ∃ b o, a = some ⟨b, o, none⟩ ∧ b < W.heap.size ∧ At W b o (E.flat l)
theorem El.Row.nil {W : World} : E.Row W none [] := .inl ⟨rfl, rfl⟩
variable {E}
theorem El.Row.below {W W' : World} {a : Option Addr} {l : List α} (h : E.Row W a l) (hb : Below W.heap.size W W') : E.Row W' a l := by
  rcases h with h | ⟨b, o, h1, h2, h3⟩
  · exact .inl h
  · exact .inr ⟨b, o, h1, Nat.lt_of_lt_of_le h2 hb.size, h3.below hb h2⟩
theorem El.Row.drew {W : World} {a : Option Addr} {l : List α} (h : E.Row W a l) : E.Row W.drew a l := h
theorem El.Row.take {W : World} {a : Option Addr} {l : List α} (h : E.Row W a l) (n : Nat) : E.Row W a (l.take n) := by
  rcases h with ⟨h, rfl⟩ | ⟨b, o, h1, h2, h3⟩
  · exact .inl ⟨h, by simp⟩
  · refine .inr ⟨b, o, h1, h2, ?_⟩
    rw [← List.take_append_drop n l, El.flat_append] at h3
    exact h3.left
theorem El.Row.some {W : World} {b o : Nat} {l : List α} (h : E.Row W (some ⟨b, o, none⟩) l) : b < W.heap.size ∧ At W b o (E.flat l) := by
  rcases h with ⟨h, _⟩ | ⟨b', o', h1, h2, h3⟩
  · cases h
  · cases h1; exact ⟨h2, h3⟩
theorem At.elem {W : World} {b o : Nat} {l : List α} (h : At W b o (E.flat l)) {i : Nat} (hi : i < l.length) : At W b (o + i * E.m) (E.enc l[i]) := by
  have e := El.flat_at E hi []
  rw [List.append_nil] at e
  rw [e] at h
  exact (h.right (El.flat_take E l i (by omega))).left

/-- a row of one's own, from block 'base' on; the slice is this row, its capacity cap -/
structure El.Own (E : El α) (base : Nat) (W : World) (g cap : Nat) (l : List α) (rest : List Value) : Prop where
  blk : W.heap[g]? = some (.cells (E.flat l ++ rest).toArray E.ty (0, 0))
  new : base ≤ g
  le : l.length ≤ cap
  max : cap ≤ maxLen
  fit : cap * E.m ≤ (E.flat l ++ rest).length
theorem El.Own.lt {base g cap : Nat} {W : World} {l : List α} {rest : List Value} (h : E.Own base W g cap l rest) : g < W.heap.size := by
  rcases Nat.lt_or_ge g W.heap.size with h' | h'
  · exact h'
  · have := h.blk; rw [Array.getElem?_eq_none h'] at this; cases this
theorem El.Own.cell {base g cap : Nat} {W : World} {l : List α} {rest : List Value} (h : E.Own base W g cap l rest) (i : Nat) : W.cell? ⟨g, i, none⟩ = (E.flat l ++ rest)[i]? := by
  simp [World.cell?, h.blk]
theorem El.Own.thaw {base g cap : Nat} {W : World} {l : List α} {rest : List Value} (h : E.Own base W g cap l rest) (i : Nat) : W.frozen? ⟨g, i, none⟩ = false := by
  have := h.blk; unfold World.frozen?; simp [this]
theorem El.Own.row {base g cap : Nat} {W : World} {l : List α} {rest : List Value} (h : E.Own base W g cap l rest) : At W g 0 (E.flat l) := fun t u ht => by
  rw [h.cell, Nat.zero_add, List.getElem?_append_left]; (· exact ht)
  rcases Nat.lt_or_ge t (E.flat l).length with c | c
  · exact c
  · rw [List.getElem?_eq_none c] at ht; cases ht
theorem El.Own.same {base g cap : Nat} {W W' : World} {l : List α} {rest : List Value} (h : E.Own base W g cap l rest) (e : W'.heap[g]? = W.heap[g]?) : E.Own base W' g cap l rest :=
  ⟨by rw [e]; exact h.blk, h.new, h.le, h.max, h.fit⟩
theorem El.Own.below {base g cap : Nat} {W W' : World} {l : List α} {rest : List Value} (h : E.Own base W g cap l rest) (hb : Below W.heap.size W W') : E.Own base W' g cap l rest := h.same (hb.block g h.lt)
theorem El.Own.drew {base g cap : Nat} {W : World} {l : List α} {rest : List Value} (h : E.Own base W g cap l rest) : E.Own base W.drew g cap l rest := h.same rfl
/-- a shorter slice of it -/
theorem El.Own.cut {base g cap : Nat} {W : World} {l : List α} {rest : List Value} (h : E.Own base W g cap l rest) (n : Nat) (hn : n ≤ l.length) : E.Own base W g n (l.take n) (E.flat (l.drop n) ++ rest) := by
  have e : E.flat (l.take n) ++ (E.flat (l.drop n) ++ rest) = E.flat l ++ rest := by rw [← List.append_assoc, ← El.flat_append, List.take_append_drop]
  refine ⟨by rw [e]; exact h.blk, h.new, by simp; omega, Nat.le_trans (Nat.le_trans hn h.le) h.max, ?_⟩
  rw [e]
  exact Nat.le_trans (Nat.mul_le_mul_right _ (Nat.le_trans hn h.le)) h.fit
theorem El.Own.of {base n : Nat} {W : World} {v : Value} {l : List α} (h : W.ownsRow base E.ty E.m v n (E.flat l)) (hv : ¬ v = .slice none 0 0) (hn : n = l.length) : ∃ g cap rest, v = .slice (Option.some ⟨g, 0, none⟩) l.length cap ∧ E.Own base W g cap l rest := by
  subst hn
  rcases h.2 with ⟨e, _⟩ | ⟨g, cap, cur, hv', hg, hc, hle, hm, hs, ht⟩
  · exact absurd e hv
  · have e : E.flat l ++ cur.toList.drop (l.length * E.m) = cur.toList := by rw [← ht, List.take_append_drop]
    refine ⟨g, cap, cur.toList.drop (l.length * E.m), hv', ⟨by rw [e]; exact hc, hg, hle, hm, ?_⟩⟩
    rw [e, Array.length_toList, hs]; exact Nat.le_refl _

/-- one block alone has turned -/
structure Only (g : Nat) (W W' : World) : Prop where
  os : W'.os = W.os
  tape : W'.tape = W.tape
  output : W'.output = W.output
  size : W'.heap.size = W.heap.size
  block : ∀ k, k ≠ g → W'.heap[k]? = W.heap[k]?
theorem Only.refl (g : Nat) (W : World) : Only g W W := ⟨rfl, rfl, rfl, rfl, fun _ _ => rfl⟩
theorem Only.trans {g : Nat} {a b c : World} (h : Only g a b) (k : Only g b c) : Only g a c := ⟨k.os.trans h.os, k.tape.trans h.tape, k.output.trans h.output, k.size.trans h.size, fun i hi => (k.block i hi).trans (h.block i hi)⟩
theorem Only.setCell (W : World) (g i : Nat) (v : Value) : Only g W (W.setCell ⟨g, i, none⟩ v) := ⟨rfl, rfl, rfl, by simp [World.setCell], fun k hk => Below.heap_setCell _ _ _ _ hk⟩
theorem Only.setRow (W : World) (g : Nat) (cs : Array Value) : Only g W (W.setRow g cs) := ⟨rfl, rfl, rfl, by simp, fun k hk => setRow_other W g k cs hk⟩
theorem Only.drew (W : World) (g : Nat) : Only g W W.drew := ⟨rfl, rfl, rfl, rfl, fun _ _ => rfl⟩
theorem Only.bel {g B : Nat} {W W' : World} (h : Only g W W') (hB : B ≤ g) : Below B W W' := ⟨h.os, h.tape, h.output, Nat.le_of_eq h.size.symm, fun k hk => h.block k (by omega)⟩
theorem Only.cell {g : Nat} {W W' : World} (h : Only g W W') {b o : Nat} (hb : b ≠ g) : W'.cell? ⟨b, o, none⟩ = W.cell? ⟨b, o, none⟩ := World.cell?_of_block (a := ⟨b, o, none⟩) (h.block b hb)
variable {P : Program}
/-- append of one element to a row of one's own: in its place, or anew -/
theorem El.Own.append {base g cap : Nat} {W : World} {l : List α} {rest : List Value} (h : E.Own base W g cap l rest) (x : α) (t ty : TypeId) (i : TypeInfo) (z : Value) (bytes : Nat)
    (ht : P.underlying t = some (.slice E.ty)) (hi : P.info? E.ty = some i) (hz : i.zero = some z) (hsize : i.size = E.m) (hby : i.bytes = bytes) (hzs : z.cells.size = E.m)
    (a : Addr) (c : Nat) (hnews : ∀ j u, (E.enc x)[j]? = some u → W.cell? (a.add j) = some u) (hB : base ≤ W.heap.size) (hbig : (l.length + 1) * bytes ≤ 140737488355328) (hmax : l.length + 1 ≤ maxLen) :
    ∃ g' cap' rest' W', (Builtin.append_ #[t, t] ty #[.slice (Option.some ⟨g, 0, none⟩) l.length cap, .slice (Option.some a) 1 c]).run P W = .ok (.slice (Option.some ⟨g', 0, none⟩) (l.length + 1) cap') W' ∧
      E.Own base W' g' cap' (l ++ [x]) rest' ∧ At W' g 0 (E.flat l) ∧ Below base W W' ∧ (∀ k, k < W.heap.size → k ≠ g → W'.heap[k]? = W.heap[k]?) ∧ (g' = g ∨ W.heap.size ≤ g') := by
  have hnl : (E.enc x).length = 1 * E.m := by rw [E.hm, Nat.one_mul]
  have hlen : (E.flat l ++ E.enc x).length = (l.length + 1) * E.m := by rw [List.length_append, El.flat_length, E.hm, Nat.add_mul, Nat.one_mul]
  by_cases hr : l.length + 1 ≤ cap
  · have hf := h.fit
    have hfit : l.length * i.size + (E.enc x).length ≤ (E.flat l ++ rest).toArray.size := by
      rw [hsize, hnl, ← Nat.add_mul, List.size_toArray]
      exact Nat.le_trans (Nat.mul_le_mul_right _ hr) hf
    have hrun := run_append_room (P := P) W t ty E.ty i ht hi g l.length cap _ h.blk a 1 c (E.enc x) (by rw [hsize]; exact hnl) hnews (E.one x) hr hfit
    have hrl : E.m ≤ rest.length := by
      rw [List.size_toArray, List.length_append, El.flat_length, hsize, E.hm] at hfit; omega
    have e : ((E.flat l ++ rest).toArray.toList.take (l.length * i.size) ++ E.enc x ++ (E.flat l ++ rest).toArray.toList.drop (l.length * i.size + (E.enc x).length)) = E.flat (l ++ [x]) ++ rest.drop E.m := by
      rw [hsize, E.hm, ← El.flat_length E l, El.flat_append, El.flat_one]
      show (E.flat l ++ rest).take _ ++ _ ++ (E.flat l ++ rest).drop _ = _
      rw [List.take_left, ← List.drop_drop, List.drop_left]
    rw [e] at hrun
    refine ⟨g, cap, rest.drop E.m, _, hrun, ⟨setRow_heap W g _ _ _ _ h.blk, h.new, by simpa using hr, h.max, ?_⟩, ?_, (Only.setRow W g _).bel h.new, fun k _ hk => setRow_other W g k _ hk, .inl rfl⟩
    · have h2 := h.fit
      rw [List.length_append, El.flat_length] at h2
      rw [List.length_append, El.flat_length, List.length_drop, List.length_append, List.length_singleton, Nat.add_mul, Nat.one_mul]; omega
    · intro j u hj
      have hlt : j < (E.flat l).length := by
        rcases Nat.lt_or_ge j (E.flat l).length with c | c
        · exact c
        · rw [List.getElem?_eq_none c] at hj; cases hj
      rw [Nat.zero_add, cell_setRow_same W g j _ _ _ _ h.blk, El.flat_append, List.append_assoc]
      simp only [List.getElem?_toArray]
      rw [List.getElem?_append_left hlt]; exact hj
  · obtain ⟨v', W', hrun, hown, hgr⟩ := run_append_arg_grows (P := P) W t ty E.ty i z E.m bytes ht hi hz hsize hby hzs E.pos ⟨g, 0, none⟩ l.length cap (E.flat l) (El.flat_length E l) h.row.add a 1 c (E.enc x) hnl hnews (by omega) hmax hbig
    rw [show E.flat l ++ E.enc x = E.flat (l ++ [x]) by rw [El.flat_append, El.flat_one]] at hown
    have hv : ¬ v' = .slice none 0 0 := fun e => by
      subst e
      rcases hown.2 with ⟨_, e⟩ | ⟨_, _, _, e, _⟩
      · omega
      · cases e
    obtain ⟨g', cap', rest', rfl, ho⟩ := El.Own.of hown hv (by simp)
    rw [List.length_append, List.length_singleton] at hrun
    refine ⟨g', cap', rest', W', hrun, ⟨ho.blk, Nat.le_trans hB ho.new, ho.le, ho.max, ho.fit⟩, ?_, ⟨hgr.os, hgr.tape, hgr.output, hgr.size, fun k hk => hgr.block k (by omega) (by simp)⟩, fun k hk _ => hgr.block k hk (by simp), .inr ho.new⟩
    exact h.row.same (hgr.block g h.lt (by simp))
end

end Rg
end Go.Proofs.YtomldoijcclhhaaGreat

namespace Go.Proofs.YtomldoijcclhhaaGreat
namespace Rg
open Go.RowKit

def Bk (b : Nat) (C : List Value) (ty : TypeId) (W : World) : Prop := W.heap[b]? = some (.cells C.toArray ty (0, 0))
theorem Bk.same {b : Nat} {C : List Value} {ty : TypeId} {W W' : World} (h : Bk b C ty W) (e : W'.heap[b]? = W.heap[b]?) : Bk b C ty W' := by unfold Bk; rw [e]; exact h
theorem Bk.below {b B : Nat} {C : List Value} {ty : TypeId} {W W' : World} (h : Bk b C ty W) (hb : Below B W W') (hB : b < B) : Bk b C ty W' := h.same (hb.block b hB)
theorem Bk.lt {b : Nat} {C : List Value} {ty : TypeId} {W : World} (h : Bk b C ty W) : b < W.heap.size := by
  unfold Bk at h
  rcases Nat.lt_or_ge b W.heap.size with h' | h'
  · exact h'
  · rw [Array.getElem?_eq_none h'] at h; cases h
theorem Bk.cell {b : Nat} {C : List Value} {ty : TypeId} {W : World} (h : Bk b C ty W) (i : Nat) : W.cell? ⟨b, i, none⟩ = C[i]? := by unfold Bk at h; simp [World.cell?, h]
theorem Bk.thaw {b : Nat} {C : List Value} {ty : TypeId} {W : World} (h : Bk b C ty W) (i : Nat) : W.frozen? ⟨b, i, none⟩ = false := by unfold Bk at h; unfold World.frozen?; simp [h]
theorem Bk.set {b : Nat} {C : List Value} {ty : TypeId} {W : World} (h : Bk b C ty W) (i : Nat) (v : Value) : Bk b (C.set i v) ty (W.setCell ⟨b, i, none⟩ v) := by
  unfold Bk at *; rw [heap_setCell_same W b i _ _ v h]; simp
theorem Bk.other {b c i : Nat} {C : List Value} {ty : TypeId} {W : World} (h : Bk b C ty W) (hc : b ≠ c) (v : Value) : Bk b C ty (W.setCell ⟨c, i, none⟩ v) := h.same (Below.heap_setCell _ _ _ _ hc)
theorem Bk.drew {b : Nat} {C : List Value} {ty : TypeId} {W : World} (h : Bk b C ty W) : Bk b C ty W.drew := h
theorem Bk.new {b : Nat} {C : List Value} {ty : TypeId} {W : World} (hb : b = W.heap.size) : Bk b C ty (W.alloc (.cells C.toArray ty)) := by subst hb; exact heap_alloc_new W _
theorem Bk.old {b : Nat} {C : List Value} {ty : TypeId} {W : World} (h : Bk b C ty W) (o : Obj) : Bk b C ty (W.alloc o) := h.same (Below.heap_alloc W o b h.lt)
theorem El.Row.other {α : Type} {E : El α} {W : World} {g o c i : Nat} {l : List α} (h : E.Row W (Option.some ⟨g, o, none⟩) l) (hc : g ≠ c) (v : Value) : E.Row (W.setCell ⟨c, i, none⟩ v) (Option.some ⟨g, o, none⟩) l := by
  obtain ⟨h1, h2⟩ := h.some
  exact .inr ⟨g, o, rfl, by simpa [World.setCell] using h1, h2.same (Below.heap_setCell _ _ _ _ hc)⟩
/-- a row is not in a block that has none of its cells -/
theorem El.Row.only {α : Type} {E : El α} {W W' : World} {a : Option Addr} {l : List α} {R : Nat} {C : List Value} {ty : TypeId} (h : E.Row W a l) (k : Bk R C ty W) (t : Nat) (ht : t < E.m) (hC : ∀ x : α, ∀ u ∈ C, (E.enc x)[t]? ≠ Option.some u) (ho : Only R W W') : E.Row W' a l := by
  rcases h with h | ⟨b, o, rfl, hb, hat⟩
  · exact .inl h
  · refine .inr ⟨b, o, rfl, by rw [ho.size]; exact hb, ?_⟩
    by_cases e : b = R
    · subst e
      match l, hat with
      | [], _ => exact At.nil
      | x :: l, hat =>
        exfalso
        rw [El.flat_cons] at hat
        have hx : (E.enc x)[t]? = Option.some ((E.enc x)[t]'(by rw [E.hm]; exact ht)) := List.getElem?_eq_getElem _
        have := hat.left t _ hx
        rw [k.cell] at this
        exact hC x _ (List.mem_of_getElem? this) hx
    · exact hat.same (ho.block b e)
end Rg
end Go.Proofs.YtomldoijcclhhaaGreat

namespace Go.Proofs.YtomldoijcclhhaaGreat
open Go.RowKit
/-- a text's cell -/
def strE : Rg.El ByteArray := { enc := fun s => [.string s], m := 1, hm := fun _ => rfl, pos := by decide, one := fun x u hu => by simp at hu; subst hu; rfl, ty := 9 }
/-- nothing, or a row of texts that is read -/
def SRow (W : World) (a : Option Addr) (l : List ByteArray) : Prop := l = [] ∨ ∃ b o, a = some ⟨b, o, none⟩ ∧ b < W.heap.size ∧ Rg.At W b o (strE.flat l)
theorem SRow.nil {W : World} {a : Option Addr} : SRow W a [] := .inl rfl
theorem SRow.of {W : World} {a : Option Addr} {l : List ByteArray} (h : strE.Row W a l) : SRow W a l := by
  rcases h with ⟨_, h⟩ | h
  · exact .inl h
  · exact .inr h
theorem SRow.below {W W' : World} {a : Option Addr} {l : List ByteArray} (h : SRow W a l) (hb : Below W.heap.size W W') : SRow W' a l := by
  rcases h with h | ⟨b, o, h1, h2, h3⟩
  · exact .inl h
  · exact .inr ⟨b, o, h1, Nat.lt_of_lt_of_le h2 hb.size, h3.below hb h2⟩
theorem str_at {W : World} {b o : Nat} {l : List ByteArray} (h : Rg.At W b o (strE.flat l)) {i : Nat} (hi : i < l.length) : W.cell? ⟨b, o + i, none⟩ = some (.string l[i]) := by
  have e := (h.elem hi) 0 (.string l[i]) rfl
  rw [show strE.m = 1 from rfl, Nat.mul_one, Nat.add_zero] at e
  exact e
theorem SRow.cell {W : World} {a : Option Addr} {l : List ByteArray} (h : SRow W a l) {i : Nat} (hi : i < l.length) : ∃ b o, a = some ⟨b, o, none⟩ ∧ b < W.heap.size ∧ Rg.At W b o (strE.flat l) ∧ W.cell? ⟨b, o + i, none⟩ = some (.string l[i]) := by
  rcases h with rfl | ⟨b, o, rfl, hb, hat⟩
  · simp at hi
  · exact ⟨b, o, rfl, hb, hat, str_at hat hi⟩
/-- a window in memory: its list is a row, or nothing -/
structure WAt (W : World) (X : Wn.W) (a : Option Addr) (c : Nat) : Prop where
  row : SRow W a X.l
  cap : X.l.length ≤ c
theorem WAt.below {W W' : World} {X : Wn.W} {a : Option Addr} {c : Nat} (h : WAt W X a c) (hb : Below W.heap.size W W') : WAt W' X a c := ⟨h.row.below hb, h.cap⟩
/-- a row of texts stays where the cells of a window turn -/
theorem SRow.only {W W' : World} {a : Option Addr} {l : List ByteArray} {R : Nat} {m s b : Int} {v : Value} {ty : TypeId} (h : SRow W a l) (k : Rg.Bk R [.int .i64 m, .int .i64 s, .int .i64 b, v] ty W) (hv : ∀ x, v ≠ .string x) (ho : Rg.Only R W W') : SRow W' a l := by
  rcases h with h | h
  · exact .inl h
  · refine SRow.of (Rg.El.Row.only (E := strE) (.inr h) k 0 (by decide) ?_ ho)
    intro x u hu e
    have e2 : u = .string x := (Option.some.inj e).symm
    subst e2
    simp at hu
    exact hv x hu.symm
theorem WAt.only {W W' : World} {X : Wn.W} {a : Option Addr} {c : Nat} {R : Nat} {m s b : Int} {v : Value} {ty : TypeId} (h : WAt W X a c) (k : Rg.Bk R [.int .i64 m, .int .i64 s, .int .i64 b, v] ty W) (hv : ∀ x, v ≠ .string x) (ho : Rg.Only R W W') : WAt W' X a c := ⟨h.row.only k hv ho, h.cap⟩

end Go.Proofs.YtomldoijcclhhaaGreat
