/-
  Walks of layer 15: a drive in memory; its rows of pieces, packets and places. Walks of layer 15: an end on its way through a call, in memory: its drive, its rows, and its two builders. Walks of layer 15: a strings.Builder that is a field of an end: copyCheck, WriteString, Len, String. Walks of layer 15: what an end says: packets of control, of the opening, of a text.
-/
import Derived.Test.YtfiffbohhhehkaaGreatBuMath
import Derived.Test.YtfiffbohhhehkaaGreatBuWinA
import Derived.Test.YtfiffbohhhehkaaGreatBuBase
import Derived.Lib.OthersKept
import Derived.Lib.FrozenHead2
import Derived.Shelf.Strings.BuilderK
import Derived.WalkKit
import Derived.Deep.DeepCutAuto
import Derived.Deep.RegionHeld3
import Derived.Test.YtfiffbohhhehkaaGreatBsGw5
import Derived.Deep.QuietTactic
namespace Go.Proofs.YtfiffbohhhehkaaGreat
open Go.RowKit
/-- a piece's cells -/
def pcE : Rg.El Gp.Pc := { enc := fun p => [.int .i64 p.ch, .string p.data], m := 2, hm := fun _ => rfl, pos := by decide, one := fun x u hu => by simp at hu; rcases hu with rfl | rfl <;> rfl, ty := 44 }
/-- the cells of a packet of the protocol i -/
def fiE : Rg.El Gp.Fi := { enc := fun f => [.int .i64 f.kd, .int .i64 f.nm, .int .i64 f.ak, .int .i64 f.ch, .bool f.ca, .string f.data], m := 6, hm := fun _ => rfl, pos := by decide, one := fun x u hu => by simp at hu; rcases hu with rfl | rfl | rfl | rfl | rfl | rfl <;> rfl, ty := 72 }
/-- the cells of places -/
def spE : Rg.El (Int × Int) := { enc := fun p => [.int .i64 p.1, .int .i64 p.2], m := 2, hm := fun _ => rfl, pos := by decide, one := fun x u hu => by simp at hu; rcases hu with rfl | rfl <;> rfl, ty := 74 }
/-- nothing, or a row that is read -/
def ERow {α : Type} (E : Rg.El α) (W : World) (a : Option Addr) (l : List α) : Prop := l = [] ∨ ∃ b o, a = some ⟨b, o, none⟩ ∧ b < W.heap.size ∧ Rg.At W b o (E.flat l)
theorem ERow.nil {α : Type} {E : Rg.El α} {W : World} {a : Option Addr} : ERow E W a [] := .inl rfl
theorem ERow.of {α : Type} {E : Rg.El α} {W : World} {a : Option Addr} {l : List α} (h : E.Row W a l) : ERow E W a l := by
  rcases h with ⟨_, h⟩ | h
  · exact .inl h
  · exact .inr h
theorem ERow.below {α : Type} {E : Rg.El α} {W W' : World} {a : Option Addr} {l : List α} (h : ERow E W a l) (hb : Below W.heap.size W W') : ERow E W' a l := by
  rcases h with h | ⟨b, o, h1, h2, h3⟩
  · exact .inl h
  · exact .inr ⟨b, o, h1, Nat.lt_of_lt_of_le h2 hb.size, h3.below hb h2⟩
theorem ERow.cell {α : Type} {E : Rg.El α} {W : World} {a : Option Addr} {l : List α} (h : ERow E W a l) {i : Nat} (hi : i < l.length) : ∃ b o, a = some ⟨b, o, none⟩ ∧ b < W.heap.size ∧ Rg.At W b o (E.flat l) ∧ Rg.At W b (o + i * E.m) (E.enc l[i]) := by
  rcases h with rfl | ⟨b, o, rfl, hb, hat⟩
  · simp at hi
  · exact ⟨b, o, rfl, hb, hat, hat.elem hi⟩
theorem SRow.e {W : World} {a : Option Addr} {l : List ByteArray} (h : SRow W a l) : ERow strE W a l := h
theorem pc_at {W : World} {b o : Nat} {p : Gp.Pc} (h : Rg.At W b o (pcE.enc p)) : W.cell? ⟨b, o, none⟩ = some (.int .i64 p.ch) ∧ W.cell? ⟨b, o + 1, none⟩ = some (.string p.data) := ⟨h 0 _ rfl, h 1 _ rfl⟩
theorem sp_at {W : World} {b o : Nat} {p : Int × Int} (h : Rg.At W b o (spE.enc p)) : W.cell? ⟨b, o, none⟩ = some (.int .i64 p.1) ∧ W.cell? ⟨b, o + 1, none⟩ = some (.int .i64 p.2) := ⟨h 0 _ rfl, h 1 _ rfl⟩
theorem fi_at {W : World} {b o : Nat} {f : Gp.Fi} (h : Rg.At W b o (fiE.enc f)) : W.cell? ⟨b, o, none⟩ = some (.int .i64 f.kd) ∧ W.cell? ⟨b, o + 1, none⟩ = some (.int .i64 f.nm) ∧ W.cell? ⟨b, o + 2, none⟩ = some (.int .i64 f.ak) ∧ W.cell? ⟨b, o + 3, none⟩ = some (.int .i64 f.ch) ∧ W.cell? ⟨b, o + 4, none⟩ = some (.bool f.ca) ∧ W.cell? ⟨b, o + 5, none⟩ = some (.string f.data) := ⟨h 0 _ rfl, h 1 _ rfl, h 2 _ rfl, h 3 _ rfl, h 4 _ rfl, h 5 _ rfl⟩
/-- where a drive's lists lie -/
structure Pl where
  w : Option Addr
  wc : Nat
  a : Option Addr
  ac : Nat
  q : Option Addr
  qc : Nat
  t : Option Addr
  tc : Nat
/-- a drive's cells -/
def DC (d : Gp.Dr) (p : Pl) : List Value := [.int .i64 d.letter, .int .i64 d.phase, .bool d.caller, .int .i64 d.step, .int .i64 d.size, .int .i64 d.room, .int .i64 d.win.md, .int .i64 d.win.sz, .int .i64 d.win.bs, .slice p.w d.win.l.length p.wc, .int .i64 d.wants, .slice p.a d.ahead.length p.ac, .string ⟨d.buf.toArray⟩, .int .i64 d.at_, .slice p.q d.queue.length p.qc, .int .i64 d.wait, .int .i64 d.tries, .slice p.t d.took.length p.tc]
/-- a drive as a value: one row of cells, the window's among them -/
def DV (d : Gp.Dr) (p : Pl) : Value := .agg #[.int .i64 d.letter, .int .i64 d.phase, .bool d.caller, .int .i64 d.step, .int .i64 d.size, .int .i64 d.room, .int .i64 d.win.md, .int .i64 d.win.sz, .int .i64 d.win.bs, .slice p.w d.win.l.length p.wc, .int .i64 d.wants, .slice p.a d.ahead.length p.ac, .string ⟨d.buf.toArray⟩, .int .i64 d.at_, .slice p.q d.queue.length p.qc, .int .i64 d.wait, .int .i64 d.tries, .slice p.t d.took.length p.tc]
/-- a drive's lists are rows, or nothing -/
structure DAt (W : World) (d : Gp.Dr) (p : Pl) : Prop where
  win : SRow W p.w d.win.l
  ahead : ERow fiE W p.a d.ahead
  queue : ERow pcE W p.q d.queue
  took : ERow spE W p.t d.took
theorem DAt.below {W W' : World} {d : Gp.Dr} {p : Pl} (h : DAt W d p) (hb : Below W.heap.size W W') : DAt W' d p := ⟨h.win.below hb, h.ahead.below hb, h.queue.below hb, h.took.below hb⟩
end Go.Proofs.YtfiffbohhhehkaaGreat

namespace Go.Proofs.YtfiffbohhhehkaaGreat
open Go.RowKit
/-- a row that is old, or lies in no block that turns -/
def TRow (Kp : Nat → Prop) {α : Type} (E : Rg.El α) (base eb : Nat) (vs : List Value) (W : World) (a : Option Addr) (l : List α) : Prop := l = [] ∨ ∃ b o, a = some ⟨b, o, none⟩ ∧ b < W.heap.size ∧ Rg.At W b o (E.flat l) ∧ ((b < base ∧ Kp b) ∨ (eb < b ∧ ∀ v ∈ vs, v.ownBlock ≠ some b))
theorem TRow.nil {Kp : Nat → Prop} {α : Type} {E : Rg.El α} {base eb : Nat} {vs : List Value} {W : World} {a : Option Addr} : TRow Kp E base eb vs W a [] := .inl rfl
theorem TRow.e {Kp : Nat → Prop} {α : Type} {E : Rg.El α} {base eb : Nat} {vs : List Value} {W : World} {a : Option Addr} {l : List α} (h : TRow Kp E base eb vs W a l) : ERow E W a l := by
  rcases h with h | ⟨b, o, h1, h2, h3, _⟩
  · exact .inl h
  · exact .inr ⟨b, o, h1, h2, h3⟩
theorem TRow.kept {Kp : Nat → Prop} {α : Type} {E : Rg.El α} {base eb : Nat} {vs vs' : List Value} {W W' : World} {a : Option Addr} {l : List α} (h : TRow Kp E base eb vs W a l) (hb : Below base W W') (hk : ∀ k, k < W.heap.size → k ≠ eb → (∀ v ∈ vs, v.ownBlock ≠ some k) → W'.heap[k]? = W.heap[k]?)
    (hv : ∀ v' ∈ vs', ∀ g, v'.ownBlock = some g → (∃ v ∈ vs, v.ownBlock = some g) ∨ W.heap.size ≤ g) : TRow Kp E base eb vs' W' a l := by
  rcases h with h | ⟨b, o, h1, h2, h3, h4⟩
  · exact .inl h
  · refine .inr ⟨b, o, h1, Nat.lt_of_lt_of_le h2 hb.size, ?_, ?_⟩
    · rcases h4 with h4 | ⟨h4, h5⟩
      · exact h3.below hb h4.1
      · exact h3.same (hk b h2 (by omega) h5)
    · rcases h4 with h4 | ⟨h4, h5⟩
      · exact .inl h4
      · refine .inr ⟨h4, fun v hm hg => ?_⟩
        rcases hv v hm b hg with ⟨v2, m2, e2⟩ | hlt
        · exact h5 v2 m2 e2
        · omega
/-- what stays: all that was there before the call, and every block but the end's own and rows of bytes -/
structure Fr (base eb : Nat) (W W' : World) : Prop where
  bel : Below base W W'
  oth : Lib.OthersKept 5 (some eb) W W'
theorem Fr.refl (base eb : Nat) (W : World) : Fr base eb W W := ⟨Below.refl _ _, Lib.OthersKept.refl _ _ _⟩
theorem Fr.trans {base eb : Nat} {a b c : World} (h : Fr base eb a b) (k : Fr base eb b c) : Fr base eb a c := ⟨h.bel.trans k.bel, h.oth.trans k.oth⟩
theorem Fr.of {base eb : Nat} {W W' : World} (h : Below W.heap.size W W') (hB : base ≤ W.heap.size) : Fr base eb W W' :=
  ⟨h.mono hB, fun k o hk _ _ => by rw [h.block k (Array.getElem?_eq_some_iff.1 hk).1]; exact hk⟩
theorem Fr.set {base eb : Nat} {W : World} (hB : base ≤ eb) (k : Nat) (v : Value) : Fr base eb W (W.setCell ⟨eb, k, none⟩ v) :=
  ⟨(Below.refl _ _).setCell (p := ⟨eb, k, none⟩) hB _, (Lib.OthersKept.refl _ _ W).setCell ⟨eb, k, none⟩ rfl _⟩
theorem Fr.alloc {base eb : Nat} {W : World} (hB : base ≤ W.heap.size) (o : Obj) : Fr base eb W (W.alloc o) := Fr.of (Rg.al1 W o) hB
theorem Fr.drew {base eb : Nat} {W W' : World} (h : Fr base eb W W') : Fr base eb W W'.drew := ⟨h.bel.drew, h.oth.drew⟩
theorem Fr.bk {base eb b : Nat} {C : List Value} {T : TypeId} {W W' : World} (h : Fr base eb W W') (k : Rg.Bk b C T W) (hb : b ≠ eb) (h5 : T ≠ 5) : Rg.Bk b C T W' :=
  h.oth b _ k (fun e => hb (Option.some.inj e)) (fun c fz e => h5 (by injection e))
/-- the cells of the two builders -/
structure Bu where
  s : Value
  sb : Value
  c : Value
  cb : Value
/-- an end's cells -/
def EC (d : Gp.Dr) (p : Pl) (q : Bu) : List Value := [.int .i64 d.letter, .int .i64 d.phase, .bool d.caller, .int .i64 d.step, .int .i64 d.size, .int .i64 d.room, .int .i64 d.win.md, .int .i64 d.win.sz, .int .i64 d.win.bs, .slice p.w d.win.l.length p.wc, .int .i64 d.wants, .slice p.a d.ahead.length p.ac, .string ⟨d.buf.toArray⟩, .int .i64 d.at_, .slice p.q d.queue.length p.qc, .int .i64 d.wait, .int .i64 d.tries, .slice p.t d.took.length p.tc, q.s, q.sb, q.c, q.cb]
/-- a builder of the call's own, from block base on: its bytes; of none it has no row -/
structure BAt (base : Nat) (W : World) (v : Value) (S : List UInt8) : Prop where
  own : W.ownsRowF base 5 1 v S.length (Lib.byteCells S)
  nil : S = [] → v = .slice none 0 0
theorem BAt.start (base : Nat) (W : World) : BAt base W (.slice none 0 0) [] := ⟨World.ownsRowF_nil W base 5 1, fun _ => rfl⟩
theorem BAt.kept {base : Nat} {W W' : World} {v : Value} {S : List UInt8} (h : BAt base W v S) (hg : ∀ g, v.ownBlock = some g → W'.heap[g]? = W.heap[g]?) : BAt base W' v S := by
  refine ⟨⟨h.own.1, ?_⟩, h.nil⟩
  rcases h.own.2 with hn | ⟨g, cap, cur, fz, rfl, hb, hgg, rest⟩
  · exact .inl hn
  · exact .inr ⟨g, cap, cur, fz, rfl, hb, by rw [hg g rfl]; exact hgg, rest⟩
theorem BAt.ne {base b : Nat} {W : World} {v : Value} {S : List UInt8} {C : List Value} {T : TypeId} (h : BAt base W v S) (k : Rg.Bk b C T W) (hT : T ≠ 5) : v.ownBlock ≠ some b := Lib.ownBlock_neF h.own k hT
theorem BAt.below {base : Nat} {W W' : World} {v : Value} {S : List UInt8} (h : BAt base W v S) (hb : Below W.heap.size W W') : BAt base W' v S := h.kept fun g hg => hb.block g (h.own.lt g hg).2
theorem BAt.set {base b k : Nat} {W : World} {v : Value} {S : List UInt8} {C : List Value} {T : TypeId} (h : BAt base W v S) (kb : Rg.Bk b C T W) (hT : T ≠ 5) (x : Value) : BAt base (W.setCell ⟨b, k, none⟩ x) v S :=
  h.kept fun g hg => Below.heap_setCell _ _ _ _ (fun e => h.ne kb hT (by rw [hg, e]))
/-- an end in memory -/
structure EAt (Kp : Nat → Prop) (base : Nat) (W : World) (eb : Nat) (d : Gp.Dr) (p : Pl) (q : Bu) (S C : List UInt8) : Prop where
  bk : Rg.Bk eb (EC d p q) 66 W
  new : base ≤ eb
  win : TRow Kp strE base eb [q.sb, q.cb, .slice p.t d.took.length p.tc] W p.w d.win.l
  wcap : d.win.l.length ≤ p.wc
  ahead : TRow Kp fiE base eb [q.sb, q.cb, .slice p.t d.took.length p.tc] W p.a d.ahead
  queue : TRow Kp pcE base eb [q.sb, q.cb, .slice p.t d.took.length p.tc] W p.q d.queue
  took : W.ownsRow base 74 2 (.slice p.t d.took.length p.tc) d.took.length (spE.flat d.took)
  sa : q.s = .pointer none ∨ q.s = .pointer (some ⟨eb, 18, none⟩)
  said : BAt base W q.sb S
  ca : q.c = .pointer none ∨ q.c = .pointer (some ⟨eb, 20, none⟩)
  came : BAt base W q.cb C
  apart : ∀ g, q.sb.ownBlock = some g → q.cb.ownBlock ≠ some g
theorem EAt.lt {Kp : Nat → Prop} {base eb : Nat} {W : World} {d : Gp.Dr} {p : Pl} {q : Bu} {S C : List UInt8} (h : EAt Kp base W eb d p q S C) : base ≤ W.heap.size := Nat.le_of_lt (Nat.lt_of_le_of_lt h.new h.bk.lt)
theorem own_fr {base eb n : Nat} {T : TypeId} {v : Value} {xs C : List Value} {W W' : World} (h : W.ownsRow base 74 2 v n xs) (hf : Fr base eb W W') (k : Rg.Bk eb C T W) (hT : 74 ≠ T) : W'.ownsRow base 74 2 v n xs := by
  refine ⟨h.1, ?_⟩
  rcases h.2 with hn | ⟨g, cap, cur, rfl, hb, hgg, rest⟩
  · exact .inl hn
  · refine .inr ⟨g, cap, cur, rfl, hb, hf.oth g _ hgg (fun e => ?_) (fun c fz e => by cases e), rest⟩
    have e2 := Option.some.inj e
    subst e2
    unfold Rg.Bk at k
    rw [k] at hgg
    cases hgg
    exact hT rfl
theorem same_vs {vs : List Value} {n : Nat} : ∀ v' ∈ vs, ∀ g, v'.ownBlock = some g → (∃ v ∈ vs, v.ownBlock = some g) ∨ n ≤ g := fun v' hm _ hg => .inl ⟨v', hm, hg⟩
/-- what a call of another package leaves -/
theorem EAt.below {Kp : Nat → Prop} {base eb : Nat} {W W' : World} {d : Gp.Dr} {p : Pl} {q : Bu} {S C : List UInt8} (h : EAt Kp base W eb d p q S C) (hb : Below W.heap.size W W') : EAt Kp base W' eb d p q S C := by
  have hf : Fr base eb W W' := Fr.of hb h.lt
  have hk : ∀ k, k < W.heap.size → k ≠ eb → (∀ v ∈ [q.sb, q.cb, .slice p.t d.took.length p.tc], v.ownBlock ≠ some k) → W'.heap[k]? = W.heap[k]? := fun k hk _ _ => hb.block k hk
  exact ⟨h.bk.below hb h.bk.lt, h.new, h.win.kept hf.bel hk same_vs, h.wcap, h.ahead.kept hf.bel hk same_vs, h.queue.kept hf.bel hk same_vs, own_fr h.took hf h.bk (by decide), h.sa, h.said.below hb, h.ca, h.came.below hb, h.apart⟩
theorem EAt.drew {Kp : Nat → Prop} {base eb : Nat} {W : World} {d : Gp.Dr} {p : Pl} {q : Bu} {S C : List UInt8} (h : EAt Kp base W eb d p q S C) : EAt Kp base W.drew eb d p q S C := h.below (Below.drew (Below.refl _ _))
theorem EAt.alloc {Kp : Nat → Prop} {base eb : Nat} {W : World} {d : Gp.Dr} {p : Pl} {q : Bu} {S C : List UInt8} (h : EAt Kp base W eb d p q S C) (o : Obj) : EAt Kp base (W.alloc o) eb d p q S C := h.below (Rg.al1 W o)
/-- a row in a block that was not there -/
theorem EAt.row {Kp : Nat → Prop} {α : Type} {E : Rg.El α} {base eb : Nat} {W W' : World} {d : Gp.Dr} {p : Pl} {q : Bu} {S C : List UInt8} {a : Option Addr} {l : List α} (h : EAt Kp base W eb d p q S C) (hr : ERow E W' a l) (hn : ∀ b o, a = some ⟨b, o, none⟩ → W.heap.size ≤ b) : TRow Kp E base eb [q.sb, q.cb, .slice p.t d.took.length p.tc] W' a l := by
  rcases hr with hr | ⟨b, o, h1, h2, h3⟩
  · exact .inl hr
  · have hb := hn b o h1
    refine .inr ⟨b, o, h1, h2, h3, .inr ⟨Nat.lt_of_lt_of_le h.bk.lt hb, fun v hm hg => ?_⟩⟩
    simp only [List.mem_cons, List.not_mem_nil, or_false] at hm
    rcases hm with rfl | rfl | rfl
    · have := (h.said.own.lt b hg).2; omega
    · have := (h.came.own.lt b hg).2; omega
    · have := (h.took.lt b hg).2; omega
/-- one store into the end, whatever is told of it then -/
theorem EAt.put {Kp : Nat → Prop} {base eb : Nat} {W : World} {d : Gp.Dr} {p : Pl} {q : Bu} {S C : List UInt8} (h : EAt Kp base W eb d p q S C) (k : Nat) (v : Value) (d' : Gp.Dr) (p' : Pl) (hc : (EC d p q).set k v = EC d' p' q) (ht : d'.took = d.took) (hp : p'.t = p.t ∧ p'.tc = p.tc)
    (hw : TRow Kp strE base eb [q.sb, q.cb, .slice p.t d.took.length p.tc] W p'.w d'.win.l) (hwc : d'.win.l.length ≤ p'.wc) (ha : TRow Kp fiE base eb [q.sb, q.cb, .slice p.t d.took.length p.tc] W p'.a d'.ahead) (hq : TRow Kp pcE base eb [q.sb, q.cb, .slice p.t d.took.length p.tc] W p'.q d'.queue) :
    EAt Kp base (W.setCell ⟨eb, k, none⟩ v) eb d' p' q S C := by
  have hf : Fr base eb W (W.setCell ⟨eb, k, none⟩ v) := Fr.set h.new k v
  have hk := h.bk.set k v
  rw [hc] at hk
  have hkk : ∀ g, g < W.heap.size → g ≠ eb → (∀ v ∈ [q.sb, q.cb, .slice p.t d.took.length p.tc], v.ownBlock ≠ some g) → (W.setCell ⟨eb, k, none⟩ v).heap[g]? = W.heap[g]? := fun g _ hg _ => Below.heap_setCell _ _ _ _ hg
  have e : (Value.slice p'.t d'.took.length p'.tc) = .slice p.t d.took.length p.tc := by rw [hp.1, hp.2, ht]
  refine ⟨hk, h.new, ?_, hwc, ?_, ?_, ?_, h.sa, h.said.set h.bk (by decide) v, h.ca, h.came.set h.bk (by decide) v, h.apart⟩
  · rw [e]; exact hw.kept hf.bel hkk same_vs
  · rw [e]; exact ha.kept hf.bel hkk same_vs
  · rw [e]; exact hq.kept hf.bel hkk same_vs
  · rw [e, ht]; exact own_fr h.took hf h.bk (by decide)
/-- a store into a field that is no list -/
theorem EAt.upd {Kp : Nat → Prop} {base eb : Nat} {W : World} {d : Gp.Dr} {p : Pl} {q : Bu} {S C : List UInt8} (h : EAt Kp base W eb d p q S C) (k : Nat) (v : Value) (d' : Gp.Dr) (hc : (EC d p q).set k v = EC d' p q) (hw : d'.win.l = d.win.l) (ha : d'.ahead = d.ahead) (hq : d'.queue = d.queue) (ht : d'.took = d.took) :
    EAt Kp base (W.setCell ⟨eb, k, none⟩ v) eb d' p q S C :=
  h.put k v d' p hc ht ⟨rfl, rfl⟩ (by rw [hw]; exact h.win) (by rw [hw]; exact h.wcap) (by rw [ha]; exact h.ahead) (by rw [hq]; exact h.queue)
/-- an end, wherever its rows lie -/
def ES (Kp : Nat → Prop) (base : Nat) (W : World) (eb : Nat) (d : Gp.Dr) (S C : List UInt8) : Prop := ∃ p q, EAt Kp base W eb d p q S C
theorem ES.below {Kp : Nat → Prop} {base eb : Nat} {W W' : World} {d : Gp.Dr} {S C : List UInt8} (h : ES Kp base W eb d S C) (hb : Below W.heap.size W W') : ES Kp base W' eb d S C := by
  obtain ⟨p, q, h⟩ := h
  exact ⟨p, q, h.below hb⟩
end Go.Proofs.YtfiffbohhhehkaaGreat

namespace Go.Proofs.YtfiffbohhhehkaaGreat
open Go.RowKit
namespace Be
theorem sizeB : (Tryz.prog.info? 64).map (·.size) = some 2 := by kernel_rfl
theorem lies18 : liesAt Tryz.prog Tryz.prog.depth 66 (22 / Tryz.prog.cellsOf 66) 18 64 1 = true := by kernel_rfl
theorem lies20 : liesAt Tryz.prog Tryz.prog.depth 66 (22 / Tryz.prog.cellsOf 66) 20 64 1 = true := by kernel_rfl
theorem infoByte : (Tryz.prog.info? 5).map (fun i => (i.zero, i.size, i.bytes)) = some (some (.int .u8 0), 1, 1) := by kernel_rfl
theorem cellsByte : Tryz.prog.cellsOf 5 = 1 := by kernel_rfl

set_option maxHeartbeats 1000000 in
set_option maxRecDepth 100000 in
theorem check_used (b o : Nat) (w : World) (h0 : w.cell? ⟨b, o, none⟩ = some (.pointer (some ⟨b, o, none⟩))) :
    Calls Tryz.prog 120 #[.pointer (some ⟨b, o, none⟩)] w fun e w' => e = .returned (.tuple #[]) ∧ w' = w := by
  obtain ⟨j, hj, _⟩ := Option.map_eq_some_iff.1 sizeB
  go_enter Tryz.func120, Tryz.ntmps120
  go_wp2
  rw [Lib.run_neq_ptr_same w _ Tryz.underlying61 hj]
  go_wp2
  go_end0
  exact ⟨rfl, rfl⟩

set_option maxHeartbeats 1000000 in
set_option maxRecDepth 100000 in
theorem check_fresh (b o : Nat) (w : World) (h0 : w.cell? ⟨b, o, none⟩ = some (.pointer none)) (hsh : w.shape? b = some (66, 22)) (ho : o < 22) (hl : liesAt Tryz.prog Tryz.prog.depth 66 (22 / Tryz.prog.cellsOf 66) o 64 1 = true) (hfz : w.frozen? ⟨b, o, none⟩ = false) :
    Calls Tryz.prog 120 #[.pointer (some ⟨b, o, none⟩)] w fun e w' => e = .returned (.tuple #[]) ∧ w' = w.setCell ⟨b, o, none⟩ (.pointer (some ⟨b, o, none⟩)) := by
  obtain ⟨j, hj, hjs⟩ := Option.map_eq_some_iff.1 sizeB
  go_enter Tryz.func120, Tryz.ntmps120
  go_wp2
  rw [Lib.run_to_unsafe w ⟨b, o, none⟩ Tryz.underlying61 Tryz.underlying144 hj (by rw [hjs]; decide) hsh ho]
  simp only [Result.andThen]
  rw [Oper.upon_value]
  go_wp2
  rw [run_callFunc_extern Tryz.func133 (by kernel_rfl) (by kernel_rfl) (by kernel_rfl) (e := Extern.AbiNoEscape.same) (by kernel_rfl)]
  rw [Lib.run_noEscape]
  simp only [Result.andThen]
  rw [Oper.upon_value]
  go_wp2
  rw [Lib.run_from_unsafe w ⟨b, o, none⟩ Tryz.underlying144 Tryz.underlying61 hj hsh hl]
  simp only [Result.andThen]
  rw [Oper.upon_value]
  go_wp2
  go_end0
  exact ⟨rfl, rfl⟩

theorem check (b o : Nat) (C : List Value) (w : World) (hk : Rg.Bk b C 66 w) (hC : C.length = 22) (ho : o = 18 ∨ o = 20) (h0 : C[o]? = some (.pointer none) ∨ C[o]? = some (.pointer (some ⟨b, o, none⟩))) :
    Calls Tryz.prog 120 #[.pointer (some ⟨b, o, none⟩)] w fun e w' => e = .returned (.tuple #[]) ∧ Rg.Bk b (C.set o (.pointer (some ⟨b, o, none⟩))) 66 w' ∧ Rg.Only b w w' := by
  rcases h0 with h0 | h0
  · refine (check_fresh b o w (by rw [hk.cell]; exact h0) (by unfold Rg.Bk at hk; simp [World.shape?, hk, hC]) (by omega) (by rcases ho with rfl | rfl; exact lies18; exact lies20) (hk.thaw o)).mono ?_
    rintro e w' ⟨rfl, rfl⟩
    exact ⟨rfl, hk.set o _, Rg.Only.setCell w b o _⟩
  · refine (check_used b o w (by rw [hk.cell]; exact h0)).mono ?_
    rintro e w' ⟨rfl, rfl⟩
    refine ⟨rfl, ?_, Rg.Only.refl _ _⟩
    have hlt : o < C.length := by omega
    rw [List.getElem?_eq_getElem hlt] at h0
    have e := Option.some.inj h0
    rw [← e, List.set_getElem_self]
    exact hk
/-- where the bytes lie behind an append: where they lay, or in a new block -/
theorem block_or {P : Program} (w : World) (base : Nat) (t u ty e : TypeId) (i : TypeInfo) (ht : P.underlying t = some (.slice e)) (hu : P.underlying u = some .string) (hi : P.info? e = some i) (hz : i.zero = some (.int .u8 0)) (hsize : i.size = 1) (hby : i.bytes = 1)
    (v : Value) (n : Nat) (xs : List Value) (hown : w.ownsRowF base e 1 v n xs) (s : ByteArray) (h63 : n + s.size ≤ maxLen) (hbytes : n + s.size ≤ 140737488355328) (hbase : base ≤ w.heap.size) :
    ∃ v' w', (Builtin.append_ #[t, u] ty #[v, .string s]).run P w = .ok v' w' ∧ w'.ownsRowF base e 1 v' (n + s.size) (xs ++ Lib.strCells s) ∧ w.grownBy w' v.ownBlock ∧ (v' = .slice none 0 0 ↔ v = .slice none 0 0 ∧ s.size = 0) ∧ (∀ g, v'.ownBlock = some g → v.ownBlock = some g ∨ w.heap.size ≤ g) := by
  obtain ⟨v', w', h1, h2, h3, h4⟩ := Lib.run_append_own_stringF (P := P) w base t u ty e i ht hu hi hz hsize hby v n xs hown s h63 hbytes hbase
  refine ⟨v', w', h1, h2, h3, h4, ?_⟩
  rcases hown.2 with ⟨rfl, rfl⟩ | ⟨g, cap, cur, fz, rfl, hbg, hg, hfz, hnc, hcm, hcs, htake⟩
  · obtain ⟨v2, w2, g1, g2, _⟩ := Lib.run_append_own_stringF (P := P) w w.heap.size t u ty e i ht hu hi hz hsize hby (.slice none 0 0) 0 xs ⟨hown.1, .inl ⟨rfl, rfl⟩⟩ s h63 hbytes (Nat.le_refl _)
    rw [h1] at g1
    cases g1
    exact fun g hg => .inr (g2.lt g hg).1
  · by_cases hroom : n + s.size ≤ cap
    · have hcs' : cur.size = cap := by simpa using hcs
      have hr := Lib.run_append_room_stringF (P := P) w t u ty e i ht hu hi hsize g n cap cur fz hg (by simpa using hfz) s hroom (by omega)
      rw [h1] at hr
      cases hr
      exact fun k hk => .inl hk
    · have hxl : xs.length = n := by simpa using hown.1
      have hr := Lib.run_append_grow_string (P := P) w t u ty e i (.int .u8 0) ht hu hi hz ⟨g, 0, none⟩ n cap xs (by rw [hsize]; simpa using hxl) (hown.cells (g := g) rfl) s (by omega) (by unfold maxLen at h63; omega) (by rw [hby]; exact growslice_fits (by omega) (by unfold maxLen at h63; omega))
      rw [h1] at hr
      cases hr
      intro k hk
      simp [Value.ownBlock] at hk
      exact .inr (by omega)
theorem wpList_append_str {P : Program} {w : World} {ops : Array Oper} {rest : List Oper} {o : Oper} {a : Act} {Q : Exit → Act → World → Prop} (hw : Region.wanted o (yielded ops a.tmps) = true) (s x : Operand) (t u : TypeId)
    (ho : o.op = .call { callee := .builtin .append, args := #[s, x], argTypes := #[t, u] }) (v y : Value) (hs : a.eval s = v) (hx : a.eval x = y) (v' : Value) (w' : World)
    (hrun : (Builtin.append_ #[t, u] o.type #[v, y]).run P w = .ok v' w') (h : wpList P ops Q rest (a.put o.dst v') w') : wpList P ops Q (o :: rest) a w := by
  refine wpList_step fun K hK => ?_
  rw [if_pos hw]
  unfold Oper.wp
  simp [execOp, ho, resolve, invoke, builtin, hs, hx, hrun, Result.andThen]
  exact hK _ _ h
/-- what WriteString leaves -/
structure Wrote (base b o : Nat) (C : List Value) (v : Value) (S : List UInt8) (s : ByteArray) (w w' : World) (v' : Value) : Prop where
  bk : Rg.Bk b ((C.set o (.pointer (some ⟨b, o, none⟩))).set (o + 1) v') 66 w'
  bat : BAt base w' v' (S ++ s.data.toList)
  bel : Below base w w'
  size : w.heap.size ≤ w'.heap.size
  blk : ∀ k, k < w.heap.size → k ≠ b → v.ownBlock ≠ some k → w'.heap[k]? = w.heap[k]?
  own : ∀ g, v'.ownBlock = some g → v.ownBlock = some g ∨ w.heap.size ≤ g
theorem join (S : List UInt8) (s : ByteArray) : Lib.byteCells S ++ Lib.strCells s = Lib.byteCells (S ++ s.data.toList) := by simp [Lib.byteCells, Lib.strCells]
set_option maxHeartbeats 2000000 in
set_option maxRecDepth 100000 in
theorem write_go (base b o o1 : Nat) (C : List Value) (v : Value) (S : List UInt8) (s : ByteArray) (w : World) (ho1 : o + 1 = o1) (hB : base ≤ b) (hsv : ∃ a n c, v = .slice a n c)
    (HC : Hid (Calls Tryz.prog 120 #[.pointer (some ⟨b, o, none⟩)] w fun e w' => e = .returned (.tuple #[]) ∧ Rg.Bk b (C.set o (.pointer (some ⟨b, o, none⟩))) 66 w' ∧ Rg.Only b w w'))
    (hc1 : (C.set o (.pointer (some ⟨b, o, none⟩)))[o1]? = some v) (hbt : BAt base w v S) (hlen : S.length + s.size ≤ 140737488355328) (hk0 : Rg.Bk b C 66 w) :
    Calls Tryz.prog 97 #[.pointer (some ⟨b, o, none⟩), .string s] w fun e w' => e = .returned (.tuple #[.int .i64 s.size, .nilIface]) ∧ ∃ v', Wrote base b o C v S s w w' v' := by
  obtain ⟨i0, hi, hz0, hz1, hz2⟩ := info_parts infoByte
  have hlt0 := hk0.lt
  have hne := hbt.ne hk0 (by decide)
  clear hk0
  go_enter Tryz.func97, Tryz.ntmps97
  go_upto_region 2 with (go_at_call 120; refine HC.out.mono ?_; rintro e w1 ⟨rfl, hk1, ho⟩)
  have c1 : w1.cell? ⟨b, o1, none⟩ = some v := by rw [hk1.cell]; exact hc1
  have c2 : w1.cell? ⟨b, o + 1, none⟩ = some v := by rw [ho1]; exact c1
  have hbt1 : BAt base w1 v S := hbt.kept fun g hg => ho.block g (fun e => hne (by rw [hg, e]))
  obtain ⟨v', w2, r1, r2, r3, r4, r5⟩ := block_or (P := Tryz.prog) w1 base 62 9 62 5 i0 Tryz.underlying62 Tryz.underlying9 hi hz0 hz1 hz2 v S.length (Lib.byteCells S) hbt1.own s (by unfold maxLen; omega) hlen (by rw [ho.size]; omega)
  have hk2 : Rg.Bk b (C.set o (.pointer (some ⟨b, o, none⟩))) 66 w2 := hk1.same (r3.block b (by rw [ho.size]; exact hlt0) (fun e => hne e.symm))
  have f1 : w2.frozen? ⟨b, o1, none⟩ = false := hk2.thaw o1
  have f2 : w2.frozen? ⟨b, o + 1, none⟩ = false := by rw [ho1]; exact f1
  have d1 : w2.cell? ⟨b, o1, none⟩ = some v := by rw [hk2.cell]; exact hc1
  have d2 : w2.cell? ⟨b, o + 1, none⟩ = some v := by rw [ho1]; exact d1
  obtain ⟨ao, n', cap, rfl⟩ : ∃ ao n' cap, v' = .slice ao n' cap := by
    rcases r2.2 with ⟨hv, _⟩ | ⟨g, cap, cur, fz, hv, _⟩
    · exact ⟨_, _, _, hv⟩
    · exact ⟨_, _, _, hv⟩
  obtain ⟨va, vn, vc, rfl⟩ := hsv
  have hfin : ∃ v', Wrote base b o C (.slice va vn vc) S s w (w2.setCell ⟨b, o + 1, none⟩ (.slice ao n' cap)) v' := by
    have hbt2 : BAt base w2 (.slice ao n' cap) (S ++ s.data.toList) := by
      refine ⟨?_, ?_⟩
      · rw [List.length_append, show s.data.toList.length = s.size from rfl, ← join]; exact r2
      · intro e
        have he := List.append_eq_nil_iff.1 e
        refine r4.2 ⟨hbt.nil he.1, ?_⟩
        show s.data.size = 0
        rw [← Array.length_toList, he.2]; rfl
    have hs : Below base w w2 := (ho.bel hB).trans ⟨r3.os, r3.tape, r3.output, r3.size, fun k hk => r3.block k (by rw [ho.size]; omega) (fun e => by have := (hbt1.own.lt k e.symm).1; omega)⟩
    refine ⟨.slice ao n' cap, hk2.set (o + 1) _, hbt2.set hk2 (by decide) _, hs.setCell (p := ⟨b, o + 1, none⟩) hB _, ?_, ?_, ?_⟩
    · rw [← ho.size]; simpa [World.setCell] using r3.size
    · intro k hk hkb hkv
      rw [Below.heap_setCell _ _ _ _ hkb, r3.block k (by rw [ho.size]; exact hk) (fun e => hkv e.symm), ho.block k hkb]
    · intro g hg
      have := r5 g hg
      rw [ho.size] at this
      exact this
  rw [ho1] at hfin
  clear r2 r3 r4 r5 hbt hbt1 hk1 hk2 hc1 hz0 hz1 hz2 hi hne ho
  go_wp2_with (at_builtin; refine wpList_append_str rfl _ _ _ _ rfl _ _ rfl rfl _ _ r1 ?_)
  go_ret2
  exact ⟨rfl, hfin⟩
theorem slice_of {base : Nat} {W : World} {v : Value} {S : List UInt8} (h : BAt base W v S) : ∃ a n c, v = .slice a n c := by
  rcases h.own.2 with ⟨hv, _⟩ | ⟨g, cap, cur, fz, hv, _⟩
  · exact ⟨_, _, _, hv⟩
  · exact ⟨_, _, _, hv⟩
theorem write (base b o : Nat) (C : List Value) (v : Value) (S : List UInt8) (s : ByteArray) (w : World) (hB : base ≤ b) (hk : Rg.Bk b C 66 w) (hC : C.length = 22) (ho : o = 18 ∨ o = 20) (h0 : C[o]? = some (.pointer none) ∨ C[o]? = some (.pointer (some ⟨b, o, none⟩))) (h1 : C[o + 1]? = some v) (hbt : BAt base w v S) (hlen : S.length + s.size ≤ 140737488355328) :
    Calls Tryz.prog 97 #[.pointer (some ⟨b, o, none⟩), .string s] w fun e w' => e = .returned (.tuple #[.int .i64 s.size, .nilIface]) ∧ ∃ v', Wrote base b o C v S s w w' v' :=
  write_go base b o (o + 1) C v S s w rfl hB (slice_of hbt) (check b o C w hk hC ho h0) (by rw [List.getElem?_set_ne (by omega)]; exact h1) hbt hlen hk
set_option maxHeartbeats 1000000 in
set_option maxRecDepth 100000 in
theorem len_go (b o : Nat) (a : Option Addr) (n c : Nat) (w : World) (h1 : w.cell? ⟨b, o + 1, none⟩ = some (.slice a n c)) :
    Calls Tryz.prog 34 #[.pointer (some ⟨b, o, none⟩)] w fun e w' => e = .returned (.int .i64 n) ∧ w' = w := by
  go_enter Tryz.func34, Tryz.ntmps34
  go_wp2
  go_ret
  exact ⟨rfl, rfl⟩
theorem len_pos {l : List UInt8} {cap : Nat} (h0 : l ≠ []) (hc : l.length ≤ cap) : cap ≠ 0 := by
  have : l.length ≠ 0 := by simpa using h0
  omega
/-- what String leaves -/
structure Read (base : Nat) (v : Value) (w w' : World) : Prop where
  bel : Below base w w'
  blk : ∀ k, k < w.heap.size → v.ownBlock ≠ some k → w'.heap[k]? = w.heap[k]?
set_option maxHeartbeats 1000000 in
set_option maxRecDepth 100000 in
theorem str_some (base b o g cap : Nat) (l : List UInt8) (w : World) (h0 : l ≠ []) (h1d : w.drew.cell? ⟨b, o + 1, none⟩ = some (.slice (some ⟨g, 0, none⟩) l.length cap)) (hbg : base ≤ g) (hcap : l.length ≤ cap)
    (hUS : (Builtin.unsafeString_ #[92, 3] 9 #[.pointer (some ⟨g, 0, none⟩), .int .i64 l.length]).run Tryz.prog w.drew = .ok (.string ⟨l.toArray⟩) (w.drew.freeze ⟨g, 0, none⟩ l.length)) :
    Calls Tryz.prog 27 #[.pointer (some ⟨b, o, none⟩)] w fun e w' => e = .returned (.string ⟨l.toArray⟩) ∧ Read base (.slice (some ⟨g, 0, none⟩) l.length cap) w w' := by
  have hSD : (Builtin.unsafeSliceData_ #[62] 92 #[.slice (some ⟨g, 0, none⟩) l.length cap]).run Tryz.prog w.drew = .ok (.pointer (some ⟨g, 0, none⟩)) w.drew :=
    Lib.run_unsafeSliceData_row _ _ _ _ _ _ (len_pos h0 hcap)
  have mixed : Tryz.prog.follows .mixedOrders = true := by kernel_rfl
  have hfin : Read base (.slice (some ⟨g, 0, none⟩) l.length cap) w (w.drew.freeze ⟨g, 0, none⟩ l.length) := by
    refine ⟨Lib.below_freeze (Below.drew (Below.refl base w)) (p := ⟨g, 0, none⟩) hbg _, fun k hk hne => ?_⟩
    unfold World.freeze
    split
    · rfl
    · simp only [Array.getElem?_modify]
      rw [if_neg (fun e => hne (by simp [Value.ownBlock, e]))]
      rfl
  go_enter Tryz.func27, Tryz.ntmps27
  go_wp2
  go_region_o
  all_goals (go_wp2; go_ret; exact ⟨rfl, hfin⟩)
set_option maxHeartbeats 1000000 in
set_option maxRecDepth 100000 in
theorem str_none (base b o : Nat) (w : World) (h1d : w.drew.cell? ⟨b, o + 1, none⟩ = some (.slice none 0 0)) :
    Calls Tryz.prog 27 #[.pointer (some ⟨b, o, none⟩)] w fun e w' => e = .returned (.string ⟨#[]⟩) ∧ Read base (.slice none 0 0) w w' := by
  have hSD : (Builtin.unsafeSliceData_ #[62] 92 #[.slice none 0 0]).run Tryz.prog w.drew = .ok (.pointer none) w.drew := rfl
  have hUS : ∀ W, (Builtin.unsafeString_ #[92, 3] 9 #[.pointer none, .int .i64 0]).run Tryz.prog W = .ok (.string .empty) W := fun W => Lib.run_unsafeString_none W _ _ _ none
  have mixed : Tryz.prog.follows .mixedOrders = true := by kernel_rfl
  go_enter Tryz.func27, Tryz.ntmps27
  go_wp2
  go_region_o
  all_goals (go_wp2; go_ret; exact ⟨rfl, ⟨Below.drew (Below.refl base w), fun _ _ _ => rfl⟩⟩)
theorem str (base b o : Nat) (v : Value) (S : List UInt8) (w : World) (h1 : w.cell? ⟨b, o + 1, none⟩ = some v) (hbt : BAt base w v S) :
    Calls Tryz.prog 27 #[.pointer (some ⟨b, o, none⟩)] w fun e w' => e = .returned (.string ⟨S.toArray⟩) ∧ Read base v w w' := by
  by_cases h0 : S = []
  · subst h0
    obtain rfl := hbt.nil rfl
    exact str_none base b o w h1
  · have hown := hbt.own
    have hl0 : S.length ≠ 0 := by simpa using h0
    obtain ⟨g, cap, cur, fz, rfl, hbg, hg, hfz, hnc, hcm, hcs, htake⟩ : ∃ g cap cur fz, v = .slice (some ⟨g, 0, none⟩) S.length cap ∧ base ≤ g ∧ w.heap[g]? = some (.cells cur 5 fz) ∧ fz.2 ≤ S.length * 1 ∧ S.length ≤ cap ∧ cap ≤ maxLen ∧ cur.size = cap * 1 ∧ cur.toList.take (S.length * 1) = Lib.byteCells S := by
      rcases hown.2 with ⟨_, hz⟩ | ⟨g, cap, cur, fz, hv, r⟩
      · exact absurd hz hl0
      · exact ⟨g, cap, cur, fz, hv, r⟩
    refine str_some base b o g cap S w h0 h1 hbg hnc ?_
    refine Lib.run_unsafeString_row w.drew 92 3 9 5 Tryz.underlying92 cellsByte g cur.size (by have hg' : w.drew.heap[g]? = some (.cells cur 5 fz) := hg; simp [World.shape?, hg']) S h0 (by omega) (by unfold maxLen at hcm; omega) ?_
    intro j x hx
    exact hown.cells (g := g) rfl j (.int .u8 x.toNat) (by simp [Lib.byteCells, hx])
end Be
/-- what a builder's WriteString leaves of an end -/
theorem Be.Wrote.fr {base b o : Nat} {C : List Value} {v v' : Value} {S : List UInt8} {s : ByteArray} {w w' : World} (h : Be.Wrote base b o C v S s w w' v') (hbt : BAt base w v S) : Fr base b w w' := by
  refine ⟨h.bel, fun k ob hk hb ho => ?_⟩
  rw [h.blk k (Array.getElem?_eq_some_iff.1 hk).1 (fun e => hb (by rw [e])) (fun e => ?_)]
  · exact hk
  · obtain ⟨c, fz, hc⟩ := Lib.ownsRowF_kind hbt.own k e
    rw [hk] at hc
    exact ho c fz (Option.some.inj hc)
theorem EAt.sayP {Kp : Nat → Prop} {base eb : Nat} {W : World} {d : Gp.Dr} {p : Pl} {q : Bu} {S C : List UInt8} (h : EAt Kp base W eb d p q S C) (s : ByteArray) (hlen : S.length + s.size ≤ 140737488355328) :
    Calls Tryz.prog 97 #[.pointer (some ⟨eb, 18, none⟩), .string s] W fun e w' => e = .returned (.tuple #[.int .i64 s.size, .nilIface]) ∧ (∃ q', EAt Kp base w' eb d p q' (S ++ s.data.toList) C) ∧ Fr base eb W w' := by
  refine (Be.write base eb 18 (EC d p q) q.sb S s W h.new h.bk rfl (.inl rfl) ?_ rfl h.said hlen).mono ?_
  · rcases h.sa with e | e
    · exact .inl (by show some q.s = _; rw [e])
    · exact .inr (by show some q.s = _; rw [e])
  · rintro e w' ⟨rfl, v', hw⟩
    have hf := hw.fr h.said
    have hkk : ∀ k, k < W.heap.size → k ≠ eb → (∀ v ∈ [q.sb, q.cb, .slice p.t d.took.length p.tc], v.ownBlock ≠ some k) → w'.heap[k]? = W.heap[k]? := fun k h1 h2 h3 => hw.blk k h1 h2 (h3 _ (by simp))
    have hvv : ∀ x ∈ [v', q.cb, .slice p.t d.took.length p.tc], ∀ g, x.ownBlock = some g → (∃ v ∈ [q.sb, q.cb, .slice p.t d.took.length p.tc], v.ownBlock = some g) ∨ W.heap.size ≤ g := by
      intro x hm g hg
      simp only [List.mem_cons, List.not_mem_nil, or_false] at hm
      rcases hm with rfl | rfl | rfl
      · rcases hw.own g hg with e | e
        · exact .inl ⟨_, by simp, e⟩
        · exact .inr e
      · exact .inl ⟨q.cb, by simp, hg⟩
      · exact .inl ⟨_, by simp, hg⟩
    refine ⟨rfl, ⟨⟨.pointer (some ⟨eb, 18, none⟩), v', q.c, q.cb⟩, hw.bk, h.new, h.win.kept hf.bel hkk hvv, h.wcap, h.ahead.kept hf.bel hkk hvv, h.queue.kept hf.bel hkk hvv, own_fr h.took hf h.bk (by decide), .inr rfl, hw.bat, h.ca, ?_, ?_⟩, hf⟩
    · refine h.came.kept fun g hg => hw.blk g (h.came.own.lt g hg).2 (fun e => h.came.ne h.bk (by decide) (by rw [hg, e])) (fun e => h.apart g e hg)
    · intro g hg hc
      rcases hw.own g hg with e | e
      · exact h.apart g e hc
      · have := (h.came.own.lt g hc).2
        omega
theorem EAt.say {Kp : Nat → Prop} {base eb : Nat} {W : World} {d : Gp.Dr} {p : Pl} {q : Bu} {S C : List UInt8} (h : EAt Kp base W eb d p q S C) (s : ByteArray) (hlen : S.length + s.size ≤ 140737488355328) :
    Calls Tryz.prog 97 #[.pointer (some ⟨eb, 18, none⟩), .string s] W fun e w' => e = .returned (.tuple #[.int .i64 s.size, .nilIface]) ∧ ES Kp base w' eb d (S ++ s.data.toList) C ∧ Fr base eb W w' :=
  (h.sayP s hlen).mono fun _ _ ⟨h1, ⟨q', h2⟩, h3⟩ => ⟨h1, ⟨p, q', h2⟩, h3⟩
theorem EAt.come {Kp : Nat → Prop} {base eb : Nat} {W : World} {d : Gp.Dr} {p : Pl} {q : Bu} {S C : List UInt8} (h : EAt Kp base W eb d p q S C) (s : ByteArray) (hlen : C.length + s.size ≤ 140737488355328) :
    Calls Tryz.prog 97 #[.pointer (some ⟨eb, 20, none⟩), .string s] W fun e w' => e = .returned (.tuple #[.int .i64 s.size, .nilIface]) ∧ ES Kp base w' eb d S (C ++ s.data.toList) ∧ Fr base eb W w' := by
  refine (Be.write base eb 20 (EC d p q) q.cb C s W h.new h.bk rfl (.inr rfl) ?_ rfl h.came hlen).mono ?_
  · rcases h.ca with e | e
    · exact .inl (by show some q.c = _; rw [e])
    · exact .inr (by show some q.c = _; rw [e])
  · rintro e w' ⟨rfl, v', hw⟩
    have hf := hw.fr h.came
    have hkk : ∀ k, k < W.heap.size → k ≠ eb → (∀ v ∈ [q.sb, q.cb, .slice p.t d.took.length p.tc], v.ownBlock ≠ some k) → w'.heap[k]? = W.heap[k]? := fun k h1 h2 h3 => hw.blk k h1 h2 (h3 _ (by simp))
    have hvv : ∀ x ∈ [q.sb, v', .slice p.t d.took.length p.tc], ∀ g, x.ownBlock = some g → (∃ v ∈ [q.sb, q.cb, .slice p.t d.took.length p.tc], v.ownBlock = some g) ∨ W.heap.size ≤ g := by
      intro x hm g hg
      simp only [List.mem_cons, List.not_mem_nil, or_false] at hm
      rcases hm with rfl | rfl | rfl
      · exact .inl ⟨q.sb, by simp, hg⟩
      · rcases hw.own g hg with e | e
        · exact .inl ⟨q.cb, by simp, e⟩
        · exact .inr e
      · exact .inl ⟨_, by simp, hg⟩
    refine ⟨rfl, ⟨p, ⟨q.s, q.sb, .pointer (some ⟨eb, 20, none⟩), v'⟩, hw.bk, h.new, h.win.kept hf.bel hkk hvv, h.wcap, h.ahead.kept hf.bel hkk hvv, h.queue.kept hf.bel hkk hvv, own_fr h.took hf h.bk (by decide), h.sa, ?_, .inr rfl, hw.bat, ?_⟩, hf⟩
    · refine h.said.kept fun g hg => hw.blk g (h.said.own.lt g hg).2 (fun e => h.said.ne h.bk (by decide) (by rw [hg, e])) (fun e => h.apart g hg e)
    · intro g hg hc
      rcases hw.own g hc with e | e
      · exact h.apart g hg e
      · have := (h.said.own.lt g hg).2
        omega
end Go.Proofs.YtfiffbohhhehkaaGreat

namespace Go.Proofs.YtfiffbohhhehkaaGreat
open Go.RowKit
/-- what a method leaves -/
def EPost (Kp : Nat → Prop) (base eb : Nat) (W : World) (d : Gp.Dr) (S C : List UInt8) (e : Ending) (w' : World) : Prop := e = .returned (.tuple #[]) ∧ ES Kp base w' eb d S C ∧ Fr base eb W w'
theorem Fr.step {base eb : Nat} {W W1 W2 : World} (h : Below W.heap.size W W1) (hB : base ≤ W.heap.size) (k : Fr base eb W1 W2) : Fr base eb W W2 := (Fr.of h hB).trans k
set_option maxHeartbeats 1000000 in
set_option maxRecDepth 100000 in
theorem last_go (eb : Nat) (x y z r : Int) (w : World) (c : w.cell? ⟨eb, 10, none⟩ = some (.int .i64 x)) (h1 : wrap64 (x + 8) = y) (h2 : wrap64 (y - 1) = z) (h3 : z.tmod 8 = r) :
    Calls Tryz.prog 112 #[.pointer (some ⟨eb, 0, none⟩)] w fun e w' => e = .returned (.int .i64 r) ∧ w' = w := by
  go_enter Tryz.func112, Tryz.ntmps112
  go_wp2
  go_ret
  exact ⟨rfl, rfl⟩
theorem last_any {Kp : Nat → Prop} {base eb : Nat} {W : World} {d : Gp.Dr} {p : Pl} {q : Bu} {S C : List UInt8} (h : EAt Kp base W eb d p q S C) (h0 : 0 ≤ d.wants) (h7 : d.wants ≤ 7) :
    Calls Tryz.prog 112 #[.pointer (some ⟨eb, 0, none⟩)] W fun e w' => e = .returned (.int .i64 (Gp.last d)) ∧ w' = W :=
  last_go eb d.wants (d.wants + 8) (d.wants + 8 - 1) _ W (h.bk.cell 10) (by unfold wrap64; omega) (by unfold wrap64; omega) (by unfold Gp.last; rw [Int.tmod_eq_emod_of_nonneg (by omega)]; omega)
set_option maxHeartbeats 1000000 in
set_option maxRecDepth 100000 in
theorem say_go (eb : Nat) (t hh l z : Int) (D X : ByteArray) (w : World) (Post : Ending → World → Prop)
    (HW : Hid (∀ W, Calls Tryz.prog 96 #[.agg #[.int .i64 t, .int .i64 hh, .int .i64 l, .int .i64 z, .string D]] W fun e w' => e = .returned (.tuple #[.string X, .int .i64 0]) ∧ Below W.heap.size W w'))
    (HS : Hid (∀ W, Below w.heap.size w W → Calls Tryz.prog 97 #[.pointer (some ⟨eb, 18, none⟩), .string X] W fun e w' => e = .returned (.tuple #[.int .i64 X.size, .nilIface]) ∧ Post (.returned (.tuple #[])) w')) :
    Calls Tryz.prog 76 #[.pointer (some ⟨eb, 0, none⟩), .agg #[.int .i64 t, .int .i64 hh, .int .i64 l, .int .i64 z, .string D]] w Post := by
  have b0 := Rg.hid (Rg.al1 w (.cells #[.int .i64 t, .int .i64 hh, .int .i64 l, .int .i64 z, .string D] 80))
  go_enter Tryz.func76, Tryz.ntmps76
  go_wp2_with (first | (go_at_call 96; refine (HW.out _).mono ?_; rintro e w1 ⟨rfl, b1⟩; have b2 := Rg.hid (Rg.chain b0.out b1)) | (go_at_call 97; refine (HS.out _ b2.out).mono ?_; rintro e w2 ⟨rfl, hp⟩))
  go_end0
  exact hp
/-- what a method leaves that only says something -/
def EPostP (Kp : Nat → Prop) (base eb : Nat) (W : World) (d : Gp.Dr) (p : Pl) (S C : List UInt8) (e : Ending) (w' : World) : Prop := e = .returned (.tuple #[]) ∧ (∃ q', EAt Kp base w' eb d p q' S C) ∧ Fr base eb W w'
theorem EPostP.es {Kp : Nat → Prop} {base eb : Nat} {W : World} {d : Gp.Dr} {p : Pl} {S C : List UInt8} {e : Ending} {w' : World} (h : EPostP Kp base eb W d p S C e w') : EPost Kp base eb W d S C e w' := by
  obtain ⟨h1, ⟨q', h2⟩, h3⟩ := h
  exact ⟨h1, ⟨p, q', h2⟩, h3⟩
theorem say_anyP {Kp : Nat → Prop} {base eb : Nat} {W : World} {d : Gp.Dr} {p : Pl} {q : Bu} {S C : List UInt8} (h : EAt Kp base W eb d p q S C) (t hh l z : Int) (D : ByteArray) (hk : Gf.ok ⟨t, hh, l, z, D.data.toList⟩) (hlen : S.length + (Gf.text ⟨t, hh, l, z, D.data.toList⟩).length ≤ 140737488355328) :
    Calls Tryz.prog 76 #[.pointer (some ⟨eb, 0, none⟩), .agg #[.int .i64 t, .int .i64 hh, .int .i64 l, .int .i64 z, .string D]] W fun e w' => EPostP Kp base eb W d p (S ++ Gf.text ⟨t, hh, l, z, D.data.toList⟩) C e w' := by
  refine say_go eb t hh l z D ⟨(Gf.text ⟨t, hh, l, z, D.data.toList⟩).toArray⟩ W _ (write_yes t hh l z D hk) fun W1 b1 => ?_
  refine ((h.below b1).sayP ⟨(Gf.text ⟨t, hh, l, z, D.data.toList⟩).toArray⟩ hlen).mono fun e w' ⟨h1, h2, h3⟩ => ⟨h1, rfl, h2, Fr.step b1 h.lt h3⟩
theorem say_any {Kp : Nat → Prop} {base eb : Nat} {W : World} {d : Gp.Dr} {p : Pl} {q : Bu} {S C : List UInt8} (h : EAt Kp base W eb d p q S C) (t hh l z : Int) (D : ByteArray) (hk : Gf.ok ⟨t, hh, l, z, D.data.toList⟩) (hlen : S.length + (Gf.text ⟨t, hh, l, z, D.data.toList⟩).length ≤ 140737488355328) :
    Calls Tryz.prog 76 #[.pointer (some ⟨eb, 0, none⟩), .agg #[.int .i64 t, .int .i64 hh, .int .i64 l, .int .i64 z, .string D]] W fun e w' => EPost Kp base eb W d (S ++ Gf.text ⟨t, hh, l, z, D.data.toList⟩) C e w' := (say_anyP h t hh l z D hk hlen).mono fun _ _ hp => hp.es
theorem ctrl_ok {h l : Int} (h0 : 0 ≤ h) (h7 : h ≤ 7) (l0 : 0 ≤ l) (l7 : l ≤ 7) : Gf.ok ⟨0, h, l, 0, []⟩ := ⟨⟨h0, h7, l0, l7⟩, .inl ⟨rfl, rfl, rfl⟩⟩
set_option maxHeartbeats 1000000 in
set_option maxRecDepth 100000 in
theorem sayControl_go (eb : Nat) (hh l : Int) (w : World) (Post : Ending → World → Prop)
    (HS : Hid (Calls Tryz.prog 76 #[.pointer (some ⟨eb, 0, none⟩), .agg #[.int .i64 0, .int .i64 hh, .int .i64 l, .int .i64 0, .string ⟨#[]⟩]] w fun e w' => e = .returned (.tuple #[]) ∧ Post (.returned (.tuple #[])) w')) :
    Calls Tryz.prog 54 #[.pointer (some ⟨eb, 0, none⟩), .int .i64 hh, .int .i64 l] w Post := by
  go_enter Tryz.func54, Tryz.ntmps54
  go_wp2_with (go_at_call 76; refine HS.out.mono ?_; rintro e w1 ⟨rfl, hp⟩)
  go_end0
  exact hp
theorem sayControl_any {Kp : Nat → Prop} {base eb : Nat} {W : World} {d : Gp.Dr} {p : Pl} {q : Bu} {S C : List UInt8} (h : EAt Kp base W eb d p q S C) (hh l : Int) (h0 : 0 ≤ hh) (h7 : hh ≤ 7) (l0 : 0 ≤ l) (l7 : l ≤ 7) (hlen : S.length + 6 ≤ 140737488355328) :
    Calls Tryz.prog 54 #[.pointer (some ⟨eb, 0, none⟩), .int .i64 hh, .int .i64 l] W fun e w' => EPost Kp base eb W d (S ++ Gp.ctrl hh l) C e w' :=
  sayControl_go eb hh l W _ ((say_any h 0 hh l 0 ⟨#[]⟩ (ctrl_ok h0 h7 l0 l7) hlen).mono fun _ _ hp => ⟨hp.1, rfl, hp.2⟩)
set_option maxHeartbeats 1000000 in
set_option maxRecDepth 100000 in
theorem sayReady_go (eb : Nat) (l : Int) (w : World) (Post : Ending → World → Prop)
    (HL : Hid (Calls Tryz.prog 112 #[.pointer (some ⟨eb, 0, none⟩)] w fun e w' => e = .returned (.int .i64 l) ∧ w' = w))
    (HS : Hid (Calls Tryz.prog 54 #[.pointer (some ⟨eb, 0, none⟩), .int .i64 4, .int .i64 l] w fun e w' => e = .returned (.tuple #[]) ∧ Post (.returned (.tuple #[])) w')) :
    Calls Tryz.prog 103 #[.pointer (some ⟨eb, 0, none⟩)] w Post := by
  go_enter Tryz.func103, Tryz.ntmps103
  go_wp2_with (first | (go_at_call 112; refine HL.out.mono ?_; rintro e w1 ⟨rfl, hw⟩; obtain rfl := hw.symm) | (go_at_call 54; refine HS.out.mono ?_; rintro e w1 ⟨rfl, hp⟩))
  go_end0
  exact hp
set_option maxHeartbeats 1000000 in
set_option maxRecDepth 100000 in
theorem sayReject_go (eb : Nat) (l : Int) (w : World) (Post : Ending → World → Prop)
    (HL : Hid (Calls Tryz.prog 112 #[.pointer (some ⟨eb, 0, none⟩)] w fun e w' => e = .returned (.int .i64 l) ∧ w' = w))
    (HS : Hid (Calls Tryz.prog 54 #[.pointer (some ⟨eb, 0, none⟩), .int .i64 2, .int .i64 l] w fun e w' => e = .returned (.tuple #[]) ∧ Post (.returned (.tuple #[])) w')) :
    Calls Tryz.prog 128 #[.pointer (some ⟨eb, 0, none⟩)] w Post := by
  go_enter Tryz.func128, Tryz.ntmps128
  go_wp2_with (first | (go_at_call 112; refine HL.out.mono ?_; rintro e w1 ⟨rfl, hw⟩; obtain rfl := hw.symm) | (go_at_call 54; refine HS.out.mono ?_; rintro e w1 ⟨rfl, hp⟩))
  go_end0
  exact hp
set_option maxHeartbeats 1000000 in
set_option maxRecDepth 100000 in
theorem sayClose_go (eb : Nat) (w : World) (Post : Ending → World → Prop)
    (HS : Hid (Calls Tryz.prog 54 #[.pointer (some ⟨eb, 0, none⟩), .int .i64 1, .int .i64 0] w fun e w' => e = .returned (.tuple #[]) ∧ Post (.returned (.tuple #[])) w')) :
    Calls Tryz.prog 46 #[.pointer (some ⟨eb, 0, none⟩)] w Post := by
  go_enter Tryz.func46, Tryz.ntmps46
  go_wp2_with (go_at_call 54; refine HS.out.mono ?_; rintro e w1 ⟨rfl, hp⟩)
  go_end0
  exact hp
theorem EPost.split {Kp : Nat → Prop} {base eb : Nat} {W : World} {d : Gp.Dr} {S C : List UInt8} {F : Nat} {args : Array Value} (h : Calls Tryz.prog F args W fun e w' => EPost Kp base eb W d S C e w') : Calls Tryz.prog F args W fun e w' => e = .returned (.tuple #[]) ∧ EPost Kp base eb W d S C (.returned (.tuple #[])) w' := h.mono fun _ _ hp => ⟨hp.1, rfl, hp.2⟩
theorem last_rng {d : Gp.Dr} : 0 ≤ Gp.last d ∧ Gp.last d ≤ 7 := by unfold Gp.last; omega
theorem sayReady_any {Kp : Nat → Prop} {base eb : Nat} {W : World} {d : Gp.Dr} {p : Pl} {q : Bu} {S C : List UInt8} (h : EAt Kp base W eb d p q S C) (h0 : 0 ≤ d.wants) (h7 : d.wants ≤ 7) (hlen : S.length + 6 ≤ 140737488355328) :
    Calls Tryz.prog 103 #[.pointer (some ⟨eb, 0, none⟩)] W fun e w' => EPost Kp base eb W d (S ++ Gp.ready d) C e w' :=
  sayReady_go eb (Gp.last d) W _ (last_any h h0 h7) (EPost.split (sayControl_any h 4 (Gp.last d) (by omega) (by omega) last_rng.1 last_rng.2 hlen))
theorem sayReject_any {Kp : Nat → Prop} {base eb : Nat} {W : World} {d : Gp.Dr} {p : Pl} {q : Bu} {S C : List UInt8} (h : EAt Kp base W eb d p q S C) (h0 : 0 ≤ d.wants) (h7 : d.wants ≤ 7) (hlen : S.length + 6 ≤ 140737488355328) :
    Calls Tryz.prog 128 #[.pointer (some ⟨eb, 0, none⟩)] W fun e w' => EPost Kp base eb W d (S ++ Gp.ctrl 2 (Gp.last d)) C e w' :=
  sayReject_go eb (Gp.last d) W _ (last_any h h0 h7) (EPost.split (sayControl_any h 2 (Gp.last d) (by omega) (by omega) last_rng.1 last_rng.2 hlen))
theorem sayClose_any {Kp : Nat → Prop} {base eb : Nat} {W : World} {d : Gp.Dr} {p : Pl} {q : Bu} {S C : List UInt8} (h : EAt Kp base W eb d p q S C) (hlen : S.length + 6 ≤ 140737488355328) :
    Calls Tryz.prog 46 #[.pointer (some ⟨eb, 0, none⟩)] W fun e w' => EPost Kp base eb W d (S ++ Gp.ctrl 1 0) C e w' :=
  sayClose_go eb W _ (EPost.split (sayControl_any h 1 0 (by omega) (by omega) (by omega) (by omega) hlen))
/-- the High of a step's opening packet -/
def Gp.hiOf (st : Int) : Int := if st = 0 then 7 else if st = 1 then 6 else 5
set_option maxHeartbeats 1000000 in
theorem openingHigh_any (st : Int) (w : World) : Calls Tryz.prog 55 #[.int .i64 st] w fun e w' => e = .returned (.int .i64 (Gp.hiOf st)) ∧ w' = w := by
  unfold Gp.hiOf
  by_cases h0 : st = 0
  · subst h0
    rw [if_pos rfl]
    go_enter Tryz.func55, Tryz.ntmps55
    go_wp2
    go_ret
    exact ⟨rfl, rfl⟩
  rw [if_neg h0]
  by_cases h1 : st = 1
  · subst h1
    rw [if_pos rfl]
    go_enter Tryz.func55, Tryz.ntmps55
    go_wp2
    go_ret
    exact ⟨rfl, rfl⟩
  rw [if_neg h1]
  have e0 : (st == 0) = false := by simp [h0]
  have e1 : (st == 1) = false := by simp [h1]
  go_enter Tryz.func55, Tryz.ntmps55
  go_wp2
  go_ret
  exact ⟨rfl, rfl⟩
set_option maxHeartbeats 1000000 in
set_option maxRecDepth 100000 in
theorem sayOpening1_go (eb : Nat) (rm sz l : Int) (K : Nat) (w : World) (Post : Ending → World → Prop) (c5 : w.cell? ⟨eb, 5, none⟩ = some (.int .i64 rm)) (c4 : w.cell? ⟨eb, 4, none⟩ = some (.int .i64 sz)) (hl : wrap64 ((K : Int) - 1) = l)
    (HC : Hid (∀ W, Calls Tryz.prog 53 #[.int .i64 sz] W fun e w' => e = .returned (.int .i64 (K : Int)) ∧ w' = W))
    (HH : Hid (∀ W, Calls Tryz.prog 55 #[.int .i64 1] W fun e w' => e = .returned (.int .i64 6) ∧ w' = W))
    (HS : Hid (Calls Tryz.prog 54 #[.pointer (some ⟨eb, 0, none⟩), .int .i64 6, .int .i64 l] w fun e w' => e = .returned (.tuple #[]) ∧ Post (.returned (.tuple #[])) w')) :
    Calls Tryz.prog 26 #[.pointer (some ⟨eb, 0, none⟩), .int .i64 1] w Post := by
  go_enter Tryz.func26, Tryz.ntmps26
  go_wp2_with (first | (go_at_call 53; refine (HC.out _).mono ?_; rintro e w1 ⟨rfl, hw⟩; obtain rfl := hw.symm) | (go_at_call 55; refine (HH.out _).mono ?_; rintro e w1 ⟨rfl, hw⟩; obtain rfl := hw.symm) | (go_at_call 54; refine HS.out.mono ?_; rintro e w1 ⟨rfl, hp⟩))
  go_end0
  exact hp
set_option maxHeartbeats 1000000 in
set_option maxRecDepth 100000 in
theorem sayOpening_go (eb : Nat) (st rm hh : Int) (w : World) (Post : Ending → World → Prop) (c5 : w.cell? ⟨eb, 5, none⟩ = some (.int .i64 rm)) (h1 : (st == 1) = false)
    (HH : Hid (∀ W, Calls Tryz.prog 55 #[.int .i64 st] W fun e w' => e = .returned (.int .i64 hh) ∧ w' = W))
    (HS : Hid (Calls Tryz.prog 54 #[.pointer (some ⟨eb, 0, none⟩), .int .i64 hh, .int .i64 rm] w fun e w' => e = .returned (.tuple #[]) ∧ Post (.returned (.tuple #[])) w')) :
    Calls Tryz.prog 26 #[.pointer (some ⟨eb, 0, none⟩), .int .i64 st] w Post := by
  go_enter Tryz.func26, Tryz.ntmps26
  go_wp2_with (first | (go_at_call 55; refine (HH.out _).mono ?_; rintro e w1 ⟨rfl, hw⟩; obtain rfl := hw.symm) | (go_at_call 54; refine HS.out.mono ?_; rintro e w1 ⟨rfl, hp⟩))
  go_end0
  exact hp
theorem sayOpening_any {Kp : Nat → Prop} {base eb : Nat} {W : World} {d : Gp.Dr} {p : Pl} {q : Bu} {S C : List UInt8} (h : EAt Kp base W eb d p q S C) (st : Int) (h0 : 0 ≤ st) (h2 : st ≤ 2) (hz : Gf.code d.size ≠ 0) (r1 : 1 ≤ d.room) (r7 : d.room ≤ 7) (hlen : S.length + 6 ≤ 140737488355328) :
    Calls Tryz.prog 26 #[.pointer (some ⟨eb, 0, none⟩), .int .i64 st] W fun e w' => EPost Kp base eb W d (S ++ Gp.opening d st) C e w' := by
  have hh := fun W => openingHigh_any st W
  unfold Gp.opening
  by_cases e1 : st = 1
  · subst e1
    rw [if_neg (by omega), if_pos rfl]
    have hr := Gp.code_rng hz
    exact sayOpening1_go eb d.room d.size _ (Gf.code d.size) W _ (h.bk.cell 5) (h.bk.cell 4) (by unfold wrap64; omega) (gcode_any d.size) hh (EPost.split (sayControl_any h 6 _ (by omega) (by omega) hr.1 hr.2 hlen))
  · by_cases e0 : st = 0
    · subst e0
      rw [if_pos rfl]
      exact sayOpening_go eb 0 d.room 7 W _ (h.bk.cell 5) (by decide) hh (EPost.split (sayControl_any h 7 _ (by omega) (by omega) (by omega) r7 hlen))
    · have e2 : st = 2 := by omega
      subst e2
      rw [if_neg (by omega), if_neg (by omega)]
      exact sayOpening_go eb 2 d.room 5 W _ (h.bk.cell 5) (by decide) hh (EPost.split (sayControl_any h 5 _ (by omega) (by omega) (by omega) r7 hlen))
end Go.Proofs.YtfiffbohhhehkaaGreat
