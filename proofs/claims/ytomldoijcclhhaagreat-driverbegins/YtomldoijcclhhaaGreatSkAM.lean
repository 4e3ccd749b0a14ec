/-
  Walks of layer 15: sendWaiting. Walks of layer 11: Read. Walks of the laws of layer 11: awake. Walks of the laws of layer 11: GframeBack. Walks of the laws of layer 11: GframeBack, whole. Walks of layer 15: what was taken is noted; packets, one behind the other. Walks of layer 15: takePackets. Walks of layer 15: Right says so of a drive that is right. Walks of layer 15: Right. Walks of layer 15: through.
-/
import Derived.Test.YtomldoijcclhhaaGreatSkAL
import Derived.Test.YtomldoijcclhhaaGreatSkAG
import Derived.Test.YtomldoijcclhhaaGreatSkAB
import Derived.Test.YtomldoijcclhhaaGreatSkAH
import Derived.Test.YtomldoijcclhhaaGreatSkAC
import Derived.WalkMore
import Derived.Deep.RegionLaw
namespace Go.Proofs.YtomldoijcclhhaaGreat
open Go.RowKit
/-- rows that lie in no block from m to ahead of n -/
structure NB (m n : Nat) (d : Gp.Dr) (p : Pl) : Prop where
  w : d.win.l = [] ∨ ∃ b o, p.w = some ⟨b, o, none⟩ ∧ (b < m ∨ n ≤ b)
  q : d.queue = [] ∨ ∃ b o, p.q = some ⟨b, o, none⟩ ∧ (b < m ∨ n ≤ b)
  a : d.ahead = [] ∨ ∃ b o, p.a = some ⟨b, o, none⟩ ∧ (b < m ∨ n ≤ b)
theorem TRow.nb {Kp : Nat → Prop} {α : Type} {E : Rg.El α} {base eb n : Nat} {vs : List Value} {W : World} {a : Option Addr} {l : List α} (h : TRow Kp E base eb vs W a l) : l = [] ∨ ∃ b o, a = some ⟨b, o, none⟩ ∧ (b < W.heap.size ∨ n ≤ b) := by
  rcases h with h | ⟨b, o, h1, h2, _⟩
  · exact .inl h
  · exact .inr ⟨b, o, h1, .inl h2⟩
theorem EAt.nb {Kp : Nat → Prop} {base eb : Nat} {W : World} {d : Gp.Dr} {p : Pl} {q : Bu} {S C : List UInt8} (h : EAt Kp base W eb d p q S C) (n : Nat) : NB W.heap.size n d p := ⟨h.win.nb, h.queue.nb, h.ahead.nb⟩
theorem TRow.store {Kp : Nat → Prop} {α : Type} {E : Rg.El α} {base eb m n g i : Nat} {vs : List Value} {W : World} {a : Option Addr} {l : List α} {v : Value} (h : TRow Kp E base eb vs W a l) (hn : l = [] ∨ ∃ b o, a = some ⟨b, o, none⟩ ∧ (b < m ∨ n ≤ b)) (h1 : m ≤ g) (h2 : g < n) : TRow Kp E base eb vs (W.setCell ⟨g, i, none⟩ v) a l := by
  rcases h with h | ⟨b, o, e1, e2, e3, e4⟩
  · exact .inl h
  · rcases hn with hn | ⟨b', o', k1, k2⟩
    · exact .inl hn
    · rw [e1] at k1
      cases k1
      exact .inr ⟨b, o, e1, by simpa [World.setCell] using e2, e3.same (Below.heap_setCell _ _ _ _ (by show b ≠ g; omega)), e4⟩
/-- a store into a row of pieces of one's own -/
theorem EAt.other {Kp : Nat → Prop} {base eb m n g i : Nat} {W : World} {d : Gp.Dr} {p : Pl} {q : Bu} {S C : List UInt8} {CG : List Value} (h : EAt Kp base W eb d p q S C) (hn : NB m n d p) (k : Rg.Bk g CG 44 W) (h1 : m ≤ g) (h2 : g < n) (v : Value) : EAt Kp base (W.setCell ⟨g, i, none⟩ v) eb d p q S C := by
  have hne : eb ≠ g := fun e => by
    have k2 := h.bk
    unfold Rg.Bk at k k2
    rw [e, k] at k2
    cases k2
  refine ⟨h.bk.other hne v, h.new, h.win.store hn.w h1 h2, h.wcap, h.ahead.store hn.a h1 h2, h.queue.store hn.q h1 h2, ?_, h.sa, h.said.set k (by decide) v, h.ca, h.came.set k (by decide) v, h.apart⟩
  refine ⟨h.took.1, ?_⟩
  rcases h.took.2 with hx | ⟨g', cap, cur, e1, hb, hgg, rest⟩
  · exact .inl hx
  · refine .inr ⟨g', cap, cur, e1, hb, ?_, rest⟩
    rw [Below.heap_setCell _ _ _ _ (fun e => ?_)]
    · exact hgg
    · rw [e] at hgg
      unfold Rg.Bk at k
      rw [hgg] at k
      cases k
theorem Fr.other {base eb g i : Nat} {W W' : World} (h : Fr base eb W W') (hg : W.heap.size ≤ g) (hb : base ≤ g) (v : Value) : Fr base eb W (W'.setCell ⟨g, i, none⟩ v) := by
  refine ⟨h.bel.setCell (p := ⟨g, i, none⟩) hb _, fun k o hk hne ho => ?_⟩
  have hlt := (Array.getElem?_eq_some_iff.1 hk).1
  rw [Below.heap_setCell _ _ _ _ (by show k ≠ g; omega)]
  exact h.oth k o hk hne ho
/-- what a round of sendWaiting finds: dm is the drive as the document has it then -/
structure FI (Kp : Nat → Prop) (base eb : Nat) (d0 : Gp.Dr) (S C : List UInt8) (W : World) (w2n : Nat) (wr : World) (dm : Gp.Dr) (p : Pl) (q : Bu) (Si : List UInt8) (f : Nat) (qa : Option Addr) (qc : Nat) : Prop where
  at_ : EAt Kp base wr eb { dm with queue := d0.queue } p q Si C
  nb : NB W.heap.size w2n { dm with queue := d0.queue } p
  fr : Fr base eb W wr
  pq : PQ W.heap.size wr qa qc dm.queue
  pn : dm.queue = [] ∨ ∃ g o, qa = some ⟨g, o, none⟩ ∧ g < w2n
  sz : w2n ≤ wr.heap.size
  math : ∃ out, Si = S ++ out ∧ Gp.fillN f dm out = Gp.fill d0
  rt : Gp.right dm
  ph : dm.phase = 2
  fuel : 8 ≤ f + dm.win.l.length
  len : Si.length ≤ S.length + 4200 * dm.win.l.length
theorem FI.runs {Kp : Nat → Prop} {base eb : Nat} {d0 : Gp.Dr} {S C : List UInt8} {W : World} {w2n : Nat} {wr : World} {dm : Gp.Dr} {p : Pl} {q : Bu} {Si : List UInt8} {f : Nat} {qa : Option Addr} {qc : Nat} (h : FI Kp base eb d0 S C W w2n wr dm p q Si f qa qc) : Gp.runs dm := by
  have hp := h.ph
  rcases h.rt.2 with ⟨h, _⟩ | ⟨_, h⟩ | h | h | h
  · omega
  · exact h
  all_goals omega
theorem FI.n7 {Kp : Nat → Prop} {base eb : Nat} {d0 : Gp.Dr} {S C : List UInt8} {W : World} {w2n : Nat} {wr : World} {dm : Gp.Dr} {p : Pl} {q : Bu} {Si : List UInt8} {f : Nat} {qa : Option Addr} {qc : Nat} (h : FI Kp base eb d0 S C W w2n wr dm p q Si f qa qc) : dm.win.l.length ≤ 7 := by
  obtain ⟨r1, r2, r3, r4, r5, r6, r7, r8⟩ := h.runs
  have := h.rt.1.2.2.2.2.1
  omega
/-- the text that goes -/
def Gp.goes (dm : Gp.Dr) (x : Gp.Pc) : ByteArray := x.data.extract 0 (min x.data.size dm.size.toNat)
/-- a text went: what is there then, but for the queue -/
theorem FI.step {Kp : Nat → Prop} {base eb : Nat} {d0 : Gp.Dr} {S C : List UInt8} {W : World} {w2n : Nat} {wr : World} {dm : Gp.Dr} {p : Pl} {q : Bu} {Si : List UInt8} {f : Nat} {qa : Option Addr} {qc : Nat} (h : FI Kp base eb d0 S C W w2n wr dm p q Si f qa qc) {x : Gp.Pc} {l : List Gp.Pc} (hq : dm.queue = x :: l) (hl : (dm.win.l.length : Int) < dm.win.sz)
    {w3 : World} {a : Option Addr} {c : Nat} {q3 : Bu} (hn : New wr a) (h3 : EAt Kp base w3 eb { dm with queue := d0.queue, win := (Wn.put dm.win (Gp.goes dm x)).1 } { p with w := a, wc := c } q3 (Si ++ Gp.packet { dm with queue := d0.queue, win := (Wn.put dm.win (Gp.goes dm x)).1 } (Wn.put dm.win (Gp.goes dm x)).2.1 (Gp.goes dm x)) C) (f3 : Fr base eb wr w3)
    {w4 : World} {qa' : Option Addr} {qc' : Nat} (h4 : EAt Kp base w4 eb { dm with queue := d0.queue, win := (Wn.put dm.win (Gp.goes dm x)).1 } { p with w := a, wc := c } q3 (Si ++ Gp.packet { dm with queue := d0.queue, win := (Wn.put dm.win (Gp.goes dm x)).1 } (Wn.put dm.win (Gp.goes dm x)).2.1 (Gp.goes dm x)) C) (f4 : Fr base eb W w4) (hpq : PQ W.heap.size w4 qa' qc' (Gp.cutQ dm.queue (min x.data.size dm.size.toNat))) (hpn : Gp.cutQ dm.queue (min x.data.size dm.size.toNat) = [] ∨ ∃ g o, qa' = some ⟨g, o, none⟩ ∧ g < w2n) (hs4 : w2n ≤ w4.heap.size) :
    ∃ f', FI Kp base eb d0 S C W w2n w4 (Gp.fill1 dm x).1 { p with w := a, wc := c } q3 (Si ++ (Gp.fill1 dm x).2) f' qa' qc' := by
  have _ := h3
  have _ := f3
  have hrun := h.runs
  have hb := h.rt.1
  have hrt := Gp.runs_rt hb hrun
  have hput := Wn.put_ok hrt (by omega) (Gp.goes dm x)
  have hf := h.fuel
  have h7 := h.n7
  obtain ⟨f', rfl⟩ : ∃ f', f = f' + 1 := ⟨f - 1, by omega⟩
  obtain ⟨fb, fr⟩ := Gp.right_fill1 hb hrun hq hl
  obtain ⟨out, e1, e2⟩ := h.math
  have hn7 := Wn.num_lt hrt dm.win.l.length
  have hz := Gp.size_pos hb.2.1
  have hplen : (Gp.fill1 dm x).2.length ≤ 4200 := by
    show (Gp.packet { dm with win := (Wn.put dm.win (Gp.goes dm x)).1 } (Wn.put dm.win (Gp.goes dm x)).2.1 (Gp.goes dm x)).length ≤ 4200
    rw [hput]
    refine packet_len hn7.1 ?_ hb.2.1 ?_
    · show Wn.num dm.win dm.win.l.length ≤ 7
      have := hrun.2.2.2.1
      omega
    · show ((x.data.extract 0 (min x.data.size dm.size.toNat)).size : Int) ≤ dm.size
      rw [Gp.ex_size _ _ (Nat.min_le_left _ _)]
      omega
  have hwl : (Gp.fill1 dm x).1.win.l.length = dm.win.l.length + 1 := by
    show (Wn.put dm.win (Gp.goes dm x)).1.l.length = _
    rw [hput]
    simp
  refine ⟨f', h4, ⟨.inr ?_, h.nb.q, h.nb.a⟩, f4, hpq, hpn, hs4, ⟨out ++ (Gp.fill1 dm x).2, by rw [e1, List.append_assoc], ?_⟩, ⟨fb, .inr (.inl ⟨h.ph, fr⟩)⟩, h.ph, by rw [hwl]; omega, ?_⟩
  · rcases h4.win with e | ⟨b, o, e, _, _, _⟩
    · exfalso
      have e' : (Wn.put dm.win (Gp.goes dm x)).1.l = [] := e
      rw [hput] at e'
      simp at e'
    · refine ⟨b, o, e, .inr ?_⟩
      have := hn b o e
      have := h.sz
      omega
  · rw [← e2, Gp.fillN_go hq h.ph hl]
  · rw [List.length_append, hwl]
    have := h.len
    omega
theorem FI.drewN {Kp : Nat → Prop} {base eb : Nat} {d0 : Gp.Dr} {S C : List UInt8} {W : World} {w2n : Nat} {wr : World} {dm : Gp.Dr} {p : Pl} {q : Bu} {Si : List UInt8} {f : Nat} {qa : Option Addr} {qc : Nat} (h : FI Kp base eb d0 S C W w2n wr dm p q Si f qa qc) (n : Nat) : FI Kp base eb d0 S C W w2n (wr.drewN n) dm p q Si f qa qc :=
  ⟨h.at_.drewN n, h.nb, ⟨Rg.drewN h.fr.bel n, fun k o hk hne ho => h.fr.oth k o hk hne ho⟩, h.pq.below (Rg.drewN (Below.refl _ _) n), h.pn, h.sz, h.math, h.rt, h.ph, h.fuel, h.len⟩
end Go.Proofs.YtomldoijcclhhaaGreat

namespace Go.Proofs.YtomldoijcclhhaaGreat
open Go.RowKit
namespace Gf
/-- What Read answers, as a value. -/
def resV : Res → Value
  | .ok (f, n) => .tuple #[.agg #[.int .i64 f.ty, .int .i64 f.hi, .int .i64 f.lo, .int .i64 f.sz, .string ⟨f.data.toArray⟩], .int .i64 n, .int .i64 0]
  | .error e => .tuple #[.agg #[.int .i64 0, .int .i64 0, .int .i64 0, .int .i64 0, .string ⟨#[]⟩], .int .i64 0, .int .i64 e]
def zc : List Value := [.int .i64 0, .int .i64 0, .int .i64 0, .int .i64 0, .string ⟨#[]⟩]
end Gf
theorem Gf.ne_nil {s : ByteArray} (h : 0 < s.size) : (s.toList == []) = false := by
  rw [tl_eq]; refine beq_eq_false_iff_ne.2 fun e => ?_
  rw [← Gf.len_eq, e] at h
  cases h
set_option maxHeartbeats 1000000 in
theorem read_short (s : ByteArray) (h0 : 0 < s.size) (h : s[0].toNat = 16) (h6 : s.size < 6) (w : World) :
    Calls Tryz.prog 114 #[.string s] w fun e w' => e = .returned (Gf.resV (.error 2)) ∧ Below w.heap.size w w' := by
  have bw := Gf.below1 w (.cells #[.int .i64 0, .int .i64 0, .int .i64 0, .int .i64 0, .string ⟨#[]⟩] 93)
  have k0 : Rg.Bk w.heap.size Gf.zc 93 (w.alloc (.cells #[.int .i64 0, .int .i64 0, .int .i64 0, .int .i64 0, .string ⟨#[]⟩] 93)) := Rg.Bk.new rfl
  have cE := k0.cell
  clear cE
  have e0 := Gf.ne_nil h0
  have d1 : ((s[0].toNat : Int) == 16) = true := by rw [h]; rfl
  have d2 : decide ((s.size : Int) < 6) = true := by simp; omega
  go_enter Tryz.func114, Tryz.ntmps114
  go_wp2
  exact bodyPost_ret (v := Gf.resV (.error 2)) (by simp [results, Tryz.results114, go_sem, Gf.resV]) rfl ⟨rfl, bw⟩
end Go.Proofs.YtomldoijcclhhaaGreat

namespace Go.Proofs.YtomldoijcclhhaaGreat
open Go.RowKit
namespace Gf
theorem size_of (l : List UInt8) : (⟨l.toArray⟩ : ByteArray).size = l.length := by
  show l.toArray.size = _; simp
end Gf
end Go.Proofs.YtomldoijcclhhaaGreat

namespace Go.Proofs.YtomldoijcclhhaaGreat
open Go.RowKit
theorem Gf.more {w W : World} (h : Below w.heap.size w W) (o : Obj) : Below w.heap.size w (W.alloc o) := h.alloc h.size o
end Go.Proofs.YtomldoijcclhhaaGreat

namespace Go.Proofs.YtomldoijcclhhaaGreat
open Go.RowKit
theorem keepF {f : FuncId} {args : Array Value} {r : Value} {C : List Value} {ty : TypeId} (w : World) (H : ∀ W, Calls Tryz.prog f args W fun e w' => e = .returned r ∧ Below W.heap.size W w') :
    Hid (∀ W, Below w.heap.size w W → Rg.Bk w.heap.size C ty W → Calls Tryz.prog f args W fun e w' => e = .returned r ∧ Below w.heap.size w w' ∧ Rg.Bk w.heap.size C ty w') :=
  fun W hW hk => (H W).mono fun _ _ ⟨a, b⟩ => ⟨a, hW.trans (b.mono hW.size), hk.below b hk.lt⟩
namespace Gf
end Gf
end Go.Proofs.YtomldoijcclhhaaGreat

namespace Go.Proofs.YtomldoijcclhhaaGreat
open Go.RowKit
/-- what an append to Took leaves -/
structure Took1 (Kp : Nat → Prop) (base eb : Nat) (W : World) (d : Gp.Dr) (p : Pl) (q : Bu) (S C : List UInt8) (x y : Int) (n1 : Nat) (v' : Value) (W2 : World) : Prop where
  v : ∃ g cap, v' = .slice (some ⟨g, 0, none⟩) n1 cap ∧ EAt Kp base (W2.setCell ⟨eb, 17, none⟩ (.slice (some ⟨g, 0, none⟩) n1 cap)) eb { d with took := d.took ++ [(x, y)] } { p with t := some ⟨g, 0, none⟩, tc := cap } q S C
  bel : Below base W W2
  c17 : W2.cell? ⟨eb, 17, none⟩ = some (.slice p.t d.took.length p.tc)
  fz : ∀ i, W2.frozen? ⟨eb, i, none⟩ = false
  bk : Rg.Bk eb (EC d p q) 69 W2
  keep : ∀ k, k < W.heap.size → (Value.slice p.t d.took.length p.tc).ownBlock ≠ some k → W2.heap[k]? = W.heap[k]?
end Go.Proofs.YtomldoijcclhhaaGreat

namespace Go.Proofs.YtomldoijcclhhaaGreat
open Go.RowKit
namespace Gp
theorem allFrom_len (d : Dr) (hz : Gf.code d.size ≠ 0) (hrt : Wn.rt d.win = true) (hm : d.win.md = 8) : ∀ (l : List ByteArray) (i : Nat), (∀ s ∈ l, (s.size : Int) ≤ d.size) → (allFrom d l i).length ≤ 4200 * l.length
  | [], _, _ => Nat.zero_le _
  | s :: r, i, h => by
    have ih := allFrom_len d hz hrt hm r (i + 1) (fun x hx => h x (by simp [hx]))
    have hn := Wn.num_lt hrt i
    have := packet_len (d := d) hn.1 (by omega) hz (h s (by simp))
    unfold allFrom
    rw [List.length_append, List.length_cons]
    omega
theorem all_len {d : Dr} (hb : base d) (hr : runs d) : (all d).length ≤ 29400 := by
  have hrt := runs_rt hb hr
  have h := allFrom_len d hb.2.1 hrt hr.2.2.2.1 d.win.l 0 (fun s hs => (hr.1 s hs).2)
  have : d.win.l.length ≤ 7 := by
    obtain ⟨r1, r2, r3, r4, r5, r6, r7, r8⟩ := hr
    have := hb.2.2.2.2.1
    omega
  unfold all
  omega
theorem opening_len (d : Dr) (st : Int) : (opening d st).length = 6 := by unfold opening; split; rfl; split <;> rfl
theorem begins_len (d : Dr) (q low : Int) : (begins d q low).2.length ≤ 6 := by
  unfold begins
  dsimp only
  repeat' split
  all_goals first
    | exact Nat.le_of_eq (opening_len _ _)
    | exact Nat.le_of_eq rfl
    | exact Nat.zero_le _
theorem closes_len (d : Dr) : (closes d).2.length ≤ 6 := by
  unfold closes
  repeat' split
  all_goals first
    | exact Nat.le_of_eq rfl
    | exact Nat.zero_le _
theorem takes2_len {d : Dr} (h : right d) (f : Gf.Fr) : (takes2 d f).2.1.length ≤ 40000 ∧ (takes2 d f).2.2.length ≤ f.data.length := by
  have hO : right (if d.phase = 1 ∧ d.step = 2 then open_ d else d) := by
    split
    · exact right_open h.1
    · exact h
  unfold takes2
  generalize (if d.phase = 1 ∧ d.step = 2 then open_ d else d) = e at *
  dsimp only
  split
  · exact ⟨by show 6 ≤ 40000; omega, Nat.zero_le _⟩
  split
  · exact ⟨Nat.zero_le _, Nat.zero_le _⟩
  rename_i h3 h2
  have hp2 : e.phase = 2 := Classical.byContradiction fun x => h2 x
  have hr : runs e := by
    rcases hO.2 with ⟨h, _⟩ | ⟨_, h⟩ | h | h | h
    · omega
    · exact h
    all_goals omega
  obtain ⟨ab, ar⟩ := right_acked hO.1 hr f.lo
  split
  · split
    · exact ⟨Nat.zero_le _, Nat.zero_le _⟩
    · have hw := wait1 ab.2.2.2.2.2.2.2.2.2.1 ab.2.2.2.2.2.2.2.2.2.2.1
      obtain ⟨b1, b2, b3, b4, b5, b6, b7, b8, b9, b10, b11, b12, b13, b14, b15⟩ := ab
      have := all_len (d := { acked e f.lo with wait := or1 (acked e f.lo).wait }) ⟨b1, b2, b3, b4, b5, b6, b7, b8, b9, hw.1, hw.2, b12, b13, b14, b15⟩ ar
      exact ⟨Nat.le_trans this (by omega), Nat.zero_le _⟩
  · split
    · exact ⟨by show 6 ≤ 40000; omega, Nat.le_refl _⟩
    · split
      · exact ⟨by show 6 ≤ 40000; omega, Nat.zero_le _⟩
      · exact ⟨by show 6 ≤ 40000; omega, Nat.zero_le _⟩
theorem takes_len {d : Dr} (h : right d) (f : Gf.Fr) : (takes d f).2.1.length ≤ 40000 ∧ (takes d f).2.2.length ≤ f.data.length := by
  have hb := h.1
  have hw := wait2 hb.2.2.2.2.2.2.2.2.2.1 hb.2.2.2.2.2.2.2.2.2.2.1
  have h2 := right_wait h hw.1 hw.2
  unfold takes
  dsimp only
  split
  · exact ⟨by have := begins_len { d with wait := or2 d.wait } (7 - f.hi) f.lo; dsimp only; omega, Nat.zero_le _⟩
  split
  · exact ⟨by have := closes_len { d with wait := or2 d.wait }; dsimp only; omega, Nat.zero_le _⟩
  · exact takes2_len h2 f
theorem data_len {f : Gf.Fr} (h : Gf.ok f) : f.data.length ≤ 4096 := by
  rcases h.2 with ⟨_, _, e⟩ | ⟨_, hz, e⟩ | ⟨_, hz, e⟩
  · rw [e]; exact Nat.zero_le _
  · have := size_pos hz; omega
  · have := size_pos hz; omega
end Gp
/-- what a round of takePackets finds -/
structure TI (Kp : Nat → Prop) (base eb : Nat) (d1 : Gp.Dr) (L0 : Nat) (S0 C0 : List UInt8) (W wr : World) (dm : Gp.Dr) (p : Pl) (q : Bu) (Si Ci : List UInt8) (f : Nat) : Prop where
  at_ : EAt Kp base wr eb dm p q Si Ci
  bel : Below base W wr
  kp : ∀ k C, Rg.Bk k C 29 W → Rg.Bk k C 29 wr
  math : ∃ out came, Si = S0 ++ out ∧ Ci = C0 ++ came ∧ Gp.feedN f dm out came = Gp.feedN (L0 + 1) d1 [] []
  rt : Gp.right dm
  fuel : dm.buf.length < f
  mx : dm.at_ + dm.buf.length ≤ 1099511627776
  bl : dm.buf.length ≤ L0
  ls : Si.length ≤ S0.length + 40000 * (L0 - dm.buf.length)
  lc : Ci.length ≤ C0.length + 40000 * (L0 - dm.buf.length)
  lt : dm.took.length ≤ L0 - dm.buf.length
/-- the drive behind what was found is noted, and cut off -/
def Gp.noted (d : Gp.Dr) : Gp.Dr := { d with took := d.took ++ [(d.at_ + ((Gf.scan 0 d.buf).a : Int), d.at_ + ((Gf.scan 0 d.buf).b : Int))], buf := d.buf.drop (Gf.scan 0 d.buf).b, at_ := d.at_ + ((Gf.scan 0 d.buf).b : Int) }
theorem right_noted {d : Gp.Dr} (h : Gp.right d) (ha : d.at_ + d.buf.length ≤ 1099511627776) (hs : (Gf.scan 0 d.buf).ok = true) : Gp.right (Gp.noted d) ∧ Gf.ok (Gf.scan 0 d.buf).f ∧ (Gf.scan 0 d.buf).b ≤ d.buf.length ∧ 6 ≤ (Gf.scan 0 d.buf).b ∧ (Gf.scan 0 d.buf).a ≤ (Gf.scan 0 d.buf).b := by
  obtain ⟨i, n, h1, h2, h3, h4, h5⟩ := Gp.scan_yes d.buf 0 hs
  have hat : d.at_ + ((Gf.scan 0 d.buf).b : Int) = d.at_ + ((i + n : Nat) : Int) := by rw [h2]; omega
  obtain ⟨b1, b2, b3, b4, b5, b6, b7, b8, b9, b10, b11, b12, b13, b14, b15⟩ := h.1
  exact ⟨⟨⟨b1, b2, b3, b4, b5, b6, b7, by show 0 ≤ d.at_ + _; omega, by show d.at_ + _ ≤ _; rw [hat]; omega, b10, b11, b12, b13, b14, b15⟩, h.2⟩, (Gf.text_read h3).1, by omega, by omega, by omega⟩
/-- a packet was taken -/
theorem TI.next {Kp : Nat → Prop} {base eb : Nat} {d1 : Gp.Dr} {L0 : Nat} {S0 C0 : List UInt8} {W wr : World} {dm : Gp.Dr} {p : Pl} {q : Bu} {Si Ci : List UInt8} {f : Nat} (h : TI Kp base eb d1 L0 S0 C0 W wr dm p q Si Ci f) (hs : (Gf.scan 0 dm.buf).ok = true) {w2 : World} (hb : Below base W w2) (hkp : ∀ k C, Rg.Bk k C 29 W → Rg.Bk k C 29 w2)
    (he : ES Kp base w2 eb (Gp.takes (Gp.noted dm) (Gf.scan 0 dm.buf).f).1 (Si ++ (Gp.takes (Gp.noted dm) (Gf.scan 0 dm.buf).f).2.1) (Ci ++ (Gp.takes (Gp.noted dm) (Gf.scan 0 dm.buf).f).2.2)) :
    (∃ p' q' f', TI Kp base eb d1 L0 S0 C0 W w2 (Gp.takes (Gp.noted dm) (Gf.scan 0 dm.buf).f).1 p' q' (Si ++ (Gp.takes (Gp.noted dm) (Gf.scan 0 dm.buf).f).2.1) (Ci ++ (Gp.takes (Gp.noted dm) (Gf.scan 0 dm.buf).f).2.2) f') ∧ (Gp.takes (Gp.noted dm) (Gf.scan 0 dm.buf).f).1.buf.length < dm.buf.length := by
  obtain ⟨p', q', he⟩ := he
  obtain ⟨hr, hok, hle, h6, _⟩ := right_noted h.rt h.mx hs
  have hT := Gp.right_takes hr hok
  have hK := Gp.takes_keeps (Gp.noted dm) (Gf.scan 0 dm.buf).f
  have hL := Gp.takes_len hr (Gf.scan 0 dm.buf).f
  have hD := Gp.data_len hok
  have htk : (Gp.takes (Gp.noted dm) (Gf.scan 0 dm.buf).f).1.took = (Gp.noted dm).took := by
    have := Gp.takes_put (Gp.noted dm) (Gp.noted dm).buf (Gp.noted dm).at_ (Gp.noted dm).took (Gf.scan 0 dm.buf).f
    have e : Gp.put (Gp.noted dm) (Gp.noted dm).buf (Gp.noted dm).at_ (Gp.noted dm).took = Gp.noted dm := rfl
    rw [e] at this
    rw [this]
    rfl
  have hbl : (Gp.noted dm).buf.length = dm.buf.length - (Gf.scan 0 dm.buf).b := by show (dm.buf.drop _).length = _; rw [List.length_drop]
  have hat : (Gp.noted dm).at_ = dm.at_ + ((Gf.scan 0 dm.buf).b : Int) := rfl
  obtain ⟨out, came, e1, e2, e3⟩ := h.math
  have hf := h.fuel
  obtain ⟨f', rfl⟩ : ∃ f', f = f' + 1 := ⟨f - 1, by omega⟩
  have hm := h.mx
  have hbl0 := h.bl
  have hls := h.ls
  have hlc := h.lc
  have hlt := h.lt
  have h1 := hL.1
  have h2 := hL.2
  refine ⟨⟨p', q', f', he, hb, hkp, ⟨_, _, by rw [e1, List.append_assoc], by rw [e2, List.append_assoc], ?_⟩, hT, by rw [hK.2, hbl]; omega, by rw [hK.1, hK.2, hbl, hat]; omega, by rw [hK.2, hbl]; omega, ?_, ?_, ?_⟩, by rw [hK.2, hbl]; omega⟩
  · rw [← e3]
    conv => rhs; unfold Gp.feedN
    dsimp only
    rw [if_pos hs]
    rfl
  · rw [List.length_append, hK.2, hbl]; omega
  · rw [List.length_append, hK.2, hbl]; omega
  · rw [htk, hK.2, hbl]
    show (dm.took ++ [_]).length ≤ _
    rw [List.length_append, List.length_singleton]
    omega
end Go.Proofs.YtomldoijcclhhaaGreat

namespace Go.Proofs.YtomldoijcclhhaaGreat
open Go.RowKit
set_option maxHeartbeats 1000000 in
theorem isIn_yes (n a b : Int) (w : World) (h1 : decide (a ≤ n) = true) (h2 : decide (n ≤ b) = true) : Calls Tryz.prog 59 #[.int .i64 n, .int .i64 a, .int .i64 b] w fun e w' => e = .returned (.bool true) ∧ w' = w := by
  go_enter Tryz.func59, Tryz.ntmps59
  go_wp2
  go_ret
  exact ⟨rfl, rfl⟩
theorem isIn_true {n a b : Int} (h1 : a ≤ n) (h2 : n ≤ b) (w : World) : Calls Tryz.prog 59 #[.int .i64 n, .int .i64 a, .int .i64 b] w fun e w' => e = .returned (.bool true) ∧ w' = w := isIn_yes n a b w (by simpa using h1) (by simpa using h2)
set_option maxHeartbeats 1000000 in
set_option maxRecDepth 100000 in
theorem mayBe_G (z r : Int) (K : Nat) (w : World) (hK : ((K : Int) == 0) = false) (HC : Hid (∀ W, Calls Tryz.prog 83 #[.int .i64 z] W fun e w' => e = .returned (.int .i64 (K : Int)) ∧ w' = W)) (HI : Hid (∀ W, Calls Tryz.prog 59 #[.int .i64 r, .int .i64 1, .int .i64 7] W fun e w' => e = .returned (.bool true) ∧ w' = W)) :
    Calls Tryz.prog 42 #[.int .i64 71, .int .i64 z, .int .i64 r] w fun e w' => e = .returned (.bool true) ∧ w' = w := by
  go_enter Tryz.func42, Tryz.ntmps42
  go_wp2_with (first | (go_at_call 83; refine (HC.out _).mono ?_; rintro e w1 ⟨rfl, hw⟩; obtain rfl := hw.symm) | (go_at_call 59; refine (HI.out _).mono ?_; rintro e w1 ⟨rfl, hw⟩; obtain rfl := hw.symm))
  go_ret
  exact ⟨rfl, rfl⟩
set_option maxHeartbeats 1000000 in
set_option maxRecDepth 100000 in
theorem mayBe_g (z r : Int) (K : Nat) (w : World) (hK : ((K : Int) == 0) = false) (hz : decide (z ≤ 64) = true) (HC : Hid (∀ W, Calls Tryz.prog 83 #[.int .i64 z] W fun e w' => e = .returned (.int .i64 (K : Int)) ∧ w' = W)) (HI : Hid (∀ W, Calls Tryz.prog 59 #[.int .i64 r, .int .i64 1, .int .i64 7] W fun e w' => e = .returned (.bool true) ∧ w' = W)) :
    Calls Tryz.prog 42 #[.int .i64 103, .int .i64 z, .int .i64 r] w fun e w' => e = .returned (.bool true) ∧ w' = w := by
  go_enter Tryz.func42, Tryz.ntmps42
  go_wp2_with (first | (go_at_call 83; refine (HC.out _).mono ?_; rintro e w1 ⟨rfl, hw⟩; obtain rfl := hw.symm) | (go_at_call 59; refine (HI.out _).mono ?_; rintro e w1 ⟨rfl, hw⟩; obtain rfl := hw.symm))
  go_ret
  exact ⟨rfl, rfl⟩
theorem gmayBe_yes {lt z r : Int} (h1 : lt = 103 ∨ lt = 71) (h2 : Gf.code z ≠ 0) (h3 : lt = 103 → z ≤ 64) (h4 : 1 ≤ r) (h5 : r ≤ 7) (w : World) : Calls Tryz.prog 42 #[.int .i64 lt, .int .i64 z, .int .i64 r] w fun e w' => e = .returned (.bool true) ∧ w' = w := by
  have hK : ((Gf.code z : Int) == 0) = false := by simp; omega
  rcases h1 with rfl | rfl
  · exact mayBe_g z r _ w hK (by simpa using h3 rfl) (gcode_any z) (isIn_true h4 h5)
  · exact mayBe_G z r _ w hK (gcode_any z) (isIn_true h4 h5)
end Go.Proofs.YtomldoijcclhhaaGreat

namespace Go.Proofs.YtomldoijcclhhaaGreat
open Go.RowKit
theorem infoDr2 : (Tryz.prog.info? 29).map (·.size) = some 18 := by kernel_rfl
end Go.Proofs.YtomldoijcclhhaaGreat

namespace Go.Proofs.YtomldoijcclhhaaGreat
open Go.RowKit
theorem row_loadPart {t : TypeId} {a : Addr} {W : World} {cs : List Value} (ha : ∀ w, (isAgg t).run Tryz.prog w = .ok true w) (hs : ∀ w, (sizeOf t).run Tryz.prog w = .ok cs.length w) (h : ∀ j v, cs[j]? = some v → W.cell? (a.add j) = some v) : (loadVar t a).run Tryz.prog W = .ok (.agg cs.toArray) W := by
  have hl := run_loadCells_list (P := Tryz.prog) W a cs h
  simp [loadVar, ha, hs, hl]
/-- where a row may lie -/
def KRow (Kp : Nat → Prop) {α : Type} (a : Option Addr) (l : List α) : Prop := l = [] ∨ ∃ b o, a = some ⟨b, o, none⟩ ∧ Kp b
theorem TRow.old {Kp : Nat → Prop} {α : Type} {E : Rg.El α} {eb : Nat} {vs : List Value} {w W : World} {a : Option Addr} {l : List α} (h : ERow E w a l) (hk : KRow Kp a l) (hb : Below w.heap.size w W) : TRow Kp E w.heap.size eb vs W a l := by
  rcases h with h | ⟨b, o, h1, h2, h3⟩
  · exact .inl h
  · rcases hk with hk | ⟨b', o', k1, k2⟩
    · exact .inl hk
    · rw [h1] at k1
      cases k1
      exact .inr ⟨b, o, h1, Nat.lt_of_lt_of_le h2 hb.size, h3.below hb h2, .inl ⟨h2, k2⟩⟩
/-- a drive at rest: its rows, and that its window's list has room -/
structure DR (Kp : Nat → Prop) (W : World) (d : Gp.Dr) (p : Pl) : Prop where
  at_ : DAt W d p
  wcap : d.win.l.length ≤ p.wc
  ql : d.queue.length ≤ 100000
  kw : KRow Kp p.w d.win.l
  ka : KRow Kp p.a d.ahead
  kq : KRow Kp p.q d.queue
  kt : KRow Kp p.t d.took
theorem DR.below {Kp : Nat → Prop} {W W' : World} {d : Gp.Dr} {p : Pl} (h : DR Kp W d p) (hb : Below W.heap.size W W') : DR Kp W' d p := ⟨h.at_.below hb, h.wcap, h.ql, h.kw, h.ka, h.kq, h.kt⟩
/-- a drive where nothing was taken -/
def Pl.own (p : Pl) : Pl := { p with t := none, tc := 0 }
theorem DR.end_ {Kp : Nat → Prop} {w W : World} {d : Gp.Dr} {p : Pl} {eb : Nat} (h : DR Kp w d p) (hb : Below w.heap.size w W) (k : Rg.Bk eb [.int .i64 d.letter, .int .i64 d.phase, .bool d.caller, .int .i64 d.step, .int .i64 d.size, .int .i64 d.room, .int .i64 d.win.md, .int .i64 d.win.sz, .int .i64 d.win.bs, .slice p.w d.win.l.length p.wc, .int .i64 d.wants, .slice p.a d.ahead.length p.ac, .string ⟨d.buf.toArray⟩, .int .i64 d.at_, .slice p.q d.queue.length p.qc, .int .i64 d.wait, .int .i64 d.tries, .slice none 0 0, .pointer none, .slice none 0 0, .pointer none, .slice none 0 0] 69 W) (hn : w.heap.size ≤ eb) : EAt Kp w.heap.size W eb (Gp.own d) p.own ⟨.pointer none, .slice none 0 0, .pointer none, .slice none 0 0⟩ [] [] :=
  ⟨k, hn, TRow.old h.at_.win h.kw hb, h.wcap, TRow.old h.at_.ahead h.ka hb, TRow.old h.at_.queue h.kq hb, World.ownsRow_nil _ _ _ _, .inl rfl, BAt.start _ _, .inl rfl, BAt.start _ _, fun g hg => by simp [Value.ownBlock] at hg⟩
end Go.Proofs.YtomldoijcclhhaaGreat
