/-
  Walks of layer 16: keep whole; what stands ready comes. Walks of layer 16: what methods leave while packets are taken: what came early is the end's own. Walks of layer 16: takeData. Walks of layer 16: takeData whole, takeOther, take. Walks of layer 16: takeOther whole, take. Walks of layer 16: slices.Clone of the packets that came early; lengths. Walks of layer 12: what a head says; the data behind it. Walks of layer 12: Read, where it refuses at once. Walks of layer 16: what was taken is noted; packets, one behind the other. Walks of layer 16: Feed's closure.
-/
import Derived.Test.YtomldoijcclhhaaGreatSkAX
import Derived.Test.YtomldoijcclhhaaGreatSkAU
import Derived.Test.YtomldoijcclhhaaGreatSkAV
import Derived.Test.YtomldoijcclhhaaGreatSkAW
import Derived.WalkMore
import Derived.Deep.RegionLaw
namespace Go.Proofs.YtomldoijcclhhaaGreat
open Go.RowKit
theorem InsP.len {eb : Nat} {W : World} {ag : Option Nat} {l : List Gp.Fi} {e : Ending} {w' : World} (h : InsP eb W ag l e w') : ∃ g' a' c', e = .returned (.slice a' l.length c') ∧ AO w' eb g' a' c' l ∧ l.length ≤ c' ∧ (ag = some g' ∨ W.heap.size ≤ g') ∧ (∀ k, k < W.heap.size → ag ≠ some k → w'.heap[k]? = W.heap[k]?) ∧ Below eb W w' := h
namespace Ip
open Gp (Dr Pc Fi)
theorem drain_go {d : Dr} {l : List Pc} {g : Fi} {r : List Fi} (ha : d.ahead = g :: r) (hw : g.nm = d.wants) (m : Nat) : drain (m + 1) d l = drain m { d with wants := (d.wants + 1) % 32, ahead := r } (l ++ [⟨g.ch, g.data⟩]) := by
  rw [drain, ha]
  dsimp only
  rw [if_pos hw]
end Ip
/-- what the loop of takeData finds -/
structure DI (Kp : Nat → Prop) (eb : Nat) (S : List UInt8) (C : List Gp.Pc) (R : Gp.Dr × List Gp.Pc) (W : World) (wr : World) (d1 : Gp.Dr) (p1 : Pl) (q1 : Qv) (m : Nat) (l1 : List Gp.Pc) : Prop where
  at_ : IAt Kp wr eb d1 p1 q1 S (C ++ l1)
  ow : IOw d1 p1 q1
  fuel : d1.ahead.length ≤ m
  math : Ip.drain m d1 l1 = R
  bel : Below eb W wr
  wn : 0 ≤ d1.wants ∧ d1.wants ≤ 31
  len : l1.length + d1.ahead.length ≤ 16
/-- how many came early, as the cell tells -/
def iaheadLen (eb : Nat) (wr : World) : Nat := match wr.cell? ⟨eb, 11, none⟩ with
  | some (.slice _ n _) => n
  | _ => 0
theorem IAt.aheadLen {Kp : Nat → Prop} {W : World} {eb : Nat} {d : Gp.Dr} {p : Pl} {q : Qv} {S : List UInt8} {C : List Gp.Pc} (h : IAt Kp W eb d p q S C) : iaheadLen eb W = d.ahead.length := by
  have e : W.cell? ⟨eb, 11, none⟩ = some (.slice p.a d.ahead.length p.ac) := h.bk.cell 11
  unfold iaheadLen
  rw [e]
theorem DI.drewN {Kp : Nat → Prop} {eb : Nat} {S : List UInt8} {C : List Gp.Pc} {R : Gp.Dr × List Gp.Pc} {W wr : World} {d1 : Gp.Dr} {p1 : Pl} {q1 : Qv} {m : Nat} {l1 : List Gp.Pc} (h : DI Kp eb S C R W wr d1 p1 q1 m l1) (n : Nat) : DI Kp eb S C R W (wr.drewN n) d1 p1 q1 m l1 :=
  ⟨h.at_.drewN n, h.ow, h.fuel, h.math, Rg.drewN h.bel n, h.wn, h.len⟩
theorem fi_tail {C : Array Value} {o : Nat} {f : Gp.Fi} {l : List Gp.Fi} (h : ∀ t u, (fiE.flat (f :: l))[t]? = some u → C[o + t]? = some u) : ∀ t u, (fiE.flat l)[t]? = some u → C[o + 6 + t]? = some u := fun t u ht => by
  have e : fiE.flat (f :: l) = fiE.enc f ++ fiE.flat l := fiE.flat_cons f l
  rw [e] at h
  have := h (6 + t) u (by rw [List.getElem?_append_right (by rw [fi_enc]; omega), fi_enc]; simpa using ht)
  rw [← Nat.add_assoc] at this
  exact this
theorem AO.tail {W : World} {eb g o c : Nat} {f : Gp.Fi} {l : List Gp.Fi} (h : AO W eb g (some ⟨g, o, none⟩) c (f :: l)) (hc : l.length + 1 ≤ c) (oo : Nat) (ho : oo = o + 6 ∨ (oo = o ∧ c = 1)) : AO W eb g (some ⟨g, oo, none⟩) (c - 1) l := by
  obtain ⟨h1, o', cur, h2, h3, h4, h5⟩ := h
  cases h2
  refine ⟨h1, oo, cur, rfl, h3, ⟨?_, by omega⟩, fun t u ht => ?_⟩
  · rcases ho with rfl | ⟨rfl, rfl⟩ <;> omega
  · rcases ho with rfl | ⟨rfl, rfl⟩
    · exact fi_tail h5 t u ht
    · have : l = [] := List.eq_nil_of_length_eq_zero (by omega)
      subst this
      simp [Rg.El.flat_nil] at ht
end Go.Proofs.YtomldoijcclhhaaGreat

namespace Go.Proofs.YtomldoijcclhhaaGreat
open Go.RowKit
/-- what a method leaves while packets are taken -/
def IPO (Kp : Nat → Prop) (eb : Nat) (W : World) (d : Gp.Dr) (S : List UInt8) (C : List Gp.Pc) (e : Ending) (w' : World) : Prop := e = .returned (.tuple #[]) ∧ ∃ p q, IAt Kp w' eb d p q S C ∧ IOw d p q ∧ Below eb W w'
theorem IPostP.o {Kp : Nat → Prop} {eb : Nat} {W : World} {d : Gp.Dr} {p : Pl} {ag : Option Nat} {cv : Value} {S : List UInt8} {C : List Gp.Pc} {e : Ending} {w' : World} (h : IPostP Kp eb W d p ag cv S C e w') (ho : ag = none → d.ahead = [] ∧ p.ac = 0) : IPO Kp eb W d S C e w' := by
  obtain ⟨h1, ⟨s, sb, h2⟩, h3⟩ := h
  exact ⟨h1, p, _, h2, ho, h3.bel⟩
theorem IPO.id {Kp : Nat → Prop} {W : World} {eb : Nat} {d : Gp.Dr} {p : Pl} {q : Qv} {S : List UInt8} {C : List Gp.Pc} {F : Nat} {args : Array Value} (h : IAt Kp W eb d p q S C) (ho : IOw d p q) (hc : Calls Tryz.prog F args W fun e w' => e = .returned (.tuple #[]) ∧ w' = W) : Calls Tryz.prog F args W fun e w' => IPO Kp eb W d (S ++ []) C e w' := hc.mono fun e w' ⟨h1, h2⟩ => by
  subst h2
  rw [List.append_nil]
  exact ⟨h1, p, q, h, ho, Below.refl _ _⟩
theorem IPO.go {Kp : Nat → Prop} {eb : Nat} {W W1 : World} {d : Gp.Dr} {p : Pl} {ag : Option Nat} {cv : Value} {S : List UInt8} {C : List Gp.Pc} {F : Nat} {args : Array Value} (f : Below eb W W1) (ho : ag = none → d.ahead = [] ∧ p.ac = 0) (h : Calls Tryz.prog F args W1 fun e w' => IPostP Kp eb W1 d p ag cv S C e w') : Calls Tryz.prog F args W1 fun e w' => e = .returned (.tuple #[]) ∧ IPO Kp eb W d S C (.returned (.tuple #[])) w' := h.mono fun e w' hp => by
  obtain ⟨x1, p', q', x2, x3, x4⟩ := hp.o ho
  exact ⟨x1, rfl, p', q', x2, x3, f.trans x4⟩
theorem IPO.from {Kp : Nat → Prop} {eb : Nat} {W W1 : World} {d : Gp.Dr} {S : List UInt8} {C : List Gp.Pc} {e : Ending} {w' : World} (h : IPO Kp eb W1 d S C e w') (f : Below eb W W1) : IPO Kp eb W d S C e w' := by
  obtain ⟨x1, p', q', x2, x3, x4⟩ := h
  exact ⟨x1, p', q', x2, x3, f.trans x4⟩
end Go.Proofs.YtomldoijcclhhaaGreat

namespace Go.Proofs.YtomldoijcclhhaaGreat
open Go.RowKit
theorem DI.start {Kp : Nat → Prop} {eb : Nat} {S : List UInt8} {C : List Gp.Pc} {R : Gp.Dr × List Gp.Pc} {W wr : World} {d : Gp.Dr} {p : Pl} {q : Qv} {x : Gp.Pc} {cv : Value} (h4 : IAt Kp wr eb { d with wants := (d.wants + 1) % 32 } p { q with cv := cv } S (C ++ [x])) (ho : IOw d p q) (hR : Ip.drain d.ahead.length { d with wants := (d.wants + 1) % 32 } [x] = R) (hb : Below eb W wr) (_hw : 0 ≤ d.wants ∧ d.wants ≤ 31) (hn15 : d.ahead.length ≤ 15) : ∃ d1 p1 q1 m l1, DI Kp eb S C R W wr d1 p1 q1 m l1 :=
  ⟨_, p, _, d.ahead.length, [x], h4, ho, Nat.le_refl _, hR, hb, by show 0 ≤ (d.wants + 1) % 32 ∧ (d.wants + 1) % 32 ≤ 31; omega, by show 1 + d.ahead.length ≤ 16; omega⟩
/-- one more came -/
theorem DI.next {Kp : Nat → Prop} {eb : Nat} {S : List UInt8} {C : List Gp.Pc} {R : Gp.Dr × List Gp.Pc} {W wr w6 w7 : World} {d1 : Gp.Dr} {p1 : Pl} {q1 : Qv} {m : Nat} {l1 : List Gp.Pc} (h : DI Kp eb S C R W wr d1 p1 q1 m l1) {g : Gp.Fi} {r : List Gp.Fi} (ha : d1.ahead = g :: r) (hg : g.nm = d1.wants) {cv : Value} (f6 : Below eb wr w6) {gb : Nat} {a' : Option Addr} {c' n' : Nat} (hn : r.length = n') (hf : Below eb w6 w7)
    (h7 : IAt Kp w7 eb { d1 with wants := (d1.wants + 1) % 32, ahead := r } { p1 with a := a', ac := c' } { q1 with cv := cv, ag := some gb } S (C ++ l1 ++ [⟨g.ch, g.data⟩])) : (∃ d2 p2 q2 m2 l2, DI Kp eb S C R W w7 d2 p2 q2 m2 l2) ∧ iaheadLen eb w7 = n' := by
  have hfu := h.fuel
  have hl := h.len
  have hm := h.math
  have hwn := h.wn
  rw [ha, List.length_cons] at hfu hl
  obtain ⟨m', rfl⟩ : ∃ m', m = m' + 1 := ⟨m - 1, by omega⟩
  rw [Ip.drain_go ha hg] at hm
  refine ⟨⟨_, _, _, m', l1 ++ [⟨g.ch, g.data⟩], by rw [← List.append_assoc]; exact h7, fun e => (by cases e), by show r.length ≤ m'; omega, hm, (h.bel.trans f6).trans hf, by show 0 ≤ (d1.wants + 1) % 32 ∧ (d1.wants + 1) % 32 ≤ 31; omega, by rw [List.length_append, List.length_singleton]; show l1.length + 1 + r.length ≤ 16; omega⟩, ?_⟩
  rw [h7.aheadLen]
  exact hn
end Go.Proofs.YtomldoijcclhhaaGreat

namespace Go.Proofs.YtomldoijcclhhaaGreat
open Go.RowKit
/-- what a method leaves that takes a packet -/
def IPC (Kp : Nat → Prop) (eb : Nat) (W : World) (r : Gp.Dr × List UInt8 × List Gp.Pc) (S : List UInt8) (C : List Gp.Pc) (e : Ending) (w' : World) : Prop := e = .returned (.tuple #[]) ∧ ∃ p q, IAt Kp w' eb r.1 p q (S ++ r.2.1) (C ++ r.2.2) ∧ IOw r.1 p q ∧ Below eb W w'
theorem IPO.c {Kp : Nat → Prop} {eb : Nat} {W : World} {d : Gp.Dr} {o : List UInt8} {S : List UInt8} {C : List Gp.Pc} {e : Ending} {w' : World} (h : IPO Kp eb W d (S ++ o) C e w') : IPC Kp eb W (d, o, []) S C e w' := by
  obtain ⟨h1, p, q, h2, h3, h4⟩ := h
  exact ⟨h1, p, q, by rw [List.append_nil]; exact h2, h3, h4⟩
theorem IPC.from {Kp : Nat → Prop} {eb : Nat} {W W1 : World} {r : Gp.Dr × List UInt8 × List Gp.Pc} {S : List UInt8} {C : List Gp.Pc} {e : Ending} {w' : World} (h : IPC Kp eb W1 r S C e w') (f : Below eb W W1) : IPC Kp eb W r S C e w' := by
  obtain ⟨h1, p, q, h2, h3, h4⟩ := h
  exact ⟨h1, p, q, h2, h3, f.trans h4⟩
end Go.Proofs.YtomldoijcclhhaaGreat

namespace Go.Proofs.YtomldoijcclhhaaGreat
open Go.RowKit
/-- a packet from the other end -/
def Ip.take1 (d : Gp.Dr) (f : If.Fr) : Gp.Dr × List UInt8 × List Gp.Pc :=
  if f.kd = 1 then ((Ip.opens d f.data).1, (Ip.opens d f.data).2, [])
  else if f.kd = 5 then ((Ip.closes d).1, (Ip.closes d).2, [])
  else Ip.takes2 d f
theorem Ip.takes_1 (d : Gp.Dr) (f : If.Fr) : Ip.takes d f = if f.ca = d.caller then (d, [], []) else Ip.take1 { d with wait := Gp.or2 d.wait } f := rfl
end Go.Proofs.YtomldoijcclhhaaGreat

namespace Go.Proofs.YtomldoijcclhhaaGreat
open Go.RowKit
namespace Ip
open Gp (Dr Pc Fi)
theorem sync_len (d : Dr) : (sync d).length ≤ 20 := by
  unfold sync pk
  rw [If.text_len]
  show 6 + If.bsz 3 ≤ 20
  decide
theorem opens_len (d : Dr) (data : List UInt8) : (opens d data).2.length ≤ 20 := by
  unfold opens
  split
  · split
    · split
      · exact Nat.zero_le _
      · exact Nat.zero_le _
    · split
      · split
        · exact Nat.zero_le _
        · exact sync_len _
      · exact Nat.zero_le _
  · exact Nat.zero_le _
theorem closes_len (d : Dr) : (closes d).2.length ≤ 20 := by
  unfold closes
  split
  · exact Nat.zero_le _
  split
  · dsimp only
    split
    · rw [pk_len]; decide
    · exact Nat.zero_le _
  split
  · exact Nat.zero_le _
  · show (pk d 5 0 0 []).length ≤ 20
    rw [pk_len]; decide
theorem drain_len : ∀ (n : Nat) (d : Dr) (l : List Pc), (drain n d l).2.length ≤ l.length + n
  | 0, _, _ => Nat.le_refl _
  | n + 1, d, l => by
    unfold drain
    split
    · exact Nat.le_add_right _ _
    · rename_i g r _
      split
      · have := drain_len n { d with wants := (d.wants + 1) % 32, ahead := r } (l ++ [⟨g.ch, g.data⟩])
        rw [List.length_append, List.length_singleton] at this
        omega
      · exact Nat.le_add_right _ _
theorem orders_len {d : Dr} (hb : base d) (f : If.Fr) : (orders d f).2.1.length ≤ 20 ∧ (orders d f).2.2.length ≤ 16 := by
  have hl := ok_len (by omega) hb.ah
  unfold orders
  dsimp only
  split
  · refine ⟨by rw [pk_len]; decide, ?_⟩
    have := drain_len d.ahead.length { d with wants := (d.wants + 1) % 32 } [⟨f.ch, ⟨f.data.toArray⟩⟩]
    rw [List.length_singleton] at this
    exact Nat.le_trans this (by omega)
  split
  · split
    · exact ⟨Nat.zero_le _, Nat.zero_le _⟩
    · exact ⟨by rw [pk_len]; decide, Nat.zero_le _⟩
  · exact ⟨by rw [pk_len]; decide, Nat.zero_le _⟩
theorem takes2_len {d : Dr} (h : right d) (f : If.Fr) : (takes2 d f).2.1.length ≤ 4200 ∧ (takes2 d f).2.2.length ≤ 16 := by
  unfold takes2
  split
  · exact ⟨by rw [pk_len]; decide, Nat.zero_le _⟩
  split
  · exact ⟨Nat.zero_le _, Nat.zero_le _⟩
  rename_i h3 h2
  have hp2 : d.phase = 2 := Classical.byContradiction fun x => h2 x
  have hr : runs d := by
    rcases h.2 with ⟨h, _⟩ | ⟨_, h⟩ | h | h | h
    · omega
    · exact h
    all_goals omega
  obtain ⟨ab, ar⟩ := right_acked h.1 hr f.ak
  generalize Gp.acked d f.ak = e at *
  dsimp only
  split
  · split
    · rename_i s hs
      exact ⟨ipacket_len ab.sz.2 (ab.wi s (Wn.find_mem hs)), Nat.zero_le _⟩
    · exact ⟨Nat.zero_le _, Nat.zero_le _⟩
  split
  · have := orders_len ab f
    exact ⟨by omega, this.2⟩
  · exact ⟨Nat.zero_le _, Nat.zero_le _⟩
theorem take1_len {d : Dr} (h : right d) (f : If.Fr) : (take1 d f).2.1.length ≤ 4200 ∧ (take1 d f).2.2.length ≤ 16 := by
  unfold take1
  split
  · have := opens_len d f.data
    exact ⟨by dsimp only; omega, Nat.zero_le _⟩
  split
  · have := closes_len d
    exact ⟨by dsimp only; omega, Nat.zero_le _⟩
  · exact takes2_len h f
theorem takes_len {d : Dr} (h : right d) (f : If.Fr) : (takes d f).2.1.length ≤ 4200 ∧ (takes d f).2.2.length ≤ 16 := by
  rw [takes_1]
  split
  · exact ⟨Nat.zero_le _, Nat.zero_le _⟩
  · exact take1_len (right_wait h (Gp.wait2 h.1.wt.1 h.1.wt.2)) f
end Ip
end Go.Proofs.YtomldoijcclhhaaGreat

namespace Go.Proofs.YtomldoijcclhhaaGreat
open Go.RowKit
/-- What readBody answers. -/
def If.rb (n : Nat) (r : List UInt8) : List UInt8 × Nat := if r.length < If.bsz n then ([], 2) else if If.body (r.take n) = r.take (If.bsz n) then (r.take n, 0) else ([], 4)
namespace If
end If
end Go.Proofs.YtomldoijcclhhaaGreat

namespace Go.Proofs.YtomldoijcclhhaaGreat
open Go.RowKit
namespace If
def resV : Res → Value
  | .ok x => .tuple #[.agg #[.int .i64 x.1.kd, .int .i64 x.1.nm, .int .i64 x.1.ak, .int .i64 x.1.ch, .bool x.1.ca, .string ⟨x.1.data.toArray⟩], .int .i64 (x.2 : Nat), .int .i64 0]
  | .error e => .tuple #[.agg #[.int .i64 0, .int .i64 0, .int .i64 0, .int .i64 0, .bool false, .string ⟨#[]⟩], .int .i64 0, .int .i64 (e : Nat)]
end If
end Go.Proofs.YtomldoijcclhhaaGreat

namespace Go.Proofs.YtomldoijcclhhaaGreat
open Go.RowKit
/-- what an append to Took leaves -/
structure Took2 (Kp : Nat → Prop) (eb : Nat) (W : World) (d : Gp.Dr) (p : Pl) (q : Qv) (S : List UInt8) (C : List Gp.Pc) (x y : Int) (n1 : Nat) (v' : Value) (W2 : World) : Prop where
  v : ∃ g cap, v' = .slice (some ⟨g, 0, none⟩) n1 cap ∧ IAt Kp (W2.setCell ⟨eb, 17, none⟩ (.slice (some ⟨g, 0, none⟩) n1 cap)) eb { d with took := d.took ++ [(x, y)] } { p with t := some ⟨g, 0, none⟩, tc := cap } q S C
  bel : Below eb W W2
  c17 : W2.cell? ⟨eb, 17, none⟩ = some (.slice p.t d.took.length p.tc)
  fz : ∀ i, W2.frozen? ⟨eb, i, none⟩ = false
  bk : Rg.Bk eb (IC d p q) 81 W2
  keep : ∀ k, k < W.heap.size → (Value.slice p.t d.took.length p.tc).ownBlock ≠ some k → W2.heap[k]? = W.heap[k]?
/-- what a round of takePackets finds -/
structure TJ (Kp : Nat → Prop) (eb : Nat) (d1 : Gp.Dr) (L0 : Nat) (S0 : List UInt8) (C0 : List Gp.Pc) (W wr : World) (dm : Gp.Dr) (p : Pl) (q : Qv) (Si : List UInt8) (Ci : List Gp.Pc) (f : Nat) : Prop where
  at_ : IAt Kp wr eb dm p q Si Ci
  ow : IOw dm p q
  bel : Below eb W wr
  math : ∃ out came, Si = S0 ++ out ∧ Ci = C0 ++ came ∧ Ip.feedN f dm out came = Ip.feedN (L0 + 1) d1 [] []
  rt : Ip.right dm
  fuel : dm.buf.length < f
  mx : dm.at_ + dm.buf.length ≤ 1099511627776
  bl : dm.buf.length ≤ L0
  ls : Si.length ≤ S0.length + 4200 * (L0 - dm.buf.length)
  lc : Ci.length ≤ C0.length + 16 * (L0 - dm.buf.length)
  lt : dm.took.length ≤ L0 - dm.buf.length
/-- the drive behind what was found is noted, and cut off -/
def Ip.noted (d : Gp.Dr) : Gp.Dr := { d with took := d.took ++ [(d.at_ + ((If.scan 0 d.buf).a : Int), d.at_ + ((If.scan 0 d.buf).b : Int))], buf := d.buf.drop (If.scan 0 d.buf).b, at_ := d.at_ + ((If.scan 0 d.buf).b : Int) }
theorem iright_noted {d : Gp.Dr} (h : Ip.right d) (ha : d.at_ + d.buf.length ≤ 1099511627776) (hs : (If.scan 0 d.buf).ok = true) : Ip.right (Ip.noted d) ∧ If.ok (If.scan 0 d.buf).f ∧ (If.scan 0 d.buf).b ≤ d.buf.length ∧ 6 ≤ (If.scan 0 d.buf).b ∧ (If.scan 0 d.buf).a ≤ (If.scan 0 d.buf).b := by
  obtain ⟨i, n, h1, h2, h3, h4, h5⟩ := Ip.scan_yes d.buf 0 hs
  have hat : d.at_ + ((If.scan 0 d.buf).b : Int) = d.at_ + ((i + n : Nat) : Int) := by rw [h2]; omega
  have b := h.1
  have ba := b.at_
  exact ⟨⟨⟨b.lt, b.sz, b.rm, b.wn, ⟨by show 0 ≤ d.at_ + _; omega, by show d.at_ + _ ≤ _; rw [hat]; omega⟩, b.wt, b.tr, b.qu, b.wi, b.ah⟩, by
    rcases h.2 with x | ⟨x, y⟩ | x | x | x
    · exact .inl x
    · exact .inr (.inl ⟨x, ⟨y.st, y.md, y.ws, y.bs, y.ln⟩⟩)
    · exact .inr (.inr (.inl x))
    · exact .inr (.inr (.inr (.inl x)))
    · exact .inr (.inr (.inr (.inr x)))⟩, (If.text_read h3).1, by omega, by omega, by omega⟩
/-- a packet was taken -/
theorem TJ.next {Kp : Nat → Prop} {eb : Nat} {d1 : Gp.Dr} {L0 : Nat} {S0 : List UInt8} {C0 : List Gp.Pc} {W wr : World} {dm : Gp.Dr} {p : Pl} {q : Qv} {Si : List UInt8} {Ci : List Gp.Pc} {f : Nat} (h : TJ Kp eb d1 L0 S0 C0 W wr dm p q Si Ci f) (hs : (If.scan 0 dm.buf).ok = true) {w2 : World} (hb : Below eb W w2) {p' : Pl} {q' : Qv}
    (he : IAt Kp w2 eb (Ip.takes (Ip.noted dm) (If.scan 0 dm.buf).f).1 p' q' (Si ++ (Ip.takes (Ip.noted dm) (If.scan 0 dm.buf).f).2.1) (Ci ++ (Ip.takes (Ip.noted dm) (If.scan 0 dm.buf).f).2.2)) (ho : IOw (Ip.takes (Ip.noted dm) (If.scan 0 dm.buf).f).1 p' q') :
    (∃ f', TJ Kp eb d1 L0 S0 C0 W w2 (Ip.takes (Ip.noted dm) (If.scan 0 dm.buf).f).1 p' q' (Si ++ (Ip.takes (Ip.noted dm) (If.scan 0 dm.buf).f).2.1) (Ci ++ (Ip.takes (Ip.noted dm) (If.scan 0 dm.buf).f).2.2) f') ∧ (Ip.takes (Ip.noted dm) (If.scan 0 dm.buf).f).1.buf.length < dm.buf.length := by
  obtain ⟨hr, hok, hle, h6, _⟩ := iright_noted h.rt h.mx hs
  have hT := Ip.right_takes hr hok
  have hK := Ip.takes_keeps (Ip.noted dm) (If.scan 0 dm.buf).f
  have hL := Ip.takes_len hr (If.scan 0 dm.buf).f
  have hbl : (Ip.noted dm).buf.length = dm.buf.length - (If.scan 0 dm.buf).b := by show (dm.buf.drop _).length = _; rw [List.length_drop]
  have hat : (Ip.noted dm).at_ = dm.at_ + ((If.scan 0 dm.buf).b : Int) := rfl
  obtain ⟨out, came, e1, e2, e3⟩ := h.math
  have hf := h.fuel
  obtain ⟨f', rfl⟩ : ∃ f', f = f' + 1 := ⟨f - 1, by omega⟩
  have hm := h.mx
  have hbl0 := h.bl
  have hls := h.ls
  have hlc := h.lc
  have hlt := h.lt
  have h1 := hL.1
  have h2 := hL.2
  refine ⟨⟨f', he, ho, hb, ⟨_, _, by rw [e1, List.append_assoc], by rw [e2, List.append_assoc], ?_⟩, hT, by rw [hK.2.1, hbl]; omega, by rw [hK.1, hK.2.1, hbl, hat]; omega, by rw [hK.2.1, hbl]; omega, ?_, ?_, ?_⟩, by rw [hK.2.1, hbl]; omega⟩
  · rw [← e3]
    conv => rhs; unfold Ip.feedN
    dsimp only
    rw [if_pos hs]
    rfl
  · rw [List.length_append, hK.2.1, hbl]; omega
  · rw [List.length_append, hK.2.1, hbl]; omega
  · rw [hK.2.2.2, hK.2.1, hbl]
    show (dm.took ++ [_]).length ≤ _
    rw [List.length_append, List.length_singleton]
    omega
end Go.Proofs.YtomldoijcclhhaaGreat

namespace Go.Proofs.YtomldoijcclhhaaGreat
open Go.RowKit
namespace Ip
end Ip
theorem icat_bytes (a b : List UInt8) : (⟨a.toArray⟩ : ByteArray) ++ (⟨b.toArray⟩ : ByteArray) = ⟨(a ++ b).toArray⟩ := by
  apply ByteArray.ext
  simp [ByteArray.data_append]
end Go.Proofs.YtomldoijcclhhaaGreat
