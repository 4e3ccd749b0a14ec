/-
  Walks of layer 16: keep whole; what stands ready comes. Walks of layer 16: what methods leave while packets are taken: what came early is the end's own.
-/
import Derived.Test.YtlclfkogbfigbaaCuBA
namespace Go.Proofs.Ytlclfkogbfigbaa
open Go.RowKit
theorem IAt.aheadE {Kp : Nat → Prop} {W : World} {eb : Nat} {d : Gp.Dr} {p : Pl} {q : Qv} {S : List UInt8} {C : List Gp.Pc} (h : IAt Kp W eb d p q S C) : ERow fiE W p.a d.ahead := by
  rcases h.ahead with ⟨_, ha⟩ | ⟨g, _, ha⟩
  · exact ha.e
  · exact ha.e
theorem InsP.len {eb : Nat} {W : World} {ag : Option Nat} {l : List Gp.Fi} {e : Ending} {w' : World} (h : InsP eb W ag l e w') : ∃ g' a' c', e = .returned (.slice a' l.length c') ∧ AO w' eb g' a' c' l ∧ l.length ≤ c' ∧ (ag = some g' ∨ W.heap.size ≤ g') ∧ (∀ k, k < W.heap.size → ag ≠ some k → w'.heap[k]? = W.heap[k]?) ∧ Below eb W w' := h
theorem ikeep_any {Kp : Nat → Prop} {W : World} {eb : Nat} {d : Gp.Dr} {p : Pl} {q : Qv} {S : List UInt8} {C : List Gp.Pc} (h : IAt Kp W eb d p q S C) (ho : IOw d p q) (hb : Ip.base d) (f : Gp.Fi) (h1 : 1 ≤ Ip.early d.wants f.nm) (h15 : Ip.early d.wants f.nm ≤ 15) :
    Calls Try.prog 80 #[.pointer (some ⟨eb, 0, none⟩), fiV f] W fun e w' => e = .returned (.tuple #[]) ∧ ∃ p' q', IAt Kp w' eb { d with ahead := Ip.ins d.wants f d.ahead } p' q' S C ∧ IOw { d with ahead := Ip.ins d.wants f d.ahead } p' q' ∧ Below eb W w' := by
  obtain ⟨fk, fn, fa, fc, fb, fd⟩ := f
  dsimp only at h1 h15
  have hn15 : d.ahead.length ≤ 15 := by have := Ip.ok_len (by omega) hb.ah; omega
  obtain ⟨P, hP⟩ : ∃ P, P = Ip.pos d.wants (Ip.early d.wants fn) d.ahead := ⟨_, rfl⟩
  have hPn : P ≤ d.ahead.length := by rw [hP]; exact Ip.pos_le _ _ _
  have hins := Ip.ins_pos (f := ⟨fk, fn, fa, fc, fb, fd⟩) hb.ah
  rw [show Ip.pos d.wants (Ip.early d.wants (⟨fk, fn, fa, fc, fb, fd⟩ : Gp.Fi).nm) d.ahead = P from hP.symm] at hins
  obtain ⟨V, hV⟩ : ∃ V : Nat → Int, V = fun t => if ht : t < d.ahead.length then Ip.early d.wants d.ahead[t].nm - Ip.early d.wants fn else 0 := ⟨_, rfl⟩
  have hVt : ∀ t (ht : t < d.ahead.length), V t = Ip.early d.wants d.ahead[t].nm - Ip.early d.wants fn := fun t ht => by rw [hV]; exact dif_pos ht
  have HV : ∀ t, t < d.ahead.length → (V t < 0 ↔ t < P) := fun t ht => by
    rw [hVt t ht, hP, ← Ip.pos_lt hb.ah t ht]
    omega
  have hBS : ∀ (fnd : Bool), (fnd = (decide (P < d.ahead.length) && decide (V P = 0))) → ∀ W1 PB, Below W.heap.size W W1 → Rg.Bk PB [.pointer (some ⟨eb, 0, none⟩)] 46 W1 → Calls Try.prog 89 #[.slice p.a d.ahead.length p.ac, .agg #[.int .i64 fk, .int .i64 fn, .int .i64 fa, .int .i64 fc, .bool fb, .string fd], .func (.func 90) #[] #[.pointer (some ⟨PB, 0, none⟩)]] W1 fun e w' => e = .returned (.tuple #[.int .i64 (P : Int), .bool fnd]) ∧ Below W1.heap.size W1 w' := fun fnd hf W1 PB hbw kP => by
    have hE1 := h.below hbw
    refine ibs_go p.a p.ac d.ahead.length P d.ahead fk fn fa fc fb fd _ fnd V W1 rfl hn15 hPn hE1.aheadE HV hf fun t ht W2 hb2 => ?_
    have hE2 := hE1.below hb2
    have ha := Ip.ok_all hb.ah t ht
    refine ikeepC_go PB eb d.wants d.ahead[t].kd d.ahead[t].nm d.ahead[t].ak d.ahead[t].ch d.ahead[t].ca d.ahead[t].data fk fn fa fc fb fd (Ip.early d.wants d.ahead[t].nm) (Ip.early d.wants fn) (V t) W2 ((kP.below hb2 kP.lt).cell 0) (hE2.bk.cell 10) (kP.below hb2 kP.lt).lt hE2.bk.lt ?_ (fun W3 => iearly_any _ _ _ _ _ _ _ W3) (fun W3 => iearly_any _ _ _ _ _ _ _ W3)
    rw [hVt t ht, IntKind.wrap_i64]
    omega
  by_cases hfd : ∃ hp : P < d.ahead.length, Ip.early d.wants d.ahead[P].nm = Ip.early d.wants fn
  · obtain ⟨hp, he⟩ := hfd
    rw [dif_pos hp, if_pos he] at hins
    rw [hins]
    refine (ikeep_found eb d.ahead.length P p.a p.ac fk fn fa fc fb fd W (h.bk.cell 11) h.bk.lt (hBS true ?_)).mono fun e w' ⟨x1, x2⟩ => ⟨x1, p, q, h.below x2, ho, x2.mono (Nat.le_of_lt h.bk.lt)⟩
    rw [hVt P hp, he, decide_eq_true hp, decide_eq_true (by omega)]
    rfl
  · have hins2 : Ip.ins d.wants ⟨fk, fn, fa, fc, fb, fd⟩ d.ahead = d.ahead.take P ++ ⟨fk, fn, fa, fc, fb, fd⟩ :: d.ahead.drop P := by
      rw [hins]
      split
      · rename_i hp
        rw [if_neg (fun he => hfd ⟨hp, he⟩)]
      · rfl
    rw [hins2]
    refine ikeep_new eb d.ahead.length P p.a p.ac fk fn fa fc fb fd W _ (h.bk.cell 11) h.bk.lt (hBS false ?_) fun W1 vb hbw kV hvb => ?_
    · by_cases hp : P < d.ahead.length
      · rw [hVt P hp, decide_eq_true hp, decide_eq_false (fun x => hfd ⟨hp, by omega⟩)]
        rfl
      · rw [decide_eq_false hp]
        rfl
    · have hE1 := h.below hbw
      have kV' : Rg.Bk vb (fiE.enc ⟨fk, fn, fa, fc, fb, fd⟩) 63 W1 := kV
      have key : ∀ e w', InsP eb W1 q.ag (d.ahead.take P ++ ⟨fk, fn, fa, fc, fb, fd⟩ :: d.ahead.drop P) e w' → (∀ g, q.ag = some g → eb < g ∧ g < W.heap.size) → ∃ a' n1 c', e = .returned (.slice a' n1 c') ∧ Hid (∃ x, w'.cell? ⟨eb, 11, none⟩ = some x) ∧ Hid (∀ i, w'.frozen? ⟨eb, i, none⟩ = false) ∧ Hid (∀ k, W.heap.size ≤ k → k < W1.heap.size → w'.heap[k]? = W1.heap[k]?) ∧ Hid ((Ending.returned (.tuple #[])) = .returned (.tuple #[]) ∧ ∃ p' q', IAt Kp (w'.setCell ⟨eb, 11, none⟩ (.slice a' n1 c')) eb { d with ahead := d.ahead.take P ++ ⟨fk, fn, fa, fc, fb, fd⟩ :: d.ahead.drop P } p' q' S C ∧ IOw { d with ahead := d.ahead.take P ++ ⟨fk, fn, fa, fc, fb, fd⟩ :: d.ahead.drop P } p' q' ∧ Below eb W (w'.setCell ⟨eb, 11, none⟩ (.slice a' n1 c'))) := by
        intro e w' hI hag
        obtain ⟨g', a', c', x1, hA, hc, hg, hk, hbel⟩ := hI.len
        have hkb : w'.heap[eb]? = W1.heap[eb]? := hk eb hE1.bk.lt (fun e => by have := (hag eb e).1; omega)
        have hbk := hE1.bk.same hkb
        refine ⟨a', _, c', x1, ⟨_, hbk.cell 11⟩, hbk.thaw, fun k k1 k2 => hk k k2 (fun e => by have := (hag k e).2; omega), rfl, _, _, hE1.setAhead hbel hk hA hc hg, fun e => (by cases e), ?_⟩
        exact ((hbw.mono (Nat.le_of_lt h.bk.lt)).trans hbel).trans (below_set eb 11 _)
      rcases h.ahead with ⟨e0, _⟩ | ⟨g, eg, hao⟩
      · obtain ⟨hl, hc⟩ := ho e0
        have hP0 : P = 0 := by rw [hl] at hPn; simpa using hPn
        have hz : d.ahead.length = 0 := by rw [hl]; rfl
        rw [hz, hc, hP0]
        refine (insert_empty p.a ⟨fk, fn, fa, fc, fb, fd⟩ vb hE1.bk.lt kV').mono fun e w' hI => ?_
        have := key e w' (by rw [e0, hl, hP0]; exact hI) (fun g eg => by rw [e0] at eg; cases eg)
        rw [hP0] at this
        exact this
      · obtain ⟨o, CC, ea, hF⟩ := (hao.kept (W' := W1) (hbw.block g hao.lt)).fo h.acap
        rw [ea]
        have hlt := hao.lt
        refine (insert_own hF hao.1 P ⟨fk, fn, fa, fc, fb, fd⟩ vb hn15 hPn kV' (by omega)).mono fun e w' hI => ?_
        exact key e w' (by rw [eg]; exact hI) (fun g2 e2 => by rw [eg] at e2; cases e2; exact ⟨hao.1, hlt⟩)
namespace Ip
open Gp (Dr Pc Fi)
theorem drain_stop {d : Dr} {l : List Pc} (h : ∀ g r, d.ahead = g :: r → g.nm ≠ d.wants) : ∀ m, drain m d l = (d, l)
  | 0 => rfl
  | m + 1 => by
    unfold drain
    cases ha : d.ahead with
    | nil => rfl
    | cons g r => dsimp only; rw [if_neg (h g r ha)]
theorem drain_go {d : Dr} {l : List Pc} {g : Fi} {r : List Fi} (ha : d.ahead = g :: r) (hw : g.nm = d.wants) (m : Nat) : drain (m + 1) d l = drain m { d with wants := (d.wants + 1) % 32, ahead := r } (l ++ [⟨g.ch, g.data⟩]) := by
  rw [drain, ha]
  dsimp only
  rw [if_pos hw]
end Ip
/-- what the loop of takeData finds -/
structure DI (Kp : Nat → Prop) (eb : Nat) (S : List UInt8) (C : List Gp.Pc) (R : Gp.Dr × List Gp.Pc) (W : World) (wr : World) (d1 : Gp.Dr) (p1 : Pl) (q1 : Qv) (m : Nat) (l1 : List Gp.Pc) : Prop where
  at_ : IAt Kp wr eb d1 p1 q1 S (C ++ l1)
  ow : IOw d1 p1 q1
  fuel : d1.ahead.length ≤ m
  math : Ip.drain m d1 l1 = R
  bel : Below eb W wr
  wn : 0 ≤ d1.wants ∧ d1.wants ≤ 31
  len : l1.length + d1.ahead.length ≤ 16
/-- how many came early, as the cell tells -/
def iaheadLen (eb : Nat) (wr : World) : Nat := match wr.cell? ⟨eb, 11, none⟩ with
  | some (.slice _ n _) => n
  | _ => 0
theorem IAt.aheadLen {Kp : Nat → Prop} {W : World} {eb : Nat} {d : Gp.Dr} {p : Pl} {q : Qv} {S : List UInt8} {C : List Gp.Pc} (h : IAt Kp W eb d p q S C) : iaheadLen eb W = d.ahead.length := by
  have e : W.cell? ⟨eb, 11, none⟩ = some (.slice p.a d.ahead.length p.ac) := h.bk.cell 11
  unfold iaheadLen
  rw [e]
theorem DI.drewN {Kp : Nat → Prop} {eb : Nat} {S : List UInt8} {C : List Gp.Pc} {R : Gp.Dr × List Gp.Pc} {W wr : World} {d1 : Gp.Dr} {p1 : Pl} {q1 : Qv} {m : Nat} {l1 : List Gp.Pc} (h : DI Kp eb S C R W wr d1 p1 q1 m l1) (n : Nat) : DI Kp eb S C R W (wr.drewN n) d1 p1 q1 m l1 :=
  ⟨h.at_.drewN n, h.ow, h.fuel, h.math, Rg.drewN h.bel n, h.wn, h.len⟩
theorem fi_tail {C : Array Value} {o : Nat} {f : Gp.Fi} {l : List Gp.Fi} (h : ∀ t u, (fiE.flat (f :: l))[t]? = some u → C[o + t]? = some u) : ∀ t u, (fiE.flat l)[t]? = some u → C[o + 6 + t]? = some u := fun t u ht => by
  have e : fiE.flat (f :: l) = fiE.enc f ++ fiE.flat l := fiE.flat_cons f l
  rw [e] at h
  have := h (6 + t) u (by rw [List.getElem?_append_right (by rw [fi_enc]; omega), fi_enc]; simpa using ht)
  rw [← Nat.add_assoc] at this
  exact this
theorem AO.tail {W : World} {eb g o c : Nat} {f : Gp.Fi} {l : List Gp.Fi} (h : AO W eb g (some ⟨g, o, none⟩) c (f :: l)) (hc : l.length + 1 ≤ c) (oo : Nat) (ho : oo = o + 6 ∨ (oo = o ∧ c = 1)) : AO W eb g (some ⟨g, oo, none⟩) (c - 1) l := by
  obtain ⟨h1, o', cur, h2, h3, h4, h5⟩ := h
  cases h2
  refine ⟨h1, oo, cur, rfl, h3, ⟨?_, by omega⟩, fun t u ht => ?_⟩
  · rcases ho with rfl | ⟨rfl, rfl⟩ <;> omega
  · rcases ho with rfl | ⟨rfl, rfl⟩
    · exact fi_tail h5 t u ht
    · have : l = [] := List.eq_nil_of_length_eq_zero (by omega)
      subst this
      simp [Rg.El.flat_nil] at ht
end Go.Proofs.Ytlclfkogbfigbaa

namespace Go.Proofs.Ytlclfkogbfigbaa
open Go.RowKit
/-- what a method leaves while packets are taken -/
def IPO (Kp : Nat → Prop) (eb : Nat) (W : World) (d : Gp.Dr) (S : List UInt8) (C : List Gp.Pc) (e : Ending) (w' : World) : Prop := e = .returned (.tuple #[]) ∧ ∃ p q, IAt Kp w' eb d p q S C ∧ IOw d p q ∧ Below eb W w'
theorem IPostP.o {Kp : Nat → Prop} {eb : Nat} {W : World} {d : Gp.Dr} {p : Pl} {ag : Option Nat} {cv : Value} {S : List UInt8} {C : List Gp.Pc} {e : Ending} {w' : World} (h : IPostP Kp eb W d p ag cv S C e w') (ho : ag = none → d.ahead = [] ∧ p.ac = 0) : IPO Kp eb W d S C e w' := by
  obtain ⟨h1, ⟨s, sb, h2⟩, h3⟩ := h
  exact ⟨h1, p, _, h2, ho, h3.bel⟩
theorem IPO.id {Kp : Nat → Prop} {W : World} {eb : Nat} {d : Gp.Dr} {p : Pl} {q : Qv} {S : List UInt8} {C : List Gp.Pc} {F : Nat} {args : Array Value} (h : IAt Kp W eb d p q S C) (ho : IOw d p q) (hc : Calls Try.prog F args W fun e w' => e = .returned (.tuple #[]) ∧ w' = W) : Calls Try.prog F args W fun e w' => IPO Kp eb W d (S ++ []) C e w' := hc.mono fun e w' ⟨h1, h2⟩ => by
  subst h2
  rw [List.append_nil]
  exact ⟨h1, p, q, h, ho, Below.refl _ _⟩
theorem IPO.go {Kp : Nat → Prop} {eb : Nat} {W W1 : World} {d : Gp.Dr} {p : Pl} {ag : Option Nat} {cv : Value} {S : List UInt8} {C : List Gp.Pc} {F : Nat} {args : Array Value} (f : Below eb W W1) (ho : ag = none → d.ahead = [] ∧ p.ac = 0) (h : Calls Try.prog F args W1 fun e w' => IPostP Kp eb W1 d p ag cv S C e w') : Calls Try.prog F args W1 fun e w' => e = .returned (.tuple #[]) ∧ IPO Kp eb W d S C (.returned (.tuple #[])) w' := h.mono fun e w' hp => by
  obtain ⟨x1, p', q', x2, x3, x4⟩ := hp.o ho
  exact ⟨x1, rfl, p', q', x2, x3, f.trans x4⟩
theorem IPO.from {Kp : Nat → Prop} {eb : Nat} {W W1 : World} {d : Gp.Dr} {S : List UInt8} {C : List Gp.Pc} {e : Ending} {w' : World} (h : IPO Kp eb W1 d S C e w') (f : Below eb W W1) : IPO Kp eb W d S C e w' := by
  obtain ⟨x1, p', q', x2, x3, x4⟩ := h
  exact ⟨x1, p', q', x2, x3, f.trans x4⟩
theorem itakeClose_o {Kp : Nat → Prop} {W : World} {eb : Nat} {d : Gp.Dr} {p : Pl} {q : Qv} {S : List UInt8} {C : List Gp.Pc} (h : IAt Kp W eb d p q S C) (ho : IOw d p q) (hr : Ip.right d) (hlen : S.length + 6 ≤ 140737488355328) :
    Calls Try.prog 42 #[.pointer (some ⟨eb, 0, none⟩)] W fun e w' => IPO Kp eb W (Ip.closes d).1 (S ++ (Ip.closes d).2) C e w' := by
  have hw := hr.1.wn
  have hph : d.phase = 1 ∨ d.phase = 2 ∨ d.phase = 3 ∨ d.phase = 4 ∨ d.phase = 5 := by
    rcases hr.2 with ⟨h, _⟩ | ⟨h, _⟩ | h | h | h <;> omega
  unfold Ip.closes
  by_cases p3 : d.phase = 3
  · rw [if_pos p3]
    refine (itakeClose_closing eb d.step W (by rw [← p3]; exact h.bk.cell 1) (h.bk.cell 3) h.bk.thaw).mono fun e w' ⟨h1, h2⟩ => ?_
    subst h2
    rw [List.append_nil]
    exact ⟨h1, p, q, (h.upd 1 (.int .i64 4) { d with phase := 4 } rfl rfl rfl rfl rfl).upd 3 (.int .i64 0) { d with phase := 4, step := 0 } rfl rfl rfl rfl rfl, ho, (below_set eb _ _).trans (below_set eb _ _)⟩
  rw [if_neg p3]
  by_cases p4 : d.phase = 4
  · rw [if_pos p4]
    have c1 : W.cell? ⟨eb, 1, none⟩ = some (.int .i64 4) := by rw [← p4]; exact h.bk.cell 1
    by_cases s1 : d.step = 1
    · rw [if_pos s1]
      exact itakeClose_more eb W _ c1 (by rw [← s1]; exact h.bk.cell 3) (IPO.go (Below.refl _ _) ho (isayClose_any h hw hlen))
    · rw [if_neg s1]
      exact IPO.id h ho (itakeClose_closed eb d.step W c1 (h.bk.cell 3) (by simpa using s1))
  rw [if_neg p4]
  by_cases p5 : d.phase = 5
  · rw [if_pos p5]
    exact IPO.id h ho (itakeClose_failed eb W (by rw [← p5]; exact h.bk.cell 1))
  · rw [if_neg p5]
    refine itakeClose_open h d.phase rfl (by omega) _ fun W1 hh f => ?_
    exact IPO.go f ho (isayClose_any hh hw hlen)
set_option maxHeartbeats 2000000 in
set_option maxRecDepth 100000 in
theorem iacknowledge_goO {Kp : Nat → Prop} {W : World} {eb : Nat} {d : Gp.Dr} {p : Pl} {q : Qv} {S : List UInt8} {C : List Gp.Pc} (h : IAt Kp W eb d p q S C) (n : Int) (X : Wn.W) (K xn : Nat) (hxn : Hid (X.l.length = xn)) (bK : Bool) (hK : decide (0 < K) = bK) (Post : Ending → World → Prop) (ln : Nat) (hln : Hid (d.win.l.length = ln))
    (HA : Hid (Calls Try.prog 76 #[.agg #[.int .i64 d.win.md, .int .i64 d.win.sz, .int .i64 d.win.bs, .slice p.w ln p.wc], .int .i64 n] W fun e w' => ∃ a c, e = .returned (.tuple #[.agg #[.int .i64 X.md, .int .i64 X.sz, .int .i64 X.bs, .slice a xn c], .int .i64 (K : Int)]) ∧ Hid (IAt Kp w' eb d p q S C) ∧ Hid (Below eb W w') ∧ Hid (TRow Kp strE eb eb (ivs d p q) w' a X.l) ∧ Hid (X.l.length ≤ c)))
    (HP : Hid (∀ W1 aa cc, IAt Kp W1 eb { d with win := X, tries := if 0 < K then 0 else d.tries } { p with w := aa, wc := cc } q S C → Below eb W W1 → Post (.returned (.tuple #[])) W1)) :
    Calls Try.prog 63 #[.pointer (some ⟨eb, 0, none⟩), .int .i64 n] W Post := by
  have c6 : W.cell? ⟨eb, 6, none⟩ = some (.int .i64 d.win.md) := h.bk.cell 6
  have c7 : W.cell? ⟨eb, 7, none⟩ = some (.int .i64 d.win.sz) := h.bk.cell 7
  have c8 : W.cell? ⟨eb, 8, none⟩ = some (.int .i64 d.win.bs) := h.bk.cell 8
  have c9 : W.cell? ⟨eb, 9, none⟩ = some (.slice p.w ln p.wc) := by rw [← hln.out]; exact h.bk.cell 9
  have hK1 : decide ((0 : Int) < (K : Int)) = bK := by rw [← hK]; simp
  generalize d.win.md = wm at *
  generalize d.win.sz = ws at *
  generalize d.win.bs = wb at *
  clear h
  go_enter Try.func63, Try.ntmps63
  go_upto_region 2 with (go_at_call 76; refine HA.out.mono ?_; rintro e w2 ⟨a, c, rfl, h2, f2, hr, hc⟩; have e6 : w2.cell? ⟨eb, 6, none⟩ = some (.int .i64 d.win.md) := h2.out.bk.cell 6; have e7 : w2.cell? ⟨eb, 7, none⟩ = some (.int .i64 d.win.sz) := h2.out.bk.cell 7; have e8 : w2.cell? ⟨eb, 8, none⟩ = some (.int .i64 d.win.bs) := h2.out.bk.cell 8; have e9 : w2.cell? ⟨eb, 9, none⟩ = some (.slice p.w d.win.l.length p.wc) := h2.out.bk.cell 9; have fz := h2.out.bk.thaw)
  have hw := Rg.hid (h2.out.setW X a c hr.out hc.out)
  rw [hxn.out] at hw
  unfold SetI at hw
  generalize World.setCell _ _ _ = w3 at *
  have f3 := Rg.hid (f2.out.trans hw.out.2)
  have h3 := Rg.hid hw.out.1
  clear e6 e7 e8 e9 fz c6 c7 c8 c9 HA h2 hw hr hc f2
  cases bK with
  | true =>
    have hK2 : 0 < K := of_decide_eq_true hK
    have c16 : w3.cell? ⟨eb, 16, none⟩ = some (.int .i64 d.tries) := h3.out.bk.cell 16
    have fz := h3.out.bk.thaw
    have h4 := Rg.hid (h3.out.upd 16 (.int .i64 0) { d with win := X, tries := 0 } rfl rfl rfl rfl rfl)
    have f4 := Rg.hid (f3.out.trans (below_set eb 16 (.int .i64 0)))
    clear h3 f3
    go_wp2
    generalize World.setCell _ _ _ = w4 at *
    go_end0
    exact HP.out w4 a c (by rw [if_pos hK2]; exact h4.out) f4.out
  | false =>
    have hK2 : ¬ 0 < K := of_decide_eq_false hK
    go_wp2
    go_end0
    exact HP.out w3 a c (by rw [if_neg hK2]; exact h3.out) f3.out
theorem iacknowledge_o {Kp : Nat → Prop} {W : World} {eb : Nat} {d : Gp.Dr} {p : Pl} {q : Qv} {S : List UInt8} {C : List Gp.Pc} (h : IAt Kp W eb d p q S C) (ho : IOw d p q) (n : Int) :
    Calls Try.prog 63 #[.pointer (some ⟨eb, 0, none⟩), .int .i64 n] W fun e w' => IPO Kp eb W (Gp.acked d n) S C e w' := by
  refine iacknowledge_goO h n (Wn.ack d.win n).1 (Wn.ack d.win n).2 _ rfl _ rfl _ _ rfl ?_ (fun W1 aa cc h1 f1 => ⟨rfl, _, q, h1, ho, f1⟩)
  refine (ack_anyN d.win p.w p.wc n W ⟨h.win.e, h.wcap⟩).mono fun e w' ⟨a, c, h1, h2, h3, h4⟩ => ⟨a, c, h1, h.below h3, h3.mono (Nat.le_of_lt h.bk.lt), ?_, h2.cap⟩
  rcases h4 with ⟨e1, e2, e3⟩ | h4
  · rw [e1, e2]; exact (h.below h3).win
  · exact h.row h2.row h4
set_option maxHeartbeats 2000000 in
set_option maxRecDepth 100000 in
theorem iagree_o {Kp : Nat → Prop} {W : World} {eb : Nat} {d : Gp.Dr} {p : Pl} {q : Qv} {S : List UInt8} {C : List Gp.Pc} (h : IAt Kp W eb d p q S C) (ho : IOw d p q) (z r Z R : Int) (d1 : (z == 0) = false) (d2 : (r == 0) = false) (m1 : min d.size z = Z) (m2 : min d.room r = R) (hR : 1 ≤ R ∧ R ≤ 16) :
    Calls Try.prog 60 #[.pointer (some ⟨eb, 0, none⟩), .int .i64 z, .int .i64 r] W fun e w' => IPO Kp eb W { d with size := Z, room := R, phase := 2, step := -1, tries := 0, win := ⟨32, R, 1, []⟩ } S C e w' := by
  have c4 : W.cell? ⟨eb, 4, none⟩ = some (.int .i64 d.size) := h.bk.cell 4
  have c5 : W.cell? ⟨eb, 5, none⟩ = some (.int .i64 d.room) := h.bk.cell 5
  have fz := h.bk.thaw
  have eB : Wn.begin_ 32 R 1 = (⟨32, R, 1, []⟩, 0) := if_pos (by omega)
  have h5 := Rg.hid ((h.upd 4 (.int .i64 Z) { d with size := Z } rfl rfl rfl rfl rfl).upd 5 (.int .i64 R) { d with size := Z, room := R } rfl rfl rfl rfl rfl).drew
  have f5 : Hid (Below eb W ((W.setCell ⟨eb, 4, none⟩ (.int .i64 Z)).setCell ⟨eb, 5, none⟩ (.int .i64 R)).drew) := ((below_set eb _ _).trans (below_set eb _ _)).drew
  have HB : Hid (∀ W1, IAt Kp W1 eb { d with size := Z, room := R, phase := 2, step := -1, tries := 0 } p q S C → Calls Try.prog 75 #[.int .i64 32, .int .i64 R, .int .i64 1] W1 fun e w' => e = .returned (.tuple #[.agg #[.int .i64 32, .int .i64 R, .int .i64 1, .slice none 0 0], .int .i64 0]) ∧ Hid (IAt Kp w' eb { d with size := Z, room := R, phase := 2, step := -1, tries := 0 } p q S C) ∧ Hid (Below eb W1 w')) := fun W1 hh => by
    have := begin_any 32 R 1 W1
    unfold BPost at this
    rw [eB] at this
    exact this.mono fun e w' ⟨x1, x2⟩ => ⟨x1, hh.below x2, x2.mono (Nat.le_of_lt hh.bk.lt)⟩
  clear h eB hR
  generalize d.size = ds at *
  generalize d.room = dr at *
  go_enter Try.func60, Try.ntmps60
  go_upto_region 1 with fail
  go_region
  generalize World.drew _ = w1 at *
  clear c4 c5 fz m1 m2
  have c1 : w1.cell? ⟨eb, 1, none⟩ = some (.int .i64 d.phase) := h5.out.bk.cell 1
  have c3 : w1.cell? ⟨eb, 3, none⟩ = some (.int .i64 d.step) := h5.out.bk.cell 3
  have c16 : w1.cell? ⟨eb, 16, none⟩ = some (.int .i64 d.tries) := h5.out.bk.cell 16
  have fz := h5.out.bk.thaw
  have h8 := Rg.hid (((h5.out.upd 1 (.int .i64 2) { d with size := Z, room := R, phase := 2 } rfl rfl rfl rfl rfl).upd 3 (.int .i64 (-1)) { d with size := Z, room := R, phase := 2, step := -1 } rfl rfl rfl rfl rfl).upd 16 (.int .i64 0) { d with size := Z, room := R, phase := 2, step := -1, tries := 0 } rfl rfl rfl rfl rfl)
  have f8 := Rg.hid (((f5.out.trans (below_set eb 1 (.int .i64 2))).trans (below_set eb 3 (.int .i64 (-1)))).trans (below_set eb 16 (.int .i64 0)))
  clear h5 f5
  go_upto_region 3 with fail
  generalize World.setCell _ _ _ = w2 at *
  clear c1 c3 c16 fz
  have c5 : w2.cell? ⟨eb, 5, none⟩ = some (.int .i64 R) := h8.out.bk.cell 5
  go_wp2_with (go_at_call 75; refine (HB.out _ h8.out).mono ?_; rintro e w3 ⟨rfl, h2, f2⟩; have e6 : w3.cell? ⟨eb, 6, none⟩ = some (.int .i64 d.win.md) := h2.out.bk.cell 6; have e7 : w3.cell? ⟨eb, 7, none⟩ = some (.int .i64 d.win.sz) := h2.out.bk.cell 7; have e8 : w3.cell? ⟨eb, 8, none⟩ = some (.int .i64 d.win.bs) := h2.out.bk.cell 8; have e9 : w3.cell? ⟨eb, 9, none⟩ = some (.slice p.w d.win.l.length p.wc) := h2.out.bk.cell 9; have fz := h2.out.bk.thaw)
  go_end0
  have hw := h2.out.setW ⟨32, R, 1, []⟩ none 0 TRow.nil (Nat.le_refl _)
  exact ⟨rfl, _, q, hw.1, ho, (f8.out.trans f2.out).trans hw.2⟩
theorem itakeSync_o {Kp : Nat → Prop} {W : World} {eb : Nat} {d : Gp.Dr} {p : Pl} {q : Qv} {S : List UInt8} {C : List Gp.Pc} (h : IAt Kp W eb d p q S C) (ho : IOw d p q) (hr : Ip.right d) (data : List UInt8) (hlen : S.length + 13 ≤ 140737488355328) :
    Calls Try.prog 41 #[.pointer (some ⟨eb, 0, none⟩), .string ⟨data.toArray⟩] W fun e w' => IPO Kp eb W (Ip.opens d data).1 (S ++ (Ip.opens d data).2) C e w' := by
  by_cases hl : data.length = 3
  · match data, hl with
    | [a, b, c], _ =>
      have hsz : (⟨[a, b, c].toArray⟩ : ByteArray).size = 3 := rfl
      have h3 : (((⟨[a, b, c].toArray⟩ : ByteArray).size : Int) != 3) = false := by rw [hsz]; rfl
      unfold Ip.opens
      dsimp only
      by_cases p1 : d.phase = 1
      · rw [if_pos p1]
        have c1 : W.cell? ⟨eb, 1, none⟩ = some (.int .i64 1) := by rw [← p1]; exact h.bk.cell 1
        have H2 := fun W => iget2_any ⟨[a, b, c].toArray⟩ hsz a b rfl rfl W
        have H1 := fun W => iget1_any ⟨[a, b, c].toArray⟩ hsz c rfl W
        refine itakeSync_opening eb _ _ _ W _ h3 c1 H2 H1 ?_
        by_cases hz : a.toNat * 256 + b.toNat = 0 ∨ c.toNat = 0
        · rw [if_pos hz, List.append_nil]
          refine (iagree_no eb _ _ _ _ W rfl rfl ?_).mono fun e w' ⟨h1, h2⟩ => ⟨h1, rfl, p, q, by rw [h2]; exact h, ho, by rw [h2]; exact Below.refl _ _⟩
          rcases hz with hz | hz
          · left; rw [hz]; rfl
          · right; rw [hz]; rfl
        · rw [if_neg hz, List.append_nil]
          have hrm := Ip.min_rng (b := (c.toNat : Int)) hr.1.rm (by omega)
          have eB : (Wn.begin_ 32 (min d.room (c.toNat : Int)) 1).1 = ⟨32, min d.room (c.toNat : Int), 1, []⟩ := by
            rw [show Wn.begin_ 32 (min d.room (c.toNat : Int)) 1 = (⟨32, min d.room (c.toNat : Int), 1, []⟩, 0) from if_pos (by omega)]
          rw [eB]
          refine (iagree_o h ho _ _ _ _ ?_ ?_ rfl rfl hrm).mono fun e w' hp => ⟨hp.1, rfl, hp.2⟩
          · rw [beq_eq_false_iff_ne]; omega
          · rw [beq_eq_false_iff_ne]; omega
      · rw [if_neg p1]
        by_cases p2 : d.phase = 2
        · rw [if_pos p2]
          have c1 : W.cell? ⟨eb, 1, none⟩ = some (.int .i64 2) := by rw [← p2]; exact h.bk.cell 1
          by_cases hw : d.wait % 2 = 1
          · rw [if_pos hw]
            exact IPO.id h ho (itakeSync_quiet eb _ W h3 c1 (imayRepeat_n h hr.1.wt hw))
          · rw [if_neg hw]
            refine itakeSync_again eb _ W (fun w' => IAt Kp w' eb { d with wait := Gp.or1 d.wait } p q S C ∧ Below eb W w') _ h3 c1 ((imayRepeat_y h hr.1.wt hw).mono fun e w' ⟨h1, h2, h3⟩ => ⟨h1, h2, h3⟩) fun W1 ⟨h1, f1⟩ => ?_
            exact IPO.go f1 ho (isaySync_any h1 (Ip.base_wait hr.1 (Gp.wait1 hr.1.wt.1 hr.1.wt.2)) hlen)
        · rw [if_neg p2]
          exact IPO.id h ho (itakeSync_other eb _ d.phase W h3 (h.bk.cell 1) (by simpa using p1) (by simpa using p2))
  · have e : Ip.opens d data = (d, []) := by
      unfold Ip.opens
      split
      · rename_i a b c
        exact absurd rfl hl
      · rfl
    rw [e]
    refine IPO.id h ho (itakeSync_len eb _ W ?_)
    have : (⟨data.toArray⟩ : ByteArray).size = data.length := Ip.size_bytes data
    rw [this, bne_iff_ne]
    omega
theorem itakeNak_o {Kp : Nat → Prop} {W : World} {eb : Nat} {d : Gp.Dr} {p : Pl} {q : Qv} {S : List UInt8} {C : List Gp.Pc} (h : IAt Kp W eb d p q S C) (ho : IOw d p q) (hb : Ip.base d) (n : Int) (hn : 0 ≤ n ∧ n ≤ 31) (hlen : S.length + 4200 ≤ 140737488355328) :
    Calls Try.prog 64 #[.pointer (some ⟨eb, 0, none⟩), .int .i64 n] W fun e w' => IPO Kp eb W d (S ++ Ip.naked d n) C e w' := by
  have HF := find_any d.win p.w p.wc n W ⟨h.win.e, h.wcap⟩
  unfold Wn.findV at HF
  unfold Ip.naked
  cases hf : Wn.find d.win n with
  | none =>
    rw [hf] at HF
    dsimp only at HF ⊢
    rw [List.append_nil]
    exact (itakeNak_none eb n _ _ _ _ _ _ W (fun w' => IAt Kp w' eb d p q S C ∧ Below eb W w') (h.bk.cell 6) (h.bk.cell 7) (h.bk.cell 8) (h.bk.cell 9) (HF.mono fun e w' ⟨h1, h2⟩ => ⟨h1, h.below h2, h2.mono (Nat.le_of_lt h.bk.lt)⟩)).mono fun e w' ⟨h1, h2, h3⟩ => ⟨h1, p, q, h2, ho, h3⟩
  | some s =>
    rw [hf] at HF
    dsimp only at HF ⊢
    have hs := hb.wi s (Wn.find_mem hf)
    exact itakeNak_some eb n _ _ _ _ _ _ s W (fun w' => IAt Kp w' eb d p q S C ∧ Below eb W w') _ (h.bk.cell 6) (h.bk.cell 7) (h.bk.cell 8) (h.bk.cell 9) (HF.mono fun e w' ⟨h1, h2⟩ => ⟨h1, h.below h2, h2.mono (Nat.le_of_lt h.bk.lt)⟩) fun W1 ⟨h1, f1⟩ => IPO.go f1 ho (isayText_any h1 hb n hn s hs hlen)
end Go.Proofs.Ytlclfkogbfigbaa
