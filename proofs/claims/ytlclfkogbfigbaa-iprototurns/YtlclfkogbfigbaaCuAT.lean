/-
  Walks of layer 16: sendWaiting.
-/
import Derived.Test.YtlclfkogbfigbaaCuAS
namespace Go.Proofs.Ytlclfkogbfigbaa
open Go.RowKit
/-- rows that lie in no block from m to ahead of n -/
structure JNB (m n : Nat) (d : Gp.Dr) (p : Pl) (cv : Value) : Prop where
  w : d.win.l = [] ∨ ∃ b o, p.w = some ⟨b, o, none⟩ ∧ (b < m ∨ n ≤ b)
  q : d.queue = [] ∨ ∃ b o, p.q = some ⟨b, o, none⟩ ∧ (b < m ∨ n ≤ b)
  a : d.ahead = [] ∨ ∃ b o, p.a = some ⟨b, o, none⟩ ∧ (b < m ∨ n ≤ b)
  c : ∀ g, cv.ownBlock = some g → g < m ∨ n ≤ g
theorem TRow.jnb {Kp : Nat → Prop} {α : Type} {E : Rg.El α} {base eb n : Nat} {vs : List Value} {W : World} {a : Option Addr} {l : List α} (h : TRow Kp E base eb vs W a l) : l = [] ∨ ∃ b o, a = some ⟨b, o, none⟩ ∧ (b < W.heap.size ∨ n ≤ b) := by
  rcases h with h | ⟨b, o, h1, h2, _⟩
  · exact .inl h
  · exact .inr ⟨b, o, h1, .inl h2⟩
theorem IAt.nb {Kp : Nat → Prop} {W : World} {eb : Nat} {d : Gp.Dr} {p : Pl} {q : Qv} {S : List UInt8} {C : List Gp.Pc} (h : IAt Kp W eb d p q S C) (n : Nat) : JNB W.heap.size n d p q.cv := by
  refine ⟨h.win.jnb, h.queue.jnb, ?_, fun g hg => .inl (h.came.lt g hg).2⟩
  rcases h.ahead with ⟨_, ha⟩ | ⟨g, _, ha⟩
  · exact ha.jnb
  · have hlt := ha.lt
    obtain ⟨_, o, cur, h2, _⟩ := ha
    exact .inr ⟨g, o, h2, .inl hlt⟩
theorem TRow.istore {Kp : Nat → Prop} {α : Type} {E : Rg.El α} {base eb m n g i : Nat} {vs : List Value} {W : World} {a : Option Addr} {l : List α} {v : Value} (h : TRow Kp E base eb vs W a l) (hn : l = [] ∨ ∃ b o, a = some ⟨b, o, none⟩ ∧ (b < m ∨ n ≤ b)) (h1 : m ≤ g) (h2 : g < n) : TRow Kp E base eb vs (W.setCell ⟨g, i, none⟩ v) a l := by
  rcases h with h | ⟨b, o, e1, e2, e3, e4⟩
  · exact .inl h
  · rcases hn with hn | ⟨b', o', k1, k2⟩
    · exact .inl hn
    · rw [e1] at k1
      cases k1
      exact .inr ⟨b, o, e1, by simpa [World.setCell] using e2, e3.same (Below.heap_setCell _ _ _ _ (by show b ≠ g; omega)), e4⟩
/-- a store into a row of pieces of one's own -/
theorem IAt.other {m n g i : Nat} {CG : List Value} {Kp : Nat → Prop} {W : World} {eb : Nat} {d : Gp.Dr} {p : Pl} {q : Qv} {S : List UInt8} {C : List Gp.Pc} (h : IAt Kp W eb d p q S C) (hn : JNB m n d p q.cv) (k : Rg.Bk g CG 42 W) (h1 : m ≤ g) (h2 : g < n) (v : Value) : IAt Kp (W.setCell ⟨g, i, none⟩ v) eb d p q S C := by
  have hne : eb ≠ g := fun e => by
    have k2 := h.bk
    unfold Rg.Bk at k k2
    rw [e, k] at k2
    cases k2
  have hk : ∀ k, k ≠ g → (W.setCell ⟨g, i, none⟩ v).heap[k]? = W.heap[k]? := fun k hk => Below.heap_setCell _ _ _ _ hk
  refine ⟨h.bk.other hne v, h.win.istore hn.w h1 h2, h.wcap, ?_, h.acap, h.queue.istore hn.q h1 h2, ?_, h.sa, h.said.set k (by decide) v, ?_⟩
  · rcases h.ahead with ⟨e, ha⟩ | ⟨g', e, ha⟩
    · exact .inl ⟨e, ha.istore hn.a h1 h2⟩
    · refine .inr ⟨g', e, ha.kept (hk g' (fun e2 => ?_))⟩
      obtain ⟨_, o, cur, _, h3, _⟩ := ha
      unfold Rg.Bk at k
      rw [e2, k] at h3
      cases h3
  · exact own_kept h.took fun g' hg' => hk g' (fun e2 => own_ne h.took k (by decide) (e := 0) rfl (by rw [hg', e2]))
  · refine own_kept h.came fun g' hg' => hk g' (fun e2 => ?_)
    have := hn.c g' hg'
    omega
theorem Fr.iother {eb g i : Nat} {W W' : World} (h : Fr eb eb W W') (hg : W.heap.size ≤ g) (hb : eb ≤ g) (v : Value) : Fr eb eb W (W'.setCell ⟨g, i, none⟩ v) := by
  refine ⟨h.bel.setCell (p := ⟨g, i, none⟩) hb _, fun k o hk hne ho => ?_⟩
  have hlt := (Array.getElem?_eq_some_iff.1 hk).1
  rw [Below.heap_setCell _ _ _ _ (by show k ≠ g; omega)]
  exact h.oth k o hk hne ho
namespace Ip
theorem fillN_stop {f : Nat} {d : Gp.Dr} {out : List UInt8} (h : d.queue = [] ∨ ¬ (d.win.l.length : Int) < d.win.sz) : fillN (f + 1) d out = (d, out) := by
  unfold fillN
  rcases h with h | h
  · rw [h]
  · cases d.queue with
    | nil => rfl
    | cons p q => dsimp only; rw [if_neg (fun x => h x.2)]
theorem fillN_go {f : Nat} {d : Gp.Dr} {out : List UInt8} {p : Gp.Pc} {q : List Gp.Pc} (hq : d.queue = p :: q) (h2 : d.phase = 2) (hl : (d.win.l.length : Int) < d.win.sz) : fillN (f + 1) d out = fillN f (fill1 d p).1 (out ++ (fill1 d p).2) := by
  rw [fillN, hq]
  dsimp only
  rw [if_pos ⟨h2, hl⟩]
theorem enc_small {g : Int} (h : 0 ≤ g ∧ g ≤ 7) : Utf8.encode g = ⟨#[UInt8.ofNat g.toNat]⟩ := by
  have : g = 0 ∨ g = 1 ∨ g = 2 ∨ g = 3 ∨ g = 4 ∨ g = 5 ∨ g = 6 ∨ g = 7 := by omega
  rcases this with rfl | rfl | rfl | rfl | rfl | rfl | rfl | rfl <;> rfl
/-- the text that goes -/
def goes (dm : Gp.Dr) (x : Gp.Pc) : ByteArray := entry x.ch (x.data.extract 0 (min x.data.size dm.size.toNat))
end Ip
/-- what a round of sendWaiting finds: dm is the drive as the document has it then -/
structure JI (Kp : Nat → Prop) (eb : Nat) (d0 : Gp.Dr) (S : List UInt8) (C : List Gp.Pc) (ag : Option Nat) (cv : Value) (W : World) (w2n : Nat) (wr : World) (dm : Gp.Dr) (p : Pl) (q : Qv) (Si : List UInt8) (f : Nat) (qa : Option Addr) (qc : Nat) : Prop where
  at_ : IAt Kp wr eb { dm with queue := d0.queue } p q Si C
  qv : q.cv = cv ∧ q.ag = ag
  nb : JNB W.heap.size w2n { dm with queue := d0.queue } p cv
  fr : Fr eb eb W wr
  pq : PQ W.heap.size wr qa qc dm.queue
  pn : dm.queue = [] ∨ ∃ g o, qa = some ⟨g, o, none⟩ ∧ g < w2n
  sz : w2n ≤ wr.heap.size
  math : ∃ out, Si = S ++ out ∧ Ip.fillN f dm out = Ip.fill d0
  rt : Ip.right dm
  ph : dm.phase = 2
  fuel : 17 ≤ f + dm.win.l.length
  len : Si.length ≤ S.length + 4200 * dm.win.l.length
theorem JI.runs {Kp : Nat → Prop} {eb : Nat} {d0 : Gp.Dr} {S : List UInt8} {C : List Gp.Pc} {ag : Option Nat} {cv : Value} {W : World} {w2n : Nat} {wr : World} {dm : Gp.Dr} {p : Pl} {q : Qv} {Si : List UInt8} {f : Nat} {qa : Option Addr} {qc : Nat} (h : JI Kp eb d0 S C ag cv W w2n wr dm p q Si f qa qc) : Ip.runs dm := by
  have hp := h.ph
  rcases h.rt.2 with ⟨h, _⟩ | ⟨_, h⟩ | h | h | h
  · omega
  · exact h
  all_goals omega
theorem JI.n16 {Kp : Nat → Prop} {eb : Nat} {d0 : Gp.Dr} {S : List UInt8} {C : List Gp.Pc} {ag : Option Nat} {cv : Value} {W : World} {w2n : Nat} {wr : World} {dm : Gp.Dr} {p : Pl} {q : Qv} {Si : List UInt8} {f : Nat} {qa : Option Addr} {qc : Nat} (h : JI Kp eb d0 S C ag cv W w2n wr dm p q Si f qa qc) : dm.win.l.length ≤ 16 := by
  have hr := h.runs
  have h1 := hr.ws
  have h2 := hr.ln
  have h3 := h.rt.1.rm
  omega
/-- the end: what is there is what the document has -/
theorem JI.stop {Kp : Nat → Prop} {eb : Nat} {d0 : Gp.Dr} {S : List UInt8} {C : List Gp.Pc} {ag : Option Nat} {cv : Value} {W : World} {w2n : Nat} {wr : World} {dm : Gp.Dr} {p : Pl} {q : Qv} {Si : List UInt8} {f : Nat} {qa : Option Addr} {qc : Nat} (h : JI Kp eb d0 S C ag cv W w2n wr dm p q Si f qa qc) (hs : dm.queue = [] ∨ ¬ (dm.win.l.length : Int) < dm.win.sz) : dm = (Ip.fill d0).1 ∧ Si = S ++ (Ip.fill d0).2 := by
  obtain ⟨out, e1, e2⟩ := h.math
  have hf := h.fuel
  have := h.n16
  obtain ⟨f', rfl⟩ : ∃ f', f = f' + 1 := ⟨f - 1, by omega⟩
  rw [Ip.fillN_stop hs] at e2
  rw [← e2]
  exact ⟨rfl, e1⟩
theorem JI.goes_ok {Kp : Nat → Prop} {eb : Nat} {d0 : Gp.Dr} {S : List UInt8} {C : List Gp.Pc} {ag : Option Nat} {cv : Value} {W : World} {w2n : Nat} {wr : World} {dm : Gp.Dr} {p : Pl} {q : Qv} {Si : List UInt8} {f : Nat} {qa : Option Addr} {qc : Nat} (h : JI Kp eb d0 S C ag cv W w2n wr dm p q Si f qa qc) {x : Gp.Pc} {l : List Gp.Pc} (hq : dm.queue = x :: l) : Ip.okText dm.size (Ip.goes dm x) := by
  have hz := h.rt.1.sz
  obtain ⟨p1, p2, p3⟩ := h.rt.1.qu x (by rw [hq]; simp)
  have hk : min x.data.size dm.size.toNat ≤ x.data.size ∧ 0 < min x.data.size dm.size.toNat ∧ ((min x.data.size dm.size.toNat : Nat) : Int) ≤ dm.size := by omega
  obtain ⟨e1, e2⟩ := Ip.entry_parts x.ch (x.data.extract 0 (min x.data.size dm.size.toNat))
  rw [Gp.ex_size _ _ hk.1] at e1
  unfold Ip.goes
  refine ⟨by omega, by show _ ≤ dm.size + 1; omega, ?_⟩
  rw [e2]
  show (UInt8.ofNat x.ch.toNat).toNat ≤ 7
  rw [UInt8.toNat_ofNat']
  omega
/-- a text went: what is there then, but for the queue -/
theorem JI.step {Kp : Nat → Prop} {eb : Nat} {d0 : Gp.Dr} {S : List UInt8} {C : List Gp.Pc} {ag : Option Nat} {cv : Value} {W : World} {w2n : Nat} {wr : World} {dm : Gp.Dr} {p : Pl} {q : Qv} {Si : List UInt8} {f : Nat} {qa : Option Addr} {qc : Nat} (h : JI Kp eb d0 S C ag cv W w2n wr dm p q Si f qa qc) {x : Gp.Pc} {l : List Gp.Pc} (hq : dm.queue = x :: l) (hl : (dm.win.l.length : Int) < dm.win.sz)
    {a : Option Addr} {c : Nat} {s3 sb3 : Value} (hn : New wr a)
    {w4 : World} {qa' : Option Addr} {qc' : Nat} (h4 : IAt Kp w4 eb { dm with queue := d0.queue, win := (Wn.put dm.win (Ip.goes dm x)).1 } { p with w := a, wc := c } ⟨s3, sb3, cv, ag⟩ (Si ++ Ip.packet { dm with queue := d0.queue, win := (Wn.put dm.win (Ip.goes dm x)).1 } (Wn.put dm.win (Ip.goes dm x)).2.1 (Ip.goes dm x)) C) (f4 : Fr eb eb W w4) (hpq : PQ W.heap.size w4 qa' qc' (Gp.cutQ dm.queue (min x.data.size dm.size.toNat))) (hpn : Gp.cutQ dm.queue (min x.data.size dm.size.toNat) = [] ∨ ∃ g o, qa' = some ⟨g, o, none⟩ ∧ g < w2n) (hs4 : w2n ≤ w4.heap.size) :
    ∃ f', JI Kp eb d0 S C ag cv W w2n w4 (Ip.fill1 dm x).1 { p with w := a, wc := c } ⟨s3, sb3, cv, ag⟩ (Si ++ (Ip.fill1 dm x).2) f' qa' qc' := by
  have hrun := h.runs
  have hb := h.rt.1
  have hrt := Ip.runs_rt hb hrun
  have hput := Wn.put_ok hrt (by omega) (Ip.goes dm x)
  have hf := h.fuel
  have h7 := h.n16
  obtain ⟨f', rfl⟩ : ∃ f', f = f' + 1 := ⟨f - 1, by omega⟩
  obtain ⟨fb, fr⟩ := Ip.right_fill1 hb hrun hq hl
  obtain ⟨out, e1, e2⟩ := h.math
  have hplen : (Ip.fill1 dm x).2.length ≤ 4200 := ipacket_len (d := { dm with win := (Wn.put dm.win (Ip.goes dm x)).1 }) (n := (Wn.put dm.win (Ip.goes dm x)).2.1) hb.sz.2 (h.goes_ok hq)
  have hwl : (Ip.fill1 dm x).1.win.l.length = dm.win.l.length + 1 := by
    show (Wn.put dm.win (Ip.goes dm x)).1.l.length = _
    rw [hput]
    simp
  refine ⟨f', h4, ⟨rfl, rfl⟩, ⟨.inr ?_, h.nb.q, h.nb.a, h.nb.c⟩, f4, hpq, hpn, hs4, ⟨out ++ (Ip.fill1 dm x).2, by rw [e1, List.append_assoc], ?_⟩, ⟨fb, .inr (.inl ⟨h.ph, fr⟩)⟩, h.ph, by rw [hwl]; omega, ?_⟩
  · rcases h4.win with e | ⟨b, o, e, _, _, _⟩
    · exfalso
      have e' : (Wn.put dm.win (Ip.goes dm x)).1.l = [] := e
      rw [hput] at e'
      simp at e'
    · refine ⟨b, o, e, .inr ?_⟩
      have := hn b o e
      have := h.sz
      omega
  · rw [← e2, Ip.fillN_go hq h.ph hl]
  · rw [List.length_append, hwl]
    have := h.len
    omega
theorem PQ.fri {b0 base eb : Nat} {W W' : World} {a : Option Addr} {c : Nat} {l : List Gp.Pc} {CE : List Value} (h : PQ base W a c l) (hf : Fr b0 eb W W') (k : Rg.Bk eb CE 51 W) : PQ base W' a c l := by
  refine ⟨h.1, ?_⟩
  rcases h.2 with h2 | ⟨g, o, C, h1, h2, h3, h4⟩
  · exact .inl h2
  · refine .inr ⟨g, o, C, h1, h2, hf.bk h3 (fun e => ?_) (by decide), h4⟩
    subst e
    unfold Rg.Bk at k h3
    rw [k] at h3
    cases h3
set_option maxHeartbeats 1000000 in
set_option maxRecDepth 100000 in
theorem isendWaiting_no (eb : Nat) (ph : Int) (W : World) (c1 : W.cell? ⟨eb, 1, none⟩ = some (.int .i64 ph)) (h : (ph != 2) = true) :
    Calls Try.prog 15 #[.pointer (some ⟨eb, 0, none⟩)] W fun e w' => e = .returned (.tuple #[]) ∧ w' = W := by
  go_enter Try.func15, Try.ntmps15
  go_wp2
  exact bodyPost_ret (v := .tuple #[]) (by simp [results, Try.results15, go_sem]) rfl ⟨rfl, rfl⟩
/-- how many texts the window has, as its cell tells -/
def iwinLen (eb : Nat) (wr : World) : Nat := match wr.cell? ⟨eb, 9, none⟩ with
  | some (.slice _ n _) => n
  | _ => 0
theorem IAt.winLen {Kp : Nat → Prop} {W : World} {eb : Nat} {d : Gp.Dr} {p : Pl} {q : Qv} {S : List UInt8} {C : List Gp.Pc} (h : IAt Kp W eb d p q S C) : iwinLen eb W = d.win.l.length := by
  have e : W.cell? ⟨eb, 9, none⟩ = some (.slice p.w d.win.l.length p.wc) := h.bk.cell 9
  unfold iwinLen
  rw [e]
/-- what the loop of sendWaiting keeps -/
def JR (Kp : Nat → Prop) (eb : Nat) (d0 : Gp.Dr) (S : List UInt8) (C : List Gp.Pc) (ag : Option Nat) (cv : Value) (W : World) (w2n : Nat) (wr : World) (v : Value) (m : Nat) : Prop := ∃ dm p q Si f qa qc, v = .slice qa m qc ∧ dm.queue.length = m ∧ JI Kp eb d0 S C ag cv W w2n wr dm p q Si f qa qc
theorem JI.drewN {Kp : Nat → Prop} {eb : Nat} {d0 : Gp.Dr} {S : List UInt8} {C : List Gp.Pc} {ag : Option Nat} {cv : Value} {W : World} {w2n : Nat} {wr : World} {dm : Gp.Dr} {p : Pl} {q : Qv} {Si : List UInt8} {f : Nat} {qa : Option Addr} {qc : Nat} (h : JI Kp eb d0 S C ag cv W w2n wr dm p q Si f qa qc) (n : Nat) : JI Kp eb d0 S C ag cv W w2n (wr.drewN n) dm p q Si f qa qc :=
  ⟨h.at_.drewN n, h.qv, h.nb, ⟨Rg.drewN h.fr.bel n, fun k o hk hne ho => h.fr.oth k o hk hne ho⟩, h.pq.below (Rg.drewN (Below.refl _ _) n), h.pn, h.sz, h.math, h.rt, h.ph, h.fuel, h.len⟩
theorem JI.below {W' : World} {Kp : Nat → Prop} {eb : Nat} {d0 : Gp.Dr} {S : List UInt8} {C : List Gp.Pc} {ag : Option Nat} {cv : Value} {W : World} {w2n : Nat} {wr : World} {dm : Gp.Dr} {p : Pl} {q : Qv} {Si : List UInt8} {f : Nat} {qa : Option Addr} {qc : Nat} (h : JI Kp eb d0 S C ag cv W w2n wr dm p q Si f qa qc) (hb : Below wr.heap.size wr W') : JI Kp eb d0 S C ag cv W w2n W' dm p q Si f qa qc :=
  ⟨h.at_.below hb, h.qv, h.nb, h.fr.trans (Fr.of hb (Nat.le_of_lt h.at_.bk.lt)), h.pq.below hb, h.pn, Nat.le_trans h.sz hb.size, h.math, h.rt, h.ph, h.fuel, h.len⟩
set_option maxHeartbeats 4000000 in
set_option maxRecDepth 100000 in
theorem isendWaiting_go {Kp : Nat → Prop} {W : World} {eb : Nat} {d : Gp.Dr} {p : Pl} {q : Qv} {S : List UInt8} {C : List Gp.Pc} (h : IAt Kp W eb d p q S C) (hph : d.phase = 2) (Post : Ending → World → Prop) (qn : Nat) (hqn : Hid (d.queue.length = qn))
    (HC : Hid (Calls Try.prog 29 #[.slice p.q qn p.qc] W fun e w' => ∃ v, e = .returned v ∧ Hid (JR Kp eb d S C q.ag q.cv W w'.heap.size w' v qn)))
    (HS : Hid (∀ w2n W1 qa qc dm p1 q1 Si f x l, JI Kp eb d S C q.ag q.cv W w2n W1 dm p1 q1 Si f qa qc → dm.queue = x :: l → (dm.win.l.length : Int) < dm.win.sz → Calls Try.prog 30 #[.pointer (some ⟨eb, 0, none⟩), .string (Ip.goes dm x)] W1 fun e w' => ITPost Kp eb W1 { dm with queue := d.queue, win := (Wn.put dm.win (Ip.goes dm x)).1 } p1 q.ag q.cv (Si ++ Ip.packet { dm with queue := d.queue, win := (Wn.put dm.win (Ip.goes dm x)).1 } (Wn.put dm.win (Ip.goes dm x)).2.1 (Ip.goes dm x)) C e w'))
    (HP : Hid (∀ w2n W1 qa qc m dm p1 q1 Si f, dm.queue.length = m → JI Kp eb d S C q.ag q.cv W w2n W1 dm p1 q1 Si f qa qc → (dm.queue = [] ∨ ¬ (dm.win.l.length : Int) < dm.win.sz) → ∃ x, W1.cell? ⟨eb, 14, none⟩ = some x ∧ (∀ i, W1.frozen? ⟨eb, i, none⟩ = false) ∧ Post (.returned (.tuple #[])) (W1.setCell ⟨eb, 14, none⟩ (.slice qa m qc)))) :
    Calls Try.prog 15 #[.pointer (some ⟨eb, 0, none⟩)] W Post := by
  have c1 : W.cell? ⟨eb, 1, none⟩ = some (.int .i64 2) := by rw [← hph]; exact h.bk.cell 1
  have c14 : W.cell? ⟨eb, 14, none⟩ = some (.slice p.q qn p.qc) := by rw [← hqn.out]; exact h.bk.cell 14
  have hbase := Rg.hid (Nat.le_of_lt h.bk.lt)
  clear h hqn
  go_enter Try.func15, Try.ntmps15
  go_upto_region 2 with (go_at_call 29; refine HC.out.mono ?_; rintro e w2 ⟨v, rfl, hv⟩)
  clear c1 c14 HC
  obtain ⟨w2n, hw2n⟩ : ∃ w2n, w2n = w2.heap.size := ⟨_, rfl⟩
  rw [← hw2n] at hv
  clear hw2n
  go_loopw [2] (fun v wr => ∃ m : Nat, Hid (JR Kp eb d S C q.ag q.cv W w2n wr v m)) (fun _ wr => 17 - iwinLen eb wr)
  case atStart => exact ⟨qn, hv⟩
  case round =>
    obtain ⟨m, hrel⟩ := hrel
    clear hv
    obtain ⟨dm, p2, q2, Si, f, qa, qc, rfl, hm, hfi⟩ := hrel.out
    clear hrel
    have hwlr := Rg.hid hfi.at_.winLen
    replace hm := Rg.hid hm
    replace hfi := Rg.hid hfi
    by_cases hm0 : m = 0
    · subst hm0
      have hq0 : dm.queue = [] := List.eq_nil_of_length_eq_zero hm.out
      clear HS
      go_wp2
      go_quiet (fail)
      replace hfi := Rg.hid (hfi.out.drewN nq)
      generalize World.drewN _ _ = w3 at *
      obtain ⟨x14, c14, fz, hp⟩ := HP.out w2n w3 qa qc 0 dm p2 q2 Si f hm.out hfi.out (.inl hq0)
      clear HP hq0 hm
      go_wp2
      go_end0
      exact hp
    · obtain ⟨x, l, hq⟩ : ∃ x l, dm.queue = x :: l := by
        cases hq : dm.queue with
        | nil => rw [hq] at hm; exact absurd hm.out.symm hm0
        | cons x l => exact ⟨x, l, rfl⟩
      replace hq := Rg.hid hq
      obtain ⟨wl, hwl⟩ : ∃ wl, dm.win.l.length = wl := ⟨_, rfl⟩
      obtain ⟨wz, hwz⟩ : ∃ wz, dm.win.sz = wz := ⟨_, rfl⟩
      have c9 : wr.cell? ⟨eb, 9, none⟩ = some (.slice p2.w wl p2.wc) := by rw [← hwl]; exact hfi.out.at_.bk.cell 9
      have c7 : wr.cell? ⟨eb, 7, none⟩ = some (.int .i64 wz) := by rw [← hwz]; exact hfi.out.at_.bk.cell 7
      have d1 : decide (0 < m) = true := by simp; omega
      by_cases hfull : (wl : Int) < wz
      · have d2 : decide ((wl : Int) < wz) = true := by simpa using hfull
        have hfull2 : Hid ((dm.win.l.length : Int) < dm.win.sz) := by show _ < _; rw [hwl, hwz]; exact hfull
        replace hwl := Rg.hid hwl
        replace hwz := Rg.hid hwz
        clear HP hfull
        go_wp2
        go_quiet (fail)
        replace hfi := Rg.hid (hfi.out.drewN nq)
        generalize World.drewN _ _ = w3 at *
        clear c9 c7 d1 d2
        have hpq := hfi.out.pq
        have hpn := hfi.out.pn
        rw [hq.out] at hpq hpn
        obtain ⟨g, o, CG, e1, g1, kG, y0, y1, y2, y3⟩ := hpq.cons
        have gn : g < w2n := by
          rcases hpn with h | ⟨g', o', e2, h⟩
          · cases h
          · rw [e1] at e2; cases e2; exact h
        subst e1
        have k1 : w3.cell? ⟨g, o + 1, none⟩ = some (.string x.data) := by rw [kG.cell]; exact y1
        have c4 : w3.cell? ⟨eb, 4, none⟩ = some (.int .i64 dm.size) := hfi.out.at_.bk.cell 4
        have iz : (0 : Int) < (m : Int) := by omega
        have hne : Hid (g ≠ eb) := by
          show g ≠ eb
          intro e
          have k2 := hfi.out.at_.bk
          unfold Rg.Bk at kG k2
          rw [← e, kG] at k2
          cases k2
        have hgo : Ip.goes dm x = Ip.entry x.ch (x.data.extract 0 (min x.data.size dm.size.toNat)) := rfl
        obtain ⟨K, hK⟩ : ∃ K, K = min x.data.size dm.size.toNat := ⟨_, rfl⟩
        have hzp := hfi.out.rt.1.sz
        have hmin : min (x.data.size : Int) dm.size = (K : Int) := by omega
        have kz0 : (0 : Int) ≤ (K : Int) := by omega
        have kz1 : (K : Int) ≤ (x.data.size : Int) := by omega
        have kz2 : K ≤ x.data.size := by omega
        have hKz : K ≤ 4095 := by omega
        rw [← hK] at hgo
        have hokx := hfi.out.rt.1.qu x (by rw [hq.out]; simp)
        have hu8 : IntKind.u8.wrap x.ch = x.ch := by rw [IntKind.wrap_u8]; have := hokx.2; omega
        have k0 : w3.cell? ⟨g, o, none⟩ = some (.int .i64 x.ch) := by rw [kG.cell]; exact y0
        have HT0 : Hid (∀ W4, Below w3.heap.size w3 W4 → Calls Try.prog 30 #[.pointer (some ⟨eb, 0, none⟩), .string (Ip.goes dm x)] W4 fun e w' => ITPost Kp eb W4 { dm with queue := d.queue, win := (Wn.put dm.win (Ip.goes dm x)).1 } p2 q.ag q.cv (Si ++ Ip.packet { dm with queue := d.queue, win := (Wn.put dm.win (Ip.goes dm x)).1 } (Wn.put dm.win (Ip.goes dm x)).2.1 (Ip.goes dm x)) C e w') := fun W4 b4 => HS.out w2n W4 _ _ dm p2 q2 Si f x l (hfi.out.below b4) hq.out hfull2.out
        have henc : Utf8.encode x.ch = ⟨#[UInt8.ofNat x.ch.toNat]⟩ := Ip.enc_small hokx.2
        obtain ⟨TX, hTX⟩ : ∃ TX, TX = Ip.goes dm x := ⟨_, rfl⟩
        rw [← hTX] at HT0 hgo
        have hT1 : (⟨#[UInt8.ofNat x.ch.toNat]⟩ : ByteArray) ++ x.data.extract 0 K = TX := hgo.symm
        replace hgo := Rg.hid hgo
        replace hTX := Rg.hid hTX
        replace hK := Rg.hid hK
        replace kG := Rg.hid kG
        replace y0 := Rg.hid y0
        replace y1 := Rg.hid y1
        replace y2 := Rg.hid y2
        replace g1 := Rg.hid g1
        replace gn := Rg.hid gn
        replace y3 := Rg.hid y3
        obtain ⟨D, hD⟩ : ∃ D, D = x.data := ⟨_, rfl⟩
        obtain ⟨z, hz⟩ : ∃ z, z = dm.size := ⟨_, rfl⟩
        obtain ⟨ch, hch⟩ : ∃ ch, ch = x.ch := ⟨_, rfl⟩
        rw [← hD] at k1 hmin kz1 kz2 hT1
        rw [← hz] at c4 hmin
        rw [← hch] at k0 henc hT1 hu8
        replace hD := Rg.hid hD
        replace hz := Rg.hid hz
        replace hch := Rg.hid hch
        clear HS hzp hpq hpn hokx
        have bF := Rg.hid (Rg.al1 w3 (.cells #[.int .i64 ch, .string D] 42))
        have kF : Hid (Rg.Bk w3.heap.size [.int .i64 ch, .string D] 42 (w3.alloc (.cells #[.int .i64 ch, .string D] 42))) := Rg.Bk.new rfl
        have hebF : Hid (eb < w3.heap.size) := hfi.out.at_.bk.lt
        go_upto_region 4 with fail
        have c4F : (w3.alloc (.cells #[.int .i64 ch, .string D] 42)).cell? ⟨eb, 4, none⟩ = some (.int .i64 z) := by rw [← c4]; exact World.cell?_of_block (a := ⟨eb, 4, none⟩) (bF.out.block eb hebF.out)
        generalize World.alloc _ _ = wF at *
        obtain ⟨F, hF0⟩ : ∃ F, F = w3.heap.size := ⟨_, rfl⟩
        rw [← hF0] at kF ⊢
        replace hF0 := Rg.hid hF0
        have fF1 : wF.cell? ⟨F, 1, none⟩ = some (.string D) := kF.out.cell 1
        have fF0 : wF.cell? ⟨F, 0, none⟩ = some (.int .i64 ch) := kF.out.cell 0
        clear k1 k0 c4
        go_wp2
        go_region
        have kF5 : Hid (Rg.Bk F [.int .i64 ch, .string D] 42 wF.drew) := kF.out.drew
        have bF5 := Rg.hid bF.out.drew
        generalize World.drew _ = wG at *
        have fG1 : wG.cell? ⟨F, 1, none⟩ = some (.string D) := kF5.out.cell 1
        have fG0 : wG.cell? ⟨F, 0, none⟩ = some (.int .i64 ch) := kF5.out.cell 0
        have hebG : Hid (eb ≤ wG.heap.size) := Nat.le_trans (Nat.le_of_lt hebF.out) bF5.out.size
        have HT1 : Hid (∀ W4, Below wG.heap.size wG W4 → Calls Try.prog 30 #[.pointer (some ⟨eb, 0, none⟩), .string TX] W4 fun e w' => e = .returned (.tuple #[]) ∧ ∃ a c s' sb', New w3 a ∧ Hid (IAt Kp w' eb { dm with queue := d.queue, win := (Wn.put dm.win TX).1 } { p2 with w := a, wc := c } ⟨s', sb', q.cv, q.ag⟩ (Si ++ Ip.packet { dm with queue := d.queue, win := (Wn.put dm.win TX).1 } (Wn.put dm.win TX).2.1 TX) C) ∧ Hid (Fr eb eb w3 w') ∧ Hid (Fr eb eb wG w')) := fun W4 b4 =>
          (HT0.out W4 (Rg.chain bF5.out b4)).mono fun e w' ⟨e1, a, c, s', sb', n1, h1, f1⟩ => ⟨e1, a, c, s', sb', n1.mono (Nat.le_trans bF5.out.size b4.size), h1, (Fr.of (Rg.chain bF5.out b4) (Nat.le_of_lt hebF.out)).trans f1, (Fr.of b4 hebG.out).trans f1⟩
        have hxs : (D.extract 0 K).size = K := by simp [ByteArray.size_extract]; omega
        have hcs1 : ¬ 9223372036854775807 < 1 + (D.extract 0 K).size := by rw [hxs]; omega
        have hcs2 : ¬ 9223372036854775806 < (D.extract 0 K).size := by rw [hxs]; omega
        have hcs3 : (⟨#[UInt8.ofNat ch.toNat]⟩ : ByteArray).size + (D.extract 0 K).size ≤ 9223372036854775807 := by rw [hxs]; show 1 + K ≤ _; omega
        have hcs4 : ¬ 9223372036854775807 < 1 + min K D.size := by omega
        have hcs5 : ¬ 9223372036854775806 < min K D.size := by omega
        clear hxs
        clear fF0 fF1 kF bF HT0 hmin c4F
        go_wp2
        go_region_with (go_at_call 30; refine (HT1.out _ (by first | exact Below.refl _ _ | exact (Below.refl _ _).drew)).mono ?_; rintro e w4 ⟨rfl, a4, b4, s4, sb4, hn4, h4, f4, f4G⟩)
        all_goals (
          rw [hTX.out] at h4
          replace hn4 := Rg.hid hn4
          have hneF : Hid (F ≠ eb) := fun e => by have h1 := hF0.out; have h2 := hebF.out; omega
          have k1F : w4.cell? ⟨F, 1, none⟩ = some (.string D) := (f4G.out.bk kF5.out hneF.out (by decide)).cell 1
          have kG4 := Rg.hid (f4.out.bk kG.out hne.out (by decide))
          have f5 := Rg.hid (hfi.out.fr.trans f4.out)
          have hm1 : Hid (m = l.length + 1) := by show _ = _; rw [← hm.out, hq.out]; rfl
          have hsz := Rg.hid (Nat.le_trans hfi.out.sz f4.out.bel.size)
          have hln := Rg.hid (show (Ip.fill1 dm x).1.win.l.length = dm.win.l.length + 1 by
            show (Wn.put dm.win (Ip.goes dm x)).1.l.length = _
            rw [Wn.put_ok (Ip.runs_rt hfi.out.rt.1 hfi.out.runs) (by have := hfull2.out; omega)]
            simp)
          have hn16 := Rg.hid hfi.out.n16
          clear fG0 fG1 HT1 hcs1 hcs2 hcs3 hcs4 hcs5 hu8 henc hT1 hebG kF5 bF5 f4G hneF
          by_cases hlt : K < D.size
          · have d3 : decide ((K : Int) < (D.size : Int)) = true := by simp; omega
            have hcut : Hid (Gp.cutQ dm.queue (min x.data.size dm.size.toNat) = ⟨x.ch, D.extract K D.size⟩ :: l) := by
              show _ = _
              rw [← hK.out, hq.out, hD.out]
              show (if K = x.data.size then l else _) = _
              rw [if_neg (by rw [← hD.out]; omega)]
            have k1 : w4.cell? ⟨g, o + 1, none⟩ = some (.string D) := by rw [hD.out, kG4.out.cell]; exact y1.out
            have fzG : w4.frozen? ⟨g, o + 1, none⟩ = false := kG4.out.thaw (o + 1)
            have hpq5 := Rg.hid (PQ.head (i := o + 1) g1.out kG4.out y0.out y1.out y2.out y3.out (D.extract K D.size) rfl)
            have hnb : JNB W.heap.size w2n { dm with queue := d.queue, win := (Wn.put dm.win (Ip.goes dm x)).1 } { p2 with w := a4, wc := b4 } q.cv := by
              refine ⟨?_, hfi.out.nb.q, hfi.out.nb.a, hfi.out.nb.c⟩
              rcases h4.out.win with e | ⟨b, o, e, _, _, _⟩
              · exact .inl e
              · refine .inr ⟨b, o, e, .inr ?_⟩
                have := hn4.out b o e
                have := hfi.out.sz
                omega
            have h5 := Rg.hid (h4.out.other (i := o + 1) hnb kG4.out g1.out gn.out (.string (D.extract K D.size)))
            have f6 := Rg.hid (f5.out.iother (i := o + 1) g1.out (Nat.le_trans hbase.out g1.out) (.string (D.extract K D.size)))
            obtain ⟨f7, hF⟩ := hfi.out.step hq.out hfull2.out hn4.out (w4 := w4.setCell ⟨g, o + 1, none⟩ (.string (D.extract K D.size))) (qa' := some ⟨g, o, none⟩) (qc' := qc) h5.out f6.out (by rw [hcut.out]; exact hpq5.out) (.inr ⟨g, o, rfl, gn.out⟩) (by simpa [World.setCell] using hsz.out)
            replace hF := Rg.hid hF
            have hmF : Hid ((Ip.fill1 dm x).1.queue.length = m) := by
              show (Gp.cutQ dm.queue (min x.data.size dm.size.toNat)).length = m
              rw [hcut.out, hm1.out]; rfl
            have hwl5 : Hid (iwinLen eb (w4.setCell ⟨g, o + 1, none⟩ (.string (D.extract K D.size))) = dm.win.l.length + 1) := by show _ = _; rw [← hln.out]; exact hF.out.at_.winLen
            clear h5 f6 hnb hpq5 kG4 h4 f4 hn4 hcut f5 hsz kG y0 y1 y2 y3
            go_wp2
            generalize World.setCell _ _ _ = w5 at *
            go_roundw
            case rel => exact ⟨m, ⟨_, _, _, _, f7, _, _, rfl, hmF.out, hF.out⟩⟩
            case measure =>
              show 17 - iwinLen eb w5 < 17 - iwinLen eb wr
              rw [hwl5.out, hwlr.out]
              have := hn16.out
              show 17 - (dm.win.l.length + 1) < 17 - dm.win.l.length
              omega
          · have d3 : decide ((K : Int) < (D.size : Int)) = false := by simp; omega
            have hcut : Hid (Gp.cutQ dm.queue (min x.data.size dm.size.toNat) = l) := by
              show _ = _
              rw [← hK.out, hq.out]
              show (if K = x.data.size then l else _) = _
              rw [if_pos (by rw [← hD.out]; omega)]
            have hmF : Hid ((Ip.fill1 dm x).1.queue.length = l.length) := by
              show (Gp.cutQ dm.queue (min x.data.size dm.size.toNat)).length = l.length
              rw [hcut.out]
            have key : ∀ oo, (oo = o + 2 ∨ l = []) → ∃ f7, JI Kp eb d S C q.ag q.cv W w2n w4 (Ip.fill1 dm x).1 { p2 with w := a4, wc := b4 } ⟨s4, sb4, q.cv, q.ag⟩ (Si ++ (Ip.fill1 dm x).2) f7 (some ⟨g, oo, none⟩) (qc - 1) := fun oo ho => hfi.out.step hq.out hfull2.out hn4.out h4.out f5.out (by rw [hcut.out]; exact PQ.tail g1.out kG4.out y2.out y3.out oo ho) (.inr ⟨g, oo, rfl, gn.out⟩) hsz.out
            obtain ⟨M, hM⟩ : ∃ M, M = l.length := ⟨_, rfl⟩
            rw [← hM] at hm1 hmF
            have hle : M + 1 ≤ qc := by rw [hM]; exact y3.out
            obtain ⟨m', hmm⟩ : ∃ m', m' = m := ⟨_, rfl⟩
            have hwl5 : Hid (iwinLen eb w4 = dm.win.l.length + 1) := by
              obtain ⟨f7, hF⟩ := key (o + 2) (.inl rfl)
              show _ = _
              rw [← hln.out]; exact hF.at_.winLen
            replace key := Rg.hid key
            clear kG4 h4 f4 hn4 hcut f5 hsz kG y0 y1 y2 y3
            have hm2 := hm1.out
            subst hm2
            clear hmm
            by_cases hc1 : qc = 1
            · subst hc1
              have hM0 : M = 0 := by omega
              subst hM0
              have hl0 : l = [] := List.eq_nil_of_length_eq_zero hM.symm
              obtain ⟨f7, hF⟩ := key.out o (.inr hl0)
              replace hF := Rg.hid hF
              clear key
              replace hM := Rg.hid hM
              go_wp2
              refine ⟨⟨0, ⟨_, _, _, _, f7, _, _, rfl, hmF.out, hF.out⟩⟩, ?_⟩
              rw [hwl5.out, hwlr.out]
              have := hn16.out
              show 17 - (dm.win.l.length + 1) < 17 - dm.win.l.length
              omega
            · obtain ⟨f7, hF⟩ := key.out (o + 2) (.inl rfl)
              replace hF := Rg.hid hF
              clear key
              replace hM := Rg.hid hM
              have q3 : ¬ qc = 1 := hc1
              have q4 : (1 : Int) ≤ (qc : Int) := by omega
              go_wp2
              refine ⟨⟨M, ⟨_, _, _, _, f7, _, _, rfl, hmF.out, hF.out⟩⟩, ?_⟩
              rw [hwl5.out, hwlr.out]
              have := hn16.out
              show 17 - (dm.win.l.length + 1) < 17 - dm.win.l.length
              omega)
      · have d2 : decide ((wl : Int) < wz) = false := by simpa using hfull
        have hfull2 : Hid (¬ (dm.win.l.length : Int) < dm.win.sz) := by show ¬ _ < _; rw [hwl, hwz]; exact hfull
        replace hwl := Rg.hid hwl
        replace hwz := Rg.hid hwz
        clear HS
        go_wp2
        go_quiet (fail)
        replace hfi := Rg.hid (hfi.out.drewN nq)
        generalize World.drewN _ _ = w3 at *
        obtain ⟨x14, c14, fz, hp⟩ := HP.out w2n w3 qa qc m dm p2 q2 Si f hm.out hfi.out (.inr hfull2.out)
        clear HP hm hq hfull2 c9 c7
        go_wp2
        go_end0
        exact hp
end Go.Proofs.Ytlclfkogbfigbaa
