/-
  Mathematics of layer 16: two ends that give up: what stands at each round.
-/
import Derived.Test.YtlclfkogbfigbaaGreatBsMathIu
import Derived.Test.YtlclfkogbfigbaaGreatCuBL
namespace Go.Proofs.YtlclfkogbfigbaaGreat
namespace Ip
open Gp (Dr Pc Fi)
/-- a tick, and what was said comes back -/
def astep (x : Dr × List UInt8) : Dr × List UInt8 := ((feed (tick x.1).1 (x.2 ++ (tick x.1).2)).1, (feed (tick x.1).1 (x.2 ++ (tick x.1).2)).2.1)
theorem alone_succ : ∀ (n : Nat) (x : Dr × List UInt8), alone (n + 1) x = astep (alone n x)
  | 0, _ => rfl
  | n + 1, x => by
    show alone (n + 1) (astep x) = astep (alone n (astep x))
    exact alone_succ n (astep x)
theorem ticks_succ : ∀ (n : Nat) (d : Dr), ticks (n + 1) d = (tick (ticks n d)).1
  | 0, _ => rfl
  | n + 1, d => by
    show ticks (n + 1) (tick d).1 = (tick (ticks n (tick d).1)).1
    exact ticks_succ n (tick d).1
theorem ok_ticks {N Q : Nat} (hN : N ≤ 1099511627776) : ∀ (n : Nat) {d : Dr}, Ok N Q d → Ok N Q (ticks n d)
  | 0, _, h => h
  | n + 1, _, h => ok_ticks hN n (h.tick hN)
theorem ok_tick_at {N Q : Nat} {d : Dr} (h : Ok N Q d) (hN : N ≤ 1099511627776) : d.at_ + d.buf.length ≤ 1099511627776 := by have := h.tot; omega
/-- an end that opens, or has given up, and keeps no bytes -/
def shy (d : Dr) : Prop := d.buf = [] ∧ ((d.phase = 1 ∧ 0 ≤ d.wants ∧ d.wants ≤ 31) ∨ d.phase = 5)
theorem sync_len13 (d : Dr) : (sync d).length ≤ 13 := by
  rw [sync_text]
  have h : (texts [syncF d]).length = (If.text (syncF d)).length := by simp [texts]
  rw [h, If.text_len]
  exact (by decide : 6 + If.bsz 3 ≤ 13)
/-- what comes of one round -/
theorem shy_step {d : Dr} (h : shy d) : ∃ e, shy e ∧ (tick d).2.length ≤ 13 ∧ feed (tick d).1 (tick d).2 = (e, [], []) := by
  obtain ⟨hb, ⟨hp, hw⟩ | hp⟩ := h
  · obtain ⟨e, k1, k2, k3, k4, k5, _, _, _, hk⟩ := tick_opening hp hb
    rw [hk]
    by_cases c : 12 < d.tries + 1
    · rw [if_pos c]
      dsimp only
      obtain ⟨a, t', hf⟩ := feed_self (d := { e with phase := 5 }) k1 (by show (5 : Int) ≠ 2; omega) [] (fun f hf => by cases hf)
      rw [show texts [] = [] from rfl] at hf
      exact ⟨_, ⟨rfl, .inr rfl⟩, Nat.zero_le _, hf⟩
    · rw [if_neg c]
      dsimp only
      obtain ⟨a, t', hf⟩ := feed_self (d := e) k1 (by rw [k2]; omega) [syncF e] (fun f hf => by
        obtain rfl := List.mem_singleton.1 hf
        exact ⟨sync_ok e (by rw [k5]; exact hw), rfl⟩)
      rw [← sync_text] at hf
      exact ⟨put e [] a t', ⟨rfl, .inl ⟨k2, by show 0 ≤ e.wants ∧ e.wants ≤ 31; rw [k5]; exact hw⟩⟩, sync_len13 e, hf⟩
  · obtain ⟨h1, h2⟩ := tick_over (d := d) (.inr hp)
    have hb2 : (tick d).1.buf = [] := by
      unfold tick
      dsimp only
      have key : ∃ e : Dr, (if 2 ≤ (Gp.own d).wait then { Gp.own d with wait := 0 } else { Gp.own d with at_ := (Gp.own d).at_ + (Gp.own d).buf.length, buf := [], wait := 0 }) = e ∧ e.phase = 5 ∧ e.buf = [] := by
        split
        · exact ⟨_, rfl, hp, hb⟩
        · exact ⟨_, rfl, hp, rfl⟩
      obtain ⟨e, he, k1, k2⟩ := key
      rw [he, if_neg (by omega), if_neg (by omega)]
      exact k2
    rw [h2]
    obtain ⟨a, t, hf⟩ := feed_self (d := (tick d).1) hb2 (by rw [h1, hp]; omega) [] (fun f hf => by cases hf)
    rw [show texts [] = [] from rfl] at hf
    exact ⟨_, ⟨rfl, .inr (by show (tick d).1.phase = 5; rw [h1, hp])⟩, Nat.zero_le _, hf⟩
/-- what stands at each round of an end that hears itself -/
structure Al (n : Nat) (x : Dr × List UInt8) : Prop where
  said : x.2 = []
  shy : shy x.1
  ok : Ok (13 * n) 1 x.1
  sm : small x.1
theorem Al.send (ca : Bool) {z r : Int} (h1 : 1 ≤ z ∧ z ≤ 4095) (h2 : 1 ≤ r ∧ r ≤ 16) (p : Pc) : Al 0 (Ip.send (begin_ ca z r) p) := by
  have hs : (Ip.send (begin_ ca z r) p).2 = [] ∧ Ip.shy (Ip.send (begin_ ca z r) p).1 := by
    unfold Ip.send
    split
    · exact ⟨rfl, rfl, .inl ⟨rfl, by show (0 : Int) ≤ 1 ∧ (1 : Int) ≤ 31; omega⟩⟩
    · rw [fill_not (by show (1 : Int) ≠ 2; omega)]
      exact ⟨rfl, rfl, .inl ⟨rfl, by show (0 : Int) ≤ 1 ∧ (1 : Int) ≤ 31; omega⟩⟩
  exact ⟨hs.1, hs.2, ((Ok.begin_ ca h1 h2).send p).mono (by omega) (by omega), send_small (begin_small ca z r) p⟩
theorem Al.step {n : Nat} {x : Dr × List UInt8} (h : Al n x) (hn : n ≤ 100) : Al (n + 1) (astep x) ∧ (tick x.1).2.length ≤ 13 ∧ (feed (tick x.1).1 (tick x.1).2).2 = ([], []) := by
  obtain ⟨e, k1, k2, k3⟩ := shy_step h.shy
  have ha : astep x = (e, []) := by
    unfold astep
    rw [h.said, List.nil_append, k3]
  have hk := (h.ok.tick (by omega)).feed (tick x.1).2 (by omega)
  rw [k3] at hk
  have hm := (feed_small (tick_small h.sm) (tick x.1).2).1
  rw [k3] at hm
  rw [ha]
  exact ⟨⟨rfl, k1, hk.1.mono (by omega) (by omega), hm⟩, k2, by rw [k3]⟩
theorem al_all (ca : Bool) {z r : Int} (h1 : 1 ≤ z ∧ z ≤ 4095) (h2 : 1 ≤ r ∧ r ≤ 16) (p : Pc) : ∀ n, n ≤ 100 → Al n (alone n (send (begin_ ca z r) p))
  | 0, _ => Al.send ca h1 h2 p
  | n + 1, hn => by rw [alone_succ]; exact ((al_all ca h1 h2 p n (by omega)).step (by omega)).1
/-- two ends, and what is under way to each -/
structure Pw where
  a : Dr
  b : Dr
  w0 : List UInt8
  w1 : List UInt8
def hA (p : Pw) : Pw := ⟨(feed p.a p.w0).1, p.b, [], p.w1 ++ (feed p.a p.w0).2.1⟩
def hB (p : Pw) : Pw := ⟨p.a, (feed p.b p.w1).1, p.w0 ++ (feed p.b p.w1).2.1, []⟩
def rnds : Nat → Pw → Pw
  | 0, p => p
  | n + 1, p => hB (hA (rnds n p))
/-- what is handed on in a round is little, and says nothing -/
structure Hs (p : Pw) : Prop where
  w0 : p.w0.length ≤ 13
  w1 : p.w1.length ≤ 13
  fa : (feed p.a p.w0).2 = ([], [])
  fb : (feed p.b p.w1).2 = ([], [])
/-- both run, and nothing is under way -/
structure Calm (p : Pw) : Prop where
  w0 : p.w0 = []
  w1 : p.w1 = []
  ba : p.a.buf = []
  bb : p.b.buf = []
  qa : p.a.queue = []
  qb : p.b.queue = []
  pb : p.b.phase = 2
  wb : p.b.win.l = []
theorem Calm.hs {p : Pw} (h : Calm p) : Hs p := by
  obtain ⟨a1, t1, e1⟩ := feed_nothing h.ba h.qa
  obtain ⟨a2, t2, e2⟩ := feed_nothing h.bb h.qb
  exact ⟨by rw [h.w0]; exact Nat.zero_le _, by rw [h.w1]; exact Nat.zero_le _, by rw [h.w0, e1], by rw [h.w1, e2]⟩
theorem Calm.next {p : Pw} (h : Calm p) : Calm (hB (hA p)) := by
  obtain ⟨a1, t1, e1⟩ := feed_nothing h.ba h.qa
  obtain ⟨a2, t2, e2⟩ := feed_nothing h.bb h.qb
  have eA : hA p = ⟨put p.a [] a1 t1, p.b, [], []⟩ := by unfold hA; rw [h.w0, h.w1, e1]; rfl
  have eB : hB (hA p) = ⟨put p.a [] a1 t1, put p.b [] a2 t2, [], []⟩ := by rw [eA]; unfold hB; dsimp only; rw [e2]; rfl
  rw [eB]
  exact ⟨rfl, rfl, rfl, rfl, h.qa, h.qb, h.pb, h.wb⟩
def start (za ra zb rb : Int) : Pw := ⟨begin_ true za ra, begin_ false zb rb, sync (begin_ false zb rb), sync (begin_ true za ra)⟩
theorem start_hs {za ra zb rb : Int} (h1 : 1 ≤ za ∧ za ≤ 4095) (h2 : 1 ≤ ra ∧ ra ≤ 16) (h3 : 1 ≤ zb ∧ zb ≤ 4095) (h4 : 1 ≤ rb ∧ rb ≤ 16) : Hs (start za ra zb rb) ∧ Calm (hB (hA (start za ra zb rb))) := by
  have hw : ∀ (c : Bool) (z r : Int), 0 ≤ (begin_ c z r).wants ∧ (begin_ c z r).wants ≤ 31 := fun _ _ _ => by show (0 : Int) ≤ 1 ∧ (1 : Int) ≤ 31; omega
  obtain ⟨a1, t1, x1, e1, _⟩ := feed_sync (d := begin_ true za ra) rfl rfl rfl (begin_ false zb rb) (by show false ≠ true; decide) (hw _ _ _) h3 h4 h2
  obtain ⟨a2, t2, x2, e2, _⟩ := feed_sync (d := begin_ false zb rb) rfl rfl rfl (begin_ true za ra) (by show true ≠ false; decide) (hw _ _ _) h1 h2 h4
  refine ⟨⟨sync_len13 _, sync_len13 _, by show (feed (begin_ true za ra) (sync (begin_ false zb rb))).2 = _; rw [e1], by show (feed (begin_ false zb rb) (sync (begin_ true za ra))).2 = _; rw [e2]⟩, ?_⟩
  have eA : hA (start za ra zb rb) = ⟨(feed (begin_ true za ra) (sync (begin_ false zb rb))).1, begin_ false zb rb, [], sync (begin_ true za ra)⟩ := by
    unfold hA start
    dsimp only
    rw [e1, List.append_nil]
  have eB : hB (hA (start za ra zb rb)) = ⟨(feed (begin_ true za ra) (sync (begin_ false zb rb))).1, (feed (begin_ false zb rb) (sync (begin_ true za ra))).1, [], []⟩ := by
    rw [eA]
    unfold hB
    dsimp only
    rw [e2, List.append_nil]
  rw [eB, e1, e2]
  exact ⟨rfl, rfl, rfl, rfl, rfl, rfl, rfl, rfl⟩
theorem calm_all {za ra zb rb : Int} (h1 : 1 ≤ za ∧ za ≤ 4095) (h2 : 1 ≤ ra ∧ ra ≤ 16) (h3 : 1 ≤ zb ∧ zb ≤ 4095) (h4 : 1 ≤ rb ∧ rb ≤ 16) : ∀ n, Calm (rnds (n + 1) (start za ra zb rb))
  | 0 => (start_hs h1 h2 h3 h4).2
  | n + 1 => (calm_all h1 h2 h3 h4 n).next
theorem hs_all {za ra zb rb : Int} (h1 : 1 ≤ za ∧ za ≤ 4095) (h2 : 1 ≤ ra ∧ ra ≤ 16) (h3 : 1 ≤ zb ∧ zb ≤ 4095) (h4 : 1 ≤ rb ∧ rb ≤ 16) : ∀ n, Hs (rnds n (start za ra zb rb))
  | 0 => (start_hs h1 h2 h3 h4).1
  | n + 1 => (calm_all h1 h2 h3 h4 n).hs
theorem hA_w1 {p : Pw} (h : Hs p) : hA p = ⟨(feed p.a p.w0).1, p.b, [], p.w1⟩ := by unfold hA; rw [h.fa, List.append_nil]
theorem feed_took (N Q : Nat) {d : Dr} (h : Ok N Q d) (s : List UInt8) (hN : N + s.length ≤ 1099511627776) : (feed d s).1.took.length ≤ d.buf.length + s.length + 1 := (h.feed s hN).2
end Ip
end Go.Proofs.YtlclfkogbfigbaaGreat
