/-
  Mathematics of layer 16: packets that come one behind the other; ticks till an end gives up.
-/
import Derived.Test.YtlclfkogbfigbaaCuAG
namespace Go.Proofs.Ytlclfkogbfigbaa
namespace Ip
open Gp (Dr Pc Fi)
/-- What no packet asks: the bytes that are kept, their number, what was taken. -/
def put (d : Dr) (b : List UInt8) (a : Int) (t : List (Int × Int)) : Dr := { d with buf := b, at_ := a, took := t }
theorem opens_put (d : Dr) (b : List UInt8) (a : Int) (t : List (Int × Int)) (data : List UInt8) : opens (put d b a t) data = (put (opens d data).1 b a t, (opens d data).2) := by
  unfold opens
  dsimp only
  simp only [show (put d b a t).phase = d.phase from rfl, show (put d b a t).wait = d.wait from rfl]
  repeat' split
  all_goals first
    | rfl
    | contradiction
theorem closes_put (d : Dr) (b : List UInt8) (a : Int) (t : List (Int × Int)) : closes (put d b a t) = (put (closes d).1 b a t, (closes d).2) := by
  unfold closes
  simp only [show (put d b a t).phase = d.phase from rfl, show (put d b a t).step = d.step from rfl]
  repeat' split
  all_goals first
    | rfl
    | contradiction
theorem drain_put (b : List UInt8) (a : Int) (t : List (Int × Int)) : ∀ (n : Nat) (d : Dr) (l : List Pc), drain n (put d b a t) l = (put (drain n d l).1 b a t, (drain n d l).2)
  | 0, _, _ => rfl
  | n + 1, d, l => by
    unfold drain
    simp only [show (put d b a t).ahead = d.ahead from rfl, show (put d b a t).wants = d.wants from rfl]
    cases d.ahead with
    | nil => rfl
    | cons g r =>
      dsimp only
      split
      · exact drain_put b a t n { d with wants := (d.wants + 1) % 32, ahead := r } _
      · rfl
theorem orders_put (d : Dr) (b : List UInt8) (a : Int) (t : List (Int × Int)) (f : If.Fr) : orders (put d b a t) f = (put (orders d f).1 b a t, (orders d f).2) := by
  unfold orders
  dsimp only
  have e := drain_put b a t d.ahead.length { d with wants := (d.wants + 1) % 32 } [⟨f.ch, ⟨f.data.toArray⟩⟩]
  rw [show ({ put d b a t with wants := ((put d b a t).wants + 1) % 32 } : Dr) = put { d with wants := (d.wants + 1) % 32 } b a t from rfl, show (put d b a t).ahead = d.ahead from rfl, e]
  simp only [show (put d b a t).wants = d.wants from rfl, show (put d b a t).wait = d.wait from rfl]
  repeat' split
  all_goals first
    | rfl
    | contradiction
theorem takes2_put (d : Dr) (b : List UInt8) (a : Int) (t : List (Int × Int)) (f : If.Fr) : takes2 (put d b a t) f = (put (takes2 d f).1 b a t, (takes2 d f).2) := by
  unfold takes2
  rw [show Gp.acked (put d b a t) f.ak = put (Gp.acked d f.ak) b a t from rfl]
  simp only [show (put d b a t).phase = d.phase from rfl, orders_put]
  repeat' split
  all_goals first
    | rfl
    | contradiction
    | (simp_all [put]; done)
    | (simp_all [put]; rfl)
theorem takes_put (d : Dr) (b : List UInt8) (a : Int) (t : List (Int × Int)) (f : If.Fr) : takes (put d b a t) f = (put (takes d f).1 b a t, (takes d f).2) := by
  unfold takes
  rw [show ({ put d b a t with wait := Gp.or2 (put d b a t).wait } : Dr) = put { d with wait := Gp.or2 d.wait } b a t from rfl]
  dsimp only
  rw [opens_put, closes_put, takes2_put, show (put d b a t).caller = d.caller from rfl]
  repeat' split
  all_goals first
    | rfl
    | contradiction
/-- Packets, one behind the other. -/
def takesL : Dr → List If.Fr → List UInt8 → List Pc → Dr × List UInt8 × List Pc
  | d, [], out, came => (d, out, came)
  | d, f :: r, out, came => takesL (takes d f).1 r (out ++ (takes d f).2.1) (came ++ (takes d f).2.2)
def texts (l : List If.Fr) : List UInt8 := l.flatMap If.text
theorem texts_cons (f : If.Fr) (l : List If.Fr) : texts (f :: l) = If.text f ++ texts l := by simp [texts]
theorem texts_app (k l : List If.Fr) : texts (k ++ l) = texts k ++ texts l := by simp [texts]
theorem text_cons (f : If.Fr) : ∃ r, If.text f = 7 :: r := ⟨_, rfl⟩
theorem scan_text {f : If.Fr} (h : If.ok f) (r : List UInt8) : If.scan 0 (If.text f ++ r) = ⟨f, 0, (If.text f).length, true⟩ := by
  have hr := If.read_text h r
  obtain ⟨x, hx⟩ := text_cons f
  rw [hx] at hr ⊢
  rw [List.cons_append] at hr ⊢
  unfold If.scan
  rw [hr]
  simp
theorem feedN_texts : ∀ (l : List If.Fr) (n : Nat) (d : Dr) (b : List UInt8) (a : Int) (t : List (Int × Int)) (out : List UInt8) (came : List Pc), (∀ f ∈ l, If.ok f) → b = texts l → l.length < n → ∃ a' t', feedN n (put d b a t) out came = (put (takesL d l out came).1 [] a' t', (takesL d l out came).2)
  | [], n + 1, d, b, a, t, out, came, _, hb, _ => by
    subst hb
    refine ⟨a, t, ?_⟩
    show feedN (n + 1) (put d [] a t) out came = _
    unfold feedN
    have hs : If.scan 0 (put d [] a t).buf = ⟨If.zero, 0, 0, false⟩ := rfl
    dsimp only
    rw [hs]
    simp only [Bool.false_eq_true, if_false, takesL]
    show (({ put d [] a t with buf := [], at_ := a + ((0 : Nat) : Int) } : Dr), out, came) = _
    simp [put]
  | f :: l, n + 1, d, b, a, t, out, came, hl, hb, hn => by
    rw [texts_cons] at hb
    subst hb
    have hs : If.scan 0 (put d (If.text f ++ texts l) a t).buf = ⟨f, 0, (If.text f).length, true⟩ := scan_text (hl f (by simp)) (texts l)
    unfold feedN
    dsimp only
    rw [hs]
    dsimp only
    rw [if_pos rfl]
    have hput : ({ put d (If.text f ++ texts l) a t with took := (put d (If.text f ++ texts l) a t).took ++ [((put d (If.text f ++ texts l) a t).at_ + ((0 : Nat) : Int), (put d (If.text f ++ texts l) a t).at_ + ((If.text f).length : Int))], buf := (put d (If.text f ++ texts l) a t).buf.drop (If.text f).length, at_ := (put d (If.text f ++ texts l) a t).at_ + ((If.text f).length : Int) } : Dr) = put d (texts l) (a + ((If.text f).length : Int)) (t ++ [(a + ((0 : Nat) : Int), a + ((If.text f).length : Int))]) := by
      show put d ((If.text f ++ texts l).drop (If.text f).length) _ _ = _
      rw [List.drop_left]
      rfl
    rw [hput, takes_put]
    exact feedN_texts l n (takes d f).1 (texts l) _ _ _ _ (fun x hx => hl x (by simp [hx])) rfl (by simp at hn; omega)
  | _, 0, _, _, _, _, _, _, _, _, h => by simp at h
theorem texts_len (l : List If.Fr) : l.length ≤ (texts l).length := by
  induction l with
  | nil => exact Nat.le_refl _
  | cons f l ih =>
    rw [texts_cons, List.length_append, List.length_cons]
    obtain ⟨r, hr⟩ := text_cons f
    rw [hr, List.length_cons]
    omega
/-- A drive that keeps no bytes is fed packets. -/
theorem feed_texts {d : Dr} (hd : d.buf = []) (l : List If.Fr) (hl : ∀ f ∈ l, If.ok f) : ∃ a t, feed d (texts l) = ((fill (put (takesL d l [] []).1 [] a t)).1, (takesL d l [] []).2.1 ++ (fill (put (takesL d l [] []).1 [] a t)).2, (takesL d l [] []).2.2) := by
  have hlen := texts_len l
  obtain ⟨a, t, h⟩ := feedN_texts l (d.buf.length + (texts l).length + 1) d (texts l) d.at_ [] [] [] hl rfl (by rw [hd]; show l.length < 0 + _ + 1; omega)
  refine ⟨a, t, ?_⟩
  unfold feed
  have e : ({ Gp.own d with buf := d.buf ++ texts l } : Dr) = put d (texts l) d.at_ [] := by rw [hd]; rfl
  rw [e, h]
theorem fill_not {d : Dr} (h : d.phase ≠ 2) : fill d = (d, []) := by
  unfold fill fillN
  cases d.queue with
  | nil => rfl
  | cons p q => dsimp only; rw [if_neg (fun x => h x.1)]
theorem fill_empty {d : Dr} (h : d.queue = []) : fill d = (d, []) := by
  unfold fill fillN
  rw [h]
/-- Ticks, one behind the other. -/
def ticks : Nat → Dr → Dr
  | 0, d => d
  | n + 1, d => ticks n (tick d).1
/-- An end that hears itself: a tick, and all that was said comes back. -/
def alone : Nat → Dr × List UInt8 → Dr × List UInt8
  | 0, x => x
  | n + 1, x => alone n ((feed (tick x.1).1 (x.2 ++ (tick x.1).2)).1, (feed (tick x.1).1 (x.2 ++ (tick x.1).2)).2.1)
theorem tick_opening {d : Dr} (h : d.phase = 1) (hb : d.buf = []) : ∃ e : Dr, e.buf = [] ∧ e.phase = 1 ∧ e.caller = d.caller ∧ e.tries = d.tries + 1 ∧ e.wants = d.wants ∧ e.size = d.size ∧ e.room = d.room ∧ e.queue = d.queue ∧ tick d = if 12 < d.tries + 1 then ({ e with phase := 5 }, []) else (e, sync e) := by
  have key : ∃ e : Dr, (if 2 ≤ (Gp.own d).wait then { Gp.own d with wait := 0 } else { Gp.own d with at_ := (Gp.own d).at_ + (Gp.own d).buf.length, buf := [], wait := 0 }) = e ∧ e.buf = [] ∧ e.phase = 1 ∧ e.caller = d.caller ∧ e.tries = d.tries ∧ e.wants = d.wants ∧ e.size = d.size ∧ e.room = d.room ∧ e.queue = d.queue := by
    split
    · exact ⟨_, rfl, hb, h, rfl, rfl, rfl, rfl, rfl, rfl⟩
    · exact ⟨_, rfl, rfl, h, rfl, rfl, rfl, rfl, rfl, rfl⟩
  obtain ⟨e, he, h0, h1, h2, h3, h4, h5, h6, h7⟩ := key
  refine ⟨{ e with tries := e.tries + 1 }, h0, h1, h2, by show e.tries + 1 = _; rw [h3], h4, h5, h6, h7, ?_⟩
  unfold tick
  dsimp only
  rw [he, if_pos (.inl h1)]
  rw [h3]
  by_cases ht : 12 < d.tries + 1
  · rw [if_pos ht, if_pos ht, if_neg (by omega)]
  · rw [if_neg ht, if_neg ht, if_neg (by omega)]
theorem tick_closing {d : Dr} (h : d.phase = 3) : (tick d).1.tries = d.tries + 1 ∧ (tick d).1.phase = if 12 < d.tries + 1 then 4 else 3 := by
  unfold tick
  dsimp only
  have key : ∃ e : Dr, (if 2 ≤ (Gp.own d).wait then { Gp.own d with wait := 0 } else { Gp.own d with at_ := (Gp.own d).at_ + (Gp.own d).buf.length, buf := [], wait := 0 }) = e ∧ e.phase = 3 ∧ e.tries = d.tries := by
    split
    · exact ⟨_, rfl, h, rfl⟩
    · exact ⟨_, rfl, h, rfl⟩
  obtain ⟨e, he, h1, h2⟩ := key
  rw [he, if_pos (.inr h1), h2]
  by_cases ht : 12 < d.tries + 1
  · rw [if_pos ht, if_pos ht, if_pos h1]
    exact ⟨rfl, rfl⟩
  · rw [if_neg ht, if_neg ht, if_pos h1]
    exact ⟨rfl, h1⟩
theorem tick_over {d : Dr} (h : d.phase = 4 ∨ d.phase = 5) : (tick d).1.phase = d.phase ∧ (tick d).2 = [] := by
  unfold tick
  dsimp only
  have key : ∃ e : Dr, (if 2 ≤ (Gp.own d).wait then { Gp.own d with wait := 0 } else { Gp.own d with at_ := (Gp.own d).at_ + (Gp.own d).buf.length, buf := [], wait := 0 }) = e ∧ e.phase = d.phase := by
    split
    · exact ⟨_, rfl, rfl⟩
    · exact ⟨_, rfl, rfl⟩
  obtain ⟨e, he, h1⟩ := key
  rw [he, if_neg (by omega), if_neg (by omega)]
  exact ⟨h1, rfl⟩
theorem tick_idle {d : Dr} (h : d.phase = 2) (hw : d.win.l = []) : (tick d).1.phase = 2 ∧ (tick d).1.win = d.win := by
  unfold tick
  dsimp only
  have key : ∃ e : Dr, (if 2 ≤ (Gp.own d).wait then { Gp.own d with wait := 0 } else { Gp.own d with at_ := (Gp.own d).at_ + (Gp.own d).buf.length, buf := [], wait := 0 }) = e ∧ e.phase = 2 ∧ e.win = d.win := by
    split
    · exact ⟨_, rfl, h, rfl⟩
    · exact ⟨_, rfl, h, rfl⟩
  obtain ⟨e, he, h1, h2⟩ := key
  rw [he, if_neg (by omega), if_pos h1, if_pos (by rw [h2]; exact hw)]
  exact ⟨h1, h2⟩
theorem ticks_over : ∀ (n : Nat) {d : Dr}, d.phase = 4 ∨ d.phase = 5 → (ticks n d).phase = d.phase
  | 0, _, _ => rfl
  | n + 1, d, h => by
    have h1 := (tick_over h).1
    unfold ticks
    rw [ticks_over n (by rw [h1]; exact h), h1]
theorem ticks_closes : ∀ (n : Nat) {d : Dr} (t : Nat), d.phase = 3 → d.tries = (t : Int) → 13 ≤ t + n → t ≤ 12 → (ticks n d).phase = 4
  | 0, _, t, _, _, h1, h2 => by omega
  | n + 1, d, t, h, ht, h1, h2 => by
    obtain ⟨e1, e2⟩ := tick_closing h
    unfold ticks
    by_cases c : 12 < d.tries + 1
    · rw [if_pos c] at e2
      rw [ticks_over n (.inl e2), e2]
    · rw [if_neg c] at e2
      exact ticks_closes n (t + 1) e2 (by rw [e1, ht]; omega) (by omega) (by omega)
theorem ticks_idle : ∀ (n : Nat) {d : Dr}, d.phase = 2 → d.win.l = [] → (ticks n d).phase = 2
  | 0, _, h, _ => h
  | n + 1, d, h, hw => by
    obtain ⟨e1, e2⟩ := tick_idle h hw
    unfold ticks
    exact ticks_idle n e1 (by rw [e2]; exact hw)
/-- The packet of a sync. -/
def syncF (d : Dr) : If.Fr := ⟨1, 0, last d, 0, d.caller, [UInt8.ofNat (d.size.toNat / 256), UInt8.ofNat (d.size.toNat % 256), UInt8.ofNat d.room.toNat]⟩
theorem sync_text (d : Dr) : sync d = texts [syncF d] := by simp [texts, sync, pk, syncF]
theorem sync_ok (d : Dr) (_hw : 0 ≤ d.wants ∧ d.wants ≤ 31) : If.ok (syncF d) := ⟨⟨rfl, by show (0 : Int) ≤ 0 ∧ (0 : Int) ≤ 31; omega, by show 0 ≤ (d.wants + 31) % 32 ∧ (d.wants + 31) % 32 ≤ 31; omega, by show (0 : Int) ≤ 0 ∧ (0 : Int) ≤ 7; omega⟩, by show 3 < 4096; omega⟩
/-- Who hears itself hears nobody. -/
theorem feed_self {d : Dr} (hb : d.buf = []) (hp : d.phase ≠ 2) (l : List If.Fr) (hl : ∀ f ∈ l, If.ok f ∧ f.ca = d.caller) : ∃ a t, feed d (texts l) = (put d [] a t, [], []) := by
  obtain ⟨a, t, h⟩ := feed_texts hb l (fun f hf => (hl f hf).1)
  have key : ∀ (l : List If.Fr) (out : List UInt8) (came : List Pc), (∀ f ∈ l, f.ca = d.caller) → takesL d l out came = (d, out, came) := by
    intro l
    induction l with
    | nil => exact fun _ _ _ => rfl
    | cons f r ih =>
      intro out came hl
      have e : takes d f = (d, [], []) := by unfold takes; rw [if_pos (hl f (by simp))]
      unfold takesL
      rw [e, List.append_nil, List.append_nil]
      exact ih out came (fun x hx => hl x (by simp [hx]))
  rw [key l [] [] (fun f hf => (hl f hf).2)] at h
  refine ⟨a, t, ?_⟩
  rw [h, fill_not (by exact hp)]
  rfl
theorem alone_over : ∀ (n : Nat) (d : Dr), d.phase = 5 → d.buf = [] → (alone n (d, [])).1.phase = 5
  | 0, _, h, _ => h
  | n + 1, d, h, hb => by
    obtain ⟨h1, h2⟩ := tick_over (d := d) (.inr h)
    have hb2 : (tick d).1.buf = [] := by
      unfold tick
      dsimp only
      have key : ∃ e : Dr, (if 2 ≤ (Gp.own d).wait then { Gp.own d with wait := 0 } else { Gp.own d with at_ := (Gp.own d).at_ + (Gp.own d).buf.length, buf := [], wait := 0 }) = e ∧ e.phase = 5 ∧ e.buf = [] := by
        split
        · exact ⟨_, rfl, h, hb⟩
        · exact ⟨_, rfl, h, rfl⟩
      obtain ⟨e, he, k1, k2⟩ := key
      rw [he, if_neg (by omega), if_neg (by omega)]
      exact k2
    unfold alone
    dsimp only
    rw [h2, List.append_nil]
    obtain ⟨a, t, hf⟩ := feed_self (d := (tick d).1) hb2 (by rw [h1, h]; omega) [] (fun f hf => by cases hf)
    rw [show texts [] = [] from rfl] at hf
    rw [hf]
    exact alone_over n (put (tick d).1 [] a t) (by show (tick d).1.phase = 5; rw [h1, h]) rfl
theorem alone_fails : ∀ (n : Nat) {d : Dr} (t : Nat), d.phase = 1 → d.buf = [] → (0 ≤ d.wants ∧ d.wants ≤ 31) → d.tries = (t : Int) → 13 ≤ t + n → t ≤ 12 → (alone n (d, [])).1.phase = 5
  | 0, _, t, _, _, _, _, h1, h2 => by omega
  | n + 1, d, t, h, hb, hw, ht, h1, h2 => by
    obtain ⟨e, k1, k2, k3, k4, k5, _, _, _, hk⟩ := tick_opening h hb
    unfold alone
    dsimp only
    rw [hk]
    by_cases c : 12 < d.tries + 1
    · rw [if_pos c]
      dsimp only
      obtain ⟨a, t', hf⟩ := feed_self (d := { e with phase := 5 }) k1 (by show (5 : Int) ≠ 2; omega) [] (fun f hf => by cases hf)
      rw [show texts [] = [] from rfl] at hf
      rw [List.append_nil, hf]
      exact alone_over n _ rfl rfl
    · rw [if_neg c]
      dsimp only
      obtain ⟨a, t', hf⟩ := feed_self (d := e) k1 (by rw [k2]; omega) [syncF e] (fun f hf => by
        obtain rfl := List.mem_singleton.1 hf
        exact ⟨sync_ok e (by rw [k5]; exact hw), rfl⟩)
      rw [List.nil_append, sync_text, hf]
      exact alone_fails n (d := put e [] a t') (t + 1) k2 rfl (by show 0 ≤ e.wants ∧ e.wants ≤ 31; rw [k5]; exact hw) (by show e.tries = _; rw [k4, ht]; omega) (by omega) (by omega)
/-- What the statement asks of a that hears itself alone, and of c that closes. -/
theorem forty (caller : Bool) (z r : Int) (p : Pc) : (alone 40 (send (begin_ caller z r) p)).1.phase = 5 ∧ (ticks 40 (close (begin_ caller z r)).1).phase = 4 := by
  refine ⟨?_, ?_⟩
  · unfold send
    split
    · exact alone_fails 40 0 rfl rfl (by show (0 : Int) ≤ 1 ∧ (1 : Int) ≤ 31; omega) rfl (by omega) (by omega)
    · rw [fill_not (by show (1 : Int) ≠ 2; omega)]
      exact alone_fails 40 0 rfl rfl (by show (0 : Int) ≤ 1 ∧ (1 : Int) ≤ 31; omega) rfl (by omega) (by omega)
  · have e : close (begin_ caller z r) = ({ Gp.own (begin_ caller z r) with phase := 3, tries := 0, step := 0 }, pk { Gp.own (begin_ caller z r) with phase := 3, tries := 0, step := 0 } 5 0 0 []) := by
      unfold close
      rw [if_neg (by show ¬ ((1 : Int) ≠ 1 ∧ (1 : Int) ≠ 2); omega)]
    rw [e]
    exact ticks_closes 40 0 rfl rfl (by omega) (by omega)
/-- An opening end that hears a sync runs, and says nothing, if nothing waits. -/
theorem feed_sync {d : Dr} (h1 : d.phase = 1) (hb : d.buf = []) (hq : d.queue = []) (e : Dr) (he : e.caller ≠ d.caller) (hw : 0 ≤ e.wants ∧ e.wants ≤ 31) (hz : 1 ≤ e.size ∧ e.size ≤ 4095) (hr : 1 ≤ e.room ∧ e.room ≤ 16) (hd : 1 ≤ d.room ∧ d.room ≤ 16) :
    ∃ a t w, feed d (sync e) = ({ d with size := min d.size e.size, room := min d.room e.room, phase := 2, step := -1, tries := 0, win := ⟨32, min d.room e.room, 1, []⟩, wait := w, buf := [], at_ := a, took := t }, [], []) ∧ w = Gp.or2 d.wait := by
  obtain ⟨a, t, h⟩ := feed_texts hb [syncF e] (fun f hf => by obtain rfl := List.mem_singleton.1 hf; exact sync_ok e hw)
  have ez : (UInt8.ofNat (e.size.toNat / 256)).toNat * 256 + (UInt8.ofNat (e.size.toNat % 256)).toNat = e.size.toNat := by
    rw [UInt8.toNat_ofNat', UInt8.toNat_ofNat']; omega
  have er : (UInt8.ofNat e.room.toNat).toNat = e.room.toNat := by
    rw [UInt8.toNat_ofNat']; omega
  have ht : takes d (syncF e) = ({ d with size := min d.size e.size, room := min d.room e.room, phase := 2, step := -1, tries := 0, win := ⟨32, min d.room e.room, 1, []⟩, wait := Gp.or2 d.wait }, [], []) := by
    unfold takes
    rw [if_neg (by show ¬ e.caller = d.caller; exact he)]
    dsimp only
    rw [if_pos (by rfl)]
    unfold opens syncF
    dsimp only
    rw [if_pos h1, ez, er, if_neg (by omega)]
    have hm : Wn.begin_ 32 (min d.room (e.room.toNat : Int)) 1 = (⟨32, min d.room (e.room.toNat : Int), 1, []⟩, 0) := if_pos (by omega)
    rw [hm]
    rw [show ((e.size.toNat : Nat) : Int) = e.size by omega, show ((e.room.toNat : Nat) : Int) = e.room by omega]
  refine ⟨a, t, Gp.or2 d.wait, ?_, rfl⟩
  rw [sync_text, h]
  unfold takesL takesL
  rw [ht]
  rw [fill_empty (by exact hq)]
  rfl
/-- An end that keeps no bytes hears nothing. -/
theorem feed_nothing {d : Dr} (hb : d.buf = []) (hq : d.queue = []) : ∃ a t, feed d [] = (put d [] a t, [], []) := by
  obtain ⟨a, t, h⟩ := feed_texts hb [] (fun f hf => by cases hf)
  refine ⟨a, t, ?_⟩
  rw [show texts [] = [] from rfl] at h
  rw [h, fill_empty (by exact hq)]
  rfl
end Ip
end Go.Proofs.Ytlclfkogbfigbaa
