/-
  Walks of layer 16: joined. Layer 16: drives as the laws hold them, and the calls of the package over them. Mathematics of layer 16: packets that come one behind the other; ticks till an end gives up.
-/
import Derived.Test.YtomldoijcclhhaaGreatSkAZ
import Derived.BigQuiet
import Derived.Test.YtomldoijcclhhaaGreatSkAT
namespace Go.Proofs.YtomldoijcclhhaaGreat
open Go.RowKit
namespace Ip
theorem jo_more {l : List Gp.Pc} {i : Nat} (h : i < l.length) (h2 : i + 1 < l.length) (e : l[i + 1].ch = l[i].ch) (B : List UInt8) : jo ⟨B.toArray⟩ (l.drop i) = jo ⟨(B ++ l[i].data.data.toList).toArray⟩ (l.drop (i + 1)) := by
  rw [List.drop_eq_getElem_cons h, List.drop_eq_getElem_cons h2]
  have hb : (⟨B.toArray⟩ : ByteArray) ++ l[i].data = ⟨(B ++ l[i].data.data.toList).toArray⟩ := by
    have := icat_bytes B l[i].data.data.toList
    simpa using this
  conv => lhs; unfold jo
  rw [if_pos e, hb]
theorem jo_out {l : List Gp.Pc} {i : Nat} (h : i < l.length) (e : ∀ h2 : i + 1 < l.length, ¬ l[i + 1].ch = l[i].ch) (B : List UInt8) : jo ⟨B.toArray⟩ (l.drop i) = ⟨l[i].ch, ⟨(B ++ l[i].data.data.toList).toArray⟩⟩ :: jo ⟨([] : List UInt8).toArray⟩ (l.drop (i + 1)) := by
  have hb : (⟨B.toArray⟩ : ByteArray) ++ l[i].data = ⟨(B ++ l[i].data.data.toList).toArray⟩ := by
    have := icat_bytes B l[i].data.data.toList
    simpa using this
  rw [List.drop_eq_getElem_cons h]
  by_cases h2 : i + 1 < l.length
  · rw [List.drop_eq_getElem_cons h2]
    conv => lhs; unfold jo
    rw [if_neg (e h2), hb]
    rfl
  · rw [List.drop_eq_nil_of_le (by omega)]
    conv => lhs; unfold jo
    rw [hb]
    rfl
end Ip
theorem BW.below {base b : Nat} {W W' : World} {S : List UInt8} (h : BW base b W S) (hb : Below W.heap.size W W') : BW base b W' S := h.kept fun k _ _ _ hk _ => hb.block k (Array.getElem?_eq_some_iff.1 hk).1
/-- what the loop of joined keeps -/
structure JQ (base b : Nat) (l : List Gp.Pc) (w wr : World) (i : Nat) (ao : Option Addr) (m cap : Nat) (B : List UInt8) (O : List Gp.Pc) : Prop where
  bel : Below base w wr
  bw : BW base b wr B
  own : wr.ownsRow base 44 2 (.slice ao m cap) m (pcE.flat O)
  len : O.length = m
  math : Ip.join l = O ++ Ip.jo ⟨B.toArray⟩ (l.drop i)
  lb : B.length ≤ 5000 * i
  lo : m ≤ i
theorem JQ.more {base b : Nat} {l : List Gp.Pc} {w wr w3 w4 : World} {i i1 : Nat} {ao : Option Addr} {m cap : Nat} {B : List UInt8} {O : List Gp.Pc} (h : JQ base b l w wr i ao m cap B O) (hi1 : i + 1 = i1) (hi : i < l.length) (h2 : i + 1 < l.length) (e : l[i + 1].ch = l[i].ch) (hs : l[i].data.size ≤ 5000) (hb : Below base w w3) (hw : BW base b w3 (B ++ l[i].data.data.toList)) (hown : w3.ownsRow base 44 2 (.slice ao m cap) m (pcE.flat O)) (h4 : Below w3.heap.size w3 w4) (hbs : base ≤ w3.heap.size) : JQ base b l w w4 i1 ao m cap (B ++ l[i].data.data.toList) O := by
  subst hi1
  refine ⟨hb.trans (h4.mono hbs), hw.below h4, own_kept hown fun g hg => h4.block g (hown.lt g hg).2, h.len, by rw [h.math, Ip.jo_more hi h2 e], ?_, by have := h.lo; omega⟩
  rw [List.length_append]
  have := h.lb
  have e2 : l[i].data.data.toList.length = l[i].data.size := rfl
  omega
theorem JQ.out {base b : Nat} {l : List Gp.Pc} {w wr w6 : World} {i i1 : Nat} {ao : Option Addr} {m m1 cap : Nat} {B : List UInt8} {O : List Gp.Pc} (h : JQ base b l w wr i ao m cap B O) (hi1 : i + 1 = i1) (hm1 : m + 1 = m1) (hi : i < l.length) (e : ∀ h2 : i + 1 < l.length, ¬ l[i + 1].ch = l[i].ch) (hb : Below base w w6) (hw : BW base b w6 []) {a2 : Option Addr} {cap2 : Nat} (hown : w6.ownsRow base 44 2 (.slice a2 m1 cap2) m1 (pcE.flat (O ++ [⟨l[i].ch, ⟨(B ++ l[i].data.data.toList).toArray⟩⟩]))) : JQ base b l w w6 i1 a2 m1 cap2 [] (O ++ [⟨l[i].ch, ⟨(B ++ l[i].data.data.toList).toArray⟩⟩]) := by
  subst hi1 hm1
  refine ⟨hb, hw, hown, by rw [List.length_append, h.len]; rfl, by rw [h.math, Ip.jo_out hi e, List.append_assoc]; rfl, Nat.zero_le _, by have := h.lo; omega⟩
end Go.Proofs.YtomldoijcclhhaaGreat

namespace Go.Proofs.YtomldoijcclhhaaGreat
open Go.RowKit
/-- a drive, by its cells -/
def IDH (Kp : Nat → Prop) (W : World) (d : Gp.Dr) (CS : Array Value) : Prop := ∃ p, CS = (DC d p).toArray ∧ IDR Kp W d p
theorem IDH.below {Kp : Nat → Prop} {W W' : World} {d : Gp.Dr} {CS : Array Value} (h : IDH Kp W d CS) (hb : Below W.heap.size W W') : IDH Kp W' d CS := by
  obtain ⟨p, e, h⟩ := h
  exact ⟨p, e, h.below hb⟩
theorem IDH.info {Kp : Nat → Prop} {W : World} {d : Gp.Dr} {CS : Array Value} (h : IDH Kp W d CS) : (Tryz.prog.info? 29).map (·.size) = some CS.size := by
  obtain ⟨p, e, _⟩ := h
  rw [e]
  exact iinfoDr2
theorem IDH.size {Kp : Nat → Prop} {W : World} {d : Gp.Dr} {CS : Array Value} (h : IDH Kp W d CS) : CS.size = 18 := by
  obtain ⟨p, e, _⟩ := h
  rw [e]
  rfl
theorem IDH.one {Kp : Nat → Prop} {W : World} {d : Gp.Dr} {CS : Array Value} (h : IDH Kp W d CS) : CS.all (·.oneCell') = true := by
  obtain ⟨p, e, _⟩ := h
  rw [e]
  simp [DC, Value.oneCell']
/-- a drive without lists, whatever is told of old blocks -/
theorem IDH.any {Kp Kq : Nat → Prop} {W : World} {d : Gp.Dr} {CS : Array Value} (h : IDH Kp W d CS) (h1 : d.win.l = []) (h2 : d.ahead = []) (h3 : d.queue = []) (h4 : d.took = []) : IDH Kq W d CS := by
  obtain ⟨p, e, h⟩ := h
  exact ⟨p, e, h.at_, h.wcap, h.acap, h.ql, h.wl, .inl h1, .inl h2, .inl h3, .inl h4⟩
theorem iarow_only {Kp : Nat → Prop} {α : Type} {E : Rg.El α} {B : Nat} {W W' : World} {a : Option Addr} {l : List α} (h : ERow E W a l) (k : iKRow Kp a l) (hn : ¬ Kp B) (o : Rg.Only B W W') : ERow E W' a l := by
  rcases h with h | ⟨b, i, h1, h2, h3⟩
  · exact .inl h
  · rcases k with k | ⟨b', i', k1, k2⟩
    · exact .inl k
    · rw [h1] at k1
      cases k1
      exact .inr ⟨b, i, h1, by rw [o.size]; exact h2, h3.same (o.block b (fun e => hn (e ▸ k2)))⟩
theorem IDH.only {Kp : Nat → Prop} {B : Nat} {W W' : World} {d : Gp.Dr} {CS : Array Value} (h : IDH Kp W d CS) (hn : ¬ Kp B) (o : Rg.Only B W W') : IDH Kp W' d CS := by
  obtain ⟨p, e, h⟩ := h
  exact ⟨p, e, ⟨iarow_only h.at_.win h.kw hn o, iarow_only h.at_.ahead h.ka hn o, iarow_only h.at_.queue h.kq hn o, iarow_only h.at_.took h.kt hn o⟩, h.wcap, h.acap, h.ql, h.wl, h.kw, h.ka, h.kq, h.kt⟩
/-- a drive's block -/
theorem IDH.load {Kp : Nat → Prop} {W W2 : World} {B : Nat} {d : Gp.Dr} {CS : Array Value} (h : IDH Kp W d CS) (k : Rg.Bk B CS.toList 29 W2) : (loadVar 29 ⟨B, 0, none⟩).run Tryz.prog W2 = .ok (.agg CS) W2 := Rg.row_loadVar (P := Tryz.prog) (t := 29) (CS := CS) k Tryz.underlying29 rfl h.info
/-- a new block for a drive -/
theorem IDH.box {Kp : Nat → Prop} {W : World} {d : Gp.Dr} {CS : Array Value} (h : IDH Kp W d CS) : ∃ W', Hid ((storeVar 29 ⟨W.heap.size, 0, none⟩ (.agg CS)).run Tryz.prog (W.alloc (.cells #[.int .i64 0, .int .i64 0, .bool false, .int .i64 0, .int .i64 0, .int .i64 0, .int .i64 0, .int .i64 0, .int .i64 0, .slice none 0 0, .int .i64 0, .slice none 0 0, .string ⟨#[]⟩, .int .i64 0, .slice none 0 0, .int .i64 0, .int .i64 0, .slice none 0 0] 29)) = .ok () W') ∧ Hid (Rg.Bk W.heap.size CS.toList 29 W') ∧ Hid (Below W.heap.size W W') ∧ Hid (IDH Kp W' d CS) := by
  have k : Rg.Bk W.heap.size [.int .i64 0, .int .i64 0, .bool false, .int .i64 0, .int .i64 0, .int .i64 0, .int .i64 0, .int .i64 0, .int .i64 0, .slice none 0 0, .int .i64 0, .slice none 0 0, .string ⟨#[]⟩, .int .i64 0, .slice none 0 0, .int .i64 0, .int .i64 0, .slice none 0 0] 29 (W.alloc (.cells #[.int .i64 0, .int .i64 0, .bool false, .int .i64 0, .int .i64 0, .int .i64 0, .int .i64 0, .int .i64 0, .int .i64 0, .slice none 0 0, .int .i64 0, .slice none 0 0, .string ⟨#[]⟩, .int .i64 0, .slice none 0 0, .int .i64 0, .int .i64 0, .slice none 0 0] 29)) := Rg.Bk.new rfl
  obtain ⟨W', h1, h2, h3⟩ := Rg.row_storeVar (P := Tryz.prog) (t := 29) (CS := CS) k h.info (by rw [h.size]; rfl) h.one
  have hb : Below W.heap.size W W' := (Rg.al1 _ _).trans (h3.bel (Nat.le_refl _))
  exact ⟨W', h1, h2, hb, h.below hb⟩
/-- a drive laid over another one -/
theorem IDH.over {Kp Kq : Nat → Prop} {W W0 : World} {B : Nat} {d d0 : Gp.Dr} {CS C0 : Array Value} (h : IDH Kp W d CS) (h0 : IDH Kq W0 d0 C0) (k : Rg.Bk B C0.toList 29 W) : ∃ W', Hid ((storeVar 29 ⟨B, 0, none⟩ (.agg CS)).run Tryz.prog W = .ok () W') ∧ Hid (Rg.Bk B CS.toList 29 W') ∧ Hid (Rg.Only B W W') := by
  obtain ⟨W', h1, h2, h3⟩ := Rg.row_storeVar (P := Tryz.prog) (t := 29) (CS := CS) k h.info (by rw [h.size, Array.length_toList, h0.size]) h.one
  exact ⟨W', h1, h2, h3⟩
end Go.Proofs.YtomldoijcclhhaaGreat

namespace Go.Proofs.YtomldoijcclhhaaGreat
namespace Ip
open Gp (Dr Pc Fi)
/-- What no packet asks: the bytes that are kept, their number, what was taken. -/
def put (d : Dr) (b : List UInt8) (a : Int) (t : List (Int × Int)) : Dr := { d with buf := b, at_ := a, took := t }
theorem opens_put (d : Dr) (b : List UInt8) (a : Int) (t : List (Int × Int)) (data : List UInt8) : opens (put d b a t) data = (put (opens d data).1 b a t, (opens d data).2) := by
  unfold opens
  dsimp only
  simp only [show (put d b a t).phase = d.phase from rfl, show (put d b a t).wait = d.wait from rfl]
  repeat' split
  all_goals first
    | rfl
    | contradiction
theorem closes_put (d : Dr) (b : List UInt8) (a : Int) (t : List (Int × Int)) : closes (put d b a t) = (put (closes d).1 b a t, (closes d).2) := by
  unfold closes
  simp only [show (put d b a t).phase = d.phase from rfl, show (put d b a t).step = d.step from rfl]
  repeat' split
  all_goals first
    | rfl
    | contradiction
theorem drain_put (b : List UInt8) (a : Int) (t : List (Int × Int)) : ∀ (n : Nat) (d : Dr) (l : List Pc), drain n (put d b a t) l = (put (drain n d l).1 b a t, (drain n d l).2)
  | 0, _, _ => rfl
  | n + 1, d, l => by
    unfold drain
    simp only [show (put d b a t).ahead = d.ahead from rfl, show (put d b a t).wants = d.wants from rfl]
    cases d.ahead with
    | nil => rfl
    | cons g r =>
      dsimp only
      split
      · exact drain_put b a t n { d with wants := (d.wants + 1) % 32, ahead := r } _
      · rfl
theorem orders_put (d : Dr) (b : List UInt8) (a : Int) (t : List (Int × Int)) (f : If.Fr) : orders (put d b a t) f = (put (orders d f).1 b a t, (orders d f).2) := by
  unfold orders
  dsimp only
  have e := drain_put b a t d.ahead.length { d with wants := (d.wants + 1) % 32 } [⟨f.ch, ⟨f.data.toArray⟩⟩]
  rw [show ({ put d b a t with wants := ((put d b a t).wants + 1) % 32 } : Dr) = put { d with wants := (d.wants + 1) % 32 } b a t from rfl, show (put d b a t).ahead = d.ahead from rfl, e]
  simp only [show (put d b a t).wants = d.wants from rfl, show (put d b a t).wait = d.wait from rfl]
  repeat' split
  all_goals first
    | rfl
    | contradiction
theorem takes2_put (d : Dr) (b : List UInt8) (a : Int) (t : List (Int × Int)) (f : If.Fr) : takes2 (put d b a t) f = (put (takes2 d f).1 b a t, (takes2 d f).2) := by
  unfold takes2
  rw [show Gp.acked (put d b a t) f.ak = put (Gp.acked d f.ak) b a t from rfl]
  simp only [show (put d b a t).phase = d.phase from rfl, orders_put]
  repeat' split
  all_goals first
    | rfl
    | contradiction
    | (simp_all [put]; done)
    | (simp_all [put]; rfl)
theorem takes_put (d : Dr) (b : List UInt8) (a : Int) (t : List (Int × Int)) (f : If.Fr) : takes (put d b a t) f = (put (takes d f).1 b a t, (takes d f).2) := by
  unfold takes
  rw [show ({ put d b a t with wait := Gp.or2 (put d b a t).wait } : Dr) = put { d with wait := Gp.or2 d.wait } b a t from rfl]
  dsimp only
  rw [opens_put, closes_put, takes2_put, show (put d b a t).caller = d.caller from rfl]
  repeat' split
  all_goals first
    | rfl
    | contradiction
/-- Packets, one behind the other. -/
def takesL : Dr → List If.Fr → List UInt8 → List Pc → Dr × List UInt8 × List Pc
  | d, [], out, came => (d, out, came)
  | d, f :: r, out, came => takesL (takes d f).1 r (out ++ (takes d f).2.1) (came ++ (takes d f).2.2)
def texts (l : List If.Fr) : List UInt8 := l.flatMap If.text
theorem texts_cons (f : If.Fr) (l : List If.Fr) : texts (f :: l) = If.text f ++ texts l := by simp [texts]
theorem text_cons (f : If.Fr) : ∃ r, If.text f = 7 :: r := ⟨_, rfl⟩
theorem scan_text {f : If.Fr} (h : If.ok f) (r : List UInt8) : If.scan 0 (If.text f ++ r) = ⟨f, 0, (If.text f).length, true⟩ := by
  have hr := If.read_text h r
  obtain ⟨x, hx⟩ := text_cons f
  rw [hx] at hr ⊢
  rw [List.cons_append] at hr ⊢
  unfold If.scan
  rw [hr]
  simp
theorem feedN_texts : ∀ (l : List If.Fr) (n : Nat) (d : Dr) (b : List UInt8) (a : Int) (t : List (Int × Int)) (out : List UInt8) (came : List Pc), (∀ f ∈ l, If.ok f) → b = texts l → l.length < n → ∃ a' t', feedN n (put d b a t) out came = (put (takesL d l out came).1 [] a' t', (takesL d l out came).2)
  | [], n + 1, d, b, a, t, out, came, _, hb, _ => by
    subst hb
    refine ⟨a, t, ?_⟩
    show feedN (n + 1) (put d [] a t) out came = _
    unfold feedN
    have hs : If.scan 0 (put d [] a t).buf = ⟨If.zero, 0, 0, false⟩ := rfl
    dsimp only
    rw [hs]
    simp only [Bool.false_eq_true, if_false, takesL]
    show (({ put d [] a t with buf := [], at_ := a + ((0 : Nat) : Int) } : Dr), out, came) = _
    simp [put]
  | f :: l, n + 1, d, b, a, t, out, came, hl, hb, hn => by
    rw [texts_cons] at hb
    subst hb
    have hs : If.scan 0 (put d (If.text f ++ texts l) a t).buf = ⟨f, 0, (If.text f).length, true⟩ := scan_text (hl f (by simp)) (texts l)
    unfold feedN
    dsimp only
    rw [hs]
    dsimp only
    rw [if_pos rfl]
    have hput : ({ put d (If.text f ++ texts l) a t with took := (put d (If.text f ++ texts l) a t).took ++ [((put d (If.text f ++ texts l) a t).at_ + ((0 : Nat) : Int), (put d (If.text f ++ texts l) a t).at_ + ((If.text f).length : Int))], buf := (put d (If.text f ++ texts l) a t).buf.drop (If.text f).length, at_ := (put d (If.text f ++ texts l) a t).at_ + ((If.text f).length : Int) } : Dr) = put d (texts l) (a + ((If.text f).length : Int)) (t ++ [(a + ((0 : Nat) : Int), a + ((If.text f).length : Int))]) := by
      show put d ((If.text f ++ texts l).drop (If.text f).length) _ _ = _
      rw [List.drop_left]
      rfl
    rw [hput, takes_put]
    exact feedN_texts l n (takes d f).1 (texts l) _ _ _ _ (fun x hx => hl x (by simp [hx])) rfl (by simp at hn; omega)
  | _, 0, _, _, _, _, _, _, _, _, h => by simp at h
theorem texts_len (l : List If.Fr) : l.length ≤ (texts l).length := by
  induction l with
  | nil => exact Nat.le_refl _
  | cons f l ih =>
    rw [texts_cons, List.length_append, List.length_cons]
    obtain ⟨r, hr⟩ := text_cons f
    rw [hr, List.length_cons]
    omega
/-- A drive that keeps no bytes is fed packets. -/
theorem feed_texts {d : Dr} (hd : d.buf = []) (l : List If.Fr) (hl : ∀ f ∈ l, If.ok f) : ∃ a t, feed d (texts l) = ((fill (put (takesL d l [] []).1 [] a t)).1, (takesL d l [] []).2.1 ++ (fill (put (takesL d l [] []).1 [] a t)).2, (takesL d l [] []).2.2) := by
  have hlen := texts_len l
  obtain ⟨a, t, h⟩ := feedN_texts l (d.buf.length + (texts l).length + 1) d (texts l) d.at_ [] [] [] hl rfl (by rw [hd]; show l.length < 0 + _ + 1; omega)
  refine ⟨a, t, ?_⟩
  unfold feed
  have e : ({ Gp.own d with buf := d.buf ++ texts l } : Dr) = put d (texts l) d.at_ [] := by rw [hd]; rfl
  rw [e, h]
theorem fill_empty {d : Dr} (h : d.queue = []) : fill d = (d, []) := by
  unfold fill fillN
  rw [h]
/-- An end that hears itself: a tick, and all that was said comes back. -/
def alone : Nat → Dr × List UInt8 → Dr × List UInt8
  | 0, x => x
  | n + 1, x => alone n ((feed (tick x.1).1 (x.2 ++ (tick x.1).2)).1, (feed (tick x.1).1 (x.2 ++ (tick x.1).2)).2.1)
/-- The packet of a sync. -/
def syncF (d : Dr) : If.Fr := ⟨1, 0, last d, 0, d.caller, [UInt8.ofNat (d.size.toNat / 256), UInt8.ofNat (d.size.toNat % 256), UInt8.ofNat d.room.toNat]⟩
theorem sync_ok (d : Dr) (_hw : 0 ≤ d.wants ∧ d.wants ≤ 31) : If.ok (syncF d) := ⟨⟨rfl, by show (0 : Int) ≤ 0 ∧ (0 : Int) ≤ 31; omega, by show 0 ≤ (d.wants + 31) % 32 ∧ (d.wants + 31) % 32 ≤ 31; omega, by show (0 : Int) ≤ 0 ∧ (0 : Int) ≤ 7; omega⟩, by show 3 < 4096; omega⟩
end Ip
end Go.Proofs.YtomldoijcclhhaaGreat
