/-
  Mathematics of layer 15: two ends that run, where nothing is lost: what waits goes, comes in order, and is acknowledged. Walks of layer 15: what an end says: packets of control, of the opening, of a text.
-/
import Derived.Test.YtomldoijcclhhaaGreatSkAJ
import Derived.Test.YtomldoijcclhhaaGreatSkAE
import Derived.Test.YtomldoijcclhhaaGreatSkAH
import Derived.Test.YtomldoijcclhhaaGreatSkAB
import Derived.Deep.QuietTactic
namespace Go.Proofs.YtomldoijcclhhaaGreat
namespace Gp
/-- A text of the window as a packet. -/
def pf (letter z lastn n : Int) (s : ByteArray) : Gf.Fr :=
  if (s.size : Int) < z then ⟨3, n, lastn, if letter = 71 then (hv 7 z.toNat s.size : Nat) else z, s.data.toList⟩ else ⟨2, n, lastn, z, s.data.toList⟩
theorem packet_text (d : Dr) (n : Int) (s : ByteArray) : packet d n s = Gf.text (pf d.letter d.size (last d) n s) := by
  unfold packet pf
  split <;> rfl
theorem code_half {z : Nat} (h : Gf.code (z : Int) ≠ 0) (h2 : 32 < z) : Gf.code ((z / 2 : Nat) : Int) ≠ 0 := by
  have hk := Gf.code_le (z : Int)
  have hz := (Gf.code_size h).1
  have : Gf.code (z : Int) = 1 ∨ Gf.code (z : Int) = 2 ∨ Gf.code (z : Int) = 3 ∨ Gf.code (z : Int) = 4 ∨ Gf.code (z : Int) = 5 ∨ Gf.code (z : Int) = 6 ∨ Gf.code (z : Int) = 7 ∨ Gf.code (z : Int) = 8 := by omega
  have hz2 : z = Gf.size (Gf.code (z : Int)) := Int.ofNat.inj hz
  rcases this with e | e | e | e | e | e | e | e <;> rw [e] at hz2 <;> subst hz2
  · exact absurd h2 (by decide)
  all_goals decide
theorem hv_ok : ∀ (f z n : Nat), Gf.code (z : Int) ≠ 0 → n < z → Gf.code ((hv f z n : Nat) : Int) ≠ 0 ∧ n < hv f z n
  | 0, _, _, h, hn => ⟨h, hn⟩
  | f + 1, z, n, h, hn => by
    unfold hv
    split
    · rename_i hc
      exact hv_ok f (z / 2) n (code_half h hc.1) hc.2
    · exact ⟨h, hn⟩
theorem bytes_len (s : ByteArray) : s.data.toList.length = s.size := rfl
theorem pf_ok {letter z lastn n : Int} {s : ByteArray} (hz : Gf.code z ≠ 0) (hl : 0 ≤ lastn ∧ lastn ≤ 7) (hn : 0 ≤ n ∧ n ≤ 7) (hs : (s.size : Int) ≤ z) : Gf.ok (pf letter z lastn n s) := by
  have hzz := size_pos hz
  unfold pf
  split
  · rename_i hc
    refine ⟨⟨hn.1, hn.2, hl.1, hl.2⟩, .inr (.inr ⟨rfl, ?_⟩)⟩
    dsimp only
    rw [bytes_len]
    split
    · have h := hv_ok 7 z.toNat s.size (by rw [show ((z.toNat : Nat) : Int) = z by omega]; exact hz) (by omega)
      exact ⟨h.1, by omega⟩
    · exact ⟨hz, hc⟩
  · refine ⟨⟨hn.1, hn.2, hl.1, hl.2⟩, .inr (.inl ⟨rfl, hz, ?_⟩)⟩
    show (s.data.toList.length : Int) = z
    rw [bytes_len]
    omega
theorem pf_parts (letter z lastn n : Int) (s : ByteArray) : (pf letter z lastn n s).ty ≠ 0 ∧ (pf letter z lastn n s).hi = n ∧ (pf letter z lastn n s).lo = lastn ∧ (pf letter z lastn n s).data = s.data.toList := by
  unfold pf
  split
  · exact ⟨by show (3 : Int) ≠ 0; omega, rfl, rfl, rfl⟩
  · exact ⟨by show (2 : Int) ≠ 0; omega, rfl, rfl, rfl⟩
/-- The texts that go next, n at most, and what is left. -/
def fillL : Nat → Nat → List Pc → List ByteArray × List Pc
  | 0, _, q => ([], q)
  | _ + 1, _, [] => ([], [])
  | n + 1, z, p :: r => (p.data.extract 0 (min p.data.size z) :: (fillL n z (cutQ (p :: r) (min p.data.size z))).1, (fillL n z (cutQ (p :: r) (min p.data.size z))).2)
/-- Their packets, from place i of the window on. -/
def frames (letter z lastn bs : Int) : Nat → List ByteArray → List Gf.Fr
  | _, [] => []
  | i, s :: r => pf letter z lastn ((bs + i) % 8) s :: frames letter z lastn bs (i + 1) r
theorem fillN_stop {f : Nat} {d : Dr} {out : List UInt8} (h : d.queue = [] ∨ ¬ (d.win.l.length : Int) < d.win.sz) : fillN (f + 1) d out = (d, out) := by
  unfold fillN
  cases hq : d.queue with
  | nil => rfl
  | cons p x =>
    dsimp only
    rcases h with h | h
    · rw [h] at hq; cases hq
    · rw [if_neg (fun e => h e.2)]
theorem fillN_go {f : Nat} {d : Dr} {out : List UInt8} {p : Pc} {q : List Pc} (hq : d.queue = p :: q) (h2 : d.phase = 2) (hl : (d.win.l.length : Int) < d.win.sz) : fillN (f + 1) d out = fillN f (fill1 d p).1 (out ++ (fill1 d p).2) := by
  conv => lhs; unfold fillN
  rw [hq]
  dsimp only
  rw [if_pos ⟨h2, hl⟩]
theorem fill1_run {d : Dr} {letter z r bs wants : Int} {l : List ByteArray} {p : Pc} {q : List Pc} (h : Run d letter z r bs wants l (p :: q)) (hl : (l.length : Int) < r) (h1 : 1 ≤ r) (h7 : r ≤ 7) (hb : 0 ≤ bs) (hb8 : bs < 8) :
    Run (fill1 d p).1 letter z r bs wants (l ++ [p.data.extract 0 (min p.data.size z.toNat)]) (cutQ (p :: q) (min p.data.size z.toNat)) ∧ (fill1 d p).2 = Gf.text (pf letter z ((wants + 7) % 8) ((bs + (l.length : Int)) % 8) (p.data.extract 0 (min p.data.size z.toNat))) := by
  have hw := h.wi
  have hrt : Wn.rt d.win = true := by
    rw [hw]
    exact Wn.rt_of ⟨by dsimp only; omega, by dsimp only; omega, by dsimp only; omega, by dsimp only; omega, by dsimp only; omega, by dsimp only; omega, by dsimp only; omega⟩
  have hput : ∀ s, Wn.put d.win s = (⟨8, r, bs, l ++ [s]⟩, (bs + (l.length : Int)) % 8, 0) := fun s => by
    rw [Wn.put_ok hrt (by rw [hw]; dsimp only; omega), hw]
    rfl
  unfold fill1
  dsimp only
  rw [packet_text, h.sz, hput, h.qu]
  refine ⟨⟨h.lt, h.ph, rfl, h.rm, rfl, h.wn, h.bf, rfl, h.wt⟩, ?_⟩
  show Gf.text (pf d.letter z ((d.wants + 7) % 8) _ _) = _
  rw [h.lt, h.wn]
theorem fillN_run (letter z r bs wants : Int) (h1 : 1 ≤ r) (h7 : r ≤ 7) (hb : 0 ≤ bs) (hb8 : bs < 8) : ∀ (n f : Nat) (d : Dr) (out : List UInt8) (l : List ByteArray) (q : List Pc), Run d letter z r bs wants l q → (l.length : Int) + n = r → n < f →
    Run (fillN f d out).1 letter z r bs wants (l ++ (fillL n z.toNat q).1) (fillL n z.toNat q).2 ∧ (fillN f d out).2 = out ++ texts (frames letter z ((wants + 7) % 8) bs l.length (fillL n z.toNat q).1) := by
  intro n
  induction n with
  | zero =>
    intro f d out l q h hn hf
    obtain ⟨f, rfl⟩ : ∃ g, f = g + 1 := ⟨f - 1, by omega⟩
    rw [fillN_stop (.inr (by rw [h.wi]; dsimp only; omega))]
    show Run d letter z r bs wants (l ++ []) q ∧ out = out ++ texts []
    exact ⟨by rw [List.append_nil]; exact h, by simp [texts]⟩
  | succ n ih =>
    intro f d out l q h hn hf
    obtain ⟨f, rfl⟩ : ∃ g, f = g + 1 := ⟨f - 1, by omega⟩
    cases q with
    | nil =>
      rw [fillN_stop (.inl h.qu)]
      show Run d letter z r bs wants (l ++ []) [] ∧ out = out ++ texts []
      exact ⟨by rw [List.append_nil]; exact h, by simp [texts]⟩
    | cons p q =>
      obtain ⟨hR, hO⟩ := fill1_run h (by omega) h1 h7 hb hb8
      rw [fillN_go h.qu h.ph (by rw [h.wi]; dsimp only; omega)]
      obtain ⟨r1, r2⟩ := ih f (fill1 d p).1 (out ++ (fill1 d p).2) _ _ hR (by rw [List.length_append, List.length_singleton]; omega) (by omega)
      refine ⟨?_, ?_⟩
      · rw [List.append_assoc] at r1
        exact r1
      · rw [r2, hO, List.append_assoc, List.length_append, List.length_singleton]
        show _ = out ++ texts (pf letter z ((wants + 7) % 8) ((bs + (l.length : Int)) % 8) (p.data.extract 0 (min p.data.size z.toNat)) :: frames letter z ((wants + 7) % 8) bs (l.length + 1) (fillL n z.toNat (cutQ (p :: q) (min p.data.size z.toNat))).1)
        rw [texts_cons]
theorem fill_run {d : Dr} {letter z r bs wants : Int} {l : List ByteArray} {q : List Pc} (h : Run d letter z r bs wants l q) (n : Nat) (hn : (l.length : Int) + n = r) (h1 : 1 ≤ r) (h7 : r ≤ 7) (hb : 0 ≤ bs) (hb8 : bs < 8) :
    Run (fill d).1 letter z r bs wants (l ++ (fillL n z.toNat q).1) (fillL n z.toNat q).2 ∧ (fill d).2 = texts (frames letter z ((wants + 7) % 8) bs l.length (fillL n z.toNat q).1) := by
  obtain ⟨r1, r2⟩ := fillN_run letter z r bs wants h1 h7 hb hb8 n 8 d [] l q h hn (by omega)
  exact ⟨r1, by unfold fill; rw [r2, List.nil_append]⟩
/-- A packet that is none of the opening's comes to an end that runs. -/
theorem takes2_run {d : Dr} (h : d.phase = 2) (f : Gf.Fr) : takes2 d f =
    if f.ty = 0 then (if f.hi ≠ 2 ∨ (acked d f.lo).wait % 2 = 1 then (acked d f.lo, [], []) else ({ acked d f.lo with wait := or1 (acked d f.lo).wait }, all { acked d f.lo with wait := or1 (acked d f.lo).wait }, []))
    else if Wn.ahead (acked d f.lo).wants f.hi 8 = 0 then ({ acked d f.lo with wants := ((acked d f.lo).wants + 1) % 8 }, ready { acked d f.lo with wants := ((acked d f.lo).wants + 1) % 8 }, f.data)
    else if Wn.ahead (acked d f.lo).wants f.hi 8 < (acked d f.lo).room then (acked d f.lo, ctrl 2 (last (acked d f.lo)), []) else (acked d f.lo, ready (acked d f.lo), []) := by
  have hc : ¬ (d.phase = 1 ∧ d.step = 2) := by omega
  have h3 : ¬ d.phase = 3 := by omega
  have h2 : ¬ d.phase ≠ 2 := by omega
  unfold takes2
  simp only [if_neg hc, if_neg h3, if_neg h2]
/-- A packet that is awaited comes. -/
theorem takes_data {d : Dr} {letter z r bs wants : Int} {q : List Pc} (h : Run d letter z r bs wants [] q) (hw : 0 ≤ wants) (hw8 : wants < 8) (lt z2 lo : Int) (s : ByteArray) :
    Run (takes d (pf lt z2 lo wants s)).1 letter z r bs ((wants + 1) % 8) [] q ∧ (takes d (pf lt z2 lo wants s)).2 = (Gf.text (cf 4 wants), s.data.toList) := by
  obtain ⟨p1, p2, p3, p4⟩ := pf_parts lt z2 lo wants s
  have hack : Wn.ack d.win lo = (d.win, 0) := by
    unfold Wn.ack
    have : Wn.place d.win lo = none := by
      cases hp : Wn.place d.win lo with
      | none => rfl
      | some K =>
        have := (Wn.place_some hp).2.1
        rw [h.wi] at this
        exact absurd this (Nat.not_lt_zero _)
    rw [this]
  unfold takes
  dsimp only
  rw [if_neg (fun e => p1 e.1), if_neg (fun e => p1 e.1)]
  rw [takes2_run (by exact h.ph), if_neg p1]
  unfold acked
  dsimp only
  rw [p2, p3, p4, hack, h.wn]
  have ha : Wn.ahead wants wants 8 = 0 := by
    unfold Wn.ahead
    rw [if_pos ⟨by omega, by omega, hw, hw8, hw, hw8⟩, if_pos (Int.le_refl _)]
    omega
  rw [ha, if_pos rfl]
  dsimp only
  refine ⟨⟨h.lt, h.ph, h.sz, h.rm, h.wi, rfl, h.bf, h.qu, or2_rng h.wt.1 h.wt.2⟩, ?_⟩
  unfold ready last
  dsimp only
  rw [ctrl_text, show ((wants + 1) % 8 + 7) % 8 = wants by omega]
/-- What B says of packets that come in order. -/
def readies (bs : Int) : Nat → Nat → List Gf.Fr
  | _, 0 => []
  | i, n + 1 => cf 4 ((bs + i) % 8) :: readies bs (i + 1) n
theorem readies_succ (bs : Int) (i n : Nat) : readies bs i (n + 1) = cf 4 ((bs + i) % 8) :: readies bs (i + 1) n := rfl
def bytes (l : List ByteArray) : List UInt8 := l.flatMap (·.data.toList)
theorem takesL_data : ∀ (l : List ByteArray) (i : Nat) (d : Dr) (out came : List UInt8) (letter z r bB wants : Int) (q : List Pc) (lt z2 lo bs : Int), Run d letter z r bB wants [] q → wants = (bs + i) % 8 →
    Run (takesL d (frames lt z2 lo bs i l) out came).1 letter z r bB ((bs + i + l.length) % 8) [] q ∧ (takesL d (frames lt z2 lo bs i l) out came).2 = (out ++ texts (readies bs i l.length), came ++ bytes l)
  | [], i, d, out, came, letter, z, r, bB, wants, q, lt, z2, lo, bs, h, hw => by
    refine ⟨?_, ?_⟩
    · show Run d letter z r bB ((bs + i + ((0 : Nat) : Int)) % 8) [] q
      rw [show bs + (i : Int) + ((0 : Nat) : Int) = bs + i by omega, ← hw]
      exact h
    · show (out, came) = (out ++ texts [], came ++ bytes [])
      simp [texts, bytes]
  | s :: l, i, d, out, came, letter, z, r, bB, wants, q, lt, z2, lo, bs, h, hw => by
    have hw0 : 0 ≤ wants ∧ wants < 8 := by rw [hw]; omega
    obtain ⟨t1, t2⟩ := takes_data h hw0.1 hw0.2 lt z2 lo s
    unfold frames
    rw [← hw]
    show Run (takesL (takes d (pf lt z2 lo wants s)).1 (frames lt z2 lo bs (i + 1) l) (out ++ (takes d (pf lt z2 lo wants s)).2.1) (came ++ (takes d (pf lt z2 lo wants s)).2.2)).1 _ _ _ _ _ _ _ ∧ (takesL (takes d (pf lt z2 lo wants s)).1 (frames lt z2 lo bs (i + 1) l) (out ++ (takes d (pf lt z2 lo wants s)).2.1) (came ++ (takes d (pf lt z2 lo wants s)).2.2)).2 = _
    rw [t2]
    obtain ⟨r1, r2⟩ := takesL_data l (i + 1) (takes d (pf lt z2 lo wants s)).1 (out ++ Gf.text (cf 4 wants)) (came ++ s.data.toList) letter z r bB ((wants + 1) % 8) q lt z2 lo bs t1 (by rw [hw]; omega)
    refine ⟨?_, ?_⟩
    · rw [show bs + (i : Int) + ((s :: l).length : Int) = bs + ((i + 1 : Nat) : Int) + (l.length : Int) by rw [List.length_cons]; omega]
      exact r1
    · dsimp only
      rw [r2, List.length_cons, readies_succ, texts_cons, ← hw]
      simp [bytes]
/-- What is under way is acknowledged. -/
theorem takes_ready {d : Dr} {letter z r bs wants : Int} {s : ByteArray} {l : List ByteArray} {q : List Pc} (h : Run d letter z r bs wants (s :: l) q) (h1 : 1 ≤ r) (h7 : r ≤ 7) (hb : 0 ≤ bs) (hb8 : bs < 8) (hl : ((s :: l).length : Int) ≤ r) :
    Run (takes d (cf 4 bs)).1 letter z r ((bs + 1) % 8) wants l q ∧ (takes d (cf 4 bs)).2 = ([], []) := by
  have hrt : Wn.rt d.win = true := by
    rw [h.wi]
    exact Wn.rt_of ⟨by dsimp only; omega, by dsimp only; omega, by dsimp only; omega, by dsimp only; omega, by dsimp only; omega, by dsimp only; omega, by dsimp only; omega⟩
  have hpl : Wn.place d.win bs = some 0 := by
    have := Wn.place_num hrt (i := 0) (by rw [h.wi]; simp)
    rw [show Wn.num d.win 0 = bs by unfold Wn.num; rw [h.wi]; dsimp only; omega] at this
    exact this
  have hack : Wn.ack d.win bs = (⟨8, r, (bs + 1) % 8, l⟩, 1) := by
    unfold Wn.ack
    rw [hpl]
    dsimp only
    rw [h.wi]
    rfl
  unfold takes
  dsimp only
  rw [if_neg (by show ¬ ((0 : Int) = 0 ∧ (5 : Int) ≤ 4); omega), if_neg (by show ¬ ((0 : Int) = 0 ∧ (4 : Int) = 1); omega)]
  rw [takes2_run (by exact h.ph), if_pos (show (cf 4 bs).ty = 0 from rfl), if_pos (.inl (by show (4 : Int) ≠ 2; omega))]
  unfold acked
  dsimp only
  rw [show (cf 4 bs).lo = bs from rfl, hack]
  exact ⟨⟨h.lt, h.ph, h.sz, h.rm, rfl, h.wn, h.bf, h.qu, or2_rng h.wt.1 h.wt.2⟩, rfl⟩
theorem takesL_ready : ∀ (l : List ByteArray) (i : Nat) (d : Dr) (out came : List UInt8) (letter z r b wants bs : Int) (q : List Pc), Run d letter z r b wants l q → 1 ≤ r → r ≤ 7 → b = (bs + i) % 8 → (l.length : Int) ≤ r →
    Run (takesL d (readies bs i l.length) out came).1 letter z r ((bs + i + l.length) % 8) wants [] q ∧ (takesL d (readies bs i l.length) out came).2 = (out, came)
  | [], i, d, out, came, letter, z, r, b, wants, bs, q, h, _, _, hb, _ => by
    refine ⟨?_, rfl⟩
    show Run d letter z r ((bs + i + ((0 : Nat) : Int)) % 8) wants [] q
    rw [show bs + (i : Int) + ((0 : Nat) : Int) = bs + i by omega, ← hb]
    exact h
  | s :: l, i, d, out, came, letter, z, r, b, wants, bs, q, h, h1, h7, hb, hl => by
    obtain ⟨t1, t2⟩ := takes_ready h h1 h7 (by omega) (by omega) hl
    rw [List.length_cons, readies_succ, ← hb]
    show Run (takesL (takes d (cf 4 b)).1 (readies bs (i + 1) l.length) (out ++ (takes d (cf 4 b)).2.1) (came ++ (takes d (cf 4 b)).2.2)).1 _ _ _ _ _ _ _ ∧ (takesL (takes d (cf 4 b)).1 (readies bs (i + 1) l.length) (out ++ (takes d (cf 4 b)).2.1) (came ++ (takes d (cf 4 b)).2.2)).2 = _
    rw [t2]
    obtain ⟨r1, r2⟩ := takesL_ready l (i + 1) (takes d (cf 4 b)).1 (out ++ []) (came ++ []) letter z r ((b + 1) % 8) wants bs q t1 h1 h7 (by rw [hb]; omega) (by rw [List.length_cons] at hl; omega)
    refine ⟨?_, ?_⟩
    · rw [show bs + (i : Int) + ((l.length + 1 : Nat) : Int) = bs + ((i + 1 : Nat) : Int) + (l.length : Int) by omega]
      exact r1
    · rw [r2]
      simp
end Gp
end Go.Proofs.YtomldoijcclhhaaGreat

namespace Go.Proofs.YtomldoijcclhhaaGreat
open Go.RowKit
/-- what a method leaves -/
def EPost (Kp : Nat → Prop) (base eb : Nat) (W : World) (d : Gp.Dr) (S C : List UInt8) (e : Ending) (w' : World) : Prop := e = .returned (.tuple #[]) ∧ ES Kp base w' eb d S C ∧ Fr base eb W w'
theorem Fr.step {base eb : Nat} {W W1 W2 : World} (h : Below W.heap.size W W1) (hB : base ≤ W.heap.size) (k : Fr base eb W1 W2) : Fr base eb W W2 := (Fr.of h hB).trans k
set_option maxHeartbeats 1000000 in
set_option maxRecDepth 100000 in
theorem say_go (eb : Nat) (t hh l z : Int) (D X : ByteArray) (w : World) (Post : Ending → World → Prop)
    (HW : Hid (∀ W, Calls Tryz.prog 141 #[.agg #[.int .i64 t, .int .i64 hh, .int .i64 l, .int .i64 z, .string D]] W fun e w' => e = .returned (.tuple #[.string X, .int .i64 0]) ∧ Below W.heap.size W w'))
    (HS : Hid (∀ W, Below w.heap.size w W → Calls Tryz.prog 101 #[.pointer (some ⟨eb, 18, none⟩), .string X] W fun e w' => e = .returned (.tuple #[.int .i64 X.size, .nilIface]) ∧ Post (.returned (.tuple #[])) w')) :
    Calls Tryz.prog 113 #[.pointer (some ⟨eb, 0, none⟩), .agg #[.int .i64 t, .int .i64 hh, .int .i64 l, .int .i64 z, .string D]] w Post := by
  have b0 := Rg.hid (Rg.al1 w (.cells #[.int .i64 t, .int .i64 hh, .int .i64 l, .int .i64 z, .string D] 93))
  go_enter Tryz.func113, Tryz.ntmps113
  go_wp2_with (first | (go_at_call 141; refine (HW.out _).mono ?_; rintro e w1 ⟨rfl, b1⟩; have b2 := Rg.hid (Rg.chain b0.out b1)) | (go_at_call 101; refine (HS.out _ b2.out).mono ?_; rintro e w2 ⟨rfl, hp⟩))
  go_end0
  exact hp
/-- what a method leaves that only says something -/
def EPostP (Kp : Nat → Prop) (base eb : Nat) (W : World) (d : Gp.Dr) (p : Pl) (S C : List UInt8) (e : Ending) (w' : World) : Prop := e = .returned (.tuple #[]) ∧ (∃ q', EAt Kp base w' eb d p q' S C) ∧ Fr base eb W w'
theorem EPostP.es {Kp : Nat → Prop} {base eb : Nat} {W : World} {d : Gp.Dr} {p : Pl} {S C : List UInt8} {e : Ending} {w' : World} (h : EPostP Kp base eb W d p S C e w') : EPost Kp base eb W d S C e w' := by
  obtain ⟨h1, ⟨q', h2⟩, h3⟩ := h
  exact ⟨h1, ⟨p, q', h2⟩, h3⟩
theorem say_anyP {Kp : Nat → Prop} {base eb : Nat} {W : World} {d : Gp.Dr} {p : Pl} {q : Bu} {S C : List UInt8} (h : EAt Kp base W eb d p q S C) (t hh l z : Int) (D : ByteArray) (hk : Gf.ok ⟨t, hh, l, z, D.data.toList⟩) (hlen : S.length + (Gf.text ⟨t, hh, l, z, D.data.toList⟩).length ≤ 140737488355328) :
    Calls Tryz.prog 113 #[.pointer (some ⟨eb, 0, none⟩), .agg #[.int .i64 t, .int .i64 hh, .int .i64 l, .int .i64 z, .string D]] W fun e w' => EPostP Kp base eb W d p (S ++ Gf.text ⟨t, hh, l, z, D.data.toList⟩) C e w' := by
  refine say_go eb t hh l z D ⟨(Gf.text ⟨t, hh, l, z, D.data.toList⟩).toArray⟩ W _ (write_yes t hh l z D hk) fun W1 b1 => ?_
  refine ((h.below b1).sayP ⟨(Gf.text ⟨t, hh, l, z, D.data.toList⟩).toArray⟩ hlen).mono fun e w' ⟨h1, h2, h3⟩ => ⟨h1, rfl, h2, Fr.step b1 h.lt h3⟩
theorem say_any {Kp : Nat → Prop} {base eb : Nat} {W : World} {d : Gp.Dr} {p : Pl} {q : Bu} {S C : List UInt8} (h : EAt Kp base W eb d p q S C) (t hh l z : Int) (D : ByteArray) (hk : Gf.ok ⟨t, hh, l, z, D.data.toList⟩) (hlen : S.length + (Gf.text ⟨t, hh, l, z, D.data.toList⟩).length ≤ 140737488355328) :
    Calls Tryz.prog 113 #[.pointer (some ⟨eb, 0, none⟩), .agg #[.int .i64 t, .int .i64 hh, .int .i64 l, .int .i64 z, .string D]] W fun e w' => EPost Kp base eb W d (S ++ Gf.text ⟨t, hh, l, z, D.data.toList⟩) C e w' := (say_anyP h t hh l z D hk hlen).mono fun _ _ hp => hp.es
theorem ctrl_ok {h l : Int} (h0 : 0 ≤ h) (h7 : h ≤ 7) (l0 : 0 ≤ l) (l7 : l ≤ 7) : Gf.ok ⟨0, h, l, 0, []⟩ := ⟨⟨h0, h7, l0, l7⟩, .inl ⟨rfl, rfl, rfl⟩⟩
set_option maxHeartbeats 1000000 in
set_option maxRecDepth 100000 in
theorem sayControl_go (eb : Nat) (hh l : Int) (w : World) (Post : Ending → World → Prop)
    (HS : Hid (Calls Tryz.prog 113 #[.pointer (some ⟨eb, 0, none⟩), .agg #[.int .i64 0, .int .i64 hh, .int .i64 l, .int .i64 0, .string ⟨#[]⟩]] w fun e w' => e = .returned (.tuple #[]) ∧ Post (.returned (.tuple #[])) w')) :
    Calls Tryz.prog 84 #[.pointer (some ⟨eb, 0, none⟩), .int .i64 hh, .int .i64 l] w Post := by
  go_enter Tryz.func84, Tryz.ntmps84
  go_wp2_with (go_at_call 113; refine HS.out.mono ?_; rintro e w1 ⟨rfl, hp⟩)
  go_end0
  exact hp
theorem sayControl_any {Kp : Nat → Prop} {base eb : Nat} {W : World} {d : Gp.Dr} {p : Pl} {q : Bu} {S C : List UInt8} (h : EAt Kp base W eb d p q S C) (hh l : Int) (h0 : 0 ≤ hh) (h7 : hh ≤ 7) (l0 : 0 ≤ l) (l7 : l ≤ 7) (hlen : S.length + 6 ≤ 140737488355328) :
    Calls Tryz.prog 84 #[.pointer (some ⟨eb, 0, none⟩), .int .i64 hh, .int .i64 l] W fun e w' => EPost Kp base eb W d (S ++ Gp.ctrl hh l) C e w' :=
  sayControl_go eb hh l W _ ((say_any h 0 hh l 0 ⟨#[]⟩ (ctrl_ok h0 h7 l0 l7) hlen).mono fun _ _ hp => ⟨hp.1, rfl, hp.2⟩)
theorem EPost.split {Kp : Nat → Prop} {base eb : Nat} {W : World} {d : Gp.Dr} {S C : List UInt8} {F : Nat} {args : Array Value} (h : Calls Tryz.prog F args W fun e w' => EPost Kp base eb W d S C e w') : Calls Tryz.prog F args W fun e w' => e = .returned (.tuple #[]) ∧ EPost Kp base eb W d S C (.returned (.tuple #[])) w' := h.mono fun _ _ hp => ⟨hp.1, rfl, hp.2⟩
theorem last_rng {d : Gp.Dr} : 0 ≤ Gp.last d ∧ Gp.last d ≤ 7 := by unfold Gp.last; omega
/-- the High of a step's opening packet -/
def Gp.hiOf (st : Int) : Int := if st = 0 then 7 else if st = 1 then 6 else 5
set_option maxHeartbeats 1000000 in
theorem openingHigh_any (st : Int) (w : World) : Calls Tryz.prog 85 #[.int .i64 st] w fun e w' => e = .returned (.int .i64 (Gp.hiOf st)) ∧ w' = w := by
  unfold Gp.hiOf
  by_cases h0 : st = 0
  · subst h0
    rw [if_pos rfl]
    go_enter Tryz.func85, Tryz.ntmps85
    go_wp2
    go_ret
    exact ⟨rfl, rfl⟩
  rw [if_neg h0]
  by_cases h1 : st = 1
  · subst h1
    rw [if_pos rfl]
    go_enter Tryz.func85, Tryz.ntmps85
    go_wp2
    go_ret
    exact ⟨rfl, rfl⟩
  rw [if_neg h1]
  have e0 : (st == 0) = false := by simp [h0]
  have e1 : (st == 1) = false := by simp [h1]
  go_enter Tryz.func85, Tryz.ntmps85
  go_wp2
  go_ret
  exact ⟨rfl, rfl⟩
set_option maxHeartbeats 1000000 in
set_option maxRecDepth 100000 in
theorem sayOpening1_go (eb : Nat) (rm sz l : Int) (K : Nat) (w : World) (Post : Ending → World → Prop) (c5 : w.cell? ⟨eb, 5, none⟩ = some (.int .i64 rm)) (c4 : w.cell? ⟨eb, 4, none⟩ = some (.int .i64 sz)) (hl : wrap64 ((K : Int) - 1) = l)
    (HC : Hid (∀ W, Calls Tryz.prog 83 #[.int .i64 sz] W fun e w' => e = .returned (.int .i64 (K : Int)) ∧ w' = W))
    (HH : Hid (∀ W, Calls Tryz.prog 85 #[.int .i64 1] W fun e w' => e = .returned (.int .i64 6) ∧ w' = W))
    (HS : Hid (Calls Tryz.prog 84 #[.pointer (some ⟨eb, 0, none⟩), .int .i64 6, .int .i64 l] w fun e w' => e = .returned (.tuple #[]) ∧ Post (.returned (.tuple #[])) w')) :
    Calls Tryz.prog 43 #[.pointer (some ⟨eb, 0, none⟩), .int .i64 1] w Post := by
  go_enter Tryz.func43, Tryz.ntmps43
  go_wp2_with (first | (go_at_call 83; refine (HC.out _).mono ?_; rintro e w1 ⟨rfl, hw⟩; obtain rfl := hw.symm) | (go_at_call 85; refine (HH.out _).mono ?_; rintro e w1 ⟨rfl, hw⟩; obtain rfl := hw.symm) | (go_at_call 84; refine HS.out.mono ?_; rintro e w1 ⟨rfl, hp⟩))
  go_end0
  exact hp
set_option maxHeartbeats 1000000 in
set_option maxRecDepth 100000 in
theorem sayOpening_go (eb : Nat) (st rm hh : Int) (w : World) (Post : Ending → World → Prop) (c5 : w.cell? ⟨eb, 5, none⟩ = some (.int .i64 rm)) (h1 : (st == 1) = false)
    (HH : Hid (∀ W, Calls Tryz.prog 85 #[.int .i64 st] W fun e w' => e = .returned (.int .i64 hh) ∧ w' = W))
    (HS : Hid (Calls Tryz.prog 84 #[.pointer (some ⟨eb, 0, none⟩), .int .i64 hh, .int .i64 rm] w fun e w' => e = .returned (.tuple #[]) ∧ Post (.returned (.tuple #[])) w')) :
    Calls Tryz.prog 43 #[.pointer (some ⟨eb, 0, none⟩), .int .i64 st] w Post := by
  go_enter Tryz.func43, Tryz.ntmps43
  go_wp2_with (first | (go_at_call 85; refine (HH.out _).mono ?_; rintro e w1 ⟨rfl, hw⟩; obtain rfl := hw.symm) | (go_at_call 84; refine HS.out.mono ?_; rintro e w1 ⟨rfl, hp⟩))
  go_end0
  exact hp
theorem sayOpening_any {Kp : Nat → Prop} {base eb : Nat} {W : World} {d : Gp.Dr} {p : Pl} {q : Bu} {S C : List UInt8} (h : EAt Kp base W eb d p q S C) (st : Int) (h0 : 0 ≤ st) (h2 : st ≤ 2) (hz : Gf.code d.size ≠ 0) (r1 : 1 ≤ d.room) (r7 : d.room ≤ 7) (hlen : S.length + 6 ≤ 140737488355328) :
    Calls Tryz.prog 43 #[.pointer (some ⟨eb, 0, none⟩), .int .i64 st] W fun e w' => EPost Kp base eb W d (S ++ Gp.opening d st) C e w' := by
  have hh := fun W => openingHigh_any st W
  unfold Gp.opening
  by_cases e1 : st = 1
  · subst e1
    rw [if_neg (by omega), if_pos rfl]
    have hr := Gp.code_rng hz
    exact sayOpening1_go eb d.room d.size _ (Gf.code d.size) W _ (h.bk.cell 5) (h.bk.cell 4) (by unfold wrap64; omega) (gcode_any d.size) hh (EPost.split (sayControl_any h 6 _ (by omega) (by omega) hr.1 hr.2 hlen))
  · by_cases e0 : st = 0
    · subst e0
      rw [if_pos rfl]
      exact sayOpening_go eb 0 d.room 7 W _ (h.bk.cell 5) (by decide) hh (EPost.split (sayControl_any h 7 _ (by omega) (by omega) (by omega) r7 hlen))
    · have e2 : st = 2 := by omega
      subst e2
      rw [if_neg (by omega), if_neg (by omega)]
      exact sayOpening_go eb 2 d.room 5 W _ (h.bk.cell 5) (by decide) hh (EPost.split (sayControl_any h 5 _ (by omega) (by omega) (by omega) r7 hlen))
end Go.Proofs.YtomldoijcclhhaaGreat
