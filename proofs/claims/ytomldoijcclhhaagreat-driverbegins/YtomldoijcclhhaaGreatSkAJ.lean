/-
  Mathematics of layer 15: packets that come one behind the other; ticks till an end gives up. Mathematics of layer 15: two ends that open, where nothing is lost.
-/
import Derived.Test.YtomldoijcclhhaaGreatSkAI
namespace Go.Proofs.YtomldoijcclhhaaGreat
namespace Gp
/-- What no packet asks: the bytes that are kept, their number, what was taken. -/
def put (d : Dr) (b : List UInt8) (a : Int) (t : List (Int × Int)) : Dr := { d with buf := b, at_ := a, took := t }
theorem allFrom_put (d : Dr) (b : List UInt8) (a : Int) (t : List (Int × Int)) : ∀ (l : List ByteArray) (i : Nat), allFrom (put d b a t) l i = allFrom d l i
  | [], _ => rfl
  | s :: r, i => by
    unfold allFrom
    rw [allFrom_put d b a t r (i + 1)]
    rfl
theorem all_put (d : Dr) (b : List UInt8) (a : Int) (t : List (Int × Int)) : all (put d b a t) = all d := allFrom_put d b a t d.win.l 0
theorem begins_put (d : Dr) (b : List UInt8) (a : Int) (t : List (Int × Int)) (q low : Int) : begins (put d b a t) q low = (put (begins d q low).1 b a t, (begins d q low).2) := by
  unfold begins
  simp only [show (put d b a t).phase = d.phase from rfl, show (put d b a t).step = d.step from rfl, show (put d b a t).wait = d.wait from rfl, show (put d b a t).size = d.size from rfl, show (put d b a t).room = d.room from rfl]
  repeat' split
  all_goals rfl
theorem closes_put (d : Dr) (b : List UInt8) (a : Int) (t : List (Int × Int)) : closes (put d b a t) = (put (closes d).1 b a t, (closes d).2) := by
  unfold closes
  simp only [show (put d b a t).phase = d.phase from rfl, show (put d b a t).step = d.step from rfl]
  repeat' split
  all_goals rfl
theorem takes2_put (d : Dr) (b : List UInt8) (a : Int) (t : List (Int × Int)) (f : Gf.Fr) : takes2 (put d b a t) f = (put (takes2 d f).1 b a t, (takes2 d f).2) := by
  have ho : (if (put d b a t).phase = 1 ∧ (put d b a t).step = 2 then open_ (put d b a t) else put d b a t) = put (if d.phase = 1 ∧ d.step = 2 then open_ d else d) b a t := by
    show (if d.phase = 1 ∧ d.step = 2 then open_ (put d b a t) else put d b a t) = _
    split <;> rfl
  unfold takes2
  rw [ho]
  generalize (if d.phase = 1 ∧ d.step = 2 then open_ d else d) = e
  have ha : acked (put e b a t) f.lo = put (acked e f.lo) b a t := rfl
  dsimp only
  rw [ha]
  simp only [show (put e b a t).phase = e.phase from rfl, show (put (acked e f.lo) b a t).wait = (acked e f.lo).wait from rfl, show (put (acked e f.lo) b a t).wants = (acked e f.lo).wants from rfl, show (put (acked e f.lo) b a t).room = (acked e f.lo).room from rfl]
  split
  · rfl
  split
  · rfl
  split
  · split
    · rfl
    · exact congrArg (fun x => (put { acked e f.lo with wait := or1 (acked e f.lo).wait } b a t, x, ([] : List UInt8))) (all_put { acked e f.lo with wait := or1 (acked e f.lo).wait } b a t)
  · split
    · rfl
    · split <;> rfl
theorem takes_put (d : Dr) (b : List UInt8) (a : Int) (t : List (Int × Int)) (f : Gf.Fr) : takes (put d b a t) f = (put (takes d f).1 b a t, (takes d f).2) := by
  unfold takes
  rw [show ({ put d b a t with wait := or2 (put d b a t).wait } : Dr) = put { d with wait := or2 d.wait } b a t from rfl]
  dsimp only
  rw [begins_put, closes_put, takes2_put]
  split
  · rfl
  · split <;> rfl
/-- Packets, one behind the other. -/
def takesL : Dr → List Gf.Fr → List UInt8 → List UInt8 → Dr × List UInt8 × List UInt8
  | d, [], out, came => (d, out, came)
  | d, f :: r, out, came => takesL (takes d f).1 r (out ++ (takes d f).2.1) (came ++ (takes d f).2.2)
def texts (l : List Gf.Fr) : List UInt8 := l.flatMap Gf.text
theorem texts_cons (f : Gf.Fr) (l : List Gf.Fr) : texts (f :: l) = Gf.text f ++ texts l := by simp [texts]
theorem text_cons (f : Gf.Fr) : ∃ r, Gf.text f = 16 :: r := ⟨_, rfl⟩
theorem scan_text {f : Gf.Fr} (h : Gf.ok f) (r : List UInt8) : Gf.scan 0 (Gf.text f ++ r) = ⟨f, 0, (Gf.text f).length, true⟩ := by
  have hr := Gf.read_text h r
  obtain ⟨x, hx⟩ := text_cons f
  rw [hx] at hr ⊢
  rw [List.cons_append] at hr ⊢
  unfold Gf.scan
  rw [hr]
  simp
theorem feedN_texts : ∀ (l : List Gf.Fr) (n : Nat) (d : Dr) (b : List UInt8) (a : Int) (t : List (Int × Int)) (out came : List UInt8), (∀ f ∈ l, Gf.ok f) → b = texts l → l.length < n → ∃ a' t', feedN n (put d b a t) out came = (put (takesL d l out came).1 [] a' t', (takesL d l out came).2)
  | [], n + 1, d, b, a, t, out, came, _, hb, _ => by
    subst hb
    refine ⟨a, t, ?_⟩
    show feedN (n + 1) (put d [] a t) out came = _
    unfold feedN
    have hs : Gf.scan 0 (put d [] a t).buf = ⟨Gf.zero, 0, 0, false⟩ := rfl
    dsimp only
    rw [hs]
    simp only [Bool.false_eq_true, if_false, takesL]
    show (({ put d [] a t with buf := [], at_ := a + ((0 : Nat) : Int) } : Dr), out, came) = _
    simp [put]
  | f :: l, n + 1, d, b, a, t, out, came, hl, hb, hn => by
    rw [texts_cons] at hb
    subst hb
    have hs : Gf.scan 0 (put d (Gf.text f ++ texts l) a t).buf = ⟨f, 0, (Gf.text f).length, true⟩ := scan_text (hl f (by simp)) (texts l)
    unfold feedN
    dsimp only
    rw [hs]
    dsimp only
    rw [if_pos rfl]
    have hput : ({ put d (Gf.text f ++ texts l) a t with took := (put d (Gf.text f ++ texts l) a t).took ++ [((put d (Gf.text f ++ texts l) a t).at_ + ((0 : Nat) : Int), (put d (Gf.text f ++ texts l) a t).at_ + ((Gf.text f).length : Int))], buf := (put d (Gf.text f ++ texts l) a t).buf.drop (Gf.text f).length, at_ := (put d (Gf.text f ++ texts l) a t).at_ + ((Gf.text f).length : Int) } : Dr) = put d (texts l) (a + ((Gf.text f).length : Int)) (t ++ [(a + ((0 : Nat) : Int), a + ((Gf.text f).length : Int))]) := by
      show put d ((Gf.text f ++ texts l).drop (Gf.text f).length) _ _ = _
      rw [List.drop_left]
      rfl
    rw [hput, takes_put]
    exact feedN_texts l n (takes d f).1 (texts l) _ _ _ _ (fun x hx => hl x (by simp [hx])) rfl (by simp at hn; omega)
  | _, 0, _, _, _, _, _, _, _, _, h => by simp at h
theorem texts_len (l : List Gf.Fr) : l.length ≤ (texts l).length := by
  induction l with
  | nil => exact Nat.le_refl _
  | cons f l ih =>
    rw [texts_cons, List.length_append, List.length_cons]
    obtain ⟨r, hr⟩ := text_cons f
    rw [hr, List.length_cons]
    omega
/-- A drive that keeps no bytes is fed packets. -/
theorem feed_texts {d : Dr} (hd : d.buf = []) (l : List Gf.Fr) (hl : ∀ f ∈ l, Gf.ok f) : ∃ a t, feed d (texts l) = ((fill (put (takesL d l [] []).1 [] a t)).1, (takesL d l [] []).2.1 ++ (fill (put (takesL d l [] []).1 [] a t)).2, (takesL d l [] []).2.2) := by
  have hlen := texts_len l
  obtain ⟨a, t, h⟩ := feedN_texts l (d.buf.length + (texts l).length + 1) d (texts l) d.at_ [] [] [] hl rfl (by rw [hd]; show l.length < 0 + _ + 1; omega)
  refine ⟨a, t, ?_⟩
  unfold feed
  have e : ({ own d with buf := d.buf ++ texts l } : Dr) = put d (texts l) d.at_ [] := by rw [hd]; rfl
  rw [e, h]
end Gp
end Go.Proofs.YtomldoijcclhhaaGreat

namespace Go.Proofs.YtomldoijcclhhaaGreat
namespace Gp
/-- A control packet. -/
def cf (h l : Int) : Gf.Fr := ⟨0, h, l, 0, []⟩
theorem cf_ok {h l : Int} (h0 : 0 ≤ h) (h7 : h ≤ 7) (l0 : 0 ≤ l) (l7 : l ≤ 7) : Gf.ok (cf h l) := ⟨⟨h0, h7, l0, l7⟩, .inl ⟨rfl, rfl, rfl⟩⟩
theorem ctrl_text (h l : Int) : ctrl h l = Gf.text (cf h l) := rfl
theorem texts_one (f : Gf.Fr) : Gf.text f = texts [f] := by simp [texts]
theorem texts_two (f g : Gf.Fr) : Gf.text f ++ Gf.text g = texts [f, g] := by simp [texts]
theorem or2_rng {w : Int} (h0 : 0 ≤ w) (h3 : w ≤ 3) : 0 ≤ or2 w ∧ or2 w ≤ 3 := wait2 h0 h3
theorem code_pow {z : Int} (h : Gf.code z ≠ 0) : (32 : Int) * 2 ^ ((Gf.code z : Int) - 1).toNat = z := by
  have hk := Gf.code_le z
  have hz := (Gf.code_size h).1
  unfold Gf.size at hz
  have : Gf.code z = 1 ∨ Gf.code z = 2 ∨ Gf.code z = 3 ∨ Gf.code z = 4 ∨ Gf.code z = 5 ∨ Gf.code z = 6 ∨ Gf.code z = 7 ∨ Gf.code z = 8 := by omega
  rcases this with e | e | e | e | e | e | e | e <;> rw [e] at hz ⊢ <;> rw [hz] <;> decide
/-- An end that opens: what stands of it. -/
structure Op1 (d : Dr) (letter st z r : Int) (q : List Pc) : Prop where
  lt : d.letter = letter
  ph : d.phase = 1
  st : d.step = st
  sz : d.size = z
  rm : d.room = r
  wn : d.wants = 1
  bf : d.buf = []
  qu : d.queue = q
  wt : 0 ≤ d.wait ∧ d.wait ≤ 3
/-- An end that runs: what stands of it. -/
structure Run (d : Dr) (letter z r bs wants : Int) (l : List ByteArray) (q : List Pc) : Prop where
  lt : d.letter = letter
  ph : d.phase = 2
  sz : d.size = z
  rm : d.room = r
  wi : d.win = ⟨8, r, bs, l⟩
  wn : d.wants = wants
  bf : d.buf = []
  qu : d.queue = q
  wt : 0 ≤ d.wait ∧ d.wait ≤ 3
theorem takes_a {d : Dr} {letter z r : Int} {q : List Pc} (h : Op1 d letter 0 z r q) {low : Int} (hl : 1 ≤ low) : Op1 (takes d (cf 7 low)).1 letter 1 z (min r low) q ∧ (takes d (cf 7 low)).2 = (ctrl 6 ((Gf.code z : Int) - 1), []) := by
  obtain ⟨h1, h2, h3, h4, h5, h6, h7, h8, h9⟩ := h
  unfold takes
  dsimp only
  rw [if_pos ⟨rfl, by show (5 : Int) ≤ 7; omega⟩]
  unfold begins
  rw [if_neg (by show ¬ d.phase = 2; omega), if_neg (by show ¬ (d.phase ≠ 1 ∨ d.step < 7 - 7); omega), if_neg (by show ¬ (7 - 7 < d.step); omega), if_neg (by show ¬ ((7 : Int) - 7 = 1); omega), if_neg (by show ¬ low < 1; omega)]
  dsimp only
  rw [if_neg (by omega)]
  refine ⟨⟨h1, h2, by show d.step + 1 = 1; omega, h4, by show min d.room low = _; rw [h5], h6, h7, h8, or2_rng h9.1 h9.2⟩, ?_⟩
  unfold opening
  dsimp only
  rw [h3, if_neg (by omega), if_pos (by omega), h4]
theorem takes_b {d : Dr} {letter z r : Int} {q : List Pc} (h : Op1 d letter 1 z r q) {y : Int} (hy : Gf.code y ≠ 0) : Op1 (takes d (cf 6 ((Gf.code y : Int) - 1))).1 letter 2 (min z y) r q ∧ (takes d (cf 6 ((Gf.code y : Int) - 1))).2 = (ctrl 5 r, []) := by
  obtain ⟨h1, h2, h3, h4, h5, h6, h7, h8, h9⟩ := h
  unfold takes
  dsimp only
  rw [if_pos ⟨rfl, by show (5 : Int) ≤ 6; omega⟩]
  unfold begins
  rw [if_neg (by show ¬ d.phase = 2; omega), if_neg (by show ¬ (d.phase ≠ 1 ∨ d.step < 7 - 6); omega), if_neg (by show ¬ (7 - 6 < d.step); omega), if_pos (by show ((7 : Int) - 6 = 1); omega)]
  dsimp only
  refine ⟨⟨h1, h2, by show d.step + 1 = 2; omega, by show min d.size (32 * 2 ^ ((Gf.code y : Int) - 1).toNat) = _; rw [h4, code_pow hy], h5, h6, h7, h8, or2_rng h9.1 h9.2⟩, ?_⟩
  unfold opening
  dsimp only
  rw [h3, if_neg (by omega), if_neg (by omega), h5]
theorem open_run {d : Dr} {letter z r : Int} {q : List Pc} (h1 : d.letter = letter) (h4 : d.size = z) (h5 : d.room = r) (h6 : d.wants = 1) (h7 : d.buf = []) (h8 : d.queue = q) (h9 : 0 ≤ d.wait ∧ d.wait ≤ 3) (hr : 1 ≤ r) (hr7 : r ≤ 7) : Run (open_ d) letter z r 1 1 [] q := by
  refine ⟨h1, rfl, h4, h5, ?_, h6, h7, h8, h9⟩
  show (Wn.begin_ 8 d.room 1).1 = _
  rw [h5, show Wn.begin_ 8 r 1 = (⟨8, r, 1, []⟩, 0) from if_pos ⟨by omega, by omega, hr, by omega, by omega, by omega⟩]
theorem takes_c {d : Dr} {letter z r : Int} {q : List Pc} (h : Op1 d letter 2 z r q) (hr : 1 ≤ r) (hr7 : r ≤ 7) : Run (takes d (cf 5 r)).1 letter z r 1 1 [] q ∧ (takes d (cf 5 r)).2 = ([], []) := by
  obtain ⟨h1, h2, h3, h4, h5, h6, h7, h8, h9⟩ := h
  unfold takes
  dsimp only
  rw [if_pos ⟨rfl, by show (5 : Int) ≤ 5; omega⟩]
  unfold begins
  rw [if_neg (by show ¬ d.phase = 2; omega), if_neg (by show ¬ (d.phase ≠ 1 ∨ d.step < 7 - 5); omega), if_neg (by show ¬ (7 - 5 < d.step); omega), if_neg (by show ¬ ((7 : Int) - 5 = 1); omega), if_neg (by show ¬ r < 1; omega)]
  dsimp only
  rw [if_pos (by omega)]
  exact ⟨open_run h1 h4 (by show min d.room r = r; rw [h5]; exact Int.min_self r) h6 h7 h8 (or2_rng h9.1 h9.2) hr hr7, rfl⟩
theorem fill_opening {d : Dr} (h : d.phase = 1) : fill d = (d, []) := by
  unfold fill fillN
  cases d.queue with
  | nil => rfl
  | cons p q =>
    dsimp only
    rw [if_neg (by omega)]
theorem fill_empty {d : Dr} (h : d.queue = []) : fill d = (d, []) := by
  unfold fill fillN
  rw [h]
theorem Op1.put {d : Dr} {letter st z r : Int} {q : List Pc} (h : Op1 d letter st z r q) (a : Int) (t : List (Int × Int)) : Op1 (put d [] a t) letter st z r q := ⟨h.lt, h.ph, h.st, h.sz, h.rm, h.wn, rfl, h.qu, h.wt⟩
theorem Run.put {d : Dr} {letter z r bs wants : Int} {l : List ByteArray} {q : List Pc} (h : Run d letter z r bs wants l q) (a : Int) (t : List (Int × Int)) : Run (put d [] a t) letter z r bs wants l q := ⟨h.lt, h.ph, h.sz, h.rm, h.wi, h.wn, rfl, h.qu, h.wt⟩
theorem Op1.own {d : Dr} {letter st z r : Int} {q : List Pc} (h : Op1 d letter st z r q) : Op1 (own d) letter st z r q := ⟨h.lt, h.ph, h.st, h.sz, h.rm, h.wn, h.bf, h.qu, h.wt⟩
theorem code_rng {z : Int} (h : Gf.code z ≠ 0) : 0 ≤ (Gf.code z : Int) - 1 ∧ (Gf.code z : Int) - 1 ≤ 7 := by have := Gf.code_le z; omega
/-- The first end takes INITA. -/
theorem feed_a {d : Dr} {letter z r : Int} {q : List Pc} (h : Op1 d letter 0 z r q) {low : Int} (hl : 1 ≤ low) (hl7 : low ≤ 7) : Op1 (feed d (ctrl 7 low)).1 letter 1 z (min r low) q ∧ (feed d (ctrl 7 low)).2 = (ctrl 6 ((Gf.code z : Int) - 1), []) := by
  rw [ctrl_text, texts_one]
  obtain ⟨a, t, e⟩ := feed_texts h.bf [cf 7 low] (fun f hf => by simp at hf; subst hf; exact cf_ok (by omega) (by omega) (by omega) hl7)
  obtain ⟨h1, h2⟩ := takes_a h hl
  rw [e]
  have ht : takesL d [cf 7 low] [] [] = ((takes d (cf 7 low)).1, (takes d (cf 7 low)).2.1, (takes d (cf 7 low)).2.2) := by simp [takesL]
  rw [ht, h2]
  dsimp only
  rw [fill_opening (h1.put a t).ph]
  exact ⟨h1.put a t, by simp⟩
/-- The other end takes INITA and INITB. -/
theorem feed_ab {d : Dr} {letter z r : Int} {q : List Pc} (h : Op1 d letter 0 z r q) {low y : Int} (hl : 1 ≤ low) (hl7 : low ≤ 7) (hy : Gf.code y ≠ 0) : Op1 (feed d (ctrl 7 low ++ ctrl 6 ((Gf.code y : Int) - 1))).1 letter 2 (min z y) (min r low) q ∧ (feed d (ctrl 7 low ++ ctrl 6 ((Gf.code y : Int) - 1))).2 = (ctrl 6 ((Gf.code z : Int) - 1) ++ ctrl 5 (min r low), []) := by
  rw [ctrl_text 7 low, ctrl_text 6 ((Gf.code y : Int) - 1), texts_two]
  obtain ⟨a, t, e⟩ := feed_texts h.bf [cf 7 low, cf 6 ((Gf.code y : Int) - 1)] (fun f hf => by
    simp at hf
    rcases hf with rfl | rfl
    · exact cf_ok (by omega) (by omega) (by omega) hl7
    · exact cf_ok (by omega) (by omega) (code_rng hy).1 (code_rng hy).2)
  obtain ⟨h1, h2⟩ := takes_a h hl
  obtain ⟨h3, h4⟩ := takes_b h1 hy
  rw [e]
  have ht : takesL d [cf 7 low, cf 6 ((Gf.code y : Int) - 1)] [] [] = ((takes (takes d (cf 7 low)).1 (cf 6 ((Gf.code y : Int) - 1))).1, (takes d (cf 7 low)).2.1 ++ (takes (takes d (cf 7 low)).1 (cf 6 ((Gf.code y : Int) - 1))).2.1, (takes d (cf 7 low)).2.2 ++ (takes (takes d (cf 7 low)).1 (cf 6 ((Gf.code y : Int) - 1))).2.2) := by simp [takesL]
  rw [ht, h2, h4]
  dsimp only
  rw [fill_opening (h3.put a t).ph]
  exact ⟨h3.put a t, by simp⟩
/-- The first end takes INITB and INITC: it runs, and what waits goes. -/
theorem feed_bc {d : Dr} {letter z r : Int} {q : List Pc} (h : Op1 d letter 1 z r q) {y : Int} (hy : Gf.code y ≠ 0) (hr : 1 ≤ r) (hr7 : r ≤ 7) : ∃ e, Run e letter (min z y) r 1 1 [] q ∧ feed d (ctrl 6 ((Gf.code y : Int) - 1) ++ ctrl 5 r) = ((fill e).1, ctrl 5 r ++ (fill e).2, []) := by
  rw [ctrl_text 6 ((Gf.code y : Int) - 1), ctrl_text 5 r, texts_two]
  obtain ⟨a, t, e⟩ := feed_texts h.bf [cf 6 ((Gf.code y : Int) - 1), cf 5 r] (fun f hf => by
    simp at hf
    rcases hf with rfl | rfl
    · exact cf_ok (by omega) (by omega) (code_rng hy).1 (code_rng hy).2
    · exact cf_ok (by omega) (by omega) (by omega) hr7)
  obtain ⟨h1, h2⟩ := takes_b h hy
  obtain ⟨h3, h4⟩ := takes_c h1 hr hr7
  refine ⟨_, h3.put a t, ?_⟩
  rw [e]
  have ht : takesL d [cf 6 ((Gf.code y : Int) - 1), cf 5 r] [] [] = ((takes (takes d (cf 6 ((Gf.code y : Int) - 1))).1 (cf 5 r)).1, (takes d (cf 6 ((Gf.code y : Int) - 1))).2.1 ++ (takes (takes d (cf 6 ((Gf.code y : Int) - 1))).1 (cf 5 r)).2.1, (takes d (cf 6 ((Gf.code y : Int) - 1))).2.2 ++ (takes (takes d (cf 6 ((Gf.code y : Int) - 1))).1 (cf 5 r)).2.2) := by simp [takesL]
  rw [ht, h2, h4]
  simp [ctrl_text]
end Gp
end Go.Proofs.YtomldoijcclhhaaGreat
