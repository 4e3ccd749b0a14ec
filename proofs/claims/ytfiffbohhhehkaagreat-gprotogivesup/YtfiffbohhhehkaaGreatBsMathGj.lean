/-
  Mathematics of layer 15: what two ends say to each other where nothing is lost is short; what is taken.
-/
import Derived.Test.YtfiffbohhhehkaaGreatBuMath
import Derived.Test.YtfiffbohhhehkaaGreatBsMathGk
namespace Go.Proofs.YtfiffbohhhehkaaGreat
namespace Gp
theorem k_begins (d : Dr) (q low : Int) : (begins d q low).1.took = d.took := by
  unfold begins
  dsimp only
  repeat' split
  all_goals rfl
theorem k_closes (d : Dr) : (closes d).1.took = d.took := by
  unfold closes
  repeat' split
  all_goals rfl
theorem k_takes2 (d : Dr) (f : Gf.Fr) : (takes2 d f).1.took = d.took := by
  have ho : (if d.phase = 1 ∧ d.step = 2 then open_ d else d).took = d.took := by split <;> rfl
  unfold takes2
  generalize (if d.phase = 1 ∧ d.step = 2 then open_ d else d) = g at *
  dsimp only
  repeat' split
  all_goals exact ho
theorem k_takes (d : Dr) (f : Gf.Fr) : (takes d f).1.took = d.took := by
  unfold takes
  dsimp only
  split
  · exact k_begins _ _ _
  split
  · exact k_closes _
  · exact k_takes2 _ f
theorem k_fillN : ∀ (f : Nat) (d : Dr) (out : List UInt8), (fillN f d out).1.took = d.took
  | 0, _, _ => rfl
  | f + 1, d, out => by
    unfold fillN
    cases d.queue with
    | nil => rfl
    | cons p q =>
      dsimp only
      split
      · exact k_fillN f (fill1 d p).1 _
      · rfl
theorem k_feedN : ∀ (f : Nat) (d : Dr) (out came : List UInt8), (feedN f d out came).1.took.length ≤ d.took.length + f
  | 0, _, _, _ => Nat.le_refl _
  | f + 1, d, out, came => by
    unfold feedN
    dsimp only
    split
    · refine Nat.le_trans (k_feedN f _ _ _) ?_
      rw [k_takes]
      simp
      omega
    · exact Nat.le_add_right _ _
theorem k_feed (d : Dr) (s : List UInt8) : (feed d s).1.took.length ≤ d.buf.length + s.length + 1 := by
  unfold feed fill
  dsimp only
  rw [k_fillN]
  have := k_feedN (d.buf.length + s.length + 1) { own d with buf := d.buf ++ s } [] []
  simpa [own] using this
theorem rnds_succ (n : Nat) (p : Pr) : rnds (n + 1) p = rnd (rnds n p) := rnds_add n 1 p
theorem ticks_succ : ∀ (n : Nat) (d : Dr), ticks (n + 1) d = (tick (ticks n d)).1
  | 0, _ => rfl
  | n + 1, d => ticks_succ n (tick d).1
/-- A round is short. -/
structure Hs (p : Pr) : Prop where
  w0 : p.w0.length ≤ 100
  w1 : p.w1.length ≤ 100
  sa : (feed p.a p.w0).2.1.length ≤ 5100
  ca : (feed p.a p.w0).2.2.length ≤ 600
  sb : (feed p.b (p.w1 ++ (feed p.a p.w0).2.1)).2.1.length ≤ 100
  cb : (feed p.b (p.w1 ++ (feed p.a p.w0).2.1)).2.2.length ≤ 600
theorem hs_start {a b : Dr} {letter za zb ra rb : Int} {q : List Pc} (ha : Op1 a letter 0 za ra q) (hb : Op1 b letter 0 zb rb []) (hza : Gf.code za ≠ 0) (ra1 : 1 ≤ ra) (ra7 : ra ≤ 7) (rb1 : 1 ≤ rb) (rb7 : rb ≤ 7) (c0 c1 : List UInt8) : Hs ⟨a, b, ctrl 7 rb, ctrl 7 ra, c0, c1⟩ := by
  obtain ⟨_, a2⟩ := feed_a ha rb1 rb7
  obtain ⟨_, b2⟩ := feed_ab hb (y := za) ra1 ra7 hza
  refine ⟨by show (ctrl 7 rb).length ≤ 100; rw [ctrl_len]; omega, by show (ctrl 7 ra).length ≤ 100; rw [ctrl_len]; omega, ?_, ?_, ?_, ?_⟩
  all_goals dsimp only
  · rw [a2]; dsimp only; rw [ctrl_len]; omega
  · rw [a2]; exact Nat.zero_le _
  · rw [a2]; dsimp only; rw [b2]; dsimp only; rw [List.length_append, ctrl_len, ctrl_len]; omega
  · rw [a2]; dsimp only; rw [b2]; exact Nat.zero_le _
theorem bytes_le (n z : Nat) (q : List Pc) : (bytes (fillL n z q).1).length ≤ (qbytes q).length := by
  have := congrArg List.length (fillL_bytes n z q)
  rw [List.length_append] at this
  omega
theorem qbytes_le (n z : Nat) (q : List Pc) : (qbytes (fillL n z q).2).length ≤ (qbytes q).length := by
  have := congrArg List.length (fillL_bytes n z q)
  rw [List.length_append] at this
  omega
theorem hs_st {p : Pr} {letter z r wa bB bs : Int} {l : List ByteArray} {q : List Pc} (h : St p.a p.b p.w0 letter z r wa bB bs l q) (h1 : p.w1 = []) (hs : single q) (hq : (qbytes q).length ≤ 500) : Hs p := by
  obtain ⟨k1, k2, k3, k4⟩ := round_ok h
  have hl := h.len
  have h7 := h.r7
  have e0 : (p.w0).length ≤ 42 := by rw [h.ws, readies_len]; omega
  have e2 := said_short (letter := letter) (lastn := (wa + 7) % 8) ((bs + l.length) % 8) h.hz (by omega) h.r7 hs hq
  have e3 := fillL_len r.toNat z.toNat q
  refine ⟨by omega, by rw [h1]; exact Nat.zero_le _, by rw [k4]; omega, by rw [k2]; exact Nat.zero_le _, ?_, ?_⟩
  · rw [h1, List.nil_append, k1.ws, readies_len]; omega
  · rw [h1, List.nil_append, k3]; have := bytes_le r.toNat z.toNat q; omega
theorem hs_rounds : ∀ (n : Nat) (p : Pr) {letter z r wa bB bs : Int} {l : List ByteArray} {q : List Pc}, St p.a p.b p.w0 letter z r wa bB bs l q → p.w1 = [] → single q → (qbytes q).length ≤ 500 → Hs (rnds n p)
  | 0, p, _, _, _, _, _, _, _, _, h, h1, hs, hq => hs_st h h1 hs hq
  | n + 1, p, letter, z, r, wa, bB, bs, l, q, h, h1, hs, hq => by
    obtain ⟨k1, k2, k3, k4⟩ := round_ok h
    have e : rnd p = ⟨(feed p.a p.w0).1, (feed p.b (feed p.a p.w0).2.1).1, (feed p.b (feed p.a p.w0).2.1).2.1, [], p.c0 ++ (feed p.a p.w0).2.2, p.c1 ++ (feed p.b (feed p.a p.w0).2.1).2.2⟩ := by
      unfold rnd
      rw [h1, List.nil_append]
    have d1 : St (rnd p).a (rnd p).b (rnd p).w0 letter z r wa bB ((bs + l.length) % 8) (fillL r.toNat z.toNat q).1 (fillL r.toNat z.toNat q).2 := by rw [e]; exact k1
    have d2 : (rnd p).w1 = [] := by rw [e]
    show Hs (rnds n (rnd p))
    have := qbytes_le r.toNat z.toNat q
    exact hs_rounds n (rnd p) d1 d2 (fillL_single _ _ _ hs) (by omega)
theorem hs_second {a b : Dr} {letter za zb ra rb : Int} {q : List Pc} (ha : Op1 a letter 0 za ra q) (hb : Op1 b letter 0 zb rb []) (hza : Gf.code za ≠ 0) (hzb : Gf.code zb ≠ 0) (ra1 : 1 ≤ ra) (ra7 : ra ≤ 7) (rb1 : 1 ≤ rb) (rb7 : rb ≤ 7) (hs : single q) (hq : (qbytes q).length ≤ 500) : Hs (rnd ⟨a, b, ctrl 7 rb, ctrl 7 ra, [], []⟩) := by
  have hr1 : 1 ≤ min ra rb := by rcases Int.le_total ra rb with c | c <;> first | (rw [Int.min_eq_left c]; exact ra1) | (rw [Int.min_eq_right c]; exact rb1)
  have hr7 : min ra rb ≤ 7 := Int.le_trans (Int.min_le_left _ _) ra7
  have hzz := code_min2 hza hzb
  obtain ⟨a1, a2⟩ := feed_a ha rb1 rb7
  obtain ⟨b1, b2⟩ := feed_ab hb (y := za) ra1 ra7 hza
  rw [Int.min_comm zb za, Int.min_comm rb ra] at b1
  rw [Int.min_comm rb ra] at b2
  have e1 : rnd ⟨a, b, ctrl 7 rb, ctrl 7 ra, [], []⟩ = ⟨(feed a (ctrl 7 rb)).1, (feed b (ctrl 7 ra ++ ctrl 6 ((Gf.code za : Int) - 1))).1, ctrl 6 ((Gf.code zb : Int) - 1) ++ ctrl 5 (min ra rb), [], [], []⟩ := by
    unfold rnd
    dsimp only
    rw [a2]
    dsimp only
    rw [b2]
    simp
  obtain ⟨e, hE, e2⟩ := feed_bc a1 (y := zb) hzb hr1 hr7
  obtain ⟨f1, f2⟩ := fill_run hE (min ra rb).toNat (by show ((0 : Nat) : Int) + _ = _; omega) hr1 hr7 (by omega) (by omega)
  obtain ⟨g1, g2⟩ := feed_c_data b1 hr1 hr7 hzz (lo := (1 + 7) % 8) (by omega) (fillL (min ra rb).toNat (min za zb).toNat q).1 (fun s hs => by have := fillL_size _ _ _ s hs; have := size_pos hzz; omega)
  rw [e1]
  have s1 := said_short (letter := letter) (lastn := (1 + 7) % 8) 1 hzz (by omega) hr7 hs hq
  have s2 := fillL_len (min ra rb).toNat (min za zb).toNat q
  have s3 := bytes_le (min ra rb).toNat (min za zb).toNat q
  have ef : (fill e).2 = texts (frames letter (min za zb) ((1 + 7) % 8) 1 0 (fillL (min ra rb).toNat (min za zb).toNat q).1) := by rw [f2]; simp
  refine ⟨by show (ctrl 6 _ ++ ctrl 5 _).length ≤ 100; rw [List.length_append, ctrl_len, ctrl_len]; omega, Nat.zero_le _, ?_, ?_, ?_, ?_⟩
  all_goals dsimp only
  · rw [e2]; dsimp only; rw [ef, List.length_append, ctrl_len]; omega
  · rw [e2]; exact Nat.zero_le _
  · rw [e2, List.nil_append]; dsimp only; rw [ef, g2]; dsimp only; rw [readies_len]; omega
  · rw [e2, List.nil_append]; dsimp only; rw [ef, g2]; dsimp only; omega
/-- Every round of the statements is short. -/
theorem hs_all {a b : Dr} {letter za zb ra rb : Int} {q : List Pc} (ha : Op1 a letter 0 za ra q) (hb : Op1 b letter 0 zb rb []) (hza : Gf.code za ≠ 0) (hzb : Gf.code zb ≠ 0) (ra1 : 1 ≤ ra) (ra7 : ra ≤ 7) (rb1 : 1 ≤ rb) (rb7 : rb ≤ 7) (hs : single q) (hq : (qbytes q).length ≤ 500) : ∀ n, Hs (rnds n ⟨a, b, ctrl 7 rb, ctrl 7 ra, [], []⟩)
  | 0 => hs_start ha hb hza ra1 ra7 rb1 rb7 [] []
  | 1 => hs_second ha hb hza hzb ra1 ra7 rb1 rb7 hs hq
  | n + 2 => by
    obtain ⟨z, r, rfl, rfl, p, hp, h1, h2, h3, h4⟩ := opens ha hb hza hzb ra1 ra7 rb1 rb7
    rw [show n + 2 = 2 + n by omega, rnds_add, hp]
    have := qbytes_le (min ra rb).toNat (min za zb).toNat q
    exact hs_rounds n p h1 h2 (fillL_single _ _ _ hs) (by omega)
end Gp
end Go.Proofs.YtfiffbohhhehkaaGreat
