/-
  Mathematics of layer 15: rounds in which nothing is lost; both ends close. Mathematics of layer 15: two ends from their beginning on, where nothing is lost: all comes, and both are closed in the end. Mathematics of layer 15: how many bytes are under way at most, where a short text was given. Walks of layer 14: what Ack answers; Find. Walks of layer 15: agree. Walks of layer 15: takeOpening, takeClose. Walks of layer 14: Numbers, the program's and the document's. Walks of layer 15: all of the window is said. Walks of layer 15: takeClose, acknowledge, takeReject, takeData. Walks of layer 15: takeData. Walks of layer 15: takeOther. Walks of layer 15: rows of pieces of one's own; slices.Clone, slices.Grow, slices.Concat of pieces.
-/
import Derived.Test.YtomldoijcclhhaaGreatSkAK
import Derived.Test.YtomldoijcclhhaaGreatSkAB
import Derived.Deep.RegionHeld3
import Derived.Deep.DeepCutAuto
import Derived.Test.YtomldoijcclhhaaGreatSkAC
import Derived.BigQuiet
namespace Go.Proofs.YtomldoijcclhhaaGreat
namespace Gp
theorem readies_ok (bs : Int) : ∀ (n i : Nat), ∀ f ∈ readies bs i n, Gf.ok f
  | 0, _, f, h => by simp [readies] at h
  | n + 1, i, f, h => by
    rw [readies_succ] at h
    rcases List.mem_cons.1 h with rfl | h
    · exact cf_ok (by omega) (by omega) (by omega) (by omega)
    · exact readies_ok bs n (i + 1) f h
theorem frames_ok {letter z lastn : Int} (bs : Int) (hz : Gf.code z ≠ 0) (hl : 0 ≤ lastn ∧ lastn ≤ 7) : ∀ (l : List ByteArray) (i : Nat), (∀ s ∈ l, (s.size : Int) ≤ z) → ∀ f ∈ frames letter z lastn bs i l, Gf.ok f
  | [], _, _, f, h => by simp [frames] at h
  | s :: l, i, hs, f, h => by
    unfold frames at h
    rcases List.mem_cons.1 h with rfl | h
    · exact pf_ok hz hl (by omega) (hs s (by simp))
    · exact frames_ok bs hz hl l (i + 1) (fun x hx => hs x (by simp [hx])) f h
theorem fillL_size : ∀ (n z : Nat) (q : List Pc), ∀ s ∈ (fillL n z q).1, s.size ≤ z
  | 0, _, _, s, h => by simp [fillL] at h
  | _ + 1, _, [], s, h => by simp [fillL] at h
  | n + 1, z, p :: r, s, h => by
    unfold fillL at h
    rcases List.mem_cons.1 h with rfl | h
    · rw [ex_size _ _ (Nat.min_le_left _ _)]
      exact Nat.min_le_right _ _
    · exact fillL_size n z _ s h
theorem fillL_len : ∀ (n z : Nat) (q : List Pc), (fillL n z q).1.length ≤ n
  | 0, _, _ => Nat.le_refl _
  | _ + 1, _, [] => Nat.zero_le _
  | n + 1, z, p :: r => by
    unfold fillL
    rw [List.length_cons]
    have := fillL_len n z (cutQ (p :: r) (min p.data.size z))
    omega
/-- The bytes that wait. -/
def qbytes (q : List Pc) : List UInt8 := q.flatMap (·.data.data.toList)
theorem ex_bytes (s : ByteArray) (i j : Nat) : (s.extract i j).data.toList = (s.data.toList.drop i).take (j - i) := by
  rw [ByteArray.data_extract]
  simp [List.take_drop]
theorem cut_bytes (p : Pc) (r : List Pc) (z : Nat) : (p.data.extract 0 (min p.data.size z)).data.toList ++ qbytes (cutQ (p :: r) (min p.data.size z)) = qbytes (p :: r) := by
  have hl : p.data.data.toList.length = p.data.size := rfl
  rw [ex_bytes, List.drop_zero, Nat.sub_zero]
  unfold cutQ
  dsimp only
  split
  · rename_i e
    rw [e, ← hl, List.take_length]
    simp [qbytes]
  · rw [show qbytes (⟨p.ch, p.data.extract (min p.data.size z) p.data.size⟩ :: r) = (p.data.extract (min p.data.size z) p.data.size).data.toList ++ qbytes r by simp [qbytes], ex_bytes, ← List.append_assoc]
    rw [List.take_of_length_le (l := p.data.data.toList.drop (min p.data.size z)) (by rw [List.length_drop, hl]; exact Nat.le_refl _), List.take_append_drop]
    simp [qbytes]
theorem fillL_bytes : ∀ (n z : Nat) (q : List Pc), bytes (fillL n z q).1 ++ qbytes (fillL n z q).2 = qbytes q
  | 0, _, _ => by simp [fillL, bytes]
  | _ + 1, _, [] => by simp [fillL, bytes]
  | n + 1, z, p :: r => by
    have ih := fillL_bytes n z (cutQ (p :: r) (min p.data.size z))
    unfold fillL
    dsimp only
    rw [show bytes (p.data.extract 0 (min p.data.size z) :: (fillL n z (cutQ (p :: r) (min p.data.size z))).1) = (p.data.extract 0 (min p.data.size z)).data.toList ++ bytes (fillL n z (cutQ (p :: r) (min p.data.size z))).1 by simp [bytes], List.append_assoc, ih, cut_bytes]
/-- Two ends that run; the first one's texts have come to the other one, and its answers are under way. -/
structure St (a b : Dr) (w0 : List UInt8) (letter z r wa bB bs : Int) (l : List ByteArray) (q : List Pc) : Prop where
  ra : Run a letter z r bs wa l q
  rb : Run b letter z r bB ((bs + l.length) % 8) [] []
  ws : w0 = texts (readies bs 0 l.length)
  hz : Gf.code z ≠ 0
  r1 : 1 ≤ r
  r7 : r ≤ 7
  hb : 0 ≤ bs ∧ bs < 8
  hw : 0 ≤ wa ∧ wa < 8
  len : (l.length : Int) ≤ r
theorem Run.fed {d : Dr} {letter z r bs wants : Int} {l : List ByteArray} (h : Run d letter z r bs wants l []) (a : Int) (t : List (Int × Int)) : fill (Gp.put d [] a t) = (Gp.put d [] a t, []) := fill_empty (h.put a t).qu
/-- A round: the first end is fed, then the other one. -/
theorem round_ok {a b : Dr} {w0 : List UInt8} {letter z r wa bB bs : Int} {l : List ByteArray} {q : List Pc} (h : St a b w0 letter z r wa bB bs l q) :
    St (feed a w0).1 (feed b (feed a w0).2.1).1 (feed b (feed a w0).2.1).2.1 letter z r wa bB ((bs + l.length) % 8) (fillL r.toNat z.toNat q).1 (fillL r.toNat z.toNat q).2 ∧
    (feed a w0).2.2 = [] ∧ (feed b (feed a w0).2.1).2.2 = bytes (fillL r.toNat z.toNat q).1 ∧ (feed a w0).2.1 = texts (frames letter z ((wa + 7) % 8) ((bs + l.length) % 8) 0 (fillL r.toNat z.toNat q).1) := by
  obtain ⟨ra, rb, ws, hz, r1, r7, hb, hw, hlen⟩ := h
  have hbs' : 0 ≤ (bs + (l.length : Int)) % 8 ∧ (bs + (l.length : Int)) % 8 < 8 := by omega
  obtain ⟨x, t, e⟩ := feed_texts ra.bf (readies bs 0 l.length) (readies_ok bs _ _)
  rw [← ws] at e
  obtain ⟨k1, k2⟩ := takesL_ready l 0 a [] [] letter z r bs wa bs q ra r1 r7 (by omega) hlen
  rw [show bs + ((0 : Nat) : Int) + (l.length : Int) = bs + l.length by omega] at k1
  obtain ⟨f1, f2⟩ := fill_run (k1.put x t) r.toNat (by show ((0 : Nat) : Int) + (r.toNat : Int) = r; omega) r1 r7 hbs'.1 hbs'.2
  have ea : feed a w0 = ((fill (Gp.put (takesL a (readies bs 0 l.length) [] []).1 [] x t)).1, texts (frames letter z ((wa + 7) % 8) ((bs + l.length) % 8) 0 (fillL r.toNat z.toNat q).1), []) := by
    rw [e, k2, f2]
    simp
  rw [List.nil_append] at f1
  obtain ⟨y, u, e2⟩ := feed_texts rb.bf (frames letter z ((wa + 7) % 8) ((bs + l.length) % 8) 0 (fillL r.toNat z.toNat q).1) (frames_ok _ hz (by omega) _ 0 (fun s hs => by have := fillL_size _ _ _ s hs; have := size_pos hz; omega))
  obtain ⟨m1, m2⟩ := takesL_data (fillL r.toNat z.toNat q).1 0 b [] [] letter z r bB ((bs + l.length) % 8) [] letter z ((wa + 7) % 8) ((bs + l.length) % 8) rb (by omega)
  have eb : feed b (texts (frames letter z ((wa + 7) % 8) ((bs + l.length) % 8) 0 (fillL r.toNat z.toNat q).1)) = (Gp.put (takesL b (frames letter z ((wa + 7) % 8) ((bs + l.length) % 8) 0 (fillL r.toNat z.toNat q).1) [] []).1 [] y u, texts (readies ((bs + l.length) % 8) 0 (fillL r.toNat z.toNat q).1.length), bytes (fillL r.toNat z.toNat q).1) := by
    rw [e2, m2, m1.fed]
    simp
  rw [ea]
  dsimp only
  rw [eb]
  refine ⟨⟨f1, ?_, rfl, hz, r1, r7, hbs', hw, ?_⟩, rfl, rfl, rfl⟩
  · have := m1.put y u
    rw [show (bs + (l.length : Int)) % 8 + ((0 : Nat) : Int) + ((fillL r.toNat z.toNat q).1.length : Int) = (bs + (l.length : Int)) % 8 + ((fillL r.toNat z.toNat q).1.length : Int) by omega] at this
    exact this
  · have := fillL_len r.toNat z.toNat q
    omega
/-- One piece at most waits. -/
def single (q : List Pc) : Prop := q = [] ∨ ∃ p, q = [p]
theorem single_cut {p : Pc} {k : Nat} : single (cutQ [p] k) := by
  unfold cutQ
  dsimp only
  split
  · exact .inl rfl
  · exact .inr ⟨_, rfl⟩
theorem fillL_single : ∀ (n z : Nat) (q : List Pc), single q → single (fillL n z q).2
  | 0, _, _, h => h
  | _ + 1, _, [], _ => .inl rfl
  | n + 1, z, p :: r, h => by
    rcases h with h | ⟨p', h⟩
    · cases h
    · cases h
      exact fillL_single n z (cutQ [p] (min p.data.size z)) single_cut
/-- Each round takes 32 bytes at least off what waits, or all. -/
theorem fillL_less {n z : Nat} (hn : 1 ≤ n) (hz : 32 ≤ z) {q : List Pc} (h : single q) : (qbytes (fillL n z q).2).length ≤ (qbytes q).length - 32 := by
  obtain ⟨n, rfl⟩ : ∃ m, n = m + 1 := ⟨n - 1, by omega⟩
  rcases h with rfl | ⟨p, rfl⟩
  · simp [fillL, qbytes]
  · have hb := fillL_bytes (n + 1) z [p]
    have hl := congrArg List.length hb
    rw [List.length_append] at hl
    have h1 : min p.data.size z ≤ (bytes (fillL (n + 1) z [p]).1).length := by
      unfold fillL
      dsimp only
      rw [show bytes (p.data.extract 0 (min p.data.size z) :: (fillL n z (cutQ [p] (min p.data.size z))).1) = (p.data.extract 0 (min p.data.size z)).data.toList ++ bytes (fillL n z (cutQ [p] (min p.data.size z))).1 by simp [bytes], List.length_append, bytes_len, ex_size _ _ (Nat.min_le_left _ _)]
      omega
    have h2 : (qbytes [p]).length = p.data.size := by simp [qbytes]
    omega
theorem nonempty_pieces : ∀ (n z : Nat) (q : List Pc), 1 ≤ z → (∀ p ∈ q, p.data.size ≠ 0) → ∀ p ∈ (fillL n z q).2, p.data.size ≠ 0
  | 0, _, _, _, h => h
  | _ + 1, _, [], _, _ => fun p hp => by simp [fillL] at hp
  | n + 1, z, p :: r, hz, h => by
    refine nonempty_pieces n z (cutQ (p :: r) (min p.data.size z)) hz (fun x hx => ?_)
    unfold cutQ at hx
    dsimp only at hx
    split at hx
    · exact h x (by simp [hx])
    · rename_i hne
      rcases List.mem_cons.1 hx with rfl | hx
      · show (p.data.extract (min p.data.size z) p.data.size).size ≠ 0
        simp
        omega
      · exact h x (by simp [hx])
theorem qbytes_nil {q : List Pc} (h : ∀ p ∈ q, p.data.size ≠ 0) (hl : (qbytes q).length = 0) : q = [] := by
  cases q with
  | nil => rfl
  | cons p r =>
    have h1 := h p (by simp)
    have : (qbytes (p :: r)).length = p.data.size + (qbytes r).length := by simp [qbytes]
    omega
end Gp
end Go.Proofs.YtomldoijcclhhaaGreat

namespace Go.Proofs.YtomldoijcclhhaaGreat
namespace Gp
/-- Two ends, what is under way to each, what has come to each. -/
structure Pr where
  a : Dr
  b : Dr
  w0 : List UInt8
  w1 : List UInt8
  c0 : List UInt8
  c1 : List UInt8
/-- A round: all that is under way comes, to the first end and then to the other one. -/
def rnd (p : Pr) : Pr := ⟨(feed p.a p.w0).1, (feed p.b (p.w1 ++ (feed p.a p.w0).2.1)).1, (feed p.b (p.w1 ++ (feed p.a p.w0).2.1)).2.1, [], p.c0 ++ (feed p.a p.w0).2.2, p.c1 ++ (feed p.b (p.w1 ++ (feed p.a p.w0).2.1)).2.2⟩
def rnds : Nat → Pr → Pr
  | 0, p => p
  | n + 1, p => rnds n (rnd p)
/-- The other end takes INITC, and what stands behind it. -/
theorem feed_c_data {b : Dr} {letter z r : Int} (h : Op1 b letter 2 z r []) (r1 : 1 ≤ r) (r7 : r ≤ 7) (hz : Gf.code z ≠ 0) {lo : Int} (hlo : 0 ≤ lo ∧ lo ≤ 7) (l : List ByteArray) (hl : ∀ s ∈ l, (s.size : Int) ≤ z) :
    Run (feed b (ctrl 5 r ++ texts (frames letter z lo 1 0 l))).1 letter z r 1 ((1 + l.length) % 8) [] [] ∧ (feed b (ctrl 5 r ++ texts (frames letter z lo 1 0 l))).2 = (texts (readies 1 0 l.length), bytes l) := by
  rw [ctrl_text, ← texts_cons]
  obtain ⟨a, t, e⟩ := feed_texts h.bf (cf 5 r :: frames letter z lo 1 0 l) (fun f hf => by
    rcases List.mem_cons.1 hf with rfl | hf
    · exact cf_ok (by omega) (by omega) (by omega) r7
    · exact frames_ok 1 hz hlo l 0 hl f hf)
  obtain ⟨h3, h4⟩ := takes_c h r1 r7
  have hL : takesL b (cf 5 r :: frames letter z lo 1 0 l) [] [] = takesL (takes b (cf 5 r)).1 (frames letter z lo 1 0 l) [] [] := by
    show takesL (takes b (cf 5 r)).1 (frames letter z lo 1 0 l) ([] ++ (takes b (cf 5 r)).2.1) ([] ++ (takes b (cf 5 r)).2.2) = _
    rw [h4]
    rfl
  obtain ⟨m1, m2⟩ := takesL_data l 0 (takes b (cf 5 r)).1 [] [] letter z r 1 1 [] letter z lo 1 h3 (by omega)
  rw [hL] at e
  rw [e, m2, m1.fed]
  refine ⟨?_, by simp⟩
  have := m1.put a t
  rw [show (1 : Int) + ((0 : Nat) : Int) + (l.length : Int) = 1 + l.length by omega] at this
  exact this
theorem code_min2 {x y : Int} (hx : Gf.code x ≠ 0) (hy : Gf.code y ≠ 0) : Gf.code (min x y) ≠ 0 := by
  rcases Int.le_total x y with c | c
  · rw [Int.min_eq_left c]; exact hx
  · rw [Int.min_eq_right c]; exact hy
/-- Two rounds, and both run. -/
theorem opens {a b : Dr} {letter za zb ra rb : Int} {q : List Pc} (ha : Op1 a letter 0 za ra q) (hb : Op1 b letter 0 zb rb []) (hza : Gf.code za ≠ 0) (hzb : Gf.code zb ≠ 0) (ra1 : 1 ≤ ra) (ra7 : ra ≤ 7) (rb1 : 1 ≤ rb) (rb7 : rb ≤ 7) :
    ∃ z r, z = min za zb ∧ r = min ra rb ∧ ∃ p, rnds 2 ⟨a, b, ctrl 7 rb, ctrl 7 ra, [], []⟩ = p ∧ St p.a p.b p.w0 letter z r 1 1 1 (fillL r.toNat z.toNat q).1 (fillL r.toNat z.toNat q).2 ∧ p.w1 = [] ∧ p.c0 = [] ∧ p.c1 = bytes (fillL r.toNat z.toNat q).1 := by
  have hr1 : 1 ≤ min ra rb := by rcases Int.le_total ra rb with c | c <;> first | (rw [Int.min_eq_left c]; exact ra1) | (rw [Int.min_eq_right c]; exact rb1)
  have hr7 : min ra rb ≤ 7 := Int.le_trans (Int.min_le_left _ _) ra7
  have hzz := code_min2 hza hzb
  obtain ⟨a1, a2⟩ := feed_a ha rb1 rb7
  obtain ⟨b1, b2⟩ := feed_ab hb (y := za) ra1 ra7 hza
  rw [Int.min_comm zb za, Int.min_comm rb ra] at b1
  rw [Int.min_comm rb ra] at b2
  have e1 : rnd ⟨a, b, ctrl 7 rb, ctrl 7 ra, [], []⟩ = ⟨(feed a (ctrl 7 rb)).1, (feed b (ctrl 7 ra ++ ctrl 6 ((Gf.code za : Int) - 1))).1, ctrl 6 ((Gf.code zb : Int) - 1) ++ ctrl 5 (min ra rb), [], [], []⟩ := by
    unfold rnd
    dsimp only
    rw [a2]
    dsimp only
    rw [b2]
    simp
  obtain ⟨e, hE, e2⟩ := feed_bc a1 (y := zb) hzb hr1 hr7
  obtain ⟨f1, f2⟩ := fill_run hE (min ra rb).toNat (by show ((0 : Nat) : Int) + _ = _; omega) hr1 hr7 (by omega) (by omega)
  rw [List.nil_append] at f1
  obtain ⟨g1, g2⟩ := feed_c_data b1 hr1 hr7 hzz (lo := (1 + 7) % 8) (by omega) (fillL (min ra rb).toNat (min za zb).toNat q).1 (fun s hs => by have := fillL_size _ _ _ s hs; have := size_pos hzz; omega)
  have e3 : rnd ⟨(feed a (ctrl 7 rb)).1, (feed b (ctrl 7 ra ++ ctrl 6 ((Gf.code za : Int) - 1))).1, ctrl 6 ((Gf.code zb : Int) - 1) ++ ctrl 5 (min ra rb), [], [], []⟩ = ⟨(fill e).1, (feed (feed b (ctrl 7 ra ++ ctrl 6 ((Gf.code za : Int) - 1))).1 (ctrl 5 (min ra rb) ++ texts (frames letter (min za zb) ((1 + 7) % 8) 1 0 (fillL (min ra rb).toNat (min za zb).toNat q).1))).1, texts (readies 1 0 (fillL (min ra rb).toNat (min za zb).toNat q).1.length), [], [], bytes (fillL (min ra rb).toNat (min za zb).toNat q).1⟩ := by
    unfold rnd
    dsimp only
    rw [e2]
    dsimp only
    rw [f2, List.nil_append]
    show (⟨(fill e).1, (feed _ (ctrl 5 (min ra rb) ++ texts (frames letter (min za zb) ((1 + 7) % 8) 1 0 _))).1, (feed _ (ctrl 5 (min ra rb) ++ texts (frames letter (min za zb) ((1 + 7) % 8) 1 0 _))).2.1, [], _, _ ++ (feed _ (ctrl 5 (min ra rb) ++ texts (frames letter (min za zb) ((1 + 7) % 8) 1 0 _))).2.2⟩ : Pr) = _
    rw [g2]
    simp
  refine ⟨_, _, rfl, rfl, _, (congrArg rnd e1).trans e3, ?_⟩
  · refine ⟨⟨f1, g1, rfl, hzz, hr1, hr7, by omega, by omega, ?_⟩, rfl, rfl, rfl⟩
    have := fillL_len (min ra rb).toNat (min za zb).toNat q
    show ((fillL (min ra rb).toNat (min za zb).toNat q).1.length : Int) ≤ min ra rb
    omega
/-- Rounds behind the opening: all that waits comes. -/
theorem rounds : ∀ (n : Nat) (p : Pr) {letter z r wa bB bs : Int} {l : List ByteArray} {q : List Pc} (c : List UInt8), St p.a p.b p.w0 letter z r wa bB bs l q → p.w1 = [] → p.c0 = [] → p.c1 ++ qbytes q = c → single q → (∀ x ∈ q, x.data.size ≠ 0) → (qbytes q).length ≤ 32 * n →
    ∃ bs', St (rnds (n + 1) p).a (rnds (n + 1) p).b (rnds (n + 1) p).w0 letter z r wa bB bs' [] [] ∧ (rnds (n + 1) p).w1 = [] ∧ (rnds (n + 1) p).c0 = [] ∧ (rnds (n + 1) p).c1 = c
  | 0, p, letter, z, r, wa, bB, bs, l, q, c, h, h1, h0, hc, hs, hne, hl => by
    have hq : q = [] := qbytes_nil hne (by omega)
    subst hq
    obtain ⟨k1, k2, k3, k4⟩ := round_ok h
    have e : rnds 1 p = ⟨(feed p.a p.w0).1, (feed p.b (feed p.a p.w0).2.1).1, (feed p.b (feed p.a p.w0).2.1).2.1, [], [], p.c1 ++ bytes (fillL r.toNat z.toNat []).1⟩ := by
      show rnd p = _
      unfold rnd
      rw [h1, h0, List.nil_append, k2, k3]
      rfl
    have hf : fillL r.toNat z.toNat [] = ([], []) := by
      cases r.toNat <;> rfl
    rw [hf] at k1 e
    refine ⟨(bs + l.length) % 8, ?_, ?_⟩
    · show St (rnds 1 p).a (rnds 1 p).b (rnds 1 p).w0 letter z r wa bB _ [] []
      rw [e]
      exact k1
    · show (rnds 1 p).w1 = [] ∧ (rnds 1 p).c0 = [] ∧ (rnds 1 p).c1 = c
      rw [e]
      refine ⟨rfl, rfl, ?_⟩
      show p.c1 ++ bytes [] = c
      rw [← hc]
      simp [bytes, qbytes]
  | n + 1, p, letter, z, r, wa, bB, bs, l, q, c, h, h1, h0, hc, hs, hne, hl => by
    obtain ⟨k1, k2, k3, k4⟩ := round_ok h
    have hz := size_pos h.hz
    have e : rnd p = ⟨(feed p.a p.w0).1, (feed p.b (feed p.a p.w0).2.1).1, (feed p.b (feed p.a p.w0).2.1).2.1, [], [], p.c1 ++ bytes (fillL r.toNat z.toNat q).1⟩ := by
      unfold rnd
      rw [h1, h0, List.nil_append, k2, k3]
      rfl
    have d1 : St (rnd p).a (rnd p).b (rnd p).w0 letter z r wa bB ((bs + l.length) % 8) (fillL r.toNat z.toNat q).1 (fillL r.toNat z.toNat q).2 := by rw [e]; exact k1
    have d2 : (rnd p).w1 = [] := by rw [e]
    have d3 : (rnd p).c0 = [] := by rw [e]
    have d4 : (rnd p).c1 ++ qbytes (fillL r.toNat z.toNat q).2 = c := by
      rw [e]
      show p.c1 ++ bytes (fillL r.toNat z.toNat q).1 ++ qbytes (fillL r.toNat z.toNat q).2 = c
      rw [List.append_assoc, fillL_bytes, hc]
    have d5 : (qbytes (fillL r.toNat z.toNat q).2).length ≤ 32 * n := by
      have := fillL_less (n := r.toNat) (z := z.toNat) (by have := h.r1; omega) (by omega) hs
      omega
    have hstep : rnds (n + 1 + 1) p = rnds (n + 1) (rnd p) := rfl
    rw [hstep]
    clear e hstep k1 k2 k3 k4
    generalize rnd p = P at *
    exact rounds n P c d1 d2 d3 d4 (fillL_single _ _ _ hs) (nonempty_pieces _ _ _ (by omega) hne) d5
end Gp
end Go.Proofs.YtomldoijcclhhaaGreat

namespace Go.Proofs.YtomldoijcclhhaaGreat
namespace Gp
theorem hv_le : ∀ (f z n : Nat), hv f z n ≤ z
  | 0, _, _ => Nat.le_refl _
  | f + 1, z, n => by
    unfold hv
    split
    · exact Nat.le_trans (hv_le f (z / 2) n) (Nat.div_le_self _ _)
    · exact Nat.le_refl _
theorem pf_len {letter z lastn n : Int} {s : ByteArray} (hz : Gf.code z ≠ 0) (hl : 0 ≤ lastn ∧ lastn ≤ 7) (hn : 0 ≤ n ∧ n ≤ 7) (hs : (s.size : Int) ≤ z) : ((Gf.text (pf letter z lastn n s)).length : Int) ≤ 6 + z := by
  have hok := pf_ok (letter := letter) hz hl hn hs
  have hty := (pf_parts letter z lastn n s).1
  rw [Gf.text_len, Gf.body_len hok hty]
  have hsz : (pf letter z lastn n s).sz ≤ z ∧ Gf.code (pf letter z lastn n s).sz ≠ 0 := by
    have hzz := size_pos hz
    unfold pf
    split
    · rename_i hc
      dsimp only
      split
      · have h := hv_ok 7 z.toNat s.size (by rw [show ((z.toNat : Nat) : Int) = z by omega]; exact hz) (by omega)
        have := hv_le 7 z.toNat s.size
        exact ⟨by omega, h.1⟩
      · exact ⟨Int.le_refl _, hz⟩
    · exact ⟨Int.le_refl _, hz⟩
  have := (Gf.code_size hsz.2).1
  omega
end Gp
end Go.Proofs.YtomldoijcclhhaaGreat

namespace Go.Proofs.YtomldoijcclhhaaGreat
open Go.RowKit
theorem SRow.drop {W : World} {b o : Nat} {l : List ByteArray} (h : Rg.At W b o (strE.flat l)) (hb : b < W.heap.size) (k : Nat) (hk : k ≤ l.length) : SRow W (some ⟨b, o + k, none⟩) (l.drop k) := by
  have e : strE.flat l = strE.flat (l.take k) ++ strE.flat (l.drop k) := by rw [← strE.flat_append, List.take_append_drop]
  rw [e] at h
  have := h.right (strE.flat_take l k hk)
  rw [show k * strE.m = k by show k * 1 = k; omega] at this
  exact .inr ⟨b, o + k, rfl, hb, this⟩
end Go.Proofs.YtomldoijcclhhaaGreat

namespace Go.Proofs.YtomldoijcclhhaaGreat
open Go.RowKit
theorem EPost.go {Kp : Nat → Prop} {base eb : Nat} {W W1 : World} {d : Gp.Dr} {S C : List UInt8} {F : Nat} {args : Array Value} (f : Fr base eb W W1) (h : Calls Tryz.prog F args W1 fun e w' => EPost Kp base eb W1 d S C e w') : Calls Tryz.prog F args W1 fun e w' => e = .returned (.tuple #[]) ∧ EPost Kp base eb W d S C (.returned (.tuple #[])) w' := h.mono fun _ _ hp => ⟨hp.1, rfl, hp.2.1, f.trans hp.2.2⟩
end Go.Proofs.YtomldoijcclhhaaGreat

namespace Go.Proofs.YtomldoijcclhhaaGreat
open Go.RowKit
namespace Gp
theorem four {x : Int} (h0 : 0 ≤ x) (h3 : x ≤ 3) : x = 0 ∨ x = 1 ∨ x = 2 ∨ x = 3 := by omega
end Gp
theorem EPost.id {Kp : Nat → Prop} {base eb : Nat} {W : World} {d : Gp.Dr} {p : Pl} {q : Bu} {S C : List UInt8} {F : Nat} {args : Array Value} (h : EAt Kp base W eb d p q S C) (k : Calls Tryz.prog F args W fun e w' => e = .returned (.tuple #[]) ∧ w' = W) : Calls Tryz.prog F args W fun e w' => EPost Kp base eb W d (S ++ []) C e w' := k.mono fun _ _ ⟨h1, h2⟩ => by
  subst h2
  rw [List.append_nil]
  exact ⟨h1, ⟨p, q, h⟩, Fr.refl _ _ _⟩
end Go.Proofs.YtomldoijcclhhaaGreat

namespace Go.Proofs.YtomldoijcclhhaaGreat
open Go.RowKit
/-- a number's cell -/
def intE : Rg.El Int := { enc := fun x => [.int .i64 x], m := 1, hm := fun _ => rfl, pos := by decide, one := fun x u hu => by simp at hu; subst hu; rfl, ty := 3 }
theorem int_at {W : World} {b o : Nat} {l : List Int} (h : Rg.At W b o (intE.flat l)) {i : Nat} (hi : i < l.length) : W.cell? ⟨b, o + i, none⟩ = some (.int .i64 l[i]) := by
  have e := (h.elem hi) 0 (.int .i64 l[i]) rfl
  rw [show intE.m = 1 from rfl, Nat.mul_one, Nat.add_zero] at e
  exact e
/-- nothing, or a row of numbers that is read -/
def NRow (W : World) (a : Option Addr) (l : List Int) : Prop := l = [] ∨ ∃ b o, a = some ⟨b, o, none⟩ ∧ b < W.heap.size ∧ Rg.At W b o (intE.flat l)
theorem NRow.below {W W' : World} {a : Option Addr} {l : List Int} (h : NRow W a l) (hb : Below W.heap.size W W') : NRow W' a l := by
  rcases h with h | ⟨b, o, h1, h2, h3⟩
  · exact .inl h
  · exact .inr ⟨b, o, h1, Nat.lt_of_lt_of_le h2 hb.size, h3.below hb h2⟩
theorem NRow.of {W : World} {a : Option Addr} {l : List Int} (h : intE.Row W a l) : NRow W a l := by
  rcases h with ⟨_, h⟩ | h
  · exact .inl h
  · exact .inr h
theorem NRow.cell {W : World} {a : Option Addr} {l : List Int} (h : NRow W a l) {i : Nat} (hi : i < l.length) : ∃ b o, a = some ⟨b, o, none⟩ ∧ b < W.heap.size ∧ W.cell? ⟨b, o + i, none⟩ = some (.int .i64 l[i]) := by
  rcases h with rfl | ⟨b, o, rfl, hb, hat⟩
  · simp at hi
  · exact ⟨b, o, rfl, hb, int_at hat hi⟩
end Go.Proofs.YtomldoijcclhhaaGreat

namespace Go.Proofs.YtomldoijcclhhaaGreat
open Go.RowKit
theorem packet_len {d : Gp.Dr} {n : Int} {s : ByteArray} (n0 : 0 ≤ n) (n7 : n ≤ 7) (hz : Gf.code d.size ≠ 0) (hs : (s.size : Int) ≤ d.size) : (Gp.packet d n s).length ≤ 4200 := by
  have h := Gp.pf_len (letter := d.letter) hz (last_rng (d := d)) ⟨n0, n7⟩ hs
  rw [Gp.packet_text]
  have := Gp.size_pos hz
  omega
/-- what a round of sayWindow finds -/
structure SW (Kp : Nat → Prop) (base eb : Nat) (d : Gp.Dr) (S C : List UInt8) (w2 : World) (i : Nat) (wr : World) (Si : List UInt8) : Prop where
  es : ES Kp base wr eb d Si C
  fr : Fr base eb w2 wr
  out : Si ++ Gp.allFrom d (d.win.l.drop i) i = S ++ Gp.all d
  len : Si.length ≤ S.length + 4200 * i
end Go.Proofs.YtomldoijcclhhaaGreat

namespace Go.Proofs.YtomldoijcclhhaaGreat
open Go.RowKit
/-- what takeReject comes to -/
def Gp.rejected (d : Gp.Dr) : Gp.Dr × List UInt8 := if d.wait % 2 = 1 then (d, []) else ({ d with wait := Gp.or1 d.wait }, Gp.all { d with wait := Gp.or1 d.wait })
end Go.Proofs.YtomldoijcclhhaaGreat

namespace Go.Proofs.YtomldoijcclhhaaGreat
open Go.RowKit
theorem EAt.drewN {Kp : Nat → Prop} {base eb : Nat} {W : World} {d : Gp.Dr} {p : Pl} {q : Bu} {S C : List UInt8} (h : EAt Kp base W eb d p q S C) (n : Nat) : EAt Kp base (W.drewN n) eb d p q S C := h.below (Rg.drewN (Below.refl _ _) n)
end Go.Proofs.YtomldoijcclhhaaGreat

namespace Go.Proofs.YtomldoijcclhhaaGreat
open Go.RowKit
/-- what comes of a data packet -/
def Gp.datum (d : Gp.Dr) (hi : Int) (data : List UInt8) : Gp.Dr × List UInt8 × List UInt8 :=
  if Wn.ahead d.wants hi 8 = 0 then ({ d with wants := (d.wants + 1) % 8 }, Gp.ready { d with wants := (d.wants + 1) % 8 }, data)
  else if Wn.ahead d.wants hi 8 < d.room then (d, Gp.ctrl 2 (Gp.last d), []) else (d, Gp.ready d, [])
/-- what comes of a packet that is none of the opening's, nor a close, in Running -/
def Gp.others (d : Gp.Dr) (f : Gf.Fr) : Gp.Dr × List UInt8 × List UInt8 :=
  if f.ty = 0 then (if f.hi = 2 then ((Gp.rejected (Gp.acked d f.lo)).1, (Gp.rejected (Gp.acked d f.lo)).2, []) else (Gp.acked d f.lo, [], [])) else Gp.datum (Gp.acked d f.lo) f.hi f.data
end Go.Proofs.YtomldoijcclhhaaGreat

namespace Go.Proofs.YtomldoijcclhhaaGreat
open Go.RowKit
theorem PQ.fr {base b0 eb : Nat} {W W' : World} {a : Option Addr} {c : Nat} {l : List Gp.Pc} {CE : List Value} (h : PQ base W a c l) (hf : Fr b0 eb W W') (k : Rg.Bk eb CE 69 W) : PQ base W' a c l := by
  refine ⟨h.1, ?_⟩
  rcases h.2 with h2 | ⟨g, o, C, h1, h2, h3, h4⟩
  · exact .inl h2
  · refine .inr ⟨g, o, C, h1, h2, hf.bk h3 (fun e => ?_) (by decide), h4⟩
    subst e
    unfold Rg.Bk at k h3
    rw [k] at h3
    cases h3
end Go.Proofs.YtomldoijcclhhaaGreat
