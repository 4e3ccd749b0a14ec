/-
  Mathematics of layer 16: Feed, Send, Close, Tick leave a drive right; what can be reached stays right. Walks of layer 16: an end of the protocol i on its way through a call, in memory: its drive, its rows, what it says and what comes. All that it holds of its own lies behind its own block.
-/
import Derived.Test.YtomldoijcclhhaaGreatSkAS
import Derived.Test.YtomldoijcclhhaaGreatSkAC
namespace Go.Proofs.YtomldoijcclhhaaGreat
namespace Ip
open Gp (Dr Pc Fi)
theorem scan_yes : ∀ (b : List UInt8) (p : Nat), (If.scan p b).ok = true → ∃ i n, (If.scan p b).a = p + i ∧ (If.scan p b).b = p + i + n ∧ If.read (b.drop i) = .ok ((If.scan p b).f, n) ∧ i + n ≤ b.length ∧ 6 ≤ n
  | [], p, h => by simp [If.scan] at h
  | c :: r, p, h => by
    unfold If.scan at h ⊢
    cases hr : If.read (c :: r) with
    | ok x =>
      obtain ⟨f, n⟩ := x
      have ht := If.text_read hr
      exact ⟨0, n, rfl, rfl, hr, by omega, ht.2.2.1⟩
    | error e =>
      rw [hr] at h
      dsimp only at h ⊢
      by_cases he : e = 2
      · rw [if_pos he] at h; simp at h
      · rw [if_neg he] at h ⊢
        obtain ⟨i, n, h1, h2, h3, h4, h5⟩ := scan_yes r (p + 1) h
        exact ⟨i + 1, n, by rw [h1]; omega, by rw [h2]; omega, h3, by rw [List.length_cons]; omega, h5⟩
theorem scan_no : ∀ (b : List UInt8) (p : Nat), (If.scan p b).ok = false → ∃ i, (If.scan p b).a = p + i ∧ i ≤ b.length ∧ (b.drop i = [] ∨ If.read (b.drop i) = .error 2)
  | [], p, _ => ⟨0, rfl, Nat.le_refl _, .inl rfl⟩
  | c :: r, p, h => by
    unfold If.scan at h ⊢
    cases hr : If.read (c :: r) with
    | ok x => rw [hr] at h; simp at h
    | error e =>
      rw [hr] at h
      dsimp only at h ⊢
      by_cases he : e = 2
      · rw [if_pos he] at h ⊢
        exact ⟨0, rfl, Nat.zero_le _, .inr (by rw [List.drop_zero, hr, he])⟩
      · rw [if_neg he] at h ⊢
        obtain ⟨i, h1, h2, h3⟩ := scan_no r (p + 1) h
        exact ⟨i + 1, by rw [h1]; omega, by rw [List.length_cons]; omega, h3⟩
/-- What is too short for a packet is short. -/
theorem read_short {b : List UInt8} (h : If.read b = .error 2) : b.length < 4106 := by
  unfold If.read at h
  match b, h with
  | [], _ => show 0 < 4106; omega
  | a :: r, h =>
    dsimp only at h
    by_cases ha : ¬ a = 7
    · rw [if_pos ha] at h; simp at h
    · rw [if_neg ha] at h
      match r, h with
      | [], _ => show 1 < 4106; omega
      | [_], _ => show 2 < 4106; omega
      | [_, _], _ => show 3 < 4106; omega
      | [_, _, _], _ => show 4 < 4106; omega
      | [_, _, _, _], _ => show 5 < 4106; omega
      | k :: l :: g :: c :: x :: t, h =>
        dsimp only at h
        have hc := c.toNat_lt
        unfold If.readHead at h
        split at h
        · simp at h
        · unfold If.readBody at h
          have hb := If.bsz_le (g.toNat % 16 * 256 + c.toNat)
          split at h
          · rename_i hlt
            show t.length + 1 + 1 + 1 + 1 + 1 + 1 < 4106
            omega
          · split at h
            · simp at h
            · simp at h
/-- An end that has not given up has not tried too often. -/
def live (d : Dr) : Prop := d.phase ≤ 3 → d.tries ≤ 12
theorem live_opens {d : Dr} (h : live d) (data : List UInt8) : live (opens d data).1 := by
  unfold opens
  dsimp only
  repeat' split
  all_goals first
    | exact h
    | exact (fun _ => by show (0 : Int) ≤ 12; omega)
theorem live_closes {d : Dr} (h : live d) : live (closes d).1 := by
  unfold closes
  repeat' split
  all_goals first
    | exact h
    | exact (fun e => absurd e (by show ¬ (4 : Int) ≤ 3; omega))
theorem live_acked {d : Dr} (h : live d) (n : Int) : live (Gp.acked d n) := by
  intro e
  show (if 0 < (Wn.ack d.win n).2 then 0 else d.tries) ≤ 12
  split
  · omega
  · exact h e
theorem live_orders {d : Dr} (h : live d) (f : If.Fr) : live (orders d f).1 := by
  unfold orders
  dsimp only
  split
  · obtain ⟨k1, _, _, _, _, _, k7, _⟩ := drain_keeps d.ahead.length { d with wants := (d.wants + 1) % 32 } [⟨f.ch, ⟨f.data.toArray⟩⟩]
    intro e
    rw [k1] at e
    rw [k7]
    exact h e
  · repeat' split
    all_goals exact h
theorem live_takes {d : Dr} (h : live d) (f : If.Fr) : live (takes d f).1 := by
  have h2 : live { d with wait := Gp.or2 d.wait } := h
  unfold takes
  split
  · exact h
  dsimp only
  split
  · exact live_opens h2 _
  split
  · exact live_closes h2
  · have ha := live_acked h2 f.ak
    unfold takes2
    split
    · exact h2
    split
    · exact h2
    dsimp only
    split
    · split <;> exact ha
    split
    · exact live_orders ha f
    · exact ha
theorem live_fillN : ∀ (f : Nat) (d : Dr) (out : List UInt8), live d → live (fillN f d out).1
  | 0, _, _, h => h
  | f + 1, d, out, h => by
    unfold fillN
    cases d.queue with
    | nil => exact h
    | cons p q =>
      dsimp only
      split
      · exact live_fillN f (fill1 d p).1 _ h
      · exact h
theorem right_feedN : ∀ (f : Nat) (d : Dr) (out : List UInt8) (came : List Pc), d.buf.length < f → right d → live d → d.at_ + d.buf.length ≤ 1099511627776 →
    right (feedN f d out came).1 ∧ live (feedN f d out came).1 ∧ (feedN f d out came).1.buf.length < 4106 ∧ (feedN f d out came).1.at_ + (feedN f d out came).1.buf.length = d.at_ + d.buf.length ∧ (feedN f d out came).1.queue = d.queue ∧ (feedN f d out came).1.took.length ≤ d.took.length + f
  | 0, _, _, _, h, _, _, _ => by omega
  | f + 1, d, out, came, hf, h, hl, ha => by
    unfold feedN
    dsimp only
    have hat := h.1.at_
    split
    · rename_i hok
      obtain ⟨i, n, h1, h2, h3, h4, h5⟩ := scan_yes d.buf 0 hok
      have hfr := (If.text_read h3).1
      have hd : right { d with took := d.took ++ [(d.at_ + ((If.scan 0 d.buf).a : Int), d.at_ + ((If.scan 0 d.buf).b : Int))], buf := d.buf.drop (If.scan 0 d.buf).b, at_ := d.at_ + ((If.scan 0 d.buf).b : Int) } := by
        refine ⟨⟨h.1.lt, h.1.sz, h.1.rm, h.1.wn, ?_, h.1.wt, h.1.tr, h.1.qu, h.1.wi, h.1.ah⟩, ?_⟩
        · show 0 ≤ d.at_ + ((If.scan 0 d.buf).b : Int) ∧ d.at_ + ((If.scan 0 d.buf).b : Int) ≤ 1099511627776
          rw [h2]; omega
        · rcases h.2 with h2 | ⟨hp, hr⟩ | h2
          · exact .inl h2
          · exact .inr (.inl ⟨hp, hr.st, hr.md, hr.ws, hr.bs, hr.ln⟩)
          · exact .inr (.inr h2)
      obtain ⟨t1, t2, t3, t4⟩ := takes_keeps { d with took := d.took ++ [(d.at_ + ((If.scan 0 d.buf).a : Int), d.at_ + ((If.scan 0 d.buf).b : Int))], buf := d.buf.drop (If.scan 0 d.buf).b, at_ := d.at_ + ((If.scan 0 d.buf).b : Int) } (If.scan 0 d.buf).f
      have hr := right_takes hd hfr
      have hv := live_takes (d := { d with took := d.took ++ [(d.at_ + ((If.scan 0 d.buf).a : Int), d.at_ + ((If.scan 0 d.buf).b : Int))], buf := d.buf.drop (If.scan 0 d.buf).b, at_ := d.at_ + ((If.scan 0 d.buf).b : Int) }) hl (If.scan 0 d.buf).f
      have hlen : (d.buf.drop (If.scan 0 d.buf).b).length = d.buf.length - (i + n) := by rw [List.length_drop, h2]; omega
      dsimp only at t1 t2 t3 t4
      generalize (takes { d with took := d.took ++ [(d.at_ + ((If.scan 0 d.buf).a : Int), d.at_ + ((If.scan 0 d.buf).b : Int))], buf := d.buf.drop (If.scan 0 d.buf).b, at_ := d.at_ + ((If.scan 0 d.buf).b : Int) } (If.scan 0 d.buf).f) = R at *
      have hb : R.1.buf.length = d.buf.length - (i + n) := by rw [t2]; exact hlen
      have hA : R.1.at_ = d.at_ + ((i + n : Nat) : Int) := by rw [t1, h2]; omega
      obtain ⟨r1, r2, r3, r4, r5, r6⟩ := right_feedN f R.1 (out ++ R.2.1) (came ++ R.2.2) (by omega) hr hv (by rw [hA, hb]; omega)
      refine ⟨r1, r2, r3, by rw [r4, hA, hb]; omega, by rw [r5]; exact t3, ?_⟩
      rw [t4, List.length_append, List.length_singleton] at r6
      omega
    · rename_i hok
      obtain ⟨i, h1, h2, h3⟩ := scan_no d.buf 0 (by simpa using hok)
      have hsh : (d.buf.drop i).length < 4106 := by
        rcases h3 with h3 | h3
        · rw [h3]; show 0 < 4106; omega
        · exact read_short h3
      have e : (If.scan 0 d.buf).a = i := by rw [h1]; omega
      rw [e]
      have hlen : (d.buf.drop i).length = d.buf.length - i := List.length_drop
      refine ⟨⟨⟨h.1.lt, h.1.sz, h.1.rm, h.1.wn, ?_, h.1.wt, h.1.tr, h.1.qu, h.1.wi, h.1.ah⟩, ?_⟩, hl, hsh, ?_, rfl, Nat.le_add_right _ _⟩
      · show 0 ≤ d.at_ + (i : Int) ∧ d.at_ + (i : Int) ≤ 1099511627776
        omega
      · rcases h.2 with h2 | ⟨hp, hr⟩ | h2
        · exact .inl h2
        · exact .inr (.inl ⟨hp, hr.st, hr.md, hr.ws, hr.bs, hr.ln⟩)
        · exact .inr (.inr h2)
      · show d.at_ + (i : Int) + ((d.buf.drop i).length : Int) = _
        omega
theorem q_fillN : ∀ (f : Nat) (d : Dr) (out : List UInt8), (fillN f d out).1.queue.length ≤ d.queue.length ∧ (fillN f d out).1.took = d.took
  | 0, _, _ => ⟨Nat.le_refl _, rfl⟩
  | f + 1, d, out => by
    unfold fillN
    cases hq : d.queue with
    | nil => dsimp only; rw [hq]; exact ⟨Nat.le_refl _, rfl⟩
    | cons p q =>
      dsimp only
      split
      · obtain ⟨i1, i2⟩ := q_fillN f (fill1 d p).1 (out ++ (fill1 d p).2)
        refine ⟨Nat.le_trans i1 ?_, i2⟩
        show (Gp.cutQ d.queue (min p.data.size d.size.toNat)).length ≤ _
        rw [hq]
        unfold Gp.cutQ
        dsimp only
        split
        · simp
        · simp
      · rw [hq]; exact ⟨Nat.le_refl _, rfl⟩
/-- What the statement on right drives asks, call by call: N bytes have come so far, Q pieces wait at most. -/
structure Ok (N Q : Nat) (d : Dr) : Prop where
  rt : right d
  lv : live d
  tot : d.at_ + d.buf.length ≤ N
  buf : d.buf.length < 4106
  qu : d.queue.length ≤ Q
theorem Ok.mono {N Q M R : Nat} {d : Dr} (h : Ok N Q d) (hm : N ≤ M) (hr : Q ≤ R) : Ok M R d := ⟨h.rt, h.lv, by have := h.tot; omega, h.buf, by have := h.qu; omega⟩
theorem right_own {d : Dr} (h : right d) : right (Gp.own d) := by
  refine ⟨⟨h.1.lt, h.1.sz, h.1.rm, h.1.wn, h.1.at_, h.1.wt, h.1.tr, h.1.qu, h.1.wi, h.1.ah⟩, ?_⟩
  rcases h.2 with h2 | ⟨hp, hr⟩ | h2
  · exact .inl h2
  · exact .inr (.inl ⟨hp, hr.st, hr.md, hr.ws, hr.bs, hr.ln⟩)
  · exact .inr (.inr h2)
theorem Ok.feed {N Q : Nat} {d : Dr} (h : Ok N Q d) (s : List UInt8) (hN : N + s.length ≤ 1099511627776) : Ok (N + s.length) Q (feed d s).1 ∧ (feed d s).1.took.length ≤ d.buf.length + s.length + 1 := by
  have ht := h.tot
  have hl : (d.buf ++ s).length = d.buf.length + s.length := List.length_append
  have h0 : right { Gp.own d with buf := d.buf ++ s } := by
    obtain ⟨b, p⟩ := right_own h.rt
    refine ⟨⟨b.lt, b.sz, b.rm, b.wn, b.at_, b.wt, b.tr, b.qu, b.wi, b.ah⟩, ?_⟩
    rcases p with h2 | ⟨hp, hr⟩ | h2
    · exact .inl h2
    · exact .inr (.inl ⟨hp, hr.st, hr.md, hr.ws, hr.bs, hr.ln⟩)
    · exact .inr (.inr h2)
  obtain ⟨r1, r2, r3, r4, r5, r6⟩ := right_feedN (d.buf.length + s.length + 1) { Gp.own d with buf := d.buf ++ s } [] [] (by show (d.buf ++ s).length < _; omega) h0 h.lv (by show d.at_ + ((d.buf ++ s).length : Int) ≤ _; omega)
  unfold Ip.feed
  dsimp only
  generalize feedN (d.buf.length + s.length + 1) { Gp.own d with buf := d.buf ++ s } [] [] = R at *
  obtain ⟨f1, f2, f3, _, _⟩ := right_fill r1
  obtain ⟨q1, q2⟩ := q_fillN 17 R.1 []
  have hq := h.qu
  refine ⟨⟨f1, live_fillN 17 R.1 [] r2, ?_, by rw [f3]; exact r3, ?_⟩, ?_⟩
  · rw [f2, f3, r4]
    show d.at_ + ((d.buf ++ s).length : Int) ≤ _
    omega
  · refine Nat.le_trans q1 ?_
    rw [r5]
    exact hq
  · show (fillN 17 R.1 []).1.took.length ≤ _
    rw [q2]
    have : (Gp.own d).took.length = 0 := rfl
    have r6' : R.1.took.length ≤ 0 + (d.buf.length + s.length + 1) := r6
    omega
theorem Ok.close {N Q : Nat} {d : Dr} (h : Ok N Q d) : Ok N Q (close d).1 := by
  unfold Ip.close
  split
  · exact ⟨right_own h.rt, h.lv, h.tot, h.buf, h.qu⟩
  · have b := (right_own h.rt).1
    exact ⟨⟨⟨b.lt, b.sz, b.rm, b.wn, b.at_, b.wt, by show (0 : Int) ≤ 0 ∧ (0 : Int) ≤ 13; omega, b.qu, b.wi, b.ah⟩, .inr (.inr (.inl rfl))⟩, fun _ => by show (0 : Int) ≤ 12; omega, h.tot, h.buf, h.qu⟩
theorem Ok.tick {N Q : Nat} {d : Dr} (h : Ok N Q d) (hN : N ≤ 1099511627776) : Ok N Q (tick d).1 := by
  have ht := h.tot
  have key : ∃ e : Dr, (if 2 ≤ (Gp.own d).wait then { Gp.own d with wait := 0 } else { Gp.own d with at_ := (Gp.own d).at_ + (Gp.own d).buf.length, buf := [], wait := 0 }) = e ∧ Ok N Q e := by
    obtain ⟨b, x⟩ := right_own h.rt
    by_cases hw : 2 ≤ d.wait
    · refine ⟨{ Gp.own d with wait := 0 }, if_pos hw, right_wait ⟨b, x⟩ (by omega), h.lv, h.tot, h.buf, h.qu⟩
    · refine ⟨{ Gp.own d with at_ := d.at_ + d.buf.length, buf := [], wait := 0 }, if_neg hw, ⟨⟨b.lt, b.sz, b.rm, b.wn, ?_, by show (0 : Int) ≤ 0 ∧ (0 : Int) ≤ 3; omega, b.tr, b.qu, b.wi, b.ah⟩, ?_⟩, h.lv, ?_, by show 0 < 4106; omega, h.qu⟩
      · have hat := b.at_
        show 0 ≤ d.at_ + (d.buf.length : Int) ∧ d.at_ + (d.buf.length : Int) ≤ 1099511627776
        have : (Gp.own d).at_ = d.at_ := rfl
        omega
      · rcases x with h2 | ⟨hp, hr⟩ | h2
        · exact .inl h2
        · exact .inr (.inl ⟨hp, hr.st, hr.md, hr.ws, hr.bs, hr.ln⟩)
        · exact .inr (.inr h2)
      · show d.at_ + (d.buf.length : Int) + ((0 : Nat) : Int) ≤ N
        omega
  obtain ⟨e, he, hr, hle, h3, h4, h5⟩ := key
  unfold Ip.tick
  dsimp only
  rw [he]
  have htr := hr.1.tr
  have hb1 : e.phase ≤ 3 → base { e with tries := e.tries + 1 } := fun hp => ⟨hr.1.lt, hr.1.sz, hr.1.rm, hr.1.wn, hr.1.at_, hr.1.wt, by show 0 ≤ e.tries + 1 ∧ e.tries + 1 ≤ 13; have := hle hp; omega, hr.1.qu, hr.1.wi, hr.1.ah⟩
  split
  · rename_i hp
    have hb2 := hb1 (by omega)
    split
    · split
      · exact ⟨⟨⟨hb2.lt, hb2.sz, hb2.rm, hb2.wn, hb2.at_, hb2.wt, hb2.tr, hb2.qu, hb2.wi, hb2.ah⟩, .inr (.inr (.inr (.inl rfl)))⟩, fun x => absurd x (by show ¬ (4 : Int) ≤ 3; omega), h3, h4, h5⟩
      · exact ⟨⟨⟨hb2.lt, hb2.sz, hb2.rm, hb2.wn, hb2.at_, hb2.wt, hb2.tr, hb2.qu, hb2.wi, hb2.ah⟩, .inr (.inr (.inr (.inr rfl)))⟩, fun x => absurd x (by show ¬ (5 : Int) ≤ 3; omega), h3, h4, h5⟩
    · rename_i htr2
      have hx : right { e with tries := e.tries + 1 } := by
        refine ⟨hb2, ?_⟩
        rcases hr.2 with h2 | ⟨hp, hr⟩ | h2
        · exact .inl h2
        · exact .inr (.inl ⟨hp, hr.st, hr.md, hr.ws, hr.bs, hr.ln⟩)
        · exact .inr (.inr h2)
      split
      · exact ⟨hx, fun _ => by show e.tries + 1 ≤ 12; omega, h3, h4, h5⟩
      · exact ⟨hx, fun _ => by show e.tries + 1 ≤ 12; omega, h3, h4, h5⟩
  split
  · rename_i hp1 hp
    have hrun : runs e := by
      rcases hr.2 with ⟨h, _⟩ | ⟨_, h⟩ | h | h | h
      · omega
      · exact h
      all_goals omega
    have hbs := hrun.bs
    have b := hr.1
    split
    · exact ⟨⟨⟨b.lt, b.sz, b.rm, b.wn, b.at_, b.wt, b.tr, b.qu, b.wi, b.ah⟩, .inr (.inl ⟨hp, by show (-1 : Int) ≤ -1 ∧ (-1 : Int) ≤ 31; omega, hrun.md, hrun.ws, hrun.bs, hrun.ln⟩)⟩, hle, h3, h4, h5⟩
    split
    · exact ⟨⟨⟨b.lt, b.sz, b.rm, b.wn, b.at_, b.wt, b.tr, b.qu, b.wi, b.ah⟩, .inr (.inl ⟨hp, by show -1 ≤ e.win.bs ∧ e.win.bs ≤ 31; omega, hrun.md, hrun.ws, hrun.bs, hrun.ln⟩)⟩, hle, h3, h4, h5⟩
    · have hb2 := hb1 (by omega)
      split
      · exact ⟨⟨⟨hb2.lt, hb2.sz, hb2.rm, hb2.wn, hb2.at_, hb2.wt, hb2.tr, hb2.qu, hb2.wi, hb2.ah⟩, .inr (.inr (.inr (.inr rfl)))⟩, fun x => absurd x (by show ¬ (5 : Int) ≤ 3; omega), h3, h4, h5⟩
      · rename_i ht2
        exact ⟨⟨hb2, .inr (.inl ⟨hp, hrun.st, hrun.md, hrun.ws, hrun.bs, hrun.ln⟩)⟩, fun _ => by show e.tries + 1 ≤ 12; omega, h3, h4, h5⟩
  · exact ⟨hr, hle, h3, h4, h5⟩
theorem Ok.begin_ (caller : Bool) {size room : Int} (h1 : 1 ≤ size ∧ size ≤ 4095) (h2 : 1 ≤ room ∧ room ≤ 16) : Ok 0 0 (begin_ caller size room) :=
  ⟨⟨⟨rfl, h1, h2, by show (0 : Int) ≤ 1 ∧ (1 : Int) ≤ 31; omega, by show (0 : Int) ≤ 0 ∧ (0 : Int) ≤ 1099511627776; omega, by show (0 : Int) ≤ 0 ∧ (0 : Int) ≤ 3; omega, by show (0 : Int) ≤ 0 ∧ (0 : Int) ≤ 13; omega, (fun p hp => by cases hp), (fun s hs => by cases hs), trivial⟩, .inl ⟨rfl, rfl, rfl⟩⟩, fun _ => by show (0 : Int) ≤ 12; omega, by show (0 : Int) + ((0 : Nat) : Int) ≤ ((0 : Nat) : Int); omega, by show 0 < 4106; omega, Nat.le_refl _⟩
end Ip
end Go.Proofs.YtomldoijcclhhaaGreat

namespace Go.Proofs.YtomldoijcclhhaaGreat
open Go.RowKit
/-- the cells behind the drive; the block of the packets that came early, if it is the end's own -/
structure Qv where
  s : Value
  sb : Value
  cv : Value
  ag : Option Nat
/-- a block as a value -/
def tok : Option Nat → Value
  | none => .slice none 0 0
  | some g => .slice (some ⟨g, 0, none⟩) 0 0
/-- an end's cells -/
def IC (d : Gp.Dr) (p : Pl) (q : Qv) : List Value := [.int .i64 d.letter, .int .i64 d.phase, .bool d.caller, .int .i64 d.step, .int .i64 d.size, .int .i64 d.room, .int .i64 d.win.md, .int .i64 d.win.sz, .int .i64 d.win.bs, .slice p.w d.win.l.length p.wc, .int .i64 d.wants, .slice p.a d.ahead.length p.ac, .string ⟨d.buf.toArray⟩, .int .i64 d.at_, .slice p.q d.queue.length p.qc, .int .i64 d.wait, .int .i64 d.tries, .slice p.t d.took.length p.tc, q.s, q.sb, q.cv]
/-- what turns -/
def ivs (d : Gp.Dr) (p : Pl) (q : Qv) : List Value := [q.sb, q.cv, .slice p.t d.took.length p.tc, tok q.ag]
/-- packets in a block of the end's own, from a place on -/
def AO (W : World) (eb g : Nat) (a : Option Addr) (cap : Nat) (l : List Gp.Fi) : Prop := eb < g ∧ ∃ o cur, a = some ⟨g, o, none⟩ ∧ W.heap[g]? = some (.cells cur 55 (0, 0)) ∧ (o + cap * 6 ≤ cur.size ∧ cap ≤ maxLen) ∧ ∀ t u, (fiE.flat l)[t]? = some u → cur[o + t]? = some u
theorem AO.kept {W W' : World} {eb g cap : Nat} {a : Option Addr} {l : List Gp.Fi} (h : AO W eb g a cap l) (e : W'.heap[g]? = W.heap[g]?) : AO W' eb g a cap l := by
  obtain ⟨h1, o, cur, h2, h3, h4⟩ := h
  exact ⟨h1, o, cur, h2, by rw [e]; exact h3, h4⟩
theorem AO.lt {W : World} {eb g cap : Nat} {a : Option Addr} {l : List Gp.Fi} (h : AO W eb g a cap l) : g < W.heap.size := by
  obtain ⟨_, o, cur, _, h3, _⟩ := h
  exact (Array.getElem?_eq_some_iff.1 h3).1
theorem AO.e {W : World} {eb g cap : Nat} {a : Option Addr} {l : List Gp.Fi} (h : AO W eb g a cap l) : ERow fiE W a l := by
  have hlt := h.lt
  obtain ⟨_, o, cur, h2, h3, _, h5⟩ := h
  refine .inr ⟨g, o, h2, hlt, fun t u ht => ?_⟩
  simp only [World.cell?, h3]
  exact h5 t u ht
/-- an end in memory -/
structure IAt (Kp : Nat → Prop) (W : World) (eb : Nat) (d : Gp.Dr) (p : Pl) (q : Qv) (S : List UInt8) (C : List Gp.Pc) : Prop where
  bk : Rg.Bk eb (IC d p q) 81 W
  win : TRow Kp strE eb eb (ivs d p q) W p.w d.win.l
  wcap : d.win.l.length ≤ p.wc
  ahead : (q.ag = none ∧ TRow Kp fiE eb eb (ivs d p q) W p.a d.ahead) ∨ ∃ g, q.ag = some g ∧ AO W eb g p.a p.ac d.ahead
  acap : d.ahead.length ≤ p.ac
  queue : TRow Kp pcE eb eb (ivs d p q) W p.q d.queue
  took : W.ownsRow eb 57 2 (.slice p.t d.took.length p.tc) d.took.length (spE.flat d.took)
  sa : q.s = .pointer none ∨ q.s = .pointer (some ⟨eb, 18, none⟩)
  said : BAt eb W q.sb S
  came : W.ownsRow eb 44 2 q.cv C.length (pcE.flat C)
theorem own_ne {base e n sz g : Nat} {T U : TypeId} {v : Value} {xs : List Value} {W : World} {cur : Array Value} {fz : Nat × Nat} (h : W.ownsRow base T sz v n xs) (k : W.heap[g]? = some (.cells cur U fz)) (hT : T ≠ U) (_he : e = 0) : v.ownBlock ≠ some g := by
  rcases h.2 with ⟨rfl, _⟩ | ⟨g', cap, cur', rfl, _, hg, _⟩
  · simp [Value.ownBlock]
  · intro e2
    simp [Value.ownBlock] at e2
    subst e2
    rw [k] at hg
    cases hg
    exact hT rfl
theorem own_kept {base n sz : Nat} {T : TypeId} {v : Value} {xs : List Value} {W W' : World} (h : W.ownsRow base T sz v n xs) (hg : ∀ g, v.ownBlock = some g → W'.heap[g]? = W.heap[g]?) : W'.ownsRow base T sz v n xs := by
  refine ⟨h.1, ?_⟩
  rcases h.2 with hn | ⟨g, cap, cur, rfl, hb, hgg, rest⟩
  · exact .inl hn
  · exact .inr ⟨g, cap, cur, rfl, hb, by rw [hg g rfl]; exact hgg, rest⟩
theorem tok_own (ag : Option Nat) (g : Nat) : (tok ag).ownBlock = some g ↔ ag = some g := by
  cases ag <;> simp [tok, Value.ownBlock]
/-- what turns lies behind the end, and is there -/
theorem IAt.vs {Kp : Nat → Prop} {W : World} {eb : Nat} {d : Gp.Dr} {p : Pl} {q : Qv} {S : List UInt8} {C : List Gp.Pc} (h : IAt Kp W eb d p q S C) : ∀ v ∈ ivs d p q, ∀ g, v.ownBlock = some g → eb < g ∧ g < W.heap.size := by
  intro v hm g hg
  simp only [ivs, List.mem_cons, List.not_mem_nil, or_false] at hm
  rcases hm with rfl | rfl | rfl | rfl
  · have := h.said.own.lt g hg
    have hn := h.said.ne h.bk (by decide)
    exact ⟨Nat.lt_of_le_of_ne this.1 (fun e => hn (by rw [hg, e])), this.2⟩
  · have := h.came.lt g hg
    have hn := own_ne h.came h.bk (by decide) (e := 0) rfl
    exact ⟨Nat.lt_of_le_of_ne this.1 (fun e => hn (by rw [hg, e])), this.2⟩
  · have := h.took.lt g hg
    have hn := own_ne h.took h.bk (by decide) (e := 0) rfl
    exact ⟨Nat.lt_of_le_of_ne this.1 (fun e => hn (by rw [hg, e])), this.2⟩
  · rw [tok_own] at hg
    rcases h.ahead with ⟨e, _⟩ | ⟨g', e, ha⟩
    · rw [e] at hg; cases hg
    · rw [e] at hg; cases hg
      exact ⟨ha.1, ha.lt⟩
/-- what keeps an end: its block told anew, what turns kept, all else behind it kept -/
theorem IAt.keep {Kp : Nat → Prop} {W W' : World} {eb : Nat} {d : Gp.Dr} {p : Pl} {q : Qv} {S : List UInt8} {C : List Gp.Pc} (h : IAt Kp W eb d p q S C) (hb : Below eb W W') (hk : ∀ k, k < W.heap.size → k ≠ eb → W'.heap[k]? = W.heap[k]?) (d' : Gp.Dr) (p' : Pl) (k' : Rg.Bk eb (IC d' p' q) 81 W') (ht : d'.took = d.took) (hp : p'.t = p.t ∧ p'.tc = p.tc)
    (hw : TRow Kp strE eb eb (ivs d p q) W p'.w d'.win.l) (hwc : d'.win.l.length ≤ p'.wc) (ha : d'.ahead = d.ahead ∧ p'.a = p.a ∧ p'.ac = p.ac) (hq : TRow Kp pcE eb eb (ivs d p q) W p'.q d'.queue) : IAt Kp W' eb d' p' q S C := by
  have e : ivs d' p' q = ivs d p q := by unfold ivs; rw [hp.1, hp.2, ht]
  have hkk : ∀ g, g < W.heap.size → g ≠ eb → (∀ v ∈ ivs d p q, v.ownBlock ≠ some g) → W'.heap[g]? = W.heap[g]? := fun g h1 h2 _ => hk g h1 h2
  have hvs := h.vs
  have hown : ∀ v ∈ ivs d p q, ∀ g, v.ownBlock = some g → W'.heap[g]? = W.heap[g]? := fun v hm g hg => hk g (hvs v hm g hg).2 (Nat.ne_of_gt (hvs v hm g hg).1)
  refine ⟨k', by rw [e]; exact hw.kept hb hkk same_vs, hwc, ?_, by rw [ha.1, ha.2.2]; exact h.acap, by rw [e]; exact hq.kept hb hkk same_vs, ?_, h.sa, h.said.kept (hown _ (by simp [ivs])), own_kept h.came (hown _ (by simp [ivs]))⟩
  · rw [ha.1, ha.2.1, ha.2.2, e]
    rcases h.ahead with ⟨e1, h1⟩ | ⟨g, e1, h1⟩
    · exact .inl ⟨e1, h1.kept hb hkk same_vs⟩
    · exact .inr ⟨g, e1, h1.kept (hown (tok q.ag) (by simp [ivs]) g ((tok_own _ _).2 e1))⟩
  · rw [hp.1, hp.2, ht]
    exact own_kept h.took (hown _ (by simp [ivs]))
/-- what a call of another package leaves -/
theorem IAt.below {Kp : Nat → Prop} {W W' : World} {eb : Nat} {d : Gp.Dr} {p : Pl} {q : Qv} {S : List UInt8} {C : List Gp.Pc} (h : IAt Kp W eb d p q S C) (hb : Below W.heap.size W W') : IAt Kp W' eb d p q S C :=
  h.keep (hb.mono (Nat.le_of_lt h.bk.lt)) (fun k hk _ => hb.block k hk) d p (h.bk.below hb h.bk.lt) rfl ⟨rfl, rfl⟩ h.win h.wcap ⟨rfl, rfl, rfl⟩ h.queue
theorem IAt.drew {Kp : Nat → Prop} {W : World} {eb : Nat} {d : Gp.Dr} {p : Pl} {q : Qv} {S : List UInt8} {C : List Gp.Pc} (h : IAt Kp W eb d p q S C) : IAt Kp W.drew eb d p q S C := h.below (Below.drew (Below.refl _ _))
theorem IAt.alloc {Kp : Nat → Prop} {W : World} {eb : Nat} {d : Gp.Dr} {p : Pl} {q : Qv} {S : List UInt8} {C : List Gp.Pc} (h : IAt Kp W eb d p q S C) (o : Obj) : IAt Kp (W.alloc o) eb d p q S C := h.below (Rg.al1 W o)
theorem below_set {W : World} (eb k : Nat) (v : Value) : Below eb W (W.setCell ⟨eb, k, none⟩ v) := (Below.refl _ _).setCell (p := ⟨eb, k, none⟩) (Nat.le_refl _) _
/-- one store into the end: lists that are told anew -/
theorem IAt.put {Kp : Nat → Prop} {W : World} {eb : Nat} {d : Gp.Dr} {p : Pl} {q : Qv} {S : List UInt8} {C : List Gp.Pc} (h : IAt Kp W eb d p q S C) (k : Nat) (v : Value) (d' : Gp.Dr) (p' : Pl) (hc : (IC d p q).set k v = IC d' p' q) (ht : d'.took = d.took) (hp : p'.t = p.t ∧ p'.tc = p.tc)
    (hw : TRow Kp strE eb eb (ivs d p q) W p'.w d'.win.l) (hwc : d'.win.l.length ≤ p'.wc) (ha : d'.ahead = d.ahead ∧ p'.a = p.a ∧ p'.ac = p.ac) (hq : TRow Kp pcE eb eb (ivs d p q) W p'.q d'.queue) : IAt Kp (W.setCell ⟨eb, k, none⟩ v) eb d' p' q S C := by
  have hk := h.bk.set k v
  rw [hc] at hk
  exact h.keep (below_set eb k v) (fun g _ hg => Below.heap_setCell _ _ _ _ hg) d' p' hk ht hp hw hwc ha hq
/-- a row in a block that was not there -/
theorem IAt.row {Kp : Nat → Prop} {α : Type} {E : Rg.El α} {W W' : World} {eb : Nat} {d : Gp.Dr} {p : Pl} {q : Qv} {S : List UInt8} {C : List Gp.Pc} {a : Option Addr} {l : List α} (h : IAt Kp W eb d p q S C) (hr : ERow E W' a l) (hn : ∀ b o, a = some ⟨b, o, none⟩ → W.heap.size ≤ b) : TRow Kp E eb eb (ivs d p q) W' a l := by
  rcases hr with hr | ⟨b, o, h1, h2, h3⟩
  · exact .inl hr
  · have hb := hn b o h1
    refine .inr ⟨b, o, h1, h2, h3, .inr ⟨Nat.lt_of_lt_of_le h.bk.lt hb, fun v hm hg => ?_⟩⟩
    have := (h.vs v hm b hg).2
    omega
/-- an end, wherever its rows lie -/
def IS (Kp : Nat → Prop) (W : World) (eb : Nat) (d : Gp.Dr) (S : List UInt8) (C : List Gp.Pc) : Prop := ∃ p q, IAt Kp W eb d p q S C
/-- what a method leaves -/
def IPost (Kp : Nat → Prop) (eb : Nat) (W : World) (d : Gp.Dr) (S : List UInt8) (C : List Gp.Pc) (e : Ending) (w' : World) : Prop := e = .returned (.tuple #[]) ∧ IS Kp w' eb d S C ∧ Below eb W w'
/-- what a method leaves that only says something -/
def IPostP (Kp : Nat → Prop) (eb : Nat) (W : World) (d : Gp.Dr) (p : Pl) (ag : Option Nat) (cv : Value) (S : List UInt8) (C : List Gp.Pc) (e : Ending) (w' : World) : Prop := e = .returned (.tuple #[]) ∧ (∃ s sb, IAt Kp w' eb d p ⟨s, sb, cv, ag⟩ S C) ∧ Fr eb eb W w'
theorem IPostP.is {Kp : Nat → Prop} {eb : Nat} {W : World} {d : Gp.Dr} {p : Pl} {ag : Option Nat} {cv : Value} {S : List UInt8} {C : List Gp.Pc} {e : Ending} {w' : World} (h : IPostP Kp eb W d p ag cv S C e w') : IPost Kp eb W d S C e w' := by
  obtain ⟨h1, ⟨s, sb, h2⟩, h3⟩ := h
  exact ⟨h1, ⟨p, _, h2⟩, h3.bel⟩
end Go.Proofs.YtomldoijcclhhaaGreat
