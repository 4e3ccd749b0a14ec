/-
  Mathematics of layer 16: a drive that is right stays right, whatever comes; what it keeps of the bytes is less than a packet.
-/
import Derived.Test.YtomldoijcclhhaaGreatSkAR
import Derived.Test.YtomldoijcclhhaaGreatSkAI
namespace Go.Proofs.YtomldoijcclhhaaGreat
namespace Ip
open Gp (Dr Pc Fi)
theorem early_eq {a b : Int} (ha : 0 ≤ a ∧ a ≤ 31) (hb : 0 ≤ b ∧ b ≤ 31) : early a b = if a ≤ b then b - a else b - a + 32 := by
  unfold early Wn.ahead
  rw [if_pos ⟨by omega, by omega, ha.1, by omega, hb.1, by omega⟩]
theorem early_rng {a b : Int} (h : 0 ≤ early a b) : (0 ≤ a ∧ a ≤ 31) ∧ (0 ≤ b ∧ b ≤ 31) := by
  unfold early Wn.ahead at h
  split at h
  · rename_i c
    omega
  · omega
theorem early_lt {a b : Int} (ha : 0 ≤ a ∧ a ≤ 31) (hb : 0 ≤ b ∧ b ≤ 31) : 0 ≤ early a b ∧ early a b ≤ 31 := by
  rw [early_eq ha hb]
  split <;> omega
theorem early_zero {a b : Int} (h : 0 ≤ early a b) : early a b = 0 ↔ b = a := by
  obtain ⟨ha, hb⟩ := early_rng h
  rw [early_eq ha hb]
  split <;> omega
theorem early_next {a b : Int} (h : 1 ≤ early a b) : early ((a + 1) % 32) b = early a b - 1 := by
  obtain ⟨ha, hb⟩ := early_rng (by omega : 0 ≤ early a b)
  have e := early_eq ha hb
  rw [e] at h ⊢
  rw [early_eq (by omega) hb]
  by_cases c : a = 31
  · subst c
    split at h <;> split <;> omega
  · have : (a + 1) % 32 = a + 1 := by omega
    rw [this]
    split at h <;> split <;> omega
theorem ok_next {w : Int} : ∀ {l : Int} {r : List Fi}, 0 ≤ l → okAhead w l r → okAhead ((w + 1) % 32) (l - 1) r
  | _, [], _, _ => trivial
  | l, f :: r, h0, ⟨h1, h2, h3, h4⟩ => by
    have e := early_next (a := w) (b := f.nm) (by omega)
    have ih := ok_next (by omega) h4
    refine ⟨h1, ?_, ?_, ?_⟩
    · rw [e]; omega
    · rw [e]; omega
    · rw [e]; exact ih
theorem ok_ins {w : Int} {f : Fi} (hs : f.data.size ≠ 0) (h15 : early w f.nm ≤ 15) : ∀ {l : Int} {r : List Fi}, l < early w f.nm → okAhead w l r → okAhead w l (ins w f r)
  | _, [], hl, _ => ⟨hs, hl, h15, trivial⟩
  | l, g :: r, hl, ⟨h1, h2, h3, h4⟩ => by
    unfold ins
    split
    · rename_i c
      exact ⟨h1, h2, h3, ok_ins hs h15 c h4⟩
    · split
      · exact ⟨h1, h2, h3, h4⟩
      · exact ⟨hs, hl, h15, h1, by omega, h3, h4⟩
theorem ok_len {w : Int} : ∀ {l : Int} {r : List Fi}, l ≤ 15 → okAhead w l r → (r.length : Int) ≤ 15 - l
  | l, [], hl, _ => by show ((0 : Nat) : Int) ≤ _; omega
  | l, _ :: r, _, ⟨_, h2, h3, h4⟩ => by
    have := ok_len h3 h4
    rw [List.length_cons]
    omega
/-- base, while what was waited for comes -/
structure base1 (d : Dr) : Prop where
  lt : d.letter = 105
  sz : 1 ≤ d.size ∧ d.size ≤ 4095
  rm : 1 ≤ d.room ∧ d.room ≤ 16
  wn : 0 ≤ d.wants ∧ d.wants ≤ 31
  at_ : 0 ≤ d.at_ ∧ d.at_ ≤ 1099511627776
  wt : 0 ≤ d.wait ∧ d.wait ≤ 3
  tr : 0 ≤ d.tries ∧ d.tries ≤ 13
  qu : ∀ p ∈ d.queue, okPc p
  wi : ∀ s ∈ d.win.l, okText d.size s
  ah : okAhead d.wants (-1) d.ahead
theorem drain_base : ∀ (n : Nat) (d : Dr) (l : List Pc), d.ahead.length ≤ n → base1 d → base (drain n d l).1
  | 0, d, l, hn, h => by
    have e : d.ahead = [] := List.length_eq_zero_iff.1 (by omega)
    exact ⟨h.lt, h.sz, h.rm, h.wn, h.at_, h.wt, h.tr, h.qu, h.wi, by show okAhead d.wants 0 d.ahead; rw [e]; trivial⟩
  | n + 1, d, l, hn, h => by
    unfold drain
    cases ha : d.ahead with
    | nil =>
      exact ⟨h.lt, h.sz, h.rm, h.wn, h.at_, h.wt, h.tr, h.qu, h.wi, by show okAhead d.wants 0 d.ahead; rw [ha]; trivial⟩
    | cons g r =>
      have hah := h.ah
      rw [ha] at hah
      obtain ⟨h1, h2, h3, h4⟩ := hah
      dsimp only
      have hwn := h.wn
      split
      · rename_i c
        refine drain_base n _ _ (by rw [ha] at hn; simp at hn; exact hn) ⟨h.lt, h.sz, h.rm, by show 0 ≤ (d.wants + 1) % 32 ∧ (d.wants + 1) % 32 ≤ 31; omega, h.at_, h.wt, h.tr, h.qu, h.wi, ?_⟩
        have e0 : early d.wants g.nm = 0 := (early_zero (by omega)).2 c
        rw [e0] at h4
        exact ok_next (Int.le_refl 0) h4
      · rename_i c
        refine ⟨h.lt, h.sz, h.rm, h.wn, h.at_, h.wt, h.tr, h.qu, h.wi, ?_⟩
        show okAhead d.wants 0 d.ahead
        rw [ha]
        have : early d.wants g.nm ≠ 0 := fun e => c ((early_zero (by omega)).1 e)
        exact ⟨h1, by omega, h3, h4⟩
theorem drain_keeps : ∀ (n : Nat) (d : Dr) (l : List Pc), (drain n d l).1.phase = d.phase ∧ (drain n d l).1.step = d.step ∧ (drain n d l).1.win = d.win ∧ (drain n d l).1.room = d.room ∧ (drain n d l).1.at_ = d.at_ ∧ (drain n d l).1.buf = d.buf ∧ (drain n d l).1.tries = d.tries ∧ (drain n d l).1.queue = d.queue ∧ (drain n d l).1.took = d.took
  | 0, _, _ => ⟨rfl, rfl, rfl, rfl, rfl, rfl, rfl, rfl, rfl⟩
  | n + 1, d, l => by
    unfold drain
    cases d.ahead with
    | nil => exact ⟨rfl, rfl, rfl, rfl, rfl, rfl, rfl, rfl, rfl⟩
    | cons g r =>
      dsimp only
      split
      · exact drain_keeps n _ _
      · exact ⟨rfl, rfl, rfl, rfl, rfl, rfl, rfl, rfl, rfl⟩
theorem base_wait {d : Dr} (h : base d) {x : Int} (hx : 0 ≤ x ∧ x ≤ 3) : base { d with wait := x } := ⟨h.lt, h.sz, h.rm, h.wn, h.at_, hx, h.tr, h.qu, h.wi, h.ah⟩
theorem right_wait {d : Dr} (h : right d) {x : Int} (hx : 0 ≤ x ∧ x ≤ 3) : right { d with wait := x } := by
  refine ⟨base_wait h.1 hx, ?_⟩
  rcases h.2 with h2 | ⟨hp, hr⟩ | h2
  · exact .inl h2
  · exact .inr (.inl ⟨hp, hr.st, hr.md, hr.ws, hr.bs, hr.ln⟩)
  · exact .inr (.inr h2)
theorem min_rng {a b lo hi : Int} (ha : lo ≤ a ∧ a ≤ hi) (hb : lo ≤ b) : lo ≤ min a b ∧ min a b ≤ hi := by
  rcases Int.le_total a b with c | c
  · rw [Int.min_eq_left c]; omega
  · rw [Int.min_eq_right c]; omega
theorem right_opens {d : Dr} (h : right d) (data : List UInt8) : right (opens d data).1 := by
  unfold opens
  split
  · rename_i a b c
    split
    · rename_i hp
      split
      · exact h
      · rename_i hz
        have hz1 : ¬ a.toNat * 256 + b.toNat = 0 := fun e => hz (.inl e)
        have hz2 : ¬ c.toNat = 0 := fun e => hz (.inr e)
        have hw : d.win.l = [] ∧ d.ahead = [] := by
          rcases h.2 with ⟨_, h⟩ | ⟨h, _⟩ | h | h | h
          · exact h
          all_goals omega
        have hs := min_rng (b := ((a.toNat * 256 + b.toNat : Nat) : Int)) h.1.sz (by omega)
        have hr := min_rng (b := (c.toNat : Int)) h.1.rm (by omega)
        dsimp only
        generalize min d.size ((a.toNat * 256 + b.toNat : Nat) : Int) = s at *
        generalize min d.room (c.toNat : Int) = r at *
        have e : Wn.begin_ 32 r 1 = (⟨32, r, 1, []⟩, 0) := if_pos ⟨by omega, by omega, hr.1, by omega, by omega, by omega⟩
        rw [e]
        exact ⟨⟨h.1.lt, hs, hr, h.1.wn, h.1.at_, h.1.wt, by show (0 : Int) ≤ 0 ∧ (0 : Int) ≤ 13; omega, h.1.qu, (fun s hs => by cases hs), h.1.ah⟩, .inr (.inl ⟨rfl, by show (-1 : Int) ≤ -1 ∧ (-1 : Int) ≤ 31; omega, rfl, rfl, by show (0 : Int) ≤ 1 ∧ (1 : Int) < 32; omega, by show ((0 : Nat) : Int) ≤ r; omega⟩)⟩
    · split
      · split
        · exact h
        · exact right_wait h (Gp.wait1 h.1.wt.1 h.1.wt.2)
      · exact h
  · exact h
theorem right_closes {d : Dr} (h : right d) : right (closes d).1 := by
  unfold closes
  split
  · exact ⟨⟨h.1.lt, h.1.sz, h.1.rm, h.1.wn, h.1.at_, h.1.wt, h.1.tr, h.1.qu, h.1.wi, h.1.ah⟩, .inr (.inr (.inr (.inl rfl)))⟩
  split
  · exact h
  split
  · exact h
  · exact ⟨⟨h.1.lt, h.1.sz, h.1.rm, h.1.wn, h.1.at_, h.1.wt, h.1.tr, h.1.qu, h.1.wi, h.1.ah⟩, .inr (.inr (.inr (.inl rfl)))⟩
theorem runs_rt {d : Dr} (hb : base d) (h : runs d) : Wn.rt d.win = true := by
  have h1 := h.md
  have h2 := h.ws
  have h3 := h.bs
  have h4 := h.ln
  have h5 := hb.rm
  exact Wn.rt_of (by omega)
theorem right_acked {d : Dr} (hb : base d) (h : runs d) (n : Int) : base (Gp.acked d n) ∧ runs (Gp.acked d n) := by
  have hrt := runs_rt hb h
  have htr := hb.tr
  have hwin : (∀ s ∈ (Wn.ack d.win n).1.l, s ∈ d.win.l) ∧ (Wn.ack d.win n).1.md = 32 ∧ (Wn.ack d.win n).1.sz = d.room ∧ (0 ≤ (Wn.ack d.win n).1.bs ∧ (Wn.ack d.win n).1.bs < 32) ∧ ((Wn.ack d.win n).1.l.length : Int) ≤ (Wn.ack d.win n).1.sz := by
    cases hp : Wn.place d.win n with
    | none =>
      rw [show Wn.ack d.win n = (d.win, 0) by unfold Wn.ack; rw [hp]]
      exact ⟨fun s hs => hs, h.md, h.ws, h.bs, h.ln⟩
    | some K =>
      rw [show (Wn.ack d.win n).1 = { d.win with bs := (n + 1) % d.win.md, l := d.win.l.drop (K + 1) } by unfold Wn.ack; rw [hp]]
      have hr := Wn.rt_parts (Wn.ack_rt hp)
      have hmd := h.md
      dsimp only at hr ⊢
      exact ⟨fun s hs => List.mem_of_mem_drop hs, hmd, h.ws, ⟨hr.2.2.2.2.1, by have := hr.2.2.2.2.2.1; rw [hmd] at this ⊢; exact this⟩, hr.2.2.2.2.2.2⟩
  refine ⟨⟨hb.lt, hb.sz, hb.rm, hb.wn, hb.at_, hb.wt, ?_, hb.qu, fun s hs => hb.wi s (hwin.1 s hs), hb.ah⟩, h.st, hwin.2.1, hwin.2.2.1, hwin.2.2.2.1, hwin.2.2.2.2⟩
  show 0 ≤ (if 0 < (Wn.ack d.win n).2 then 0 else d.tries) ∧ (if 0 < (Wn.ack d.win n).2 then 0 else d.tries) ≤ 13
  split <;> omega
theorem right_orders {d : Dr} (hb : base d) (hp : d.phase = 2) (h : runs d) {f : If.Fr} (hf : 0 ≤ f.nm ∧ f.nm ≤ 31) (hd : f.data ≠ []) : right (orders d f).1 := by
  have hE := early_lt hb.wn hf
  have hwn := hb.wn
  unfold orders
  dsimp only
  split
  · obtain ⟨k1, k2, k3, k4, _⟩ := drain_keeps d.ahead.length { d with wants := (d.wants + 1) % 32 } [⟨f.ch, ⟨f.data.toArray⟩⟩]
    refine ⟨drain_base _ _ _ (Nat.le_refl _) ⟨hb.lt, hb.sz, hb.rm, by show 0 ≤ (d.wants + 1) % 32 ∧ (d.wants + 1) % 32 ≤ 31; omega, hb.at_, hb.wt, hb.tr, hb.qu, hb.wi, ok_next (Int.le_refl 0) hb.ah⟩, .inr (.inl ⟨by rw [k1]; exact hp, ?_⟩)⟩
    exact ⟨by rw [k2]; exact h.st, by rw [k3]; exact h.md, by rw [k3, k4]; exact h.ws, by rw [k3]; exact h.bs, by rw [k3]; exact h.ln⟩
  · rename_i h0
    split
    · rename_i h15
      have hsz : (toFi f).data.size ≠ 0 := by
        show (f.data.toArray).size ≠ 0
        rw [List.size_toArray]
        exact fun e => hd (List.length_eq_zero_iff.1 e)
      have hb2 : base { d with ahead := ins d.wants (toFi f) d.ahead } := ⟨hb.lt, hb.sz, hb.rm, hb.wn, hb.at_, hb.wt, hb.tr, hb.qu, hb.wi, ok_ins (f := toFi f) hsz h15 (by show (0 : Int) < early d.wants f.nm; omega) hb.ah⟩
      have hr2 : right { d with ahead := ins d.wants (toFi f) d.ahead } := ⟨hb2, .inr (.inl ⟨hp, h.st, h.md, h.ws, h.bs, h.ln⟩)⟩
      split
      · exact hr2
      · exact right_wait hr2 (Gp.wait1 hb.wt.1 hb.wt.2)
    · exact ⟨hb, .inr (.inl ⟨hp, h⟩)⟩
theorem right_takes2 {d : Dr} (h : right d) {f : If.Fr} (hf : 0 ≤ f.nm ∧ f.nm ≤ 31) : right (takes2 d f).1 := by
  unfold takes2
  split
  · exact h
  split
  · exact h
  rename_i h3 h2
  have hp2 : d.phase = 2 := Classical.byContradiction fun x => h2 x
  have hr : runs d := by
    rcases h.2 with ⟨h, _⟩ | ⟨_, h⟩ | h | h | h
    · omega
    · exact h
    all_goals omega
  obtain ⟨ab, ar⟩ := right_acked h.1 hr f.ak
  have hA : right (Gp.acked d f.ak) := ⟨ab, .inr (.inl ⟨hp2, ar⟩)⟩
  dsimp only
  split
  · split <;> exact hA
  split
  · rename_i c
    exact right_orders ab hp2 ar hf c.2
  · exact hA
theorem right_takes {d : Dr} (h : right d) {f : If.Fr} (hf : If.ok f) : right (takes d f).1 := by
  have h2 := right_wait h (Gp.wait2 h.1.wt.1 h.1.wt.2)
  unfold takes
  split
  · exact h
  dsimp only
  split
  · exact right_opens h2 _
  split
  · exact right_closes h2
  · exact right_takes2 h2 hf.1.2.1
theorem entry_parts (ch : Int) (s : ByteArray) : (entry ch s).size = 1 + s.size ∧ (entry ch s).data.toList = UInt8.ofNat ch.toNat :: s.data.toList := by
  unfold entry
  constructor
  · rw [ByteArray.size_append]; rfl
  · simp
theorem right_fill1 {d : Dr} (hb : base d) (hr : runs d) {p : Pc} {q : List Pc} (hq : d.queue = p :: q) (hl : (d.win.l.length : Int) < d.win.sz) : base (fill1 d p).1 ∧ runs (fill1 d p).1 := by
  have hrt := runs_rt hb hr
  have hz := hb.sz
  obtain ⟨p1, p2, p3⟩ := hb.qu p (by rw [hq]; simp)
  have hk : min p.data.size d.size.toNat ≤ p.data.size ∧ 0 < min p.data.size d.size.toNat ∧ ((min p.data.size d.size.toNat : Nat) : Int) ≤ d.size := by omega
  obtain ⟨e1, e2⟩ := entry_parts p.ch (p.data.extract 0 (min p.data.size d.size.toNat))
  rw [Gp.ex_size _ _ hk.1] at e1
  unfold fill1
  dsimp only
  rw [Wn.put_ok hrt (by omega)]
  dsimp only
  refine ⟨⟨hb.lt, hb.sz, hb.rm, hb.wn, hb.at_, hb.wt, hb.tr, ?_, ?_, hb.ah⟩, hr.st, hr.md, hr.ws, hr.bs, ?_⟩
  · intro x hx
    dsimp only at hx
    rw [hq] at hx
    unfold Gp.cutQ at hx
    dsimp only at hx
    split at hx
    · exact hb.qu x (by rw [hq]; simp [hx])
    · rename_i hne
      rcases List.mem_cons.1 hx with rfl | hx
      · refine ⟨?_, p2, p3⟩
        show (p.data.extract (min p.data.size d.size.toNat) p.data.size).size ≠ 0
        simp
        omega
      · exact hb.qu x (by rw [hq]; simp [hx])
  · intro s hs
    rcases List.mem_append.1 hs with hs | hs
    · exact hb.wi s hs
    · obtain rfl := List.mem_singleton.1 hs
      refine ⟨by omega, by show _ ≤ d.size + 1; omega, ?_⟩
      rw [e2]
      show (UInt8.ofNat p.ch.toNat).toNat ≤ 7
      rw [UInt8.toNat_ofNat']
      omega
  · show ((d.win.l ++ [_]).length : Int) ≤ d.win.sz
    rw [List.length_append, List.length_singleton]
    omega
theorem right_fillN : ∀ (f : Nat) (d : Dr) (out : List UInt8), right d → right (fillN f d out).1 ∧ (fillN f d out).1.at_ = d.at_ ∧ (fillN f d out).1.buf = d.buf ∧ (fillN f d out).1.phase = d.phase ∧ (fillN f d out).1.tries = d.tries
  | 0, _, _, h => ⟨h, rfl, rfl, rfl, rfl⟩
  | f + 1, d, out, h => by
    unfold fillN
    cases hq : d.queue with
    | nil => exact ⟨h, rfl, rfl, rfl, rfl⟩
    | cons p q =>
      dsimp only
      split
      · rename_i hc
        have hr : runs d := by
          rcases h.2 with ⟨h, _⟩ | ⟨_, h⟩ | h | h | h
          · omega
          · exact h
          all_goals omega
        obtain ⟨fb, fr⟩ := right_fill1 h.1 hr hq hc.2
        have hx : right (fill1 d p).1 := ⟨fb, .inr (.inl ⟨hc.1, fr⟩)⟩
        obtain ⟨r1, r2, r3, r4, r5⟩ := right_fillN f (fill1 d p).1 (out ++ (fill1 d p).2) hx
        exact ⟨r1, r2, r3, r4, r5⟩
      · exact ⟨h, rfl, rfl, rfl, rfl⟩
theorem right_fill {d : Dr} (h : right d) : right (fill d).1 ∧ (fill d).1.at_ = d.at_ ∧ (fill d).1.buf = d.buf ∧ (fill d).1.phase = d.phase ∧ (fill d).1.tries = d.tries := right_fillN 17 d [] h
theorem opens_keeps (d : Dr) (data : List UInt8) : (opens d data).1.at_ = d.at_ ∧ (opens d data).1.buf = d.buf ∧ (opens d data).1.queue = d.queue ∧ (opens d data).1.took = d.took := by
  unfold opens
  dsimp only
  repeat' split
  all_goals exact ⟨rfl, rfl, rfl, rfl⟩
theorem closes_keeps (d : Dr) : (closes d).1.at_ = d.at_ ∧ (closes d).1.buf = d.buf ∧ (closes d).1.queue = d.queue ∧ (closes d).1.took = d.took := by
  unfold closes
  repeat' split
  all_goals exact ⟨rfl, rfl, rfl, rfl⟩
theorem orders_keeps (d : Dr) (f : If.Fr) : (orders d f).1.at_ = d.at_ ∧ (orders d f).1.buf = d.buf ∧ (orders d f).1.queue = d.queue ∧ (orders d f).1.took = d.took := by
  unfold orders
  dsimp only
  split
  · obtain ⟨_, _, _, _, k5, k6, _, k8, k9⟩ := drain_keeps d.ahead.length { d with wants := (d.wants + 1) % 32 } [⟨f.ch, ⟨f.data.toArray⟩⟩]
    exact ⟨k5, k6, k8, k9⟩
  · repeat' split
    all_goals exact ⟨rfl, rfl, rfl, rfl⟩
theorem takes_keeps (d : Dr) (f : If.Fr) : (takes d f).1.at_ = d.at_ ∧ (takes d f).1.buf = d.buf ∧ (takes d f).1.queue = d.queue ∧ (takes d f).1.took = d.took := by
  unfold takes
  split
  · exact ⟨rfl, rfl, rfl, rfl⟩
  dsimp only
  split
  · exact opens_keeps _ _
  split
  · exact closes_keeps _
  · unfold takes2
    dsimp only
    split
    · exact ⟨rfl, rfl, rfl, rfl⟩
    split
    · exact ⟨rfl, rfl, rfl, rfl⟩
    split
    · split <;> exact ⟨rfl, rfl, rfl, rfl⟩
    split
    · exact orders_keeps _ _
    · exact ⟨rfl, rfl, rfl, rfl⟩
end Ip
end Go.Proofs.YtomldoijcclhhaaGreat
