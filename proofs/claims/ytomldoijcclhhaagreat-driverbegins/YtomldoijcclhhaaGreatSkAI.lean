/-
  Mathematics of layer 15: a drive that is right stays right, whatever comes; what it keeps of the bytes is less than a packet. Mathematics of layer 15: what can be reached stays right, ticks among it.
-/
import Derived.Test.YtomldoijcclhhaaGreatSkAB
namespace Go.Proofs.YtomldoijcclhhaaGreat
namespace Gp
/-- What Scan finds. -/
theorem scan_yes : ∀ (b : List UInt8) (p : Nat), (Gf.scan p b).ok = true → ∃ i n, (Gf.scan p b).a = p + i ∧ (Gf.scan p b).b = p + i + n ∧ Gf.read (b.drop i) = .ok ((Gf.scan p b).f, n) ∧ i + n ≤ b.length ∧ 6 ≤ n
  | [], p, h => by simp [Gf.scan] at h
  | c :: r, p, h => by
    unfold Gf.scan at h ⊢
    cases hr : Gf.read (c :: r) with
    | ok x =>
      obtain ⟨f, n⟩ := x
      have ht := Gf.text_read hr
      exact ⟨0, n, rfl, rfl, hr, by omega, ht.2.2.1⟩
    | error e =>
      rw [hr] at h
      dsimp only at h ⊢
      by_cases he : e = 2
      · rw [if_pos he] at h; simp at h
      · rw [if_neg he] at h ⊢
        obtain ⟨i, n, h1, h2, h3, h4, h5⟩ := scan_yes r (p + 1) h
        exact ⟨i + 1, n, by rw [h1]; omega, by rw [h2]; omega, h3, by rw [List.length_cons]; omega, h5⟩
theorem scan_no : ∀ (b : List UInt8) (p : Nat), (Gf.scan p b).ok = false → ∃ i, (Gf.scan p b).a = p + i ∧ i ≤ b.length ∧ (b.drop i = [] ∨ Gf.read (b.drop i) = .error 2)
  | [], p, _ => ⟨0, rfl, Nat.le_refl _, .inl rfl⟩
  | c :: r, p, h => by
    unfold Gf.scan at h ⊢
    cases hr : Gf.read (c :: r) with
    | ok x => rw [hr] at h; simp at h
    | error e =>
      rw [hr] at h
      dsimp only at h ⊢
      by_cases he : e = 2
      · rw [if_pos he] at h ⊢
        exact ⟨0, rfl, Nat.zero_le _, .inr (by rw [List.drop_zero, hr, he])⟩
      · rw [if_neg he] at h ⊢
        obtain ⟨i, h1, h2, h3⟩ := scan_no r (p + 1) h
        exact ⟨i + 1, by rw [h1]; omega, by rw [List.length_cons]; omega, h3⟩
/-- What is too short for a packet is short. -/
theorem read_short {b : List UInt8} (h : Gf.read b = .error 2) : b.length < 4102 := by
  unfold Gf.read at h
  match b, h with
  | [], _ => show 0 < 4102; omega
  | a :: r, h =>
    dsimp only at h
    by_cases ha : a ≠ 16
    · rw [if_pos ha] at h; simp at h
    · rw [if_neg ha] at h
      match r, h with
      | k :: l :: g :: c :: x :: t, h =>
        dsimp only at h
        unfold Gf.readHead at h
        split at h
        · simp at h
        · rename_i hk
          split at h
          · split at h <;> simp at h
          · unfold Gf.readBody at h
            split at h
            · rename_i hc hs
              have hok : Gf.okCode (c.toNat / 64) k.toNat = true := by
                cases e : Gf.okCode (c.toNat / 64) k.toNat with
                | true => rfl
                | false => exact absurd (.inr e) hk
              unfold Gf.okCode at hok
              rw [if_neg hc] at hok
              split at hok
              · have := of_decide_eq_true hok
                have := (Gf.size_range this.1 this.2).2
                simp only [List.length_cons]
                omega
              · simp at hok
            · split at h
              · simp at h
              · split at h
                · simp at h
                · split at h <;> simp at h
      | [], _ => show 1 < 4102; omega
      | [_], _ => show 2 < 4102; omega
      | [_, _], _ => show 3 < 4102; omega
      | [_, _, _], _ => show 4 < 4102; omega
      | [_, _, _, _], _ => show 5 < 4102; omega
theorem code_min {z low : Int} (hz : Gf.code z ≠ 0) (h0 : 0 ≤ low) (h7 : low ≤ 7) : Gf.code (min z (32 * 2 ^ low.toNat)) ≠ 0 := by
  have h1 : Gf.code (32 * 2 ^ low.toNat) ≠ 0 := by
    have : low = 0 ∨ low = 1 ∨ low = 2 ∨ low = 3 ∨ low = 4 ∨ low = 5 ∨ low = 6 ∨ low = 7 := by omega
    rcases this with h | h | h | h | h | h | h | h <;> subst h <;> decide
  rcases Int.le_total z (32 * 2 ^ low.toNat) with c | c
  · rw [Int.min_eq_left c]; exact hz
  · rw [Int.min_eq_right c]; exact h1
theorem right_own {d : Dr} (h : right d) : right (own d) := h
theorem wait1 {w : Int} (h0 : 0 ≤ w) (h3 : w ≤ 3) : 0 ≤ or1 w ∧ or1 w ≤ 3 := by unfold or1; split <;> omega
theorem wait2 {w : Int} (h0 : 0 ≤ w) (h3 : w ≤ 3) : 0 ≤ or2 w ∧ or2 w ≤ 3 := by unfold or2; split <;> omega
theorem right_wait {d : Dr} (h : right d) {w : Int} (h0 : 0 ≤ w) (h3 : w ≤ 3) : right { d with wait := w } := by
  obtain ⟨⟨b1, b2, b3, b4, b5, b6, b7, b8, b9, b10, b11, b12, b13, b14, b15⟩, hp⟩ := h
  exact ⟨⟨b1, b2, b3, b4, b5, b6, b7, b8, b9, h0, h3, b12, b13, b14, b15⟩, hp⟩
theorem right_open {d : Dr} (h : base d) : right (open_ d) := by
  obtain ⟨b1, b2, b3, b4, b5, b6, b7, b8, b9, b10, b11, b12, b13, b14, b15⟩ := h
  have e : Wn.begin_ 8 d.room 1 = (⟨8, d.room, 1, []⟩, 0) := if_pos ⟨by omega, by omega, b4, by omega, by omega, by omega⟩
  refine ⟨⟨b1, b2, b3, b4, b5, b6, b7, b8, b9, b10, b11, by show (0 : Int) ≤ 0; omega, by show (0 : Int) ≤ 13; omega, b14, b15⟩, .inr (.inl ⟨rfl, ?_⟩)⟩
  unfold runs open_
  rw [e]
  exact ⟨fun s hs => by simp at hs, by show (-1 : Int) ≤ -1; omega, by show (-1 : Int) ≤ 7; omega, rfl, rfl, by show (0 : Int) ≤ 1; omega, by show (1 : Int) < 8; omega, by show ((0 : Nat) : Int) ≤ d.room; omega⟩
theorem right_begins {d : Dr} (h : right d) {q low : Int} (hq : 0 ≤ q) (hq2 : q ≤ 2) (h0 : 0 ≤ low) (h7 : low ≤ 7) : right (begins d q low).1 := by
  unfold begins
  split
  · exact h
  rename_i hp2
  split
  · exact h
  rename_i hp
  have hp1 : d.phase = 1 := Classical.byContradiction fun e => hp (.inl e)
  have hq3 : ¬ d.step < q := fun e => hp (.inr e)
  have hb := h.1
  have hst : 0 ≤ d.step ∧ d.step ≤ 2 ∧ d.win.l = [] := by
    rcases h.2 with ⟨_, h⟩ | ⟨h, _⟩ | h | h | h
    · exact h
    all_goals omega
  split
  · split
    · exact h
    · exact right_wait h (wait1 hb.2.2.2.2.2.2.2.2.2.1 hb.2.2.2.2.2.2.2.2.2.2.1).1 (wait1 hb.2.2.2.2.2.2.2.2.2.1 hb.2.2.2.2.2.2.2.2.2.2.1).2
  rename_i hqs
  have hqe : q = d.step := by omega
  obtain ⟨b1, b2, b3, b4, b5, b6, b7, b8, b9, b10, b11, b12, b13, b14, b15⟩ := hb
  split
  · refine ⟨⟨b1, code_min b2 h0 h7, fun e => Int.le_trans (Int.min_le_left _ _) (b3 e), b4, b5, b6, b7, b8, b9, b10, b11, by show (0 : Int) ≤ 0; omega, by show (0 : Int) ≤ 13; omega, b14, b15⟩, .inl ⟨hp1, by show 0 ≤ d.step + 1; omega, by show d.step + 1 ≤ 2; omega, hst.2.2⟩⟩
  split
  · exact ⟨⟨b1, b2, b3, b4, b5, b6, b7, b8, b9, b10, b11, b12, b13, b14, b15⟩, .inl ⟨hp1, hst⟩⟩
  · rename_i hl
    have hroom : 1 ≤ min d.room low ∧ min d.room low ≤ 7 := by
      rcases Int.le_total d.room low with c | c
      · rw [Int.min_eq_left c]; omega
      · rw [Int.min_eq_right c]; omega
    have hb2 : base { d with room := min d.room low, step := d.step + 1, tries := 0 } := ⟨b1, b2, b3, hroom.1, hroom.2, b6, b7, b8, b9, b10, b11, by show (0 : Int) ≤ 0; omega, by show (0 : Int) ≤ 13; omega, b14, b15⟩
    dsimp only
    split
    · exact right_open hb2
    · rename_i h3
      exact ⟨hb2, .inl ⟨hp1, by show 0 ≤ d.step + 1; omega, by show d.step + 1 ≤ 2; omega, hst.2.2⟩⟩
theorem runs_rt {d : Dr} (hb : base d) (h : runs d) : Wn.rt d.win = true := by
  obtain ⟨h1, h2, h3, h4, h5, h6, h7, h8⟩ := h
  obtain ⟨b1, b2, b3, b4, b5, b6, b7, b8, b9, b10, b11, b12, b13, b14, b15⟩ := hb
  exact Wn.rt_of (by omega)
theorem right_acked {d : Dr} (hb : base d) (h : runs d) (n : Int) : base (acked d n) ∧ runs (acked d n) := by
  have hrt := runs_rt hb h
  obtain ⟨b1, b2, b3, b4, b5, b6, b7, b8, b9, b10, b11, b12, b13, b14, b15⟩ := hb
  obtain ⟨h1, h2, h3, h4, h5, h6, h7, h8⟩ := h
  refine ⟨⟨b1, b2, b3, b4, b5, b6, b7, b8, b9, b10, b11, ?_, ?_, b14, b15⟩, ?_⟩
  · show 0 ≤ if 0 < (Wn.ack d.win n).2 then 0 else d.tries
    split <;> omega
  · show (if 0 < (Wn.ack d.win n).2 then 0 else d.tries) ≤ 13
    split <;> omega
  · unfold runs acked
    dsimp only
    cases hp : Wn.place d.win n with
    | none =>
      rw [show Wn.ack d.win n = (d.win, 0) by unfold Wn.ack; rw [hp]]
      exact ⟨h1, h2, h3, h4, h5, h6, h7, h8⟩
    | some K =>
      rw [show (Wn.ack d.win n).1 = { d.win with bs := (n + 1) % d.win.md, l := d.win.l.drop (K + 1) } by unfold Wn.ack; rw [hp]]
      have hr := Wn.rt_parts (Wn.ack_rt hp)
      dsimp only at hr
      exact ⟨fun s hs => h1 s (List.mem_of_mem_drop hs), h2, h3, h4, h5, hr.2.2.2.2.1, by have := hr.2.2.2.2.2.1; rw [h4] at this; rw [h4]; exact this, hr.2.2.2.2.2.2⟩
theorem right_closes {d : Dr} (h : right d) : right (closes d).1 := by
  have hb := h.1
  unfold closes
  split
  · exact ⟨hb, .inr (.inr (.inr (.inl rfl)))⟩
  split
  · exact h
  split
  · exact h
  · exact ⟨hb, .inr (.inr (.inr (.inl rfl)))⟩
theorem right_takes2 {d : Dr} (h : right d) (f : Gf.Fr) : right (takes2 d f).1 := by
  unfold takes2
  have hO : right (if d.phase = 1 ∧ d.step = 2 then open_ d else d) := by
    split
    · exact right_open h.1
    · exact h
  generalize (if d.phase = 1 ∧ d.step = 2 then open_ d else d) = e at *
  dsimp only
  split
  · exact hO
  split
  · exact hO
  rename_i h3 h2
  have hp2 : e.phase = 2 := Classical.byContradiction fun x => h2 x
  have hr : runs e := by
    rcases hO.2 with ⟨h, _⟩ | ⟨_, h⟩ | h | h | h
    · omega
    · exact h
    all_goals omega
  obtain ⟨ab, ar⟩ := right_acked hO.1 hr f.lo
  have hA : right (acked e f.lo) := ⟨ab, .inr (.inl ⟨hp2, ar⟩)⟩
  split
  · split
    · exact hA
    · exact right_wait hA (wait1 ab.2.2.2.2.2.2.2.2.2.1 ab.2.2.2.2.2.2.2.2.2.2.1).1 (wait1 ab.2.2.2.2.2.2.2.2.2.1 ab.2.2.2.2.2.2.2.2.2.2.1).2
  · split
    · obtain ⟨b1, b2, b3, b4, b5, b6, b7, b8, b9, b10, b11, b12, b13, b14, b15⟩ := ab
      exact ⟨⟨b1, b2, b3, b4, b5, Int.emod_nonneg _ (by decide), by show ((acked e f.lo).wants + 1) % 8 ≤ 7; have := Int.emod_lt_of_pos ((acked e f.lo).wants + 1) (b := 8) (by decide); omega, b8, b9, b10, b11, b12, b13, b14, b15⟩, .inr (.inl ⟨hp2, ar⟩)⟩
    · split
      · exact hA
      · exact hA
theorem right_takes {d : Dr} (h : right d) {f : Gf.Fr} (hf : Gf.ok f) : right (takes d f).1 := by
  have hb := h.1
  have hw := wait2 hb.2.2.2.2.2.2.2.2.2.1 hb.2.2.2.2.2.2.2.2.2.2.1
  have h2 := right_wait h hw.1 hw.2
  obtain ⟨⟨f1, f2, f3, f4⟩, _⟩ := hf
  unfold takes
  dsimp only
  split
  · exact right_begins h2 (by omega) (by omega) f3 f4
  split
  · exact right_closes h2
  · exact right_takes2 h2 f
theorem size_pos {z : Int} (h : Gf.code z ≠ 0) : 32 ≤ z ∧ z ≤ 4096 := (Gf.code_size h).2
theorem ex_size (s : ByteArray) (k : Nat) (h : k ≤ s.size) : (s.extract 0 k).size = k := by simp; omega
theorem right_fill1 {d : Dr} (hb : base d) (hr : runs d) {p : Pc} {q : List Pc} (hq : d.queue = p :: q) (hl : (d.win.l.length : Int) < d.win.sz) : base (fill1 d p).1 ∧ runs (fill1 d p).1 := by
  have hrt := runs_rt hb hr
  obtain ⟨b1, b2, b3, b4, b5, b6, b7, b8, b9, b10, b11, b12, b13, b14, b15⟩ := hb
  obtain ⟨h1, h2, h3, h4, h5, h6, h7, h8⟩ := hr
  have hz := size_pos b2
  have hp : p.data.size ≠ 0 := b15 p (by rw [hq]; simp)
  have hk : min p.data.size d.size.toNat ≤ p.data.size ∧ 0 < min p.data.size d.size.toNat ∧ ((min p.data.size d.size.toNat : Nat) : Int) ≤ d.size := by omega
  unfold fill1
  dsimp only
  rw [Wn.put_ok hrt (by omega)]
  dsimp only
  refine ⟨⟨b1, b2, b3, b4, b5, b6, b7, b8, b9, b10, b11, b12, b13, b14, ?_⟩, ?_, h2, h3, h4, h5, h6, h7, ?_⟩
  · intro x hx
    dsimp only at hx
    rw [hq] at hx
    unfold cutQ at hx
    dsimp only at hx
    split at hx
    · exact b15 x (by rw [hq]; simp [hx])
    · rename_i hne
      rcases List.mem_cons.1 hx with rfl | hx
      · show (p.data.extract (min p.data.size d.size.toNat) p.data.size).size ≠ 0
        simp
        omega
      · exact b15 x (by rw [hq]; simp [hx])
  · intro s hs
    rcases List.mem_append.1 hs with hs | hs
    · exact h1 s hs
    · obtain rfl := List.mem_singleton.1 hs
      rw [ex_size _ _ hk.1]
      exact ⟨by omega, hk.2.2⟩
  · show ((d.win.l ++ [_]).length : Int) ≤ d.win.sz
    rw [List.length_append, List.length_singleton]
    omega
theorem right_fillN : ∀ (f : Nat) (d : Dr) (out : List UInt8), right d → right (fillN f d out).1 ∧ (fillN f d out).1.at_ = d.at_ ∧ (fillN f d out).1.buf = d.buf ∧ (fillN f d out).1.phase = d.phase
  | 0, _, _, h => ⟨h, rfl, rfl, rfl⟩
  | f + 1, d, out, h => by
    unfold fillN
    cases hq : d.queue with
    | nil => exact ⟨h, rfl, rfl, rfl⟩
    | cons p q =>
      dsimp only
      split
      · rename_i hc
        have hr : runs d := by
          rcases h.2 with ⟨h, _⟩ | ⟨_, h⟩ | h | h | h
          · omega
          · exact h
          all_goals omega
        obtain ⟨fb, fr⟩ := right_fill1 h.1 hr hq hc.2
        have hx : right (fill1 d p).1 := ⟨fb, .inr (.inl ⟨hc.1, fr⟩)⟩
        obtain ⟨r1, r2, r3, r4⟩ := right_fillN f (fill1 d p).1 (out ++ (fill1 d p).2) hx
        exact ⟨r1, r2, r3, r4⟩
      · exact ⟨h, rfl, rfl, rfl⟩
theorem right_fill {d : Dr} (h : right d) : right (fill d).1 ∧ (fill d).1.at_ = d.at_ ∧ (fill d).1.buf = d.buf ∧ (fill d).1.phase = d.phase := right_fillN 8 d [] h
theorem takes_keeps (d : Dr) (f : Gf.Fr) : (takes d f).1.at_ = d.at_ ∧ (takes d f).1.buf = d.buf := by
  have hb : ∀ (e : Dr) q low, (begins e q low).1.at_ = e.at_ ∧ (begins e q low).1.buf = e.buf := by
    intro e q low
    unfold begins
    dsimp only
    repeat' split
    all_goals exact ⟨rfl, rfl⟩
  have hc : ∀ e : Dr, (closes e).1.at_ = e.at_ ∧ (closes e).1.buf = e.buf := by
    intro e
    unfold closes
    repeat' split
    all_goals exact ⟨rfl, rfl⟩
  have ht : ∀ e : Dr, (takes2 e f).1.at_ = e.at_ ∧ (takes2 e f).1.buf = e.buf := by
    intro e
    have ho : (if e.phase = 1 ∧ e.step = 2 then open_ e else e).at_ = e.at_ ∧ (if e.phase = 1 ∧ e.step = 2 then open_ e else e).buf = e.buf := by
      split <;> exact ⟨rfl, rfl⟩
    unfold takes2
    generalize (if e.phase = 1 ∧ e.step = 2 then open_ e else e) = g at *
    dsimp only
    repeat' split
    all_goals exact ho
  unfold takes
  dsimp only
  split
  · exact hb _ _ _
  split
  · exact hc _
  · exact ht _
/-- Whatever is found, the drive stays right, as long as the bytes' number is one. -/
theorem right_feedN : ∀ (f : Nat) (d : Dr) (out came : List UInt8), d.buf.length < f → right d → d.at_ + d.buf.length ≤ 1099511627776 →
    right (feedN f d out came).1 ∧ (feedN f d out came).1.buf.length < 4102 ∧ (feedN f d out came).1.at_ + (feedN f d out came).1.buf.length = d.at_ + d.buf.length
  | 0, _, _, _, h, _, _ => by omega
  | f + 1, d, out, came, hf, h, ha => by
    unfold feedN
    dsimp only
    cases hs : (Gf.scan 0 d.buf).ok with
    | true =>
      obtain ⟨i, n, h1, h2, h3, h4, h5⟩ := scan_yes d.buf 0 hs
      rw [if_pos rfl]
      have hok := (Gf.text_read h3).1
      have hbl : (d.buf.drop (Gf.scan 0 d.buf).b).length = d.buf.length - (i + n) := by rw [List.length_drop, h2]; omega
      have hat : d.at_ + ((Gf.scan 0 d.buf).b : Int) = d.at_ + ((i + n : Nat) : Int) := by rw [h2]; omega
      obtain ⟨b1, b2, b3, b4, b5, b6, b7, b8, b9, b10, b11, b12, b13, b14, b15⟩ := h.1
      have hR : right { d with took := d.took ++ [(d.at_ + ((Gf.scan 0 d.buf).a : Int), d.at_ + ((Gf.scan 0 d.buf).b : Int))], buf := d.buf.drop (Gf.scan 0 d.buf).b, at_ := d.at_ + ((Gf.scan 0 d.buf).b : Int) } :=
        ⟨⟨b1, b2, b3, b4, b5, b6, b7, by show 0 ≤ d.at_ + _; omega, by show d.at_ + _ ≤ _; rw [hat]; omega, b10, b11, b12, b13, b14, b15⟩, h.2⟩
      have hT := right_takes hR hok
      have hK := takes_keeps { d with took := d.took ++ [(d.at_ + ((Gf.scan 0 d.buf).a : Int), d.at_ + ((Gf.scan 0 d.buf).b : Int))], buf := d.buf.drop (Gf.scan 0 d.buf).b, at_ := d.at_ + ((Gf.scan 0 d.buf).b : Int) } (Gf.scan 0 d.buf).f
      dsimp only at hK
      obtain ⟨r1, r2, r3⟩ := right_feedN f _ (out ++ (takes { d with took := d.took ++ [(d.at_ + ((Gf.scan 0 d.buf).a : Int), d.at_ + ((Gf.scan 0 d.buf).b : Int))], buf := d.buf.drop (Gf.scan 0 d.buf).b, at_ := d.at_ + ((Gf.scan 0 d.buf).b : Int) } (Gf.scan 0 d.buf).f).2.1) (came ++ (takes { d with took := d.took ++ [(d.at_ + ((Gf.scan 0 d.buf).a : Int), d.at_ + ((Gf.scan 0 d.buf).b : Int))], buf := d.buf.drop (Gf.scan 0 d.buf).b, at_ := d.at_ + ((Gf.scan 0 d.buf).b : Int) } (Gf.scan 0 d.buf).f).2.2) (by rw [hK.2, hbl]; omega) hT (by rw [hK.1, hK.2, hbl, hat]; omega)
      refine ⟨r1, r2, ?_⟩
      rw [r3, hK.1, hK.2, hbl, hat]
      omega
    | false =>
      obtain ⟨i, h1, h2, h3⟩ := scan_no d.buf 0 hs
      rw [if_neg (by simp)]
      have hbl : (d.buf.drop (Gf.scan 0 d.buf).a).length = d.buf.length - i := by rw [List.length_drop, h1]; omega
      have hat : d.at_ + ((Gf.scan 0 d.buf).a : Int) = d.at_ + (i : Int) := by rw [h1]; omega
      obtain ⟨b1, b2, b3, b4, b5, b6, b7, b8, b9, b10, b11, b12, b13, b14, b15⟩ := h.1
      refine ⟨⟨⟨b1, b2, b3, b4, b5, b6, b7, by show 0 ≤ d.at_ + _; omega, by show d.at_ + _ ≤ _; rw [hat]; omega, b10, b11, b12, b13, b14, b15⟩, h.2⟩, ?_, ?_⟩
      · show (d.buf.drop (Gf.scan 0 d.buf).a).length < 4102
        rw [h1, Nat.zero_add]
        rcases h3 with h3 | h3
        · rw [h3]; show 0 < 4102; omega
        · exact read_short h3
      · show d.at_ + _ + ((d.buf.drop (Gf.scan 0 d.buf).a).length : Int) = _
        rw [hbl, hat]
        omega
theorem right_feed {d : Dr} (h : right d) (s : List UInt8) (ha : d.at_ + d.buf.length + s.length ≤ 1099511627776) : right (feed d s).1 ∧ (feed d s).1.buf.length < 4102 ∧ (feed d s).1.at_ + (feed d s).1.buf.length = d.at_ + d.buf.length + s.length := by
  have hl : (d.buf ++ s).length = d.buf.length + s.length := List.length_append
  have h0 : right { own d with buf := d.buf ++ s } := h
  obtain ⟨r1, r2, r3⟩ := right_feedN (d.buf.length + s.length + 1) { own d with buf := d.buf ++ s } [] [] (by show (d.buf ++ s).length < _; omega) h0 (by show d.at_ + ((d.buf ++ s).length : Int) ≤ _; omega)
  obtain ⟨f1, f2, f3, _⟩ := right_fill r1
  unfold feed
  dsimp only
  refine ⟨f1, by rw [f3]; exact r2, ?_⟩
  rw [f2, f3, r3]
  show d.at_ + ((d.buf ++ s).length : Int) = _
  omega
theorem right_close {d : Dr} (h : right d) : right (close d).1 := by
  obtain ⟨b1, b2, b3, b4, b5, b6, b7, b8, b9, b10, b11, b12, b13, b14, b15⟩ := h.1
  unfold close
  split
  · exact h
  · exact ⟨⟨b1, b2, b3, b4, b5, b6, b7, b8, b9, b10, b11, by show (0 : Int) ≤ 0; omega, by show (0 : Int) ≤ 13; omega, b14, b15⟩, .inr (.inr (.inl rfl))⟩
end Gp
end Go.Proofs.YtomldoijcclhhaaGreat

namespace Go.Proofs.YtomldoijcclhhaaGreat
namespace Gp
/-- An end that has not given up has not tried too often. -/
def live (d : Dr) : Prop := d.phase ≤ 3 → d.tries ≤ 12
theorem live_open (d : Dr) : live (open_ d) := fun _ => by show (0 : Int) ≤ 12; omega
theorem live_begins {d : Dr} (h : live d) (q low : Int) : live (begins d q low).1 := by
  unfold begins
  dsimp only
  repeat' split
  all_goals first
    | exact h
    | exact live_open _
    | exact (fun _ => by show (0 : Int) ≤ 12; omega)
theorem live_closes {d : Dr} (h : live d) : live (closes d).1 := by
  unfold closes
  repeat' split
  all_goals first
    | exact h
    | exact (fun e => absurd e (by show ¬ (4 : Int) ≤ 3; omega))
theorem live_acked {d : Dr} (h : live d) (n : Int) : live (acked d n) := by
  intro e
  show (if 0 < (Wn.ack d.win n).2 then 0 else d.tries) ≤ 12
  split
  · omega
  · exact h e
theorem live_takes2 {d : Dr} (h : live d) (f : Gf.Fr) : live (takes2 d f).1 := by
  have ho : live (if d.phase = 1 ∧ d.step = 2 then open_ d else d) := by
    split
    · exact live_open d
    · exact h
  unfold takes2
  generalize (if d.phase = 1 ∧ d.step = 2 then open_ d else d) = g at *
  have ha := live_acked ho f.lo
  dsimp only
  repeat' split
  all_goals first
    | exact ho
    | exact ha
theorem live_takes {d : Dr} (h : live d) (f : Gf.Fr) : live (takes d f).1 := by
  have h2 : live { d with wait := or2 d.wait } := h
  unfold takes
  dsimp only
  split
  · exact live_begins h2 _ _
  split
  · exact live_closes h2
  · exact live_takes2 h2 f
theorem live_fillN : ∀ (f : Nat) (d : Dr) (out : List UInt8), live d → live (fillN f d out).1
  | 0, _, _, h => h
  | f + 1, d, out, h => by
    unfold fillN
    cases d.queue with
    | nil => exact h
    | cons p q =>
      dsimp only
      split
      · exact live_fillN f (fill1 d p).1 _ h
      · exact h
theorem live_fill {d : Dr} (h : live d) : live (fill d).1 := live_fillN 8 d [] h
theorem live_feedN : ∀ (f : Nat) (d : Dr) (out came : List UInt8), live d → live (feedN f d out came).1
  | 0, _, _, _, h => h
  | f + 1, d, out, came, h => by
    unfold feedN
    dsimp only
    split
    · exact live_feedN f _ _ _ (live_takes (d := { d with took := d.took ++ [(d.at_ + ((Gf.scan 0 d.buf).a : Int), d.at_ + ((Gf.scan 0 d.buf).b : Int))], buf := d.buf.drop (Gf.scan 0 d.buf).b, at_ := d.at_ + ((Gf.scan 0 d.buf).b : Int) }) h _)
    · exact h
theorem live_feed {d : Dr} (h : live d) (s : List UInt8) : live (feed d s).1 := by
  unfold feed
  dsimp only
  exact live_fill (live_feedN _ _ _ _ h)
theorem live_close {d : Dr} (h : live d) : live (close d).1 := by
  unfold close
  split
  · exact h
  · exact fun _ => by show (0 : Int) ≤ 12; omega
theorem tick_ok {d : Dr} (h : right d) (hl : live d) (ha : d.at_ + d.buf.length ≤ 1099511627776) : right (tick d).1 ∧ live (tick d).1 ∧ (tick d).1.buf.length ≤ d.buf.length ∧ (tick d).1.at_ + (tick d).1.buf.length = d.at_ + d.buf.length := by
  obtain ⟨b1, b2, b3, b4, b5, b6, b7, b8, b9, b10, b11, b12, b13, b14, b15⟩ := h.1
  have key : ∃ e : Dr, (if 2 ≤ (own d).wait then { own d with wait := 0 } else { own d with at_ := (own d).at_ + (own d).buf.length, buf := [], wait := 0 }) = e ∧ right e ∧ live e ∧ e.buf.length ≤ d.buf.length ∧ e.at_ + e.buf.length = d.at_ + d.buf.length := by
    by_cases hw : 2 ≤ d.wait
    · refine ⟨{ own d with wait := 0 }, if_pos hw, ⟨⟨b1, b2, b3, b4, b5, b6, b7, b8, b9, by show (0 : Int) ≤ 0; omega, by show (0 : Int) ≤ 3; omega, b12, b13, b14, b15⟩, h.2⟩, hl, Nat.le_refl _, rfl⟩
    · refine ⟨{ own d with at_ := d.at_ + d.buf.length, buf := [], wait := 0 }, if_neg hw, ⟨⟨b1, b2, b3, b4, b5, b6, b7, by show 0 ≤ d.at_ + _; omega, ha, by show (0 : Int) ≤ 0; omega, by show (0 : Int) ≤ 3; omega, b12, b13, b14, b15⟩, h.2⟩, hl, Nat.zero_le _, ?_⟩
      show d.at_ + (d.buf.length : Int) + ((0 : Nat) : Int) = _
      omega
  obtain ⟨e, he, hr, hle, e5, e6⟩ := key
  unfold tick
  dsimp only
  rw [he]
  obtain ⟨c1, c2, c3, c4, c5, c6, c7, c8, c9, c10, c11, c12, c13, c14, c15⟩ := hr.1
  have hb1 : e.phase ≤ 3 → base { e with tries := e.tries + 1 } := fun hp => ⟨c1, c2, c3, c4, c5, c6, c7, c8, c9, c10, c11, by show 0 ≤ e.tries + 1; omega, by show e.tries + 1 ≤ 13; have := hle hp; omega, c14, c15⟩
  split
  · rename_i hp
    have hb2 := hb1 (by omega)
    split
    · split
      · exact ⟨⟨hb2, .inr (.inr (.inr (.inl rfl)))⟩, fun x => absurd x (by show ¬ (4 : Int) ≤ 3; omega), e5, e6⟩
      · exact ⟨⟨hb2, .inr (.inr (.inr (.inr rfl)))⟩, fun x => absurd x (by show ¬ (5 : Int) ≤ 3; omega), e5, e6⟩
    · rename_i ht
      split
      · exact ⟨⟨hb2, hr.2⟩, fun _ => by show e.tries + 1 ≤ 12; omega, e5, e6⟩
      · exact ⟨⟨hb2, hr.2⟩, fun _ => by show e.tries + 1 ≤ 12; omega, e5, e6⟩
  split
  · rename_i hp1 hp
    have hrun : runs e := by
      rcases hr.2 with ⟨h, _⟩ | ⟨_, h⟩ | h | h | h
      · omega
      · exact h
      all_goals omega
    obtain ⟨r1, r2, r3, r4, r5, r6, r7, r8⟩ := hrun
    split
    · exact ⟨⟨hr.1, .inr (.inl ⟨hp, r1, by show (-1 : Int) ≤ -1; omega, by show (-1 : Int) ≤ 7; omega, r4, r5, r6, r7, r8⟩)⟩, hle, e5, e6⟩
    split
    · exact ⟨⟨hr.1, .inr (.inl ⟨hp, r1, by show -1 ≤ e.win.bs; omega, by show e.win.bs ≤ 7; omega, r4, r5, r6, r7, r8⟩)⟩, hle, e5, e6⟩
    · have hb2 := hb1 (by omega)
      split
      · exact ⟨⟨hb2, .inr (.inr (.inr (.inr rfl)))⟩, fun x => absurd x (by show ¬ (5 : Int) ≤ 3; omega), e5, e6⟩
      · rename_i ht
        exact ⟨⟨hb2, .inr (.inl ⟨hp, r1, r2, r3, r4, r5, r6, r7, r8⟩)⟩, fun _ => by show e.tries + 1 ≤ 12; omega, e5, e6⟩
  · exact ⟨hr, hle, e5, e6⟩
theorem begin_ok {letter : Int} {size room : Int} (caller : Bool) (h1 : letter = 103 ∨ letter = 71) (h2 : Gf.code size ≠ 0) (h3 : letter = 103 → size ≤ 64) (h4 : 1 ≤ room) (h5 : room ≤ 7) : right (begin_ letter caller size room) ∧ live (begin_ letter caller size room) := by
  refine ⟨⟨⟨h1, h2, h3, h4, h5, by show (0 : Int) ≤ 1; omega, by show (1 : Int) ≤ 7; omega, by show (0 : Int) ≤ 0; omega, by show (0 : Int) ≤ 1099511627776; omega, by show (0 : Int) ≤ 0; omega, by show (0 : Int) ≤ 3; omega, by show (0 : Int) ≤ 0; omega, by show (0 : Int) ≤ 13; omega, rfl, fun p hp => by simp [begin_] at hp⟩, .inl ⟨rfl, by show (0 : Int) ≤ 0; omega, by show (0 : Int) ≤ 2; omega, rfl⟩⟩, fun _ => by show (0 : Int) ≤ 12; omega⟩
/-- What the statement on right drives asks, call by call: N bytes have come so far. -/
structure Ok (N : Nat) (d : Dr) : Prop where
  rt : right d
  lv : live d
  tot : d.at_ + d.buf.length ≤ N
  buf : d.buf.length < 4102
theorem Ok.mono {N M : Nat} {d : Dr} (h : Ok N d) (hm : N ≤ M) : Ok M d := ⟨h.rt, h.lv, by have := h.tot; omega, h.buf⟩
theorem Ok.feed {N : Nat} {d : Dr} (h : Ok N d) (s : List UInt8) (hN : N + s.length ≤ 1099511627776) : Ok (N + s.length) (feed d s).1 := by
  have ht := h.tot
  obtain ⟨r1, r2, r3⟩ := right_feed h.rt s (by omega)
  exact ⟨r1, live_feed h.lv s, by rw [r3]; omega, r2⟩
theorem Ok.tick {N : Nat} {d : Dr} (h : Ok N d) (hN : N ≤ 1099511627776) : Ok N (tick d).1 := by
  have ht := h.tot
  obtain ⟨r1, r2, r3, r4⟩ := tick_ok h.rt h.lv (by omega)
  exact ⟨r1, r2, by rw [r4]; exact ht, Nat.lt_of_le_of_lt r3 h.buf⟩
theorem Ok.close {N : Nat} {d : Dr} (h : Ok N d) : Ok N (close d).1 := by
  refine ⟨right_close h.rt, live_close h.lv, ?_, ?_⟩
  · unfold Gp.close; split <;> exact h.tot
  · unfold Gp.close; split <;> exact h.buf
theorem Ok.begin_ {letter : Int} {size room : Int} (caller : Bool) (h1 : letter = 103 ∨ letter = 71) (h2 : Gf.code size ≠ 0) (h3 : letter = 103 → size ≤ 64) (h4 : 1 ≤ room) (h5 : room ≤ 7) : Ok 0 (begin_ letter caller size room) :=
  ⟨(begin_ok caller h1 h2 h3 h4 h5).1, (begin_ok caller h1 h2 h3 h4 h5).2, by show (0 : Int) + ((0 : Nat) : Int) ≤ ((0 : Nat) : Int); omega, by show 0 < 4102; omega⟩
end Gp
end Go.Proofs.YtomldoijcclhhaaGreat
