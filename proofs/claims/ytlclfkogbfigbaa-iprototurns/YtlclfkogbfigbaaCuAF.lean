/-
  Mathematics of layer 15: a drive that is right stays right, whatever comes; what it keeps of the bytes is less than a packet. Mathematics of layer 16: a drive that is right stays right, whatever comes; what it keeps of the bytes is less than a packet.
-/
import Derived.Test.YtlclfkogbfigbaaCuAC
import Derived.Test.YtlclfkogbfigbaaCuAE
namespace Go.Proofs.Ytlclfkogbfigbaa
namespace Gp
/-- What Scan finds. -/
theorem scan_yes : ∀ (b : List UInt8) (p : Nat), (Gf.scan p b).ok = true → ∃ i n, (Gf.scan p b).a = p + i ∧ (Gf.scan p b).b = p + i + n ∧ Gf.read (b.drop i) = .ok ((Gf.scan p b).f, n) ∧ i + n ≤ b.length ∧ 6 ≤ n
  | [], p, h => by simp [Gf.scan] at h
  | c :: r, p, h => by
    unfold Gf.scan at h ⊢
    cases hr : Gf.read (c :: r) with
    | ok x =>
      obtain ⟨f, n⟩ := x
      have ht := Gf.text_read hr
      exact ⟨0, n, rfl, rfl, hr, by omega, ht.2.2.1⟩
    | error e =>
      rw [hr] at h
      dsimp only at h ⊢
      by_cases he : e = 2
      · rw [if_pos he] at h; simp at h
      · rw [if_neg he] at h ⊢
        obtain ⟨i, n, h1, h2, h3, h4, h5⟩ := scan_yes r (p + 1) h
        exact ⟨i + 1, n, by rw [h1]; omega, by rw [h2]; omega, h3, by rw [List.length_cons]; omega, h5⟩
theorem scan_no : ∀ (b : List UInt8) (p : Nat), (Gf.scan p b).ok = false → ∃ i, (Gf.scan p b).a = p + i ∧ i ≤ b.length ∧ (b.drop i = [] ∨ Gf.read (b.drop i) = .error 2)
  | [], p, _ => ⟨0, rfl, Nat.le_refl _, .inl rfl⟩
  | c :: r, p, h => by
    unfold Gf.scan at h ⊢
    cases hr : Gf.read (c :: r) with
    | ok x => rw [hr] at h; simp at h
    | error e =>
      rw [hr] at h
      dsimp only at h ⊢
      by_cases he : e = 2
      · rw [if_pos he] at h ⊢
        exact ⟨0, rfl, Nat.zero_le _, .inr (by rw [List.drop_zero, hr, he])⟩
      · rw [if_neg he] at h ⊢
        obtain ⟨i, h1, h2, h3⟩ := scan_no r (p + 1) h
        exact ⟨i + 1, by rw [h1]; omega, by rw [List.length_cons]; omega, h3⟩
/-- What is too short for a packet is short. -/
theorem read_short {b : List UInt8} (h : Gf.read b = .error 2) : b.length < 4102 := by
  unfold Gf.read at h
  match b, h with
  | [], _ => show 0 < 4102; omega
  | a :: r, h =>
    dsimp only at h
    by_cases ha : a ≠ 16
    · rw [if_pos ha] at h; simp at h
    · rw [if_neg ha] at h
      match r, h with
      | k :: l :: g :: c :: x :: t, h =>
        dsimp only at h
        unfold Gf.readHead at h
        split at h
        · simp at h
        · rename_i hk
          split at h
          · split at h <;> simp at h
          · unfold Gf.readBody at h
            split at h
            · rename_i hc hs
              have hok : Gf.okCode (c.toNat / 64) k.toNat = true := by
                cases e : Gf.okCode (c.toNat / 64) k.toNat with
                | true => rfl
                | false => exact absurd (.inr e) hk
              unfold Gf.okCode at hok
              rw [if_neg hc] at hok
              split at hok
              · have := of_decide_eq_true hok
                have := (Gf.size_range this.1 this.2).2
                simp only [List.length_cons]
                omega
              · simp at hok
            · split at h
              · simp at h
              · split at h
                · simp at h
                · split at h <;> simp at h
      | [], _ => show 1 < 4102; omega
      | [_], _ => show 2 < 4102; omega
      | [_, _], _ => show 3 < 4102; omega
      | [_, _, _], _ => show 4 < 4102; omega
      | [_, _, _, _], _ => show 5 < 4102; omega
theorem code_min {z low : Int} (hz : Gf.code z ≠ 0) (h0 : 0 ≤ low) (h7 : low ≤ 7) : Gf.code (min z (32 * 2 ^ low.toNat)) ≠ 0 := by
  have h1 : Gf.code (32 * 2 ^ low.toNat) ≠ 0 := by
    have : low = 0 ∨ low = 1 ∨ low = 2 ∨ low = 3 ∨ low = 4 ∨ low = 5 ∨ low = 6 ∨ low = 7 := by omega
    rcases this with h | h | h | h | h | h | h | h <;> subst h <;> decide
  rcases Int.le_total z (32 * 2 ^ low.toNat) with c | c
  · rw [Int.min_eq_left c]; exact hz
  · rw [Int.min_eq_right c]; exact h1
theorem right_own {d : Dr} (h : right d) : right (own d) := h
theorem wait1 {w : Int} (h0 : 0 ≤ w) (h3 : w ≤ 3) : 0 ≤ or1 w ∧ or1 w ≤ 3 := by unfold or1; split <;> omega
theorem wait2 {w : Int} (h0 : 0 ≤ w) (h3 : w ≤ 3) : 0 ≤ or2 w ∧ or2 w ≤ 3 := by unfold or2; split <;> omega
theorem right_wait {d : Dr} (h : right d) {w : Int} (h0 : 0 ≤ w) (h3 : w ≤ 3) : right { d with wait := w } := by
  obtain ⟨⟨b1, b2, b3, b4, b5, b6, b7, b8, b9, b10, b11, b12, b13, b14, b15⟩, hp⟩ := h
  exact ⟨⟨b1, b2, b3, b4, b5, b6, b7, b8, b9, h0, h3, b12, b13, b14, b15⟩, hp⟩
theorem right_open {d : Dr} (h : base d) : right (open_ d) := by
  obtain ⟨b1, b2, b3, b4, b5, b6, b7, b8, b9, b10, b11, b12, b13, b14, b15⟩ := h
  have e : Wn.begin_ 8 d.room 1 = (⟨8, d.room, 1, []⟩, 0) := if_pos ⟨by omega, by omega, b4, by omega, by omega, by omega⟩
  refine ⟨⟨b1, b2, b3, b4, b5, b6, b7, b8, b9, b10, b11, by show (0 : Int) ≤ 0; omega, by show (0 : Int) ≤ 13; omega, b14, b15⟩, .inr (.inl ⟨rfl, ?_⟩)⟩
  unfold runs open_
  rw [e]
  exact ⟨fun s hs => by simp at hs, by show (-1 : Int) ≤ -1; omega, by show (-1 : Int) ≤ 7; omega, rfl, rfl, by show (0 : Int) ≤ 1; omega, by show (1 : Int) < 8; omega, by show ((0 : Nat) : Int) ≤ d.room; omega⟩
theorem right_begins {d : Dr} (h : right d) {q low : Int} (hq : 0 ≤ q) (hq2 : q ≤ 2) (h0 : 0 ≤ low) (h7 : low ≤ 7) : right (begins d q low).1 := by
  unfold begins
  split
  · exact h
  rename_i hp2
  split
  · exact h
  rename_i hp
  have hp1 : d.phase = 1 := Classical.byContradiction fun e => hp (.inl e)
  have hq3 : ¬ d.step < q := fun e => hp (.inr e)
  have hb := h.1
  have hst : 0 ≤ d.step ∧ d.step ≤ 2 ∧ d.win.l = [] := by
    rcases h.2 with ⟨_, h⟩ | ⟨h, _⟩ | h | h | h
    · exact h
    all_goals omega
  split
  · split
    · exact h
    · exact right_wait h (wait1 hb.2.2.2.2.2.2.2.2.2.1 hb.2.2.2.2.2.2.2.2.2.2.1).1 (wait1 hb.2.2.2.2.2.2.2.2.2.1 hb.2.2.2.2.2.2.2.2.2.2.1).2
  rename_i hqs
  have hqe : q = d.step := by omega
  obtain ⟨b1, b2, b3, b4, b5, b6, b7, b8, b9, b10, b11, b12, b13, b14, b15⟩ := hb
  split
  · refine ⟨⟨b1, code_min b2 h0 h7, fun e => Int.le_trans (Int.min_le_left _ _) (b3 e), b4, b5, b6, b7, b8, b9, b10, b11, by show (0 : Int) ≤ 0; omega, by show (0 : Int) ≤ 13; omega, b14, b15⟩, .inl ⟨hp1, by show 0 ≤ d.step + 1; omega, by show d.step + 1 ≤ 2; omega, hst.2.2⟩⟩
  split
  · exact ⟨⟨b1, b2, b3, b4, b5, b6, b7, b8, b9, b10, b11, b12, b13, b14, b15⟩, .inl ⟨hp1, hst⟩⟩
  · rename_i hl
    have hroom : 1 ≤ min d.room low ∧ min d.room low ≤ 7 := by
      rcases Int.le_total d.room low with c | c
      · rw [Int.min_eq_left c]; omega
      · rw [Int.min_eq_right c]; omega
    have hb2 : base { d with room := min d.room low, step := d.step + 1, tries := 0 } := ⟨b1, b2, b3, hroom.1, hroom.2, b6, b7, b8, b9, b10, b11, by show (0 : Int) ≤ 0; omega, by show (0 : Int) ≤ 13; omega, b14, b15⟩
    dsimp only
    split
    · exact right_open hb2
    · rename_i h3
      exact ⟨hb2, .inl ⟨hp1, by show 0 ≤ d.step + 1; omega, by show d.step + 1 ≤ 2; omega, hst.2.2⟩⟩
theorem runs_rt {d : Dr} (hb : base d) (h : runs d) : Wn.rt d.win = true := by
  obtain ⟨h1, h2, h3, h4, h5, h6, h7, h8⟩ := h
  obtain ⟨b1, b2, b3, b4, b5, b6, b7, b8, b9, b10, b11, b12, b13, b14, b15⟩ := hb
  exact Wn.rt_of (by omega)
theorem right_acked {d : Dr} (hb : base d) (h : runs d) (n : Int) : base (acked d n) ∧ runs (acked d n) := by
  have hrt := runs_rt hb h
  obtain ⟨b1, b2, b3, b4, b5, b6, b7, b8, b9, b10, b11, b12, b13, b14, b15⟩ := hb
  obtain ⟨h1, h2, h3, h4, h5, h6, h7, h8⟩ := h
  refine ⟨⟨b1, b2, b3, b4, b5, b6, b7, b8, b9, b10, b11, ?_, ?_, b14, b15⟩, ?_⟩
  · show 0 ≤ if 0 < (Wn.ack d.win n).2 then 0 else d.tries
    split <;> omega
  · show (if 0 < (Wn.ack d.win n).2 then 0 else d.tries) ≤ 13
    split <;> omega
  · unfold runs acked
    dsimp only
    cases hp : Wn.place d.win n with
    | none =>
      rw [show Wn.ack d.win n = (d.win, 0) by unfold Wn.ack; rw [hp]]
      exact ⟨h1, h2, h3, h4, h5, h6, h7, h8⟩
    | some K =>
      rw [show (Wn.ack d.win n).1 = { d.win with bs := (n + 1) % d.win.md, l := d.win.l.drop (K + 1) } by unfold Wn.ack; rw [hp]]
      have hr := Wn.rt_parts (Wn.ack_rt hp)
      dsimp only at hr
      exact ⟨fun s hs => h1 s (List.mem_of_mem_drop hs), h2, h3, h4, h5, hr.2.2.2.2.1, by have := hr.2.2.2.2.2.1; rw [h4] at this; rw [h4]; exact this, hr.2.2.2.2.2.2⟩
theorem right_closes {d : Dr} (h : right d) : right (closes d).1 := by
  have hb := h.1
  unfold closes
  split
  · exact ⟨hb, .inr (.inr (.inr (.inl rfl)))⟩
  split
  · exact h
  split
  · exact h
  · exact ⟨hb, .inr (.inr (.inr (.inl rfl)))⟩
theorem right_takes2 {d : Dr} (h : right d) (f : Gf.Fr) : right (takes2 d f).1 := by
  unfold takes2
  have hO : right (if d.phase = 1 ∧ d.step = 2 then open_ d else d) := by
    split
    · exact right_open h.1
    · exact h
  generalize (if d.phase = 1 ∧ d.step = 2 then open_ d else d) = e at *
  dsimp only
  split
  · exact hO
  split
  · exact hO
  rename_i h3 h2
  have hp2 : e.phase = 2 := Classical.byContradiction fun x => h2 x
  have hr : runs e := by
    rcases hO.2 with ⟨h, _⟩ | ⟨_, h⟩ | h | h | h
    · omega
    · exact h
    all_goals omega
  obtain ⟨ab, ar⟩ := right_acked hO.1 hr f.lo
  have hA : right (acked e f.lo) := ⟨ab, .inr (.inl ⟨hp2, ar⟩)⟩
  split
  · split
    · exact hA
    · exact right_wait hA (wait1 ab.2.2.2.2.2.2.2.2.2.1 ab.2.2.2.2.2.2.2.2.2.2.1).1 (wait1 ab.2.2.2.2.2.2.2.2.2.1 ab.2.2.2.2.2.2.2.2.2.2.1).2
  · split
    · obtain ⟨b1, b2, b3, b4, b5, b6, b7, b8, b9, b10, b11, b12, b13, b14, b15⟩ := ab
      exact ⟨⟨b1, b2, b3, b4, b5, Int.emod_nonneg _ (by decide), by show ((acked e f.lo).wants + 1) % 8 ≤ 7; have := Int.emod_lt_of_pos ((acked e f.lo).wants + 1) (b := 8) (by decide); omega, b8, b9, b10, b11, b12, b13, b14, b15⟩, .inr (.inl ⟨hp2, ar⟩)⟩
    · split
      · exact hA
      · exact hA
theorem right_takes {d : Dr} (h : right d) {f : Gf.Fr} (hf : Gf.ok f) : right (takes d f).1 := by
  have hb := h.1
  have hw := wait2 hb.2.2.2.2.2.2.2.2.2.1 hb.2.2.2.2.2.2.2.2.2.2.1
  have h2 := right_wait h hw.1 hw.2
  obtain ⟨⟨f1, f2, f3, f4⟩, _⟩ := hf
  unfold takes
  dsimp only
  split
  · exact right_begins h2 (by omega) (by omega) f3 f4
  split
  · exact right_closes h2
  · exact right_takes2 h2 f
theorem size_pos {z : Int} (h : Gf.code z ≠ 0) : 32 ≤ z ∧ z ≤ 4096 := (Gf.code_size h).2
theorem ex_size (s : ByteArray) (k : Nat) (h : k ≤ s.size) : (s.extract 0 k).size = k := by simp; omega
theorem right_fill1 {d : Dr} (hb : base d) (hr : runs d) {p : Pc} {q : List Pc} (hq : d.queue = p :: q) (hl : (d.win.l.length : Int) < d.win.sz) : base (fill1 d p).1 ∧ runs (fill1 d p).1 := by
  have hrt := runs_rt hb hr
  obtain ⟨b1, b2, b3, b4, b5, b6, b7, b8, b9, b10, b11, b12, b13, b14, b15⟩ := hb
  obtain ⟨h1, h2, h3, h4, h5, h6, h7, h8⟩ := hr
  have hz := size_pos b2
  have hp : p.data.size ≠ 0 := b15 p (by rw [hq]; simp)
  have hk : min p.data.size d.size.toNat ≤ p.data.size ∧ 0 < min p.data.size d.size.toNat ∧ ((min p.data.size d.size.toNat : Nat) : Int) ≤ d.size := by omega
  unfold fill1
  dsimp only
  rw [Wn.put_ok hrt (by omega)]
  dsimp only
  refine ⟨⟨b1, b2, b3, b4, b5, b6, b7, b8, b9, b10, b11, b12, b13, b14, ?_⟩, ?_, h2, h3, h4, h5, h6, h7, ?_⟩
  · intro x hx
    dsimp only at hx
    rw [hq] at hx
    unfold cutQ at hx
    dsimp only at hx
    split at hx
    · exact b15 x (by rw [hq]; simp [hx])
    · rename_i hne
      rcases List.mem_cons.1 hx with rfl | hx
      · show (p.data.extract (min p.data.size d.size.toNat) p.data.size).size ≠ 0
        simp
        omega
      · exact b15 x (by rw [hq]; simp [hx])
  · intro s hs
    rcases List.mem_append.1 hs with hs | hs
    · exact h1 s hs
    · obtain rfl := List.mem_singleton.1 hs
      rw [ex_size _ _ hk.1]
      exact ⟨by omega, hk.2.2⟩
  · show ((d.win.l ++ [_]).length : Int) ≤ d.win.sz
    rw [List.length_append, List.length_singleton]
    omega
theorem right_fillN : ∀ (f : Nat) (d : Dr) (out : List UInt8), right d → right (fillN f d out).1 ∧ (fillN f d out).1.at_ = d.at_ ∧ (fillN f d out).1.buf = d.buf ∧ (fillN f d out).1.phase = d.phase
  | 0, _, _, h => ⟨h, rfl, rfl, rfl⟩
  | f + 1, d, out, h => by
    unfold fillN
    cases hq : d.queue with
    | nil => exact ⟨h, rfl, rfl, rfl⟩
    | cons p q =>
      dsimp only
      split
      · rename_i hc
        have hr : runs d := by
          rcases h.2 with ⟨h, _⟩ | ⟨_, h⟩ | h | h | h
          · omega
          · exact h
          all_goals omega
        obtain ⟨fb, fr⟩ := right_fill1 h.1 hr hq hc.2
        have hx : right (fill1 d p).1 := ⟨fb, .inr (.inl ⟨hc.1, fr⟩)⟩
        obtain ⟨r1, r2, r3, r4⟩ := right_fillN f (fill1 d p).1 (out ++ (fill1 d p).2) hx
        exact ⟨r1, r2, r3, r4⟩
      · exact ⟨h, rfl, rfl, rfl⟩
theorem right_fill {d : Dr} (h : right d) : right (fill d).1 ∧ (fill d).1.at_ = d.at_ ∧ (fill d).1.buf = d.buf ∧ (fill d).1.phase = d.phase := right_fillN 8 d [] h
theorem takes_keeps (d : Dr) (f : Gf.Fr) : (takes d f).1.at_ = d.at_ ∧ (takes d f).1.buf = d.buf := by
  have hb : ∀ (e : Dr) q low, (begins e q low).1.at_ = e.at_ ∧ (begins e q low).1.buf = e.buf := by
    intro e q low
    unfold begins
    dsimp only
    repeat' split
    all_goals exact ⟨rfl, rfl⟩
  have hc : ∀ e : Dr, (closes e).1.at_ = e.at_ ∧ (closes e).1.buf = e.buf := by
    intro e
    unfold closes
    repeat' split
    all_goals exact ⟨rfl, rfl⟩
  have ht : ∀ e : Dr, (takes2 e f).1.at_ = e.at_ ∧ (takes2 e f).1.buf = e.buf := by
    intro e
    have ho : (if e.phase = 1 ∧ e.step = 2 then open_ e else e).at_ = e.at_ ∧ (if e.phase = 1 ∧ e.step = 2 then open_ e else e).buf = e.buf := by
      split <;> exact ⟨rfl, rfl⟩
    unfold takes2
    generalize (if e.phase = 1 ∧ e.step = 2 then open_ e else e) = g at *
    dsimp only
    repeat' split
    all_goals exact ho
  unfold takes
  dsimp only
  split
  · exact hb _ _ _
  split
  · exact hc _
  · exact ht _
/-- Whatever is found, the drive stays right, as long as the bytes' number is one. -/
theorem right_feedN : ∀ (f : Nat) (d : Dr) (out came : List UInt8), d.buf.length < f → right d → d.at_ + d.buf.length ≤ 1099511627776 →
    right (feedN f d out came).1 ∧ (feedN f d out came).1.buf.length < 4102 ∧ (feedN f d out came).1.at_ + (feedN f d out came).1.buf.length = d.at_ + d.buf.length
  | 0, _, _, _, h, _, _ => by omega
  | f + 1, d, out, came, hf, h, ha => by
    unfold feedN
    dsimp only
    cases hs : (Gf.scan 0 d.buf).ok with
    | true =>
      obtain ⟨i, n, h1, h2, h3, h4, h5⟩ := scan_yes d.buf 0 hs
      rw [if_pos rfl]
      have hok := (Gf.text_read h3).1
      have hbl : (d.buf.drop (Gf.scan 0 d.buf).b).length = d.buf.length - (i + n) := by rw [List.length_drop, h2]; omega
      have hat : d.at_ + ((Gf.scan 0 d.buf).b : Int) = d.at_ + ((i + n : Nat) : Int) := by rw [h2]; omega
      obtain ⟨b1, b2, b3, b4, b5, b6, b7, b8, b9, b10, b11, b12, b13, b14, b15⟩ := h.1
      have hR : right { d with took := d.took ++ [(d.at_ + ((Gf.scan 0 d.buf).a : Int), d.at_ + ((Gf.scan 0 d.buf).b : Int))], buf := d.buf.drop (Gf.scan 0 d.buf).b, at_ := d.at_ + ((Gf.scan 0 d.buf).b : Int) } :=
        ⟨⟨b1, b2, b3, b4, b5, b6, b7, by show 0 ≤ d.at_ + _; omega, by show d.at_ + _ ≤ _; rw [hat]; omega, b10, b11, b12, b13, b14, b15⟩, h.2⟩
      have hT := right_takes hR hok
      have hK := takes_keeps { d with took := d.took ++ [(d.at_ + ((Gf.scan 0 d.buf).a : Int), d.at_ + ((Gf.scan 0 d.buf).b : Int))], buf := d.buf.drop (Gf.scan 0 d.buf).b, at_ := d.at_ + ((Gf.scan 0 d.buf).b : Int) } (Gf.scan 0 d.buf).f
      dsimp only at hK
      obtain ⟨r1, r2, r3⟩ := right_feedN f _ (out ++ (takes { d with took := d.took ++ [(d.at_ + ((Gf.scan 0 d.buf).a : Int), d.at_ + ((Gf.scan 0 d.buf).b : Int))], buf := d.buf.drop (Gf.scan 0 d.buf).b, at_ := d.at_ + ((Gf.scan 0 d.buf).b : Int) } (Gf.scan 0 d.buf).f).2.1) (came ++ (takes { d with took := d.took ++ [(d.at_ + ((Gf.scan 0 d.buf).a : Int), d.at_ + ((Gf.scan 0 d.buf).b : Int))], buf := d.buf.drop (Gf.scan 0 d.buf).b, at_ := d.at_ + ((Gf.scan 0 d.buf).b : Int) } (Gf.scan 0 d.buf).f).2.2) (by rw [hK.2, hbl]; omega) hT (by rw [hK.1, hK.2, hbl, hat]; omega)
      refine ⟨r1, r2, ?_⟩
      rw [r3, hK.1, hK.2, hbl, hat]
      omega
    | false =>
      obtain ⟨i, h1, h2, h3⟩ := scan_no d.buf 0 hs
      rw [if_neg (by simp)]
      have hbl : (d.buf.drop (Gf.scan 0 d.buf).a).length = d.buf.length - i := by rw [List.length_drop, h1]; omega
      have hat : d.at_ + ((Gf.scan 0 d.buf).a : Int) = d.at_ + (i : Int) := by rw [h1]; omega
      obtain ⟨b1, b2, b3, b4, b5, b6, b7, b8, b9, b10, b11, b12, b13, b14, b15⟩ := h.1
      refine ⟨⟨⟨b1, b2, b3, b4, b5, b6, b7, by show 0 ≤ d.at_ + _; omega, by show d.at_ + _ ≤ _; rw [hat]; omega, b10, b11, b12, b13, b14, b15⟩, h.2⟩, ?_, ?_⟩
      · show (d.buf.drop (Gf.scan 0 d.buf).a).length < 4102
        rw [h1, Nat.zero_add]
        rcases h3 with h3 | h3
        · rw [h3]; show 0 < 4102; omega
        · exact read_short h3
      · show d.at_ + _ + ((d.buf.drop (Gf.scan 0 d.buf).a).length : Int) = _
        rw [hbl, hat]
        omega
theorem right_feed {d : Dr} (h : right d) (s : List UInt8) (ha : d.at_ + d.buf.length + s.length ≤ 1099511627776) : right (feed d s).1 ∧ (feed d s).1.buf.length < 4102 ∧ (feed d s).1.at_ + (feed d s).1.buf.length = d.at_ + d.buf.length + s.length := by
  have hl : (d.buf ++ s).length = d.buf.length + s.length := List.length_append
  have h0 : right { own d with buf := d.buf ++ s } := h
  obtain ⟨r1, r2, r3⟩ := right_feedN (d.buf.length + s.length + 1) { own d with buf := d.buf ++ s } [] [] (by show (d.buf ++ s).length < _; omega) h0 (by show d.at_ + ((d.buf ++ s).length : Int) ≤ _; omega)
  obtain ⟨f1, f2, f3, _⟩ := right_fill r1
  unfold feed
  dsimp only
  refine ⟨f1, by rw [f3]; exact r2, ?_⟩
  rw [f2, f3, r3]
  show d.at_ + ((d.buf ++ s).length : Int) = _
  omega
theorem right_close {d : Dr} (h : right d) : right (close d).1 := by
  obtain ⟨b1, b2, b3, b4, b5, b6, b7, b8, b9, b10, b11, b12, b13, b14, b15⟩ := h.1
  unfold close
  split
  · exact h
  · exact ⟨⟨b1, b2, b3, b4, b5, b6, b7, b8, b9, b10, b11, by show (0 : Int) ≤ 0; omega, by show (0 : Int) ≤ 13; omega, b14, b15⟩, .inr (.inr (.inl rfl))⟩
theorem right_send {d : Dr} (h : right d) (p : Pc) : right (send d p).1 ∧ (send d p).1.at_ = d.at_ ∧ (send d p).1.buf = d.buf := by
  obtain ⟨b1, b2, b3, b4, b5, b6, b7, b8, b9, b10, b11, b12, b13, b14, b15⟩ := h.1
  unfold send
  split
  · exact ⟨h, rfl, rfl⟩
  · rename_i hc
    have h1 : right { own d with queue := d.queue ++ [p] } := ⟨⟨b1, b2, b3, b4, b5, b6, b7, b8, b9, b10, b11, b12, b13, b14, fun x hx => by
      rcases List.mem_append.1 hx with hx | hx
      · exact b15 x hx
      · obtain rfl := List.mem_singleton.1 hx
        exact fun e => hc (.inl e)⟩, h.2⟩
    obtain ⟨f1, f2, f3, _⟩ := right_fill h1
    exact ⟨f1, f2, f3⟩
end Gp
end Go.Proofs.Ytlclfkogbfigbaa

namespace Go.Proofs.Ytlclfkogbfigbaa
namespace Ip
open Gp (Dr Pc Fi)
theorem early_eq {a b : Int} (ha : 0 ≤ a ∧ a ≤ 31) (hb : 0 ≤ b ∧ b ≤ 31) : early a b = if a ≤ b then b - a else b - a + 32 := by
  unfold early Wn.ahead
  rw [if_pos ⟨by omega, by omega, ha.1, by omega, hb.1, by omega⟩]
theorem early_rng {a b : Int} (h : 0 ≤ early a b) : (0 ≤ a ∧ a ≤ 31) ∧ (0 ≤ b ∧ b ≤ 31) := by
  unfold early Wn.ahead at h
  split at h
  · rename_i c
    omega
  · omega
theorem early_lt {a b : Int} (ha : 0 ≤ a ∧ a ≤ 31) (hb : 0 ≤ b ∧ b ≤ 31) : 0 ≤ early a b ∧ early a b ≤ 31 := by
  rw [early_eq ha hb]
  split <;> omega
theorem early_zero {a b : Int} (h : 0 ≤ early a b) : early a b = 0 ↔ b = a := by
  obtain ⟨ha, hb⟩ := early_rng h
  rw [early_eq ha hb]
  split <;> omega
theorem early_inj {a b c : Int} (h1 : 0 ≤ early a b) (h2 : 0 ≤ early a c) : early a b = early a c ↔ b = c := by
  obtain ⟨ha, hb⟩ := early_rng h1
  obtain ⟨_, hc⟩ := early_rng h2
  rw [early_eq ha hb, early_eq ha hc]
  split <;> split <;> omega
theorem early_next {a b : Int} (h : 1 ≤ early a b) : early ((a + 1) % 32) b = early a b - 1 := by
  obtain ⟨ha, hb⟩ := early_rng (by omega : 0 ≤ early a b)
  have e := early_eq ha hb
  rw [e] at h ⊢
  rw [early_eq (by omega) hb]
  by_cases c : a = 31
  · subst c
    split at h <;> split <;> omega
  · have : (a + 1) % 32 = a + 1 := by omega
    rw [this]
    split at h <;> split <;> omega
theorem ok_mono {w l m : Int} (h : m ≤ l) : ∀ {r : List Fi}, okAhead w l r → okAhead w m r
  | [], _ => trivial
  | _ :: _, ⟨h1, h2, h3, h4⟩ => ⟨h1, by omega, h3, h4⟩
theorem ok_next {w : Int} : ∀ {l : Int} {r : List Fi}, 0 ≤ l → okAhead w l r → okAhead ((w + 1) % 32) (l - 1) r
  | _, [], _, _ => trivial
  | l, f :: r, h0, ⟨h1, h2, h3, h4⟩ => by
    have e := early_next (a := w) (b := f.nm) (by omega)
    have ih := ok_next (by omega) h4
    refine ⟨h1, ?_, ?_, ?_⟩
    · rw [e]; omega
    · rw [e]; omega
    · rw [e]; exact ih
theorem ok_ins {w : Int} {f : Fi} (hs : f.data.size ≠ 0) (h15 : early w f.nm ≤ 15) : ∀ {l : Int} {r : List Fi}, l < early w f.nm → okAhead w l r → okAhead w l (ins w f r)
  | _, [], hl, _ => ⟨hs, hl, h15, trivial⟩
  | l, g :: r, hl, ⟨h1, h2, h3, h4⟩ => by
    unfold ins
    split
    · rename_i c
      exact ⟨h1, h2, h3, ok_ins hs h15 c h4⟩
    · split
      · exact ⟨h1, h2, h3, h4⟩
      · exact ⟨hs, hl, h15, h1, by omega, h3, h4⟩
theorem ok_len {w : Int} : ∀ {l : Int} {r : List Fi}, l ≤ 15 → okAhead w l r → (r.length : Int) ≤ 15 - l
  | l, [], hl, _ => by show ((0 : Nat) : Int) ≤ _; omega
  | l, _ :: r, _, ⟨_, h2, h3, h4⟩ => by
    have := ok_len h3 h4
    rw [List.length_cons]
    omega
/-- base, while what was waited for comes -/
structure base1 (d : Dr) : Prop where
  lt : d.letter = 105
  sz : 1 ≤ d.size ∧ d.size ≤ 4095
  rm : 1 ≤ d.room ∧ d.room ≤ 16
  wn : 0 ≤ d.wants ∧ d.wants ≤ 31
  at_ : 0 ≤ d.at_ ∧ d.at_ ≤ 1099511627776
  wt : 0 ≤ d.wait ∧ d.wait ≤ 3
  tr : 0 ≤ d.tries ∧ d.tries ≤ 13
  qu : ∀ p ∈ d.queue, okPc p
  wi : ∀ s ∈ d.win.l, okText d.size s
  ah : okAhead d.wants (-1) d.ahead
theorem drain_base : ∀ (n : Nat) (d : Dr) (l : List Pc), d.ahead.length ≤ n → base1 d → base (drain n d l).1
  | 0, d, l, hn, h => by
    have e : d.ahead = [] := List.length_eq_zero_iff.1 (by omega)
    exact ⟨h.lt, h.sz, h.rm, h.wn, h.at_, h.wt, h.tr, h.qu, h.wi, by show okAhead d.wants 0 d.ahead; rw [e]; trivial⟩
  | n + 1, d, l, hn, h => by
    unfold drain
    cases ha : d.ahead with
    | nil =>
      exact ⟨h.lt, h.sz, h.rm, h.wn, h.at_, h.wt, h.tr, h.qu, h.wi, by show okAhead d.wants 0 d.ahead; rw [ha]; trivial⟩
    | cons g r =>
      have hah := h.ah
      rw [ha] at hah
      obtain ⟨h1, h2, h3, h4⟩ := hah
      dsimp only
      have hwn := h.wn
      split
      · rename_i c
        refine drain_base n _ _ (by rw [ha] at hn; simp at hn; exact hn) ⟨h.lt, h.sz, h.rm, by show 0 ≤ (d.wants + 1) % 32 ∧ (d.wants + 1) % 32 ≤ 31; omega, h.at_, h.wt, h.tr, h.qu, h.wi, ?_⟩
        have e0 : early d.wants g.nm = 0 := (early_zero (by omega)).2 c
        rw [e0] at h4
        exact ok_next (Int.le_refl 0) h4
      · rename_i c
        refine ⟨h.lt, h.sz, h.rm, h.wn, h.at_, h.wt, h.tr, h.qu, h.wi, ?_⟩
        show okAhead d.wants 0 d.ahead
        rw [ha]
        have : early d.wants g.nm ≠ 0 := fun e => c ((early_zero (by omega)).1 e)
        exact ⟨h1, by omega, h3, h4⟩
theorem drain_keeps : ∀ (n : Nat) (d : Dr) (l : List Pc), (drain n d l).1.phase = d.phase ∧ (drain n d l).1.step = d.step ∧ (drain n d l).1.win = d.win ∧ (drain n d l).1.room = d.room ∧ (drain n d l).1.at_ = d.at_ ∧ (drain n d l).1.buf = d.buf ∧ (drain n d l).1.tries = d.tries ∧ (drain n d l).1.queue = d.queue ∧ (drain n d l).1.took = d.took
  | 0, _, _ => ⟨rfl, rfl, rfl, rfl, rfl, rfl, rfl, rfl, rfl⟩
  | n + 1, d, l => by
    unfold drain
    cases d.ahead with
    | nil => exact ⟨rfl, rfl, rfl, rfl, rfl, rfl, rfl, rfl, rfl⟩
    | cons g r =>
      dsimp only
      split
      · exact drain_keeps n _ _
      · exact ⟨rfl, rfl, rfl, rfl, rfl, rfl, rfl, rfl, rfl⟩
theorem base_wait {d : Dr} (h : base d) {x : Int} (hx : 0 ≤ x ∧ x ≤ 3) : base { d with wait := x } := ⟨h.lt, h.sz, h.rm, h.wn, h.at_, hx, h.tr, h.qu, h.wi, h.ah⟩
theorem right_wait {d : Dr} (h : right d) {x : Int} (hx : 0 ≤ x ∧ x ≤ 3) : right { d with wait := x } := by
  refine ⟨base_wait h.1 hx, ?_⟩
  rcases h.2 with h2 | ⟨hp, hr⟩ | h2
  · exact .inl h2
  · exact .inr (.inl ⟨hp, hr.st, hr.md, hr.ws, hr.bs, hr.ln⟩)
  · exact .inr (.inr h2)
theorem min_rng {a b lo hi : Int} (ha : lo ≤ a ∧ a ≤ hi) (hb : lo ≤ b) : lo ≤ min a b ∧ min a b ≤ hi := by
  rcases Int.le_total a b with c | c
  · rw [Int.min_eq_left c]; omega
  · rw [Int.min_eq_right c]; omega
theorem right_opens {d : Dr} (h : right d) (data : List UInt8) : right (opens d data).1 := by
  unfold opens
  split
  · rename_i a b c
    split
    · rename_i hp
      split
      · exact h
      · rename_i hz
        have hz1 : ¬ a.toNat * 256 + b.toNat = 0 := fun e => hz (.inl e)
        have hz2 : ¬ c.toNat = 0 := fun e => hz (.inr e)
        have hw : d.win.l = [] ∧ d.ahead = [] := by
          rcases h.2 with ⟨_, h⟩ | ⟨h, _⟩ | h | h | h
          · exact h
          all_goals omega
        have hs := min_rng (b := ((a.toNat * 256 + b.toNat : Nat) : Int)) h.1.sz (by omega)
        have hr := min_rng (b := (c.toNat : Int)) h.1.rm (by omega)
        dsimp only
        generalize min d.size ((a.toNat * 256 + b.toNat : Nat) : Int) = s at *
        generalize min d.room (c.toNat : Int) = r at *
        have e : Wn.begin_ 32 r 1 = (⟨32, r, 1, []⟩, 0) := if_pos ⟨by omega, by omega, hr.1, by omega, by omega, by omega⟩
        rw [e]
        exact ⟨⟨h.1.lt, hs, hr, h.1.wn, h.1.at_, h.1.wt, by show (0 : Int) ≤ 0 ∧ (0 : Int) ≤ 13; omega, h.1.qu, (fun s hs => by cases hs), h.1.ah⟩, .inr (.inl ⟨rfl, by show (-1 : Int) ≤ -1 ∧ (-1 : Int) ≤ 31; omega, rfl, rfl, by show (0 : Int) ≤ 1 ∧ (1 : Int) < 32; omega, by show ((0 : Nat) : Int) ≤ r; omega⟩)⟩
    · split
      · split
        · exact h
        · exact right_wait h (Gp.wait1 h.1.wt.1 h.1.wt.2)
      · exact h
  · exact h
theorem right_closes {d : Dr} (h : right d) : right (closes d).1 := by
  unfold closes
  split
  · exact ⟨⟨h.1.lt, h.1.sz, h.1.rm, h.1.wn, h.1.at_, h.1.wt, h.1.tr, h.1.qu, h.1.wi, h.1.ah⟩, .inr (.inr (.inr (.inl rfl)))⟩
  split
  · exact h
  split
  · exact h
  · exact ⟨⟨h.1.lt, h.1.sz, h.1.rm, h.1.wn, h.1.at_, h.1.wt, h.1.tr, h.1.qu, h.1.wi, h.1.ah⟩, .inr (.inr (.inr (.inl rfl)))⟩
theorem runs_rt {d : Dr} (hb : base d) (h : runs d) : Wn.rt d.win = true := by
  have h1 := h.md
  have h2 := h.ws
  have h3 := h.bs
  have h4 := h.ln
  have h5 := hb.rm
  exact Wn.rt_of (by omega)
theorem right_acked {d : Dr} (hb : base d) (h : runs d) (n : Int) : base (Gp.acked d n) ∧ runs (Gp.acked d n) := by
  have hrt := runs_rt hb h
  have htr := hb.tr
  have hwin : (∀ s ∈ (Wn.ack d.win n).1.l, s ∈ d.win.l) ∧ (Wn.ack d.win n).1.md = 32 ∧ (Wn.ack d.win n).1.sz = d.room ∧ (0 ≤ (Wn.ack d.win n).1.bs ∧ (Wn.ack d.win n).1.bs < 32) ∧ ((Wn.ack d.win n).1.l.length : Int) ≤ (Wn.ack d.win n).1.sz := by
    cases hp : Wn.place d.win n with
    | none =>
      rw [show Wn.ack d.win n = (d.win, 0) by unfold Wn.ack; rw [hp]]
      exact ⟨fun s hs => hs, h.md, h.ws, h.bs, h.ln⟩
    | some K =>
      rw [show (Wn.ack d.win n).1 = { d.win with bs := (n + 1) % d.win.md, l := d.win.l.drop (K + 1) } by unfold Wn.ack; rw [hp]]
      have hr := Wn.rt_parts (Wn.ack_rt hp)
      have hmd := h.md
      dsimp only at hr ⊢
      exact ⟨fun s hs => List.mem_of_mem_drop hs, hmd, h.ws, ⟨hr.2.2.2.2.1, by have := hr.2.2.2.2.2.1; rw [hmd] at this ⊢; exact this⟩, hr.2.2.2.2.2.2⟩
  refine ⟨⟨hb.lt, hb.sz, hb.rm, hb.wn, hb.at_, hb.wt, ?_, hb.qu, fun s hs => hb.wi s (hwin.1 s hs), hb.ah⟩, h.st, hwin.2.1, hwin.2.2.1, hwin.2.2.2.1, hwin.2.2.2.2⟩
  show 0 ≤ (if 0 < (Wn.ack d.win n).2 then 0 else d.tries) ∧ (if 0 < (Wn.ack d.win n).2 then 0 else d.tries) ≤ 13
  split <;> omega
theorem right_orders {d : Dr} (hb : base d) (hp : d.phase = 2) (h : runs d) {f : If.Fr} (hf : 0 ≤ f.nm ∧ f.nm ≤ 31) (hd : f.data ≠ []) : right (orders d f).1 := by
  have hE := early_lt hb.wn hf
  have hwn := hb.wn
  unfold orders
  dsimp only
  split
  · obtain ⟨k1, k2, k3, k4, _⟩ := drain_keeps d.ahead.length { d with wants := (d.wants + 1) % 32 } [⟨f.ch, ⟨f.data.toArray⟩⟩]
    refine ⟨drain_base _ _ _ (Nat.le_refl _) ⟨hb.lt, hb.sz, hb.rm, by show 0 ≤ (d.wants + 1) % 32 ∧ (d.wants + 1) % 32 ≤ 31; omega, hb.at_, hb.wt, hb.tr, hb.qu, hb.wi, ok_next (Int.le_refl 0) hb.ah⟩, .inr (.inl ⟨by rw [k1]; exact hp, ?_⟩)⟩
    exact ⟨by rw [k2]; exact h.st, by rw [k3]; exact h.md, by rw [k3, k4]; exact h.ws, by rw [k3]; exact h.bs, by rw [k3]; exact h.ln⟩
  · rename_i h0
    split
    · rename_i h15
      have hsz : (toFi f).data.size ≠ 0 := by
        show (f.data.toArray).size ≠ 0
        rw [List.size_toArray]
        exact fun e => hd (List.length_eq_zero_iff.1 e)
      have hb2 : base { d with ahead := ins d.wants (toFi f) d.ahead } := ⟨hb.lt, hb.sz, hb.rm, hb.wn, hb.at_, hb.wt, hb.tr, hb.qu, hb.wi, ok_ins (f := toFi f) hsz h15 (by show (0 : Int) < early d.wants f.nm; omega) hb.ah⟩
      have hr2 : right { d with ahead := ins d.wants (toFi f) d.ahead } := ⟨hb2, .inr (.inl ⟨hp, h.st, h.md, h.ws, h.bs, h.ln⟩)⟩
      split
      · exact hr2
      · exact right_wait hr2 (Gp.wait1 hb.wt.1 hb.wt.2)
    · exact ⟨hb, .inr (.inl ⟨hp, h⟩)⟩
theorem right_takes2 {d : Dr} (h : right d) {f : If.Fr} (hf : 0 ≤ f.nm ∧ f.nm ≤ 31) : right (takes2 d f).1 := by
  unfold takes2
  split
  · exact h
  split
  · exact h
  rename_i h3 h2
  have hp2 : d.phase = 2 := Classical.byContradiction fun x => h2 x
  have hr : runs d := by
    rcases h.2 with ⟨h, _⟩ | ⟨_, h⟩ | h | h | h
    · omega
    · exact h
    all_goals omega
  obtain ⟨ab, ar⟩ := right_acked h.1 hr f.ak
  have hA : right (Gp.acked d f.ak) := ⟨ab, .inr (.inl ⟨hp2, ar⟩)⟩
  dsimp only
  split
  · split <;> exact hA
  split
  · rename_i c
    exact right_orders ab hp2 ar hf c.2
  · exact hA
theorem right_takes {d : Dr} (h : right d) {f : If.Fr} (hf : If.ok f) : right (takes d f).1 := by
  have h2 := right_wait h (Gp.wait2 h.1.wt.1 h.1.wt.2)
  unfold takes
  split
  · exact h
  dsimp only
  split
  · exact right_opens h2 _
  split
  · exact right_closes h2
  · exact right_takes2 h2 hf.1.2.1
theorem entry_parts (ch : Int) (s : ByteArray) : (entry ch s).size = 1 + s.size ∧ (entry ch s).data.toList = UInt8.ofNat ch.toNat :: s.data.toList := by
  unfold entry
  constructor
  · rw [ByteArray.size_append]; rfl
  · simp
theorem right_fill1 {d : Dr} (hb : base d) (hr : runs d) {p : Pc} {q : List Pc} (hq : d.queue = p :: q) (hl : (d.win.l.length : Int) < d.win.sz) : base (fill1 d p).1 ∧ runs (fill1 d p).1 := by
  have hrt := runs_rt hb hr
  have hz := hb.sz
  obtain ⟨p1, p2, p3⟩ := hb.qu p (by rw [hq]; simp)
  have hk : min p.data.size d.size.toNat ≤ p.data.size ∧ 0 < min p.data.size d.size.toNat ∧ ((min p.data.size d.size.toNat : Nat) : Int) ≤ d.size := by omega
  obtain ⟨e1, e2⟩ := entry_parts p.ch (p.data.extract 0 (min p.data.size d.size.toNat))
  rw [Gp.ex_size _ _ hk.1] at e1
  unfold fill1
  dsimp only
  rw [Wn.put_ok hrt (by omega)]
  dsimp only
  refine ⟨⟨hb.lt, hb.sz, hb.rm, hb.wn, hb.at_, hb.wt, hb.tr, ?_, ?_, hb.ah⟩, hr.st, hr.md, hr.ws, hr.bs, ?_⟩
  · intro x hx
    dsimp only at hx
    rw [hq] at hx
    unfold Gp.cutQ at hx
    dsimp only at hx
    split at hx
    · exact hb.qu x (by rw [hq]; simp [hx])
    · rename_i hne
      rcases List.mem_cons.1 hx with rfl | hx
      · refine ⟨?_, p2, p3⟩
        show (p.data.extract (min p.data.size d.size.toNat) p.data.size).size ≠ 0
        simp
        omega
      · exact hb.qu x (by rw [hq]; simp [hx])
  · intro s hs
    rcases List.mem_append.1 hs with hs | hs
    · exact hb.wi s hs
    · obtain rfl := List.mem_singleton.1 hs
      refine ⟨by omega, by show _ ≤ d.size + 1; omega, ?_⟩
      rw [e2]
      show (UInt8.ofNat p.ch.toNat).toNat ≤ 7
      rw [UInt8.toNat_ofNat']
      omega
  · show ((d.win.l ++ [_]).length : Int) ≤ d.win.sz
    rw [List.length_append, List.length_singleton]
    omega
theorem right_fillN : ∀ (f : Nat) (d : Dr) (out : List UInt8), right d → right (fillN f d out).1 ∧ (fillN f d out).1.at_ = d.at_ ∧ (fillN f d out).1.buf = d.buf ∧ (fillN f d out).1.phase = d.phase ∧ (fillN f d out).1.tries = d.tries
  | 0, _, _, h => ⟨h, rfl, rfl, rfl, rfl⟩
  | f + 1, d, out, h => by
    unfold fillN
    cases hq : d.queue with
    | nil => exact ⟨h, rfl, rfl, rfl, rfl⟩
    | cons p q =>
      dsimp only
      split
      · rename_i hc
        have hr : runs d := by
          rcases h.2 with ⟨h, _⟩ | ⟨_, h⟩ | h | h | h
          · omega
          · exact h
          all_goals omega
        obtain ⟨fb, fr⟩ := right_fill1 h.1 hr hq hc.2
        have hx : right (fill1 d p).1 := ⟨fb, .inr (.inl ⟨hc.1, fr⟩)⟩
        obtain ⟨r1, r2, r3, r4, r5⟩ := right_fillN f (fill1 d p).1 (out ++ (fill1 d p).2) hx
        exact ⟨r1, r2, r3, r4, r5⟩
      · exact ⟨h, rfl, rfl, rfl, rfl⟩
theorem right_fill {d : Dr} (h : right d) : right (fill d).1 ∧ (fill d).1.at_ = d.at_ ∧ (fill d).1.buf = d.buf ∧ (fill d).1.phase = d.phase ∧ (fill d).1.tries = d.tries := right_fillN 17 d [] h
theorem opens_keeps (d : Dr) (data : List UInt8) : (opens d data).1.at_ = d.at_ ∧ (opens d data).1.buf = d.buf ∧ (opens d data).1.queue = d.queue ∧ (opens d data).1.took = d.took := by
  unfold opens
  dsimp only
  repeat' split
  all_goals exact ⟨rfl, rfl, rfl, rfl⟩
theorem closes_keeps (d : Dr) : (closes d).1.at_ = d.at_ ∧ (closes d).1.buf = d.buf ∧ (closes d).1.queue = d.queue ∧ (closes d).1.took = d.took := by
  unfold closes
  repeat' split
  all_goals exact ⟨rfl, rfl, rfl, rfl⟩
theorem orders_keeps (d : Dr) (f : If.Fr) : (orders d f).1.at_ = d.at_ ∧ (orders d f).1.buf = d.buf ∧ (orders d f).1.queue = d.queue ∧ (orders d f).1.took = d.took := by
  unfold orders
  dsimp only
  split
  · obtain ⟨_, _, _, _, k5, k6, _, k8, k9⟩ := drain_keeps d.ahead.length { d with wants := (d.wants + 1) % 32 } [⟨f.ch, ⟨f.data.toArray⟩⟩]
    exact ⟨k5, k6, k8, k9⟩
  · repeat' split
    all_goals exact ⟨rfl, rfl, rfl, rfl⟩
theorem takes_keeps (d : Dr) (f : If.Fr) : (takes d f).1.at_ = d.at_ ∧ (takes d f).1.buf = d.buf ∧ (takes d f).1.queue = d.queue ∧ (takes d f).1.took = d.took := by
  unfold takes
  split
  · exact ⟨rfl, rfl, rfl, rfl⟩
  dsimp only
  split
  · exact opens_keeps _ _
  split
  · exact closes_keeps _
  · unfold takes2
    dsimp only
    split
    · exact ⟨rfl, rfl, rfl, rfl⟩
    split
    · exact ⟨rfl, rfl, rfl, rfl⟩
    split
    · split <;> exact ⟨rfl, rfl, rfl, rfl⟩
    split
    · exact orders_keeps _ _
    · exact ⟨rfl, rfl, rfl, rfl⟩
end Ip
end Go.Proofs.Ytlclfkogbfigbaa
