/-
  Mathematics of layer 12: packets of the protocol i as lists of bytes; what is written is read.
-/
import Derived.Test.YtghelhcmecmldaaMathK
namespace Go.Proofs.Ytghelhcmecmldaa
namespace If
/-- A packet. -/
structure Fr where
  kd : Int
  nm : Int
  ak : Int
  ch : Int
  ca : Bool
  data : List UInt8
def zero : Fr := ⟨0, 0, 0, 0, false, []⟩
/-- What Read answers: a packet and how many bytes it has, or an error. -/
abbrev Res := Except Nat (Fr × Nat)
def kind (k : Int) : Bool := k == 0 || k == 1 || k == 2 || k == 3 || k == 5
theorem kind_cases {k : Int} (h : kind k = true) : k = 0 ∨ k = 1 ∨ k = 2 ∨ k = 3 ∨ k = 5 := by
  simp [kind] at h; omega
theorem kind_no {k : Int} (h : kind k = false) : ¬ k = 0 ∧ ¬ k = 1 ∧ ¬ k = 2 ∧ ¬ k = 3 ∧ ¬ k = 5 := by
  simp [kind] at h; omega
/-- A head. -/
def head (a b c d : Nat) : List UInt8 := [7, UInt8.ofNat a, UInt8.ofNat b, UInt8.ofNat c, UInt8.ofNat d, UInt8.ofNat (a ^^^ b ^^^ c ^^^ d)]
/-- A number in four bytes. -/
def be4 (n : Nat) : List UInt8 := [UInt8.ofNat (n / 16777216), UInt8.ofNat (n / 65536), UInt8.ofNat (n / 256), UInt8.ofNat n]
def un4 (a b c d : UInt8) : Nat := ((a.toNat * 256 + b.toNat) * 256 + c.toNat) * 256 + d.toNat
theorem ofNat_toNat {n : Nat} (h : n < 256) : (UInt8.ofNat n).toNat = n := by
  rw [UInt8.toNat_ofNat']; exact Nat.mod_eq_of_lt h
theorem byte_eq (b : UInt8) : UInt8.ofNat b.toNat = b := UInt8.ofNat_toNat
theorem ofNat_mod {a : Nat} {b : UInt8} (h : a % 256 = b.toNat) : UInt8.ofNat a = b := by
  apply UInt8.toNat_inj.1
  rw [UInt8.toNat_ofNat']; exact h
theorem be4_un4 (a b c d : UInt8) : be4 (un4 a b c d) = [a, b, c, d] := by
  have ha := a.toNat_lt
  have hb := b.toNat_lt
  have hc := c.toNat_lt
  have hd := d.toNat_lt
  unfold be4 un4
  rw [ofNat_mod (b := a) (by omega), ofNat_mod (b := b) (by omega), ofNat_mod (b := c) (by omega), ofNat_mod (b := d) (by omega)]
theorem un4_be4 {n : Nat} (h : n < 4294967296) : un4 (UInt8.ofNat (n / 16777216)) (UInt8.ofNat (n / 65536)) (UInt8.ofNat (n / 256)) (UInt8.ofNat n) = n := by
  unfold un4
  simp only [UInt8.toNat_ofNat']
  omega
theorem be4_inj {n m : Nat} (hn : n < 4294967296) (hm : m < 4294967296) (h : be4 n = be4 m) : n = m := by
  unfold be4 at h
  simp only [List.cons.injEq, and_true] at h
  rw [← un4_be4 hn, ← un4_be4 hm, h.1, h.2.1, h.2.2.1, h.2.2.2]
theorem be4_len (n : Nat) : (be4 n).length = 4 := rfl
def crc (l : List UInt8) : Nat := Chk.more 0 l
theorem crc_lt (l : List UInt8) : crc l < 4294967296 := Chk.more_lt 0 l
/-- What stands behind a head. -/
def body (l : List UInt8) : List UInt8 := if l = [] then [] else l ++ be4 (crc l)
def bsz (n : Nat) : Nat := if n = 0 then 0 else n + 4
theorem body_len (l : List UInt8) : (body l).length = bsz l.length := by
  unfold body bsz
  by_cases h : l = []
  · subst h; rfl
  · rw [if_neg h, if_neg (fun e => h (List.eq_nil_of_length_eq_zero e)), List.length_append, be4_len]
theorem bsz_le (n : Nat) : n ≤ bsz n ∧ bsz n ≤ n + 4 := by unfold bsz; split <;> omega
/-- Whether a packet may be. -/
def args (f : Fr) : Prop := kind f.kd = true ∧ (0 ≤ f.nm ∧ f.nm ≤ 31) ∧ (0 ≤ f.ak ∧ f.ak ≤ 31) ∧ (0 ≤ f.ch ∧ f.ch ≤ 7)
def ok (f : Fr) : Prop := args f ∧ f.data.length < 4096
def bit (c : Bool) : Nat := if c = true then 16 else 0
def hd (k n a c : Nat) (b : Bool) (z : Nat) : List UInt8 := head (n * 8 + c) (a * 8 + c) (k * 32 + bit b + z / 256) (z % 256)
def text (f : Fr) : List UInt8 := hd f.kd.toNat f.nm.toNat f.ak.toNat f.ch.toNat f.ca f.data.length ++ body f.data
theorem bit_le (b : Bool) : bit b = 0 ∨ bit b = 16 := by cases b <;> simp [bit]

/-- Read behind the head. -/
def readBody (a b c n : Nat) (r : List UInt8) : Res :=
  if r.length < bsz n then .error 2
  else if body (r.take n) = r.take (bsz n) then .ok (⟨(c / 32 : Nat), (a / 8 : Nat), (b / 8 : Nat), (a % 8 : Nat), decide (c / 16 % 2 = 1), r.take n⟩, 6 + bsz n)
  else .error 4
def readHead (a b c d e : Nat) (r : List UInt8) : Res :=
  if (a ^^^ b ^^^ c ^^^ d) ≠ e ∨ kind (c / 32 : Nat) = false ∨ a % 8 ≠ b % 8 then .error 3
  else readBody a b c (c % 16 * 256 + d) r
def read : List UInt8 → Res
  | [] => .error 2
  | x :: r =>
    if x ≠ 7 then .error 3
    else match r with
      | a :: b :: c :: d :: e :: t => readHead a.toNat b.toNat c.toNat d.toNat e.toNat t
      | _ => .error 2
/-- Scan. -/
structure Sc where
  f : Fr
  a : Nat
  b : Nat
  ok : Bool
def scan : Nat → List UInt8 → Sc
  | p, [] => ⟨zero, p, p, false⟩
  | p, c :: r => match read (c :: r) with
    | .ok x => ⟨x.1, p, p + x.2, true⟩
    | .error e => if e = 2 then ⟨zero, p, p, false⟩ else scan (p + 1) r

theorem xor_byte {a b c d : Nat} (ha : a < 256) (hb : b < 256) (hc : c < 256) (hd : d < 256) : a ^^^ b ^^^ c ^^^ d < 256 := Chk.xor8 (Chk.xor8 (Chk.xor8 ha hb) hc) hd
/-- A head is read as it was. -/
theorem read_head {a b c d : Nat} (ha : a < 256) (hb : b < 256) (hc : c < 256) (hd : d < 256) (r : List UInt8) :
    read (head a b c d ++ r) = readHead a b c d (a ^^^ b ^^^ c ^^^ d) r := by
  have h3 := xor_byte ha hb hc hd
  show read (7 :: UInt8.ofNat a :: UInt8.ofNat b :: UInt8.ofNat c :: UInt8.ofNat d :: UInt8.ofNat (a ^^^ b ^^^ c ^^^ d) :: r) = _
  unfold read
  dsimp only
  rw [if_neg (by decide), ofNat_toNat ha, ofNat_toNat hb, ofNat_toNat hc, ofNat_toNat hd, ofNat_toNat h3]
theorem hd_len (k n a c : Nat) (b : Bool) (z : Nat) : (hd k n a c b z).length = 6 := rfl
theorem text_len (f : Fr) : (text f).length = 6 + bsz f.data.length := by
  unfold text
  rw [List.length_append, hd_len, body_len]
theorem kind_lt {k : Int} (h : kind k = true) : 0 ≤ k ∧ k ≤ 5 := by have := kind_cases h; omega
theorem caller_bit (k : Nat) (b : Bool) (z : Nat) (hz : z < 4096) : (k * 32 + bit b + z / 256) / 32 = k ∧ decide ((k * 32 + bit b + z / 256) / 16 % 2 = 1) = b ∧ (k * 32 + bit b + z / 256) % 16 = z / 256 := by
  have h1 : z / 256 < 16 := by omega
  cases b
  · simp only [bit]
    refine ⟨by simp; omega, ?_, by simp; omega⟩
    apply decide_eq_false
    simp; omega
  · simp only [bit]
    refine ⟨by simp; omega, ?_, by simp; omega⟩
    apply decide_eq_true
    simp; omega
/-- Read of a packet's text, cut behind the head or not. -/
theorem read_hd {f : Fr} (h : ok f) (r : List UInt8) :
    read (hd f.kd.toNat f.nm.toNat f.ak.toNat f.ch.toNat f.ca f.data.length ++ r) = if r.length < bsz f.data.length then .error 2 else if body (r.take f.data.length) = r.take (bsz f.data.length) then .ok ({ f with data := r.take f.data.length }, 6 + bsz f.data.length) else .error 4 := by
  obtain ⟨⟨hk, ⟨n0, n1⟩, ⟨a0, a1⟩, c0, c1⟩, hl⟩ := h
  obtain ⟨k0, k5⟩ := kind_lt hk
  obtain ⟨kd, nm, ak, ch, ca, data⟩ := f
  dsimp only at *
  obtain ⟨k, rfl⟩ : ∃ m : Nat, kd = (m : Int) := ⟨kd.toNat, by omega⟩
  obtain ⟨n, rfl⟩ : ∃ m : Nat, nm = (m : Int) := ⟨nm.toNat, by omega⟩
  obtain ⟨a, rfl⟩ : ∃ m : Nat, ak = (m : Int) := ⟨ak.toNat, by omega⟩
  obtain ⟨c, rfl⟩ : ∃ m : Nat, ch = (m : Int) := ⟨ch.toNat, by omega⟩
  simp only [Int.toNat_natCast]
  generalize data.length = z at *
  obtain ⟨e1, e2, e3⟩ := caller_bit k ca z hl
  have hb := bit_le ca
  unfold hd
  rw [read_head (by omega) (by omega) (by omega) (by omega)]
  unfold readHead
  rw [if_neg (by rw [e1, hk]; simp)]
  unfold readBody
  rw [e1, e2, e3, show z / 256 * 256 + z % 256 = z by omega, show (n * 8 + c) / 8 = n by omega, show (a * 8 + c) / 8 = a by omega, show (n * 8 + c) % 8 = c by omega]
theorem body_take (l r : List UInt8) : (body l ++ r).take l.length = l ∧ (body l ++ r).take (bsz l.length) = body l := by
  refine ⟨?_, by rw [← body_len]; exact List.take_left⟩
  unfold body
  split
  · rename_i h; subst h; rfl
  · rw [List.append_assoc, List.take_left]
/-- What is written is read as it was. -/
theorem read_text {f : Fr} (h : ok f) (r : List UInt8) : read (text f ++ r) = .ok (f, (text f).length) := by
  rw [text_len]
  unfold text
  rw [List.append_assoc, read_hd h, if_neg (by rw [List.length_append, body_len]; omega), (body_take f.data r).1, (body_take f.data r).2, if_pos rfl]
/-- The head, out of bytes. -/
theorem head_bytes {a b c d e : UInt8} (h : a.toNat ^^^ b.toNat ^^^ c.toNat ^^^ d.toNat = e.toNat) : head a.toNat b.toNat c.toNat d.toNat = [7, a, b, c, d, e] := by
  unfold head
  rw [h, byte_eq, byte_eq, byte_eq, byte_eq, byte_eq]
/-- What is read is written so. -/
theorem text_read {s : List UInt8} {f : Fr} {n : Nat} (h : read s = .ok (f, n)) : ok f ∧ text f = s.take n ∧ 6 ≤ n ∧ n ≤ s.length := by
  match s with
  | [] => cases h
  | [a] | [a, _] | [a, _, _] | [a, _, _, _] | [a, _, _, _, _] => unfold read at h; dsimp only at h; split at h <;> cases h
  | x :: a :: b :: c :: d :: e :: r =>
    unfold read at h
    dsimp only at h
    split at h
    · cases h
    rename_i hx
    have hx : x = 7 := Decidable.not_not.1 hx
    subst hx
    unfold readHead at h
    split at h
    · cases h
    rename_i hn
    have h1 : a.toNat ^^^ b.toNat ^^^ c.toNat ^^^ d.toNat = e.toNat := Decidable.not_not.1 fun q => hn (Or.inl q)
    have h2 : kind (c.toNat / 32 : Nat) = true := by
      cases q : kind (c.toNat / 32 : Nat)
      · exact absurd (Or.inr (Or.inl q)) hn
      · rfl
    have h3 : a.toNat % 8 = b.toNat % 8 := Decidable.not_not.1 fun q => hn (Or.inr (Or.inr q))
    clear hn
    have ha := a.toNat_lt
    have hb := b.toNat_lt
    have hc := c.toNat_lt
    have hd' := d.toNat_lt
    unfold readBody at h
    generalize hz : c.toNat % 16 * 256 + d.toNat = z at *
    split at h
    · cases h
    rename_i hl
    split at h
    · rename_i hbd
      have h := Except.ok.inj h
      obtain ⟨rfl, rfl⟩ := Prod.mk.inj h
      have hzl := bsz_le z
      have hlen : (r.take z).length = z := by rw [List.length_take]; omega
      refine ⟨⟨⟨h2, ⟨by dsimp only; omega, by dsimp only; omega⟩, ⟨by dsimp only; omega, by dsimp only; omega⟩, by dsimp only; omega, by dsimp only; omega⟩, by dsimp only; omega⟩, ?_, by omega, by simp only [List.length_cons]; omega⟩
      unfold text
      dsimp only
      rw [hlen, hbd]
      unfold hd
      simp only [Int.toNat_natCast]
      have hbit : bit (decide (c.toNat / 16 % 2 = 1)) = c.toNat / 16 % 2 * 16 := by
        unfold bit
        rcases Nat.mod_two_eq_zero_or_one (c.toNat / 16) with q | q
        · rw [q]; rfl
        · rw [q]; rfl
      rw [hbit, show a.toNat / 8 * 8 + a.toNat % 8 = a.toNat by omega, show b.toNat / 8 * 8 + a.toNat % 8 = b.toNat by omega, show c.toNat / 32 * 32 + c.toNat / 16 % 2 * 16 + z / 256 = c.toNat by omega, show z % 256 = d.toNat by omega, head_bytes h1, Nat.add_comm 6]
      rfl
    · cases h
theorem read_err0 (s : List UInt8) : ¬ read s = .error 0 := by
  intro h
  match s with
  | [] => cases h
  | [a] | [a, _] | [a, _, _] | [a, _, _, _] | [a, _, _, _, _] => unfold read at h; dsimp only at h; split at h <;> cases h
  | x :: a :: b :: c :: d :: e :: r =>
    unfold read at h
    dsimp only at h
    split at h
    · cases h
    unfold readHead at h
    split at h
    · cases h
    unfold readBody at h
    split at h
    · cases h
    split at h <;> cases h
theorem read_few {s : List UInt8} (h : s.length < 6) (h0 : s = [] ∨ s.getD 0 0 = 7) : read s = .error 2 := by
  match s with
  | [] => rfl
  | [a] | [a, _] | [a, _, _] | [a, _, _, _] | [a, _, _, _, _] =>
    have ha : a = 7 := by
      rcases h0 with h0 | h0
      · cases h0
      · exact h0
    subst ha
    rfl
  | x :: a :: b :: c :: d :: e :: r => simp only [List.length_cons] at h; omega
/-- A packet that is not whole is too short. -/
theorem read_cut {f : Fr} (h : ok f) (k : Nat) (hk : k < (text f).length) : read ((text f).take k) = .error 2 := by
  rw [text_len] at hk
  by_cases h6 : k < 6
  · apply read_few
    · rw [List.length_take]; omega
    · unfold text hd head
      match k with
      | 0 => left; rfl
      | k + 1 => right; rfl
  · unfold text
    rw [List.take_append, hd_len, List.take_of_length_le (by rw [hd_len]; omega), read_hd h, if_pos (by rw [List.length_take, body_len]; omega)]
/-- A byte of the head that is turned is told. -/
theorem xor_ne {a y : Nat} (hy : ¬ y = 0) : ¬ a ^^^ y = a := fun e => hy (by
  have := congrArg (fun x => a ^^^ x) e
  rw [show a ^^^ (a ^^^ y) = y by rw [← Nat.xor_assoc, Nat.xor_self, Nat.zero_xor], Nat.xor_self] at this
  exact this)
theorem x1 (a b c d y : Nat) : (a ^^^ y) ^^^ b ^^^ c ^^^ d = (a ^^^ b ^^^ c ^^^ d) ^^^ y := by
  rw [Nat.xor_assoc, Nat.xor_assoc, Nat.xor_assoc a y, Nat.xor_comm y, ← Nat.xor_assoc, ← Nat.xor_assoc, ← Nat.xor_assoc]
theorem x2 (a b c d y : Nat) : a ^^^ (b ^^^ y) ^^^ c ^^^ d = (a ^^^ b ^^^ c ^^^ d) ^^^ y := by
  rw [Nat.xor_comm a (b ^^^ y), x1, Nat.xor_comm b a]
theorem x3 (a b c d y : Nat) : a ^^^ b ^^^ (c ^^^ y) ^^^ d = (a ^^^ b ^^^ c ^^^ d) ^^^ y := by
  rw [← Nat.xor_assoc (a ^^^ b) c y, Nat.xor_assoc (a ^^^ b ^^^ c) y d, Nat.xor_comm y d, ← Nat.xor_assoc]
theorem x4 (a b c d y : Nat) : a ^^^ b ^^^ c ^^^ (d ^^^ y) = (a ^^^ b ^^^ c ^^^ d) ^^^ y := by rw [← Nat.xor_assoc]
theorem toNat_xor (a b : UInt8) : (a ^^^ b).toNat = a.toNat ^^^ b.toNat := UInt8.toNat_xor a b
theorem read_7 {a : UInt8} {r : List UInt8} (h : ¬ a = 7) : read (a :: r) = .error 3 := by unfold read; dsimp only; rw [if_pos h]
theorem read_turned (b1 b2 b3 b4 b5 y : UInt8) (r : List UInt8) (hy : ¬ y.toNat = 0) (hx : b1.toNat ^^^ b2.toNat ^^^ b3.toNat ^^^ b4.toNat = b5.toNat) (k : Nat) (hk : k < 6) :
    read ((7 :: b1 :: b2 :: b3 :: b4 :: b5 :: r).set k ((7 :: b1 :: b2 :: b3 :: b4 :: b5 :: r).getD k 0 ^^^ y)) = .error 3 := by
  have hh : k = 0 ∨ k = 1 ∨ k = 2 ∨ k = 3 ∨ k = 4 ∨ k = 5 := by omega
  rcases hh with rfl | rfl | rfl | rfl | rfl | rfl
  · apply read_7
    intro e
    have := congrArg UInt8.toNat e
    exact xor_ne (a := 7) hy ((toNat_xor 7 y).symm.trans this)
  all_goals
    unfold read
    dsimp only [List.set, List.getD, List.getElem?_cons_zero, List.getElem?_cons_succ, Option.getD]
    rw [if_neg (by decide)]
    unfold readHead
    rw [if_pos]
    left
    rw [toNat_xor]
  · rw [x1, hx]; exact xor_ne hy
  · rw [x2, hx]; exact xor_ne hy
  · rw [x3, hx]; exact xor_ne hy
  · rw [x4, hx]; exact xor_ne hy
  · rw [hx]; exact fun e => xor_ne hy e.symm
theorem hd_bytes {f : Fr} (h : ok f) : ∃ b1 b2 b3 b4 b5 : UInt8, hd f.kd.toNat f.nm.toNat f.ak.toNat f.ch.toNat f.ca f.data.length = [7, b1, b2, b3, b4, b5] ∧ b1.toNat ^^^ b2.toNat ^^^ b3.toNat ^^^ b4.toNat = b5.toNat := by
  obtain ⟨⟨hk, ⟨n0, n1⟩, ⟨a0, a1⟩, c0, c1⟩, hl⟩ := h
  obtain ⟨k0, k5⟩ := kind_lt hk
  have hb := bit_le f.ca
  have q1 : f.nm.toNat * 8 + f.ch.toNat < 256 := by omega
  have q2 : f.ak.toNat * 8 + f.ch.toNat < 256 := by omega
  have q3 : f.kd.toNat * 32 + bit f.ca + f.data.length / 256 < 256 := by omega
  have q4 : f.data.length % 256 < 256 := by omega
  exact ⟨_, _, _, _, _, rfl, by rw [ofNat_toNat q1, ofNat_toNat q2, ofNat_toNat q3, ofNat_toNat q4, ofNat_toNat (xor_byte q1 q2 q3 q4)]⟩
theorem text_turned {f : Fr} (h : ok f) (y : UInt8) (hy : ¬ y.toNat = 0) (k : Nat) (hk : k < 6) : read ((text f).set k ((text f).getD k 0 ^^^ y)) = .error 3 := by
  obtain ⟨b1, b2, b3, b4, b5, e, hx⟩ := hd_bytes h
  unfold text
  rw [e]
  exact read_turned b1 b2 b3 b4 b5 y (body f.data) hy hx k hk
/-- Up to four neighbouring bytes of the data that are others are told. -/
theorem data_turned {f : Fr} (h : ok f) (p l m q : List UInt8) (hf : f.data = p ++ (l ++ q)) (hlm : l.length = m.length) (h4 : l.length ≤ 4) (hne : ¬ l = m) :
    read (hd f.kd.toNat f.nm.toNat f.ak.toNat f.ch.toNat f.ca f.data.length ++ ((p ++ (m ++ q)) ++ be4 (crc f.data))) = .error 4 := by
  have hl : (p ++ (m ++ q)).length = f.data.length := by rw [hf]; simp only [List.length_append]; omega
  have hn : ¬ f.data = [] := by
    intro e
    rw [hf] at e
    have e2 : l = [] := by
      have := (List.append_eq_nil_iff.1 e).2
      exact (List.append_eq_nil_iff.1 this).1
    subst e2
    exact hne (List.eq_nil_of_length_eq_zero hlm.symm).symm
  have hn0 : ¬ f.data.length = 0 := fun e => hn (List.eq_nil_of_length_eq_zero e)
  have hb : bsz f.data.length = f.data.length + 4 := by unfold bsz; rw [if_neg hn0]
  have hmn : ¬ p ++ (m ++ q) = [] := fun e => hn0 (by rw [← hl, e]; rfl)
  rw [read_hd h, if_neg (by rw [List.length_append, be4_len, hb]; omega), if_neg]
  intro e
  rw [← hl, List.take_left, hl, hb, List.take_of_length_le (by rw [List.length_append, be4_len]; omega)] at e
  unfold body at e
  rw [if_neg hmn] at e
  have e := be4_inj (crc_lt _) (crc_lt _) (List.append_cancel_left e)
  unfold crc at e
  rw [hf] at e
  exact hne (Chk.crc_near p l m q hlm h4 e.symm)
end If
end Go.Proofs.Ytghelhcmecmldaa
