/-
  Mathematics of layer 12: packets of the protocol i as lists of bytes; what is written is read. Mathematics of layer 16: one end of the protocol i, as the document says it.
-/
import Derived.Test.YtomldoijcclhhaaGreatSkAA
import Derived.Test.YtomldoijcclhhaaGreatSkAB
namespace Go.Proofs.YtomldoijcclhhaaGreat
namespace If
/-- A packet. -/
structure Fr where
  kd : Int
  nm : Int
  ak : Int
  ch : Int
  ca : Bool
  data : List UInt8
def zero : Fr := ⟨0, 0, 0, 0, false, []⟩
/-- What Read answers: a packet and how many bytes it has, or an error. -/
abbrev Res := Except Nat (Fr × Nat)
def kind (k : Int) : Bool := k == 0 || k == 1 || k == 2 || k == 3 || k == 5
theorem kind_cases {k : Int} (h : kind k = true) : k = 0 ∨ k = 1 ∨ k = 2 ∨ k = 3 ∨ k = 5 := by
  simp [kind] at h; omega
theorem kind_no {k : Int} (h : kind k = false) : ¬ k = 0 ∧ ¬ k = 1 ∧ ¬ k = 2 ∧ ¬ k = 3 ∧ ¬ k = 5 := by
  simp [kind] at h; omega
/-- A head. -/
def head (a b c d : Nat) : List UInt8 := [7, UInt8.ofNat a, UInt8.ofNat b, UInt8.ofNat c, UInt8.ofNat d, UInt8.ofNat (a ^^^ b ^^^ c ^^^ d)]
/-- A number in four bytes. -/
def be4 (n : Nat) : List UInt8 := [UInt8.ofNat (n / 16777216), UInt8.ofNat (n / 65536), UInt8.ofNat (n / 256), UInt8.ofNat n]
theorem ofNat_toNat {n : Nat} (h : n < 256) : (UInt8.ofNat n).toNat = n := by
  rw [UInt8.toNat_ofNat']; exact Nat.mod_eq_of_lt h
theorem byte_eq (b : UInt8) : UInt8.ofNat b.toNat = b := UInt8.ofNat_toNat
theorem be4_len (n : Nat) : (be4 n).length = 4 := rfl
def crc (l : List UInt8) : Nat := Chk.more 0 l
theorem crc_lt (l : List UInt8) : crc l < 4294967296 := Chk.more_lt 0 l
/-- What stands behind a head. -/
def body (l : List UInt8) : List UInt8 := if l = [] then [] else l ++ be4 (crc l)
def bsz (n : Nat) : Nat := if n = 0 then 0 else n + 4
theorem body_len (l : List UInt8) : (body l).length = bsz l.length := by
  unfold body bsz
  by_cases h : l = []
  · subst h; rfl
  · rw [if_neg h, if_neg (fun e => h (List.eq_nil_of_length_eq_zero e)), List.length_append, be4_len]
theorem bsz_le (n : Nat) : n ≤ bsz n ∧ bsz n ≤ n + 4 := by unfold bsz; split <;> omega
/-- Whether a packet may be. -/
def args (f : Fr) : Prop := kind f.kd = true ∧ (0 ≤ f.nm ∧ f.nm ≤ 31) ∧ (0 ≤ f.ak ∧ f.ak ≤ 31) ∧ (0 ≤ f.ch ∧ f.ch ≤ 7)
def ok (f : Fr) : Prop := args f ∧ f.data.length < 4096
def bit (c : Bool) : Nat := if c = true then 16 else 0
def hd (k n a c : Nat) (b : Bool) (z : Nat) : List UInt8 := head (n * 8 + c) (a * 8 + c) (k * 32 + bit b + z / 256) (z % 256)
def text (f : Fr) : List UInt8 := hd f.kd.toNat f.nm.toNat f.ak.toNat f.ch.toNat f.ca f.data.length ++ body f.data
theorem bit_le (b : Bool) : bit b = 0 ∨ bit b = 16 := by cases b <;> simp [bit]

/-- Read behind the head. -/
def readBody (a b c n : Nat) (r : List UInt8) : Res :=
  if r.length < bsz n then .error 2
  else if body (r.take n) = r.take (bsz n) then .ok (⟨(c / 32 : Nat), (a / 8 : Nat), (b / 8 : Nat), (a % 8 : Nat), decide (c / 16 % 2 = 1), r.take n⟩, 6 + bsz n)
  else .error 4
def readHead (a b c d e : Nat) (r : List UInt8) : Res :=
  if (a ^^^ b ^^^ c ^^^ d) ≠ e ∨ kind (c / 32 : Nat) = false ∨ a % 8 ≠ b % 8 then .error 3
  else readBody a b c (c % 16 * 256 + d) r
def read : List UInt8 → Res
  | [] => .error 2
  | x :: r =>
    if x ≠ 7 then .error 3
    else match r with
      | a :: b :: c :: d :: e :: t => readHead a.toNat b.toNat c.toNat d.toNat e.toNat t
      | _ => .error 2
/-- Scan. -/
structure Sc where
  f : Fr
  a : Nat
  b : Nat
  ok : Bool
def scan : Nat → List UInt8 → Sc
  | p, [] => ⟨zero, p, p, false⟩
  | p, c :: r => match read (c :: r) with
    | .ok x => ⟨x.1, p, p + x.2, true⟩
    | .error e => if e = 2 then ⟨zero, p, p, false⟩ else scan (p + 1) r

theorem xor_byte {a b c d : Nat} (ha : a < 256) (hb : b < 256) (hc : c < 256) (hd : d < 256) : a ^^^ b ^^^ c ^^^ d < 256 := Chk.xor8 (Chk.xor8 (Chk.xor8 ha hb) hc) hd
/-- A head is read as it was. -/
theorem read_head {a b c d : Nat} (ha : a < 256) (hb : b < 256) (hc : c < 256) (hd : d < 256) (r : List UInt8) :
    read (head a b c d ++ r) = readHead a b c d (a ^^^ b ^^^ c ^^^ d) r := by
  have h3 := xor_byte ha hb hc hd
  show read (7 :: UInt8.ofNat a :: UInt8.ofNat b :: UInt8.ofNat c :: UInt8.ofNat d :: UInt8.ofNat (a ^^^ b ^^^ c ^^^ d) :: r) = _
  unfold read
  dsimp only
  rw [if_neg (by decide), ofNat_toNat ha, ofNat_toNat hb, ofNat_toNat hc, ofNat_toNat hd, ofNat_toNat h3]
theorem hd_len (k n a c : Nat) (b : Bool) (z : Nat) : (hd k n a c b z).length = 6 := rfl
theorem text_len (f : Fr) : (text f).length = 6 + bsz f.data.length := by
  unfold text
  rw [List.length_append, hd_len, body_len]
theorem kind_lt {k : Int} (h : kind k = true) : 0 ≤ k ∧ k ≤ 5 := by have := kind_cases h; omega
theorem caller_bit (k : Nat) (b : Bool) (z : Nat) (hz : z < 4096) : (k * 32 + bit b + z / 256) / 32 = k ∧ decide ((k * 32 + bit b + z / 256) / 16 % 2 = 1) = b ∧ (k * 32 + bit b + z / 256) % 16 = z / 256 := by
  have h1 : z / 256 < 16 := by omega
  cases b
  · simp only [bit]
    refine ⟨by simp; omega, ?_, by simp; omega⟩
    apply decide_eq_false
    simp; omega
  · simp only [bit]
    refine ⟨by simp; omega, ?_, by simp; omega⟩
    apply decide_eq_true
    simp; omega
/-- Read of a packet's text, cut behind the head or not. -/
theorem read_hd {f : Fr} (h : ok f) (r : List UInt8) :
    read (hd f.kd.toNat f.nm.toNat f.ak.toNat f.ch.toNat f.ca f.data.length ++ r) = if r.length < bsz f.data.length then .error 2 else if body (r.take f.data.length) = r.take (bsz f.data.length) then .ok ({ f with data := r.take f.data.length }, 6 + bsz f.data.length) else .error 4 := by
  obtain ⟨⟨hk, ⟨n0, n1⟩, ⟨a0, a1⟩, c0, c1⟩, hl⟩ := h
  obtain ⟨k0, k5⟩ := kind_lt hk
  obtain ⟨kd, nm, ak, ch, ca, data⟩ := f
  dsimp only at *
  obtain ⟨k, rfl⟩ : ∃ m : Nat, kd = (m : Int) := ⟨kd.toNat, by omega⟩
  obtain ⟨n, rfl⟩ : ∃ m : Nat, nm = (m : Int) := ⟨nm.toNat, by omega⟩
  obtain ⟨a, rfl⟩ : ∃ m : Nat, ak = (m : Int) := ⟨ak.toNat, by omega⟩
  obtain ⟨c, rfl⟩ : ∃ m : Nat, ch = (m : Int) := ⟨ch.toNat, by omega⟩
  simp only [Int.toNat_natCast]
  generalize data.length = z at *
  obtain ⟨e1, e2, e3⟩ := caller_bit k ca z hl
  have hb := bit_le ca
  unfold hd
  rw [read_head (by omega) (by omega) (by omega) (by omega)]
  unfold readHead
  rw [if_neg (by rw [e1, hk]; simp)]
  unfold readBody
  rw [e1, e2, e3, show z / 256 * 256 + z % 256 = z by omega, show (n * 8 + c) / 8 = n by omega, show (a * 8 + c) / 8 = a by omega, show (n * 8 + c) % 8 = c by omega]
theorem body_take (l r : List UInt8) : (body l ++ r).take l.length = l ∧ (body l ++ r).take (bsz l.length) = body l := by
  refine ⟨?_, by rw [← body_len]; exact List.take_left⟩
  unfold body
  split
  · rename_i h; subst h; rfl
  · rw [List.append_assoc, List.take_left]
/-- What is written is read as it was. -/
theorem read_text {f : Fr} (h : ok f) (r : List UInt8) : read (text f ++ r) = .ok (f, (text f).length) := by
  rw [text_len]
  unfold text
  rw [List.append_assoc, read_hd h, if_neg (by rw [List.length_append, body_len]; omega), (body_take f.data r).1, (body_take f.data r).2, if_pos rfl]
/-- The head, out of bytes. -/
theorem head_bytes {a b c d e : UInt8} (h : a.toNat ^^^ b.toNat ^^^ c.toNat ^^^ d.toNat = e.toNat) : head a.toNat b.toNat c.toNat d.toNat = [7, a, b, c, d, e] := by
  unfold head
  rw [h, byte_eq, byte_eq, byte_eq, byte_eq, byte_eq]
/-- What is read is written so. -/
theorem text_read {s : List UInt8} {f : Fr} {n : Nat} (h : read s = .ok (f, n)) : ok f ∧ text f = s.take n ∧ 6 ≤ n ∧ n ≤ s.length := by
  match s with
  | [] => cases h
  | [a] | [a, _] | [a, _, _] | [a, _, _, _] | [a, _, _, _, _] => unfold read at h; dsimp only at h; split at h <;> cases h
  | x :: a :: b :: c :: d :: e :: r =>
    unfold read at h
    dsimp only at h
    split at h
    · cases h
    rename_i hx
    have hx : x = 7 := Decidable.not_not.1 hx
    subst hx
    unfold readHead at h
    split at h
    · cases h
    rename_i hn
    have h1 : a.toNat ^^^ b.toNat ^^^ c.toNat ^^^ d.toNat = e.toNat := Decidable.not_not.1 fun q => hn (Or.inl q)
    have h2 : kind (c.toNat / 32 : Nat) = true := by
      cases q : kind (c.toNat / 32 : Nat)
      · exact absurd (Or.inr (Or.inl q)) hn
      · rfl
    have h3 : a.toNat % 8 = b.toNat % 8 := Decidable.not_not.1 fun q => hn (Or.inr (Or.inr q))
    clear hn
    have ha := a.toNat_lt
    have hb := b.toNat_lt
    have hc := c.toNat_lt
    have hd' := d.toNat_lt
    unfold readBody at h
    generalize hz : c.toNat % 16 * 256 + d.toNat = z at *
    split at h
    · cases h
    rename_i hl
    split at h
    · rename_i hbd
      have h := Except.ok.inj h
      obtain ⟨rfl, rfl⟩ := Prod.mk.inj h
      have hzl := bsz_le z
      have hlen : (r.take z).length = z := by rw [List.length_take]; omega
      refine ⟨⟨⟨h2, ⟨by dsimp only; omega, by dsimp only; omega⟩, ⟨by dsimp only; omega, by dsimp only; omega⟩, by dsimp only; omega, by dsimp only; omega⟩, by dsimp only; omega⟩, ?_, by omega, by simp only [List.length_cons]; omega⟩
      unfold text
      dsimp only
      rw [hlen, hbd]
      unfold hd
      simp only [Int.toNat_natCast]
      have hbit : bit (decide (c.toNat / 16 % 2 = 1)) = c.toNat / 16 % 2 * 16 := by
        unfold bit
        rcases Nat.mod_two_eq_zero_or_one (c.toNat / 16) with q | q
        · rw [q]; rfl
        · rw [q]; rfl
      rw [hbit, show a.toNat / 8 * 8 + a.toNat % 8 = a.toNat by omega, show b.toNat / 8 * 8 + a.toNat % 8 = b.toNat by omega, show c.toNat / 32 * 32 + c.toNat / 16 % 2 * 16 + z / 256 = c.toNat by omega, show z % 256 = d.toNat by omega, head_bytes h1, Nat.add_comm 6]
      rfl
    · cases h
theorem x1 (a b c d y : Nat) : (a ^^^ y) ^^^ b ^^^ c ^^^ d = (a ^^^ b ^^^ c ^^^ d) ^^^ y := by
  rw [Nat.xor_assoc, Nat.xor_assoc, Nat.xor_assoc a y, Nat.xor_comm y, ← Nat.xor_assoc, ← Nat.xor_assoc, ← Nat.xor_assoc]
theorem x2 (a b c d y : Nat) : a ^^^ (b ^^^ y) ^^^ c ^^^ d = (a ^^^ b ^^^ c ^^^ d) ^^^ y := by
  rw [Nat.xor_comm a (b ^^^ y), x1, Nat.xor_comm b a]
theorem x3 (a b c d y : Nat) : a ^^^ b ^^^ (c ^^^ y) ^^^ d = (a ^^^ b ^^^ c ^^^ d) ^^^ y := by
  rw [← Nat.xor_assoc (a ^^^ b) c y, Nat.xor_assoc (a ^^^ b ^^^ c) y d, Nat.xor_comm y d, ← Nat.xor_assoc]
theorem x4 (a b c d y : Nat) : a ^^^ b ^^^ c ^^^ (d ^^^ y) = (a ^^^ b ^^^ c ^^^ d) ^^^ y := by rw [← Nat.xor_assoc]
theorem toNat_xor (a b : UInt8) : (a ^^^ b).toNat = a.toNat ^^^ b.toNat := UInt8.toNat_xor a b
end If
end Go.Proofs.YtomldoijcclhhaaGreat

namespace Go.Proofs.YtomldoijcclhhaaGreat
namespace Ip
open Gp (Dr Pc Fi)
/-- How far a number is ahead. -/
def early (wants n : Int) : Int := Wn.ahead wants n 32
/-- What came early has bytes, and stands in the order in which it is waited for. -/
def okAhead (wants : Int) : Int → List Fi → Prop
  | _, [] => True
  | last, f :: r => f.data.size ≠ 0 ∧ last < early wants f.nm ∧ early wants f.nm ≤ 15 ∧ okAhead wants (early wants f.nm) r
def okPc (p : Pc) : Prop := p.data.size ≠ 0 ∧ 0 ≤ p.ch ∧ p.ch ≤ 7
def okText (z : Int) (s : ByteArray) : Prop := 2 ≤ s.size ∧ (s.size : Int) ≤ z + 1 ∧ (s.data.toList.headD 0).toNat ≤ 7
/-- P16.6, but for the phase. -/
structure base (d : Dr) : Prop where
  lt : d.letter = 105
  sz : 1 ≤ d.size ∧ d.size ≤ 4095
  rm : 1 ≤ d.room ∧ d.room ≤ 16
  wn : 0 ≤ d.wants ∧ d.wants ≤ 31
  at_ : 0 ≤ d.at_ ∧ d.at_ ≤ 1099511627776
  wt : 0 ≤ d.wait ∧ d.wait ≤ 3
  tr : 0 ≤ d.tries ∧ d.tries ≤ 13
  qu : ∀ p ∈ d.queue, okPc p
  wi : ∀ s ∈ d.win.l, okText d.size s
  ah : okAhead d.wants 0 d.ahead
structure runs (d : Dr) : Prop where
  st : -1 ≤ d.step ∧ d.step ≤ 31
  md : d.win.md = 32
  ws : d.win.sz = d.room
  bs : 0 ≤ d.win.bs ∧ d.win.bs < 32
  ln : (d.win.l.length : Int) ≤ d.win.sz
/-- P16.6. -/
def right (d : Dr) : Prop := base d ∧ ((d.phase = 1 ∧ d.win.l = [] ∧ d.ahead = []) ∨ (d.phase = 2 ∧ runs d) ∨ d.phase = 3 ∨ d.phase = 4 ∨ d.phase = 5)
def last (d : Dr) : Int := (d.wants + 31) % 32
/-- A packet that is said. -/
def pk (d : Dr) (kd nm ch : Int) (data : List UInt8) : List UInt8 := If.text ⟨kd, nm, last d, ch, d.caller, data⟩
def sync (d : Dr) : List UInt8 := pk d 1 0 0 [UInt8.ofNat (d.size.toNat / 256), UInt8.ofNat (d.size.toNat % 256), UInt8.ofNat d.room.toNat]
def begin_ (caller : Bool) (size room : Int) : Dr := ⟨105, 1, caller, 0, size, room, Wn.zero, 1, [], [], 0, [], 0, 0, []⟩
/-- A text of the window: its channel's byte, and its bytes. -/
def entry (ch : Int) (s : ByteArray) : ByteArray := ⟨#[UInt8.ofNat ch.toNat]⟩ ++ s
def packet (d : Dr) (n : Int) (s : ByteArray) : List UInt8 := pk d 0 n (s.data.toList.headD 0).toNat s.data.toList.tail
def allFrom (d : Dr) : List ByteArray → Nat → List UInt8
  | [], _ => []
  | s :: r, i => packet d (Wn.num d.win i) s ++ allFrom d r (i + 1)
def all (d : Dr) : List UInt8 := allFrom d d.win.l 0
/-- What waits goes: one text. -/
def fill1 (d : Dr) (p : Pc) : Dr × List UInt8 :=
  let k := min p.data.size d.size.toNat
  let s := entry p.ch (p.data.extract 0 k)
  let w := Wn.put d.win s
  ({ d with win := w.1, queue := Gp.cutQ d.queue k }, packet { d with win := w.1 } w.2.1 s)
def fillN : Nat → Dr → List UInt8 → Dr × List UInt8
  | 0, d, out => (d, out)
  | f + 1, d, out => match d.queue with
    | [] => (d, out)
    | p :: _ => if d.phase = 2 ∧ (d.win.l.length : Int) < d.win.sz then fillN f (fill1 d p).1 (out ++ (fill1 d p).2) else (d, out)
def fill (d : Dr) : Dr × List UInt8 := fillN 17 d []
/-- The other end's sync. -/
def opens (d : Dr) (data : List UInt8) : Dr × List UInt8 :=
  match data with
  | [a, b, c] =>
    if d.phase = 1 then
      if a.toNat * 256 + b.toNat = 0 ∨ c.toNat = 0 then (d, [])
      else
        let r := min d.room (c.toNat : Int)
        ({ d with size := min d.size ((a.toNat * 256 + b.toNat : Nat) : Int), room := r, phase := 2, step := -1, tries := 0, win := (Wn.begin_ 32 r 1).1 }, [])
    else if d.phase = 2 then (if d.wait % 2 = 1 then (d, []) else ({ d with wait := Gp.or1 d.wait }, sync { d with wait := Gp.or1 d.wait }))
    else (d, [])
  | _ => (d, [])
def closes (d : Dr) : Dr × List UInt8 :=
  if d.phase = 3 then ({ d with phase := 4, step := 0 }, [])
  else if d.phase = 4 then (d, if d.step = 1 then pk d 5 0 0 [] else [])
  else if d.phase = 5 then (d, [])
  else ({ d with phase := 4, step := 1 }, pk d 5 0 0 [])
def toFi (f : If.Fr) : Fi := ⟨f.kd, f.nm, f.ak, f.ch, f.ca, ⟨f.data.toArray⟩⟩
/-- A packet that came early stands by its number, once. -/
def ins (wants : Int) (f : Fi) : List Fi → List Fi
  | [] => [f]
  | g :: r => if early wants g.nm < early wants f.nm then g :: ins wants f r else if early wants g.nm = early wants f.nm then g :: r else f :: g :: r
/-- What was waited for comes, and what stands ready behind it. -/
def drain : Nat → Dr → List Pc → Dr × List Pc
  | 0, d, l => (d, l)
  | n + 1, d, l => match d.ahead with
    | [] => (d, l)
    | g :: r => if g.nm = d.wants then drain n { d with wants := (d.wants + 1) % 32, ahead := r } (l ++ [⟨g.ch, g.data⟩]) else (d, l)
def orders (d : Dr) (f : If.Fr) : Dr × List UInt8 × List Pc :=
  let k := early d.wants f.nm
  if k = 0 then
    let r := drain d.ahead.length { d with wants := (d.wants + 1) % 32 } [⟨f.ch, ⟨f.data.toArray⟩⟩]
    (r.1, pk r.1 2 0 0 [], r.2)
  else if k ≤ 15 then
    let e : Dr := { d with ahead := ins d.wants (toFi f) d.ahead }
    if e.wait % 2 = 1 then (e, [], []) else ({ e with wait := Gp.or1 e.wait }, pk e 3 e.wants 0 [], [])
  else (d, pk d 2 0 0 [], [])
/-- A packet that neither opens nor closes. -/
def takes2 (d : Dr) (f : If.Fr) : Dr × List UInt8 × List Pc :=
  if d.phase = 3 then (d, pk d 5 0 0 [], [])
  else if d.phase ≠ 2 then (d, [], [])
  else
    let d := Gp.acked d f.ak
    if f.kd = 3 then (match Wn.find d.win f.nm with
      | some s => (d, packet d f.nm s, [])
      | none => (d, [], []))
    else if f.kd = 0 ∧ f.data ≠ [] then orders d f
    else (d, [], [])
/-- A packet came. -/
def takes (d : Dr) (f : If.Fr) : Dr × List UInt8 × List Pc :=
  if f.ca = d.caller then (d, [], [])
  else
    let d : Dr := { d with wait := Gp.or2 d.wait }
    if f.kd = 1 then ((opens d f.data).1, (opens d f.data).2, [])
    else if f.kd = 5 then ((closes d).1, (closes d).2, [])
    else takes2 d f
def feedN : Nat → Dr → List UInt8 → List Pc → Dr × List UInt8 × List Pc
  | 0, d, out, came => (d, out, came)
  | f + 1, d, out, came =>
    let x := If.scan 0 d.buf
    if x.ok = true then
      let e : Dr := { d with took := d.took ++ [(d.at_ + x.a, d.at_ + x.b)], buf := d.buf.drop x.b, at_ := d.at_ + x.b }
      let r := takes e x.f
      feedN f r.1 (out ++ r.2.1) (came ++ r.2.2)
    else ({ d with buf := d.buf.drop x.a, at_ := d.at_ + x.a }, out, came)
/-- Neighbours of one channel are one piece. -/
def join : List Pc → List Pc
  | [] => []
  | p :: r => match join r with
    | [] => [p]
    | q :: t => if p.ch = q.ch then ⟨p.ch, p.data ++ q.data⟩ :: t else p :: q :: t
def feed (d : Dr) (s : List UInt8) : Dr × List UInt8 × List Pc :=
  let r := feedN (d.buf.length + s.length + 1) { Gp.own d with buf := d.buf ++ s } [] []
  ((fill r.1).1, r.2.1 ++ (fill r.1).2, r.2.2)
def tick (d : Dr) : Dr × List UInt8 :=
  let d := Gp.own d
  let d : Dr := if 2 ≤ d.wait then { d with wait := 0 } else { d with at_ := d.at_ + d.buf.length, buf := [], wait := 0 }
  if d.phase = 1 ∨ d.phase = 3 then
    let d : Dr := { d with tries := d.tries + 1 }
    if 12 < d.tries then (if d.phase = 3 then ({ d with phase := 4, step := 0 }, []) else ({ d with phase := 5 }, []))
    else if d.phase = 3 then (d, pk d 5 0 0 []) else (d, sync d)
  else if d.phase = 2 then
    if d.win.l = [] then ({ d with step := -1 }, [])
    else if d.step ≠ d.win.bs then ({ d with step := d.win.bs }, [])
    else
      let d : Dr := { d with tries := d.tries + 1 }
      if 12 < d.tries then ({ d with phase := 5 }, []) else (d, all d)
  else (d, [])
def close (d : Dr) : Dr × List UInt8 := if d.phase ≠ 1 ∧ d.phase ≠ 2 then (Gp.own d, []) else ({ Gp.own d with phase := 3, tries := 0, step := 0 }, pk { Gp.own d with phase := 3, tries := 0, step := 0 } 5 0 0 [])
end Ip
end Go.Proofs.YtomldoijcclhhaaGreat
