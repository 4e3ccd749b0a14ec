/-
  Walks of layers 15 and 16: rows that an end on its way through a call holds, what stays, a builder of the call's own. Mathematics of layer 12: packets of the protocol i as lists of bytes; what is written is read. Mathematics of layer 16: one end of the protocol i, as the document says it.
-/
import Derived.Test.YtlclfkogbfigbaaCuAA
import Derived.Test.YtlclfkogbfigbaaCuAD
import Derived.Lib.OthersKept
import Derived.Lib.FrozenHead2
import Derived.Test.YtlclfkogbfigbaaCuAB
import Derived.Test.YtlclfkogbfigbaaCuAC
namespace Go.Proofs.Ytlclfkogbfigbaa
open Go.RowKit
/-- a row that is old, or lies in no block that turns -/
def TRow (Kp : Nat → Prop) {α : Type} (E : Rg.El α) (base eb : Nat) (vs : List Value) (W : World) (a : Option Addr) (l : List α) : Prop := l = [] ∨ ∃ b o, a = some ⟨b, o, none⟩ ∧ b < W.heap.size ∧ Rg.At W b o (E.flat l) ∧ ((b < base ∧ Kp b) ∨ (eb < b ∧ ∀ v ∈ vs, v.ownBlock ≠ some b))
theorem TRow.nil {Kp : Nat → Prop} {α : Type} {E : Rg.El α} {base eb : Nat} {vs : List Value} {W : World} {a : Option Addr} : TRow Kp E base eb vs W a [] := .inl rfl
theorem TRow.e {Kp : Nat → Prop} {α : Type} {E : Rg.El α} {base eb : Nat} {vs : List Value} {W : World} {a : Option Addr} {l : List α} (h : TRow Kp E base eb vs W a l) : ERow E W a l := by
  rcases h with h | ⟨b, o, h1, h2, h3, _⟩
  · exact .inl h
  · exact .inr ⟨b, o, h1, h2, h3⟩
theorem TRow.kept {Kp : Nat → Prop} {α : Type} {E : Rg.El α} {base eb : Nat} {vs vs' : List Value} {W W' : World} {a : Option Addr} {l : List α} (h : TRow Kp E base eb vs W a l) (hb : Below base W W') (hk : ∀ k, k < W.heap.size → k ≠ eb → (∀ v ∈ vs, v.ownBlock ≠ some k) → W'.heap[k]? = W.heap[k]?)
    (hv : ∀ v' ∈ vs', ∀ g, v'.ownBlock = some g → (∃ v ∈ vs, v.ownBlock = some g) ∨ W.heap.size ≤ g) : TRow Kp E base eb vs' W' a l := by
  rcases h with h | ⟨b, o, h1, h2, h3, h4⟩
  · exact .inl h
  · refine .inr ⟨b, o, h1, Nat.lt_of_lt_of_le h2 hb.size, ?_, ?_⟩
    · rcases h4 with h4 | ⟨h4, h5⟩
      · exact h3.below hb h4.1
      · exact h3.same (hk b h2 (by omega) h5)
    · rcases h4 with h4 | ⟨h4, h5⟩
      · exact .inl h4
      · refine .inr ⟨h4, fun v hm hg => ?_⟩
        rcases hv v hm b hg with ⟨v2, m2, e2⟩ | hlt
        · exact h5 v2 m2 e2
        · omega
/-- what stays: all that was there before the call, and every block but the end's own and rows of bytes -/
structure Fr (base eb : Nat) (W W' : World) : Prop where
  bel : Below base W W'
  oth : Lib.OthersKept 5 (some eb) W W'
theorem Fr.refl (base eb : Nat) (W : World) : Fr base eb W W := ⟨Below.refl _ _, Lib.OthersKept.refl _ _ _⟩
theorem Fr.trans {base eb : Nat} {a b c : World} (h : Fr base eb a b) (k : Fr base eb b c) : Fr base eb a c := ⟨h.bel.trans k.bel, h.oth.trans k.oth⟩
theorem Fr.of {base eb : Nat} {W W' : World} (h : Below W.heap.size W W') (hB : base ≤ W.heap.size) : Fr base eb W W' :=
  ⟨h.mono hB, fun k o hk _ _ => by rw [h.block k (Array.getElem?_eq_some_iff.1 hk).1]; exact hk⟩
theorem Fr.set {base eb : Nat} {W : World} (hB : base ≤ eb) (k : Nat) (v : Value) : Fr base eb W (W.setCell ⟨eb, k, none⟩ v) :=
  ⟨(Below.refl _ _).setCell (p := ⟨eb, k, none⟩) hB _, (Lib.OthersKept.refl _ _ W).setCell ⟨eb, k, none⟩ rfl _⟩
theorem Fr.alloc {base eb : Nat} {W : World} (hB : base ≤ W.heap.size) (o : Obj) : Fr base eb W (W.alloc o) := Fr.of (Rg.al1 W o) hB
theorem Fr.drew {base eb : Nat} {W W' : World} (h : Fr base eb W W') : Fr base eb W W'.drew := ⟨h.bel.drew, h.oth.drew⟩
theorem Fr.bk {base eb b : Nat} {C : List Value} {T : TypeId} {W W' : World} (h : Fr base eb W W') (k : Rg.Bk b C T W) (hb : b ≠ eb) (h5 : T ≠ 5) : Rg.Bk b C T W' :=
  h.oth b _ k (fun e => hb (Option.some.inj e)) (fun c fz e => h5 (by injection e))
/-- a builder of the call's own, from block base on: its bytes; of none it has no row -/
structure BAt (base : Nat) (W : World) (v : Value) (S : List UInt8) : Prop where
  own : W.ownsRowF base 5 1 v S.length (Lib.byteCells S)
  nil : S = [] → v = .slice none 0 0
theorem BAt.start (base : Nat) (W : World) : BAt base W (.slice none 0 0) [] := ⟨World.ownsRowF_nil W base 5 1, fun _ => rfl⟩
theorem BAt.kept {base : Nat} {W W' : World} {v : Value} {S : List UInt8} (h : BAt base W v S) (hg : ∀ g, v.ownBlock = some g → W'.heap[g]? = W.heap[g]?) : BAt base W' v S := by
  refine ⟨⟨h.own.1, ?_⟩, h.nil⟩
  rcases h.own.2 with hn | ⟨g, cap, cur, fz, rfl, hb, hgg, rest⟩
  · exact .inl hn
  · exact .inr ⟨g, cap, cur, fz, rfl, hb, by rw [hg g rfl]; exact hgg, rest⟩
theorem BAt.ne {base b : Nat} {W : World} {v : Value} {S : List UInt8} {C : List Value} {T : TypeId} (h : BAt base W v S) (k : Rg.Bk b C T W) (hT : T ≠ 5) : v.ownBlock ≠ some b := Lib.ownBlock_neF h.own k hT
theorem BAt.below {base : Nat} {W W' : World} {v : Value} {S : List UInt8} (h : BAt base W v S) (hb : Below W.heap.size W W') : BAt base W' v S := h.kept fun g hg => hb.block g (h.own.lt g hg).2
theorem BAt.set {base b k : Nat} {W : World} {v : Value} {S : List UInt8} {C : List Value} {T : TypeId} (h : BAt base W v S) (kb : Rg.Bk b C T W) (hT : T ≠ 5) (x : Value) : BAt base (W.setCell ⟨b, k, none⟩ x) v S :=
  h.kept fun g hg => Below.heap_setCell _ _ _ _ (fun e => h.ne kb hT (by rw [hg, e]))
theorem own_fr {base eb n : Nat} {T : TypeId} {v : Value} {xs C : List Value} {W W' : World} (h : W.ownsRow base 68 2 v n xs) (hf : Fr base eb W W') (k : Rg.Bk eb C T W) (hT : 68 ≠ T) : W'.ownsRow base 68 2 v n xs := by
  refine ⟨h.1, ?_⟩
  rcases h.2 with hn | ⟨g, cap, cur, rfl, hb, hgg, rest⟩
  · exact .inl hn
  · refine .inr ⟨g, cap, cur, rfl, hb, hf.oth g _ hgg (fun e => ?_) (fun c fz e => by cases e), rest⟩
    have e2 := Option.some.inj e
    subst e2
    unfold Rg.Bk at k
    rw [k] at hgg
    cases hgg
    exact hT rfl
theorem same_vs {vs : List Value} {n : Nat} : ∀ v' ∈ vs, ∀ g, v'.ownBlock = some g → (∃ v ∈ vs, v.ownBlock = some g) ∨ n ≤ g := fun v' hm _ hg => .inl ⟨v', hm, hg⟩
end Go.Proofs.Ytlclfkogbfigbaa

namespace Go.Proofs.Ytlclfkogbfigbaa
namespace If
/-- A packet. -/
structure Fr where
  kd : Int
  nm : Int
  ak : Int
  ch : Int
  ca : Bool
  data : List UInt8
def zero : Fr := ⟨0, 0, 0, 0, false, []⟩
/-- What Read answers: a packet and how many bytes it has, or an error. -/
abbrev Res := Except Nat (Fr × Nat)
def kind (k : Int) : Bool := k == 0 || k == 1 || k == 2 || k == 3 || k == 5
theorem kind_cases {k : Int} (h : kind k = true) : k = 0 ∨ k = 1 ∨ k = 2 ∨ k = 3 ∨ k = 5 := by
  simp [kind] at h; omega
theorem kind_no {k : Int} (h : kind k = false) : ¬ k = 0 ∧ ¬ k = 1 ∧ ¬ k = 2 ∧ ¬ k = 3 ∧ ¬ k = 5 := by
  simp [kind] at h; omega
/-- A head. -/
def head (a b c d : Nat) : List UInt8 := [7, UInt8.ofNat a, UInt8.ofNat b, UInt8.ofNat c, UInt8.ofNat d, UInt8.ofNat (a ^^^ b ^^^ c ^^^ d)]
/-- A number in four bytes. -/
def be4 (n : Nat) : List UInt8 := [UInt8.ofNat (n / 16777216), UInt8.ofNat (n / 65536), UInt8.ofNat (n / 256), UInt8.ofNat n]
def un4 (a b c d : UInt8) : Nat := ((a.toNat * 256 + b.toNat) * 256 + c.toNat) * 256 + d.toNat
theorem ofNat_toNat {n : Nat} (h : n < 256) : (UInt8.ofNat n).toNat = n := by
  rw [UInt8.toNat_ofNat']; exact Nat.mod_eq_of_lt h
theorem byte_eq (b : UInt8) : UInt8.ofNat b.toNat = b := UInt8.ofNat_toNat
theorem ofNat_mod {a : Nat} {b : UInt8} (h : a % 256 = b.toNat) : UInt8.ofNat a = b := by
  apply UInt8.toNat_inj.1
  rw [UInt8.toNat_ofNat']; exact h
theorem be4_un4 (a b c d : UInt8) : be4 (un4 a b c d) = [a, b, c, d] := by
  have ha := a.toNat_lt
  have hb := b.toNat_lt
  have hc := c.toNat_lt
  have hd := d.toNat_lt
  unfold be4 un4
  rw [ofNat_mod (b := a) (by omega), ofNat_mod (b := b) (by omega), ofNat_mod (b := c) (by omega), ofNat_mod (b := d) (by omega)]
theorem un4_be4 {n : Nat} (h : n < 4294967296) : un4 (UInt8.ofNat (n / 16777216)) (UInt8.ofNat (n / 65536)) (UInt8.ofNat (n / 256)) (UInt8.ofNat n) = n := by
  unfold un4
  simp only [UInt8.toNat_ofNat']
  omega
theorem be4_inj {n m : Nat} (hn : n < 4294967296) (hm : m < 4294967296) (h : be4 n = be4 m) : n = m := by
  unfold be4 at h
  simp only [List.cons.injEq, and_true] at h
  rw [← un4_be4 hn, ← un4_be4 hm, h.1, h.2.1, h.2.2.1, h.2.2.2]
theorem be4_len (n : Nat) : (be4 n).length = 4 := rfl
def crc (l : List UInt8) : Nat := Chk.more 0 l
theorem crc_lt (l : List UInt8) : crc l < 4294967296 := Chk.more_lt 0 l
/-- What stands behind a head. -/
def body (l : List UInt8) : List UInt8 := if l = [] then [] else l ++ be4 (crc l)
def bsz (n : Nat) : Nat := if n = 0 then 0 else n + 4
theorem body_len (l : List UInt8) : (body l).length = bsz l.length := by
  unfold body bsz
  by_cases h : l = []
  · subst h; rfl
  · rw [if_neg h, if_neg (fun e => h (List.eq_nil_of_length_eq_zero e)), List.length_append, be4_len]
theorem bsz_le (n : Nat) : n ≤ bsz n ∧ bsz n ≤ n + 4 := by unfold bsz; split <;> omega
/-- Whether a packet may be. -/
def args (f : Fr) : Prop := kind f.kd = true ∧ (0 ≤ f.nm ∧ f.nm ≤ 31) ∧ (0 ≤ f.ak ∧ f.ak ≤ 31) ∧ (0 ≤ f.ch ∧ f.ch ≤ 7)
def ok (f : Fr) : Prop := args f ∧ f.data.length < 4096
def bit (c : Bool) : Nat := if c = true then 16 else 0
def hd (k n a c : Nat) (b : Bool) (z : Nat) : List UInt8 := head (n * 8 + c) (a * 8 + c) (k * 32 + bit b + z / 256) (z % 256)
def text (f : Fr) : List UInt8 := hd f.kd.toNat f.nm.toNat f.ak.toNat f.ch.toNat f.ca f.data.length ++ body f.data
theorem bit_le (b : Bool) : bit b = 0 ∨ bit b = 16 := by cases b <;> simp [bit]

/-- Read behind the head. -/
def readBody (a b c n : Nat) (r : List UInt8) : Res :=
  if r.length < bsz n then .error 2
  else if body (r.take n) = r.take (bsz n) then .ok (⟨(c / 32 : Nat), (a / 8 : Nat), (b / 8 : Nat), (a % 8 : Nat), decide (c / 16 % 2 = 1), r.take n⟩, 6 + bsz n)
  else .error 4
def readHead (a b c d e : Nat) (r : List UInt8) : Res :=
  if (a ^^^ b ^^^ c ^^^ d) ≠ e ∨ kind (c / 32 : Nat) = false ∨ a % 8 ≠ b % 8 then .error 3
  else readBody a b c (c % 16 * 256 + d) r
def read : List UInt8 → Res
  | [] => .error 2
  | x :: r =>
    if x ≠ 7 then .error 3
    else match r with
      | a :: b :: c :: d :: e :: t => readHead a.toNat b.toNat c.toNat d.toNat e.toNat t
      | _ => .error 2
/-- Scan. -/
structure Sc where
  f : Fr
  a : Nat
  b : Nat
  ok : Bool
def scan : Nat → List UInt8 → Sc
  | p, [] => ⟨zero, p, p, false⟩
  | p, c :: r => match read (c :: r) with
    | .ok x => ⟨x.1, p, p + x.2, true⟩
    | .error e => if e = 2 then ⟨zero, p, p, false⟩ else scan (p + 1) r

theorem xor_byte {a b c d : Nat} (ha : a < 256) (hb : b < 256) (hc : c < 256) (hd : d < 256) : a ^^^ b ^^^ c ^^^ d < 256 := Chk.xor8 (Chk.xor8 (Chk.xor8 ha hb) hc) hd
/-- A head is read as it was. -/
theorem read_head {a b c d : Nat} (ha : a < 256) (hb : b < 256) (hc : c < 256) (hd : d < 256) (r : List UInt8) :
    read (head a b c d ++ r) = readHead a b c d (a ^^^ b ^^^ c ^^^ d) r := by
  have h3 := xor_byte ha hb hc hd
  show read (7 :: UInt8.ofNat a :: UInt8.ofNat b :: UInt8.ofNat c :: UInt8.ofNat d :: UInt8.ofNat (a ^^^ b ^^^ c ^^^ d) :: r) = _
  unfold read
  dsimp only
  rw [if_neg (by decide), ofNat_toNat ha, ofNat_toNat hb, ofNat_toNat hc, ofNat_toNat hd, ofNat_toNat h3]
theorem hd_len (k n a c : Nat) (b : Bool) (z : Nat) : (hd k n a c b z).length = 6 := rfl
theorem text_len (f : Fr) : (text f).length = 6 + bsz f.data.length := by
  unfold text
  rw [List.length_append, hd_len, body_len]
theorem kind_lt {k : Int} (h : kind k = true) : 0 ≤ k ∧ k ≤ 5 := by have := kind_cases h; omega
theorem caller_bit (k : Nat) (b : Bool) (z : Nat) (hz : z < 4096) : (k * 32 + bit b + z / 256) / 32 = k ∧ decide ((k * 32 + bit b + z / 256) / 16 % 2 = 1) = b ∧ (k * 32 + bit b + z / 256) % 16 = z / 256 := by
  have h1 : z / 256 < 16 := by omega
  cases b
  · simp only [bit]
    refine ⟨by simp; omega, ?_, by simp; omega⟩
    apply decide_eq_false
    simp; omega
  · simp only [bit]
    refine ⟨by simp; omega, ?_, by simp; omega⟩
    apply decide_eq_true
    simp; omega
/-- Read of a packet's text, cut behind the head or not. -/
theorem read_hd {f : Fr} (h : ok f) (r : List UInt8) :
    read (hd f.kd.toNat f.nm.toNat f.ak.toNat f.ch.toNat f.ca f.data.length ++ r) = if r.length < bsz f.data.length then .error 2 else if body (r.take f.data.length) = r.take (bsz f.data.length) then .ok ({ f with data := r.take f.data.length }, 6 + bsz f.data.length) else .error 4 := by
  obtain ⟨⟨hk, ⟨n0, n1⟩, ⟨a0, a1⟩, c0, c1⟩, hl⟩ := h
  obtain ⟨k0, k5⟩ := kind_lt hk
  obtain ⟨kd, nm, ak, ch, ca, data⟩ := f
  dsimp only at *
  obtain ⟨k, rfl⟩ : ∃ m : Nat, kd = (m : Int) := ⟨kd.toNat, by omega⟩
  obtain ⟨n, rfl⟩ : ∃ m : Nat, nm = (m : Int) := ⟨nm.toNat, by omega⟩
  obtain ⟨a, rfl⟩ : ∃ m : Nat, ak = (m : Int) := ⟨ak.toNat, by omega⟩
  obtain ⟨c, rfl⟩ : ∃ m : Nat, ch = (m : Int) := ⟨ch.toNat, by omega⟩
  simp only [Int.toNat_natCast]
  generalize data.length = z at *
  obtain ⟨e1, e2, e3⟩ := caller_bit k ca z hl
  have hb := bit_le ca
  unfold hd
  rw [read_head (by omega) (by omega) (by omega) (by omega)]
  unfold readHead
  rw [if_neg (by rw [e1, hk]; simp)]
  unfold readBody
  rw [e1, e2, e3, show z / 256 * 256 + z % 256 = z by omega, show (n * 8 + c) / 8 = n by omega, show (a * 8 + c) / 8 = a by omega, show (n * 8 + c) % 8 = c by omega]
theorem body_take (l r : List UInt8) : (body l ++ r).take l.length = l ∧ (body l ++ r).take (bsz l.length) = body l := by
  refine ⟨?_, by rw [← body_len]; exact List.take_left⟩
  unfold body
  split
  · rename_i h; subst h; rfl
  · rw [List.append_assoc, List.take_left]
/-- What is written is read as it was. -/
theorem read_text {f : Fr} (h : ok f) (r : List UInt8) : read (text f ++ r) = .ok (f, (text f).length) := by
  rw [text_len]
  unfold text
  rw [List.append_assoc, read_hd h, if_neg (by rw [List.length_append, body_len]; omega), (body_take f.data r).1, (body_take f.data r).2, if_pos rfl]
/-- The head, out of bytes. -/
theorem head_bytes {a b c d e : UInt8} (h : a.toNat ^^^ b.toNat ^^^ c.toNat ^^^ d.toNat = e.toNat) : head a.toNat b.toNat c.toNat d.toNat = [7, a, b, c, d, e] := by
  unfold head
  rw [h, byte_eq, byte_eq, byte_eq, byte_eq, byte_eq]
/-- What is read is written so. -/
theorem text_read {s : List UInt8} {f : Fr} {n : Nat} (h : read s = .ok (f, n)) : ok f ∧ text f = s.take n ∧ 6 ≤ n ∧ n ≤ s.length := by
  match s with
  | [] => cases h
  | [a] | [a, _] | [a, _, _] | [a, _, _, _] | [a, _, _, _, _] => unfold read at h; dsimp only at h; split at h <;> cases h
  | x :: a :: b :: c :: d :: e :: r =>
    unfold read at h
    dsimp only at h
    split at h
    · cases h
    rename_i hx
    have hx : x = 7 := Decidable.not_not.1 hx
    subst hx
    unfold readHead at h
    split at h
    · cases h
    rename_i hn
    have h1 : a.toNat ^^^ b.toNat ^^^ c.toNat ^^^ d.toNat = e.toNat := Decidable.not_not.1 fun q => hn (Or.inl q)
    have h2 : kind (c.toNat / 32 : Nat) = true := by
      cases q : kind (c.toNat / 32 : Nat)
      · exact absurd (Or.inr (Or.inl q)) hn
      · rfl
    have h3 : a.toNat % 8 = b.toNat % 8 := Decidable.not_not.1 fun q => hn (Or.inr (Or.inr q))
    clear hn
    have ha := a.toNat_lt
    have hb := b.toNat_lt
    have hc := c.toNat_lt
    have hd' := d.toNat_lt
    unfold readBody at h
    generalize hz : c.toNat % 16 * 256 + d.toNat = z at *
    split at h
    · cases h
    rename_i hl
    split at h
    · rename_i hbd
      have h := Except.ok.inj h
      obtain ⟨rfl, rfl⟩ := Prod.mk.inj h
      have hzl := bsz_le z
      have hlen : (r.take z).length = z := by rw [List.length_take]; omega
      refine ⟨⟨⟨h2, ⟨by dsimp only; omega, by dsimp only; omega⟩, ⟨by dsimp only; omega, by dsimp only; omega⟩, by dsimp only; omega, by dsimp only; omega⟩, by dsimp only; omega⟩, ?_, by omega, by simp only [List.length_cons]; omega⟩
      unfold text
      dsimp only
      rw [hlen, hbd]
      unfold hd
      simp only [Int.toNat_natCast]
      have hbit : bit (decide (c.toNat / 16 % 2 = 1)) = c.toNat / 16 % 2 * 16 := by
        unfold bit
        rcases Nat.mod_two_eq_zero_or_one (c.toNat / 16) with q | q
        · rw [q]; rfl
        · rw [q]; rfl
      rw [hbit, show a.toNat / 8 * 8 + a.toNat % 8 = a.toNat by omega, show b.toNat / 8 * 8 + a.toNat % 8 = b.toNat by omega, show c.toNat / 32 * 32 + c.toNat / 16 % 2 * 16 + z / 256 = c.toNat by omega, show z % 256 = d.toNat by omega, head_bytes h1, Nat.add_comm 6]
      rfl
    · cases h
theorem read_err0 (s : List UInt8) : ¬ read s = .error 0 := by
  intro h
  match s with
  | [] => cases h
  | [a] | [a, _] | [a, _, _] | [a, _, _, _] | [a, _, _, _, _] => unfold read at h; dsimp only at h; split at h <;> cases h
  | x :: a :: b :: c :: d :: e :: r =>
    unfold read at h
    dsimp only at h
    split at h
    · cases h
    unfold readHead at h
    split at h
    · cases h
    unfold readBody at h
    split at h
    · cases h
    split at h <;> cases h
theorem read_few {s : List UInt8} (h : s.length < 6) (h0 : s = [] ∨ s.getD 0 0 = 7) : read s = .error 2 := by
  match s with
  | [] => rfl
  | [a] | [a, _] | [a, _, _] | [a, _, _, _] | [a, _, _, _, _] =>
    have ha : a = 7 := by
      rcases h0 with h0 | h0
      · cases h0
      · exact h0
    subst ha
    rfl
  | x :: a :: b :: c :: d :: e :: r => simp only [List.length_cons] at h; omega
/-- A packet that is not whole is too short. -/
theorem read_cut {f : Fr} (h : ok f) (k : Nat) (hk : k < (text f).length) : read ((text f).take k) = .error 2 := by
  rw [text_len] at hk
  by_cases h6 : k < 6
  · apply read_few
    · rw [List.length_take]; omega
    · unfold text hd head
      match k with
      | 0 => left; rfl
      | k + 1 => right; rfl
  · unfold text
    rw [List.take_append, hd_len, List.take_of_length_le (by rw [hd_len]; omega), read_hd h, if_pos (by rw [List.length_take, body_len]; omega)]
/-- A byte of the head that is turned is told. -/
theorem xor_ne {a y : Nat} (hy : ¬ y = 0) : ¬ a ^^^ y = a := fun e => hy (by
  have := congrArg (fun x => a ^^^ x) e
  rw [show a ^^^ (a ^^^ y) = y by rw [← Nat.xor_assoc, Nat.xor_self, Nat.zero_xor], Nat.xor_self] at this
  exact this)
theorem x1 (a b c d y : Nat) : (a ^^^ y) ^^^ b ^^^ c ^^^ d = (a ^^^ b ^^^ c ^^^ d) ^^^ y := by
  rw [Nat.xor_assoc, Nat.xor_assoc, Nat.xor_assoc a y, Nat.xor_comm y, ← Nat.xor_assoc, ← Nat.xor_assoc, ← Nat.xor_assoc]
theorem x2 (a b c d y : Nat) : a ^^^ (b ^^^ y) ^^^ c ^^^ d = (a ^^^ b ^^^ c ^^^ d) ^^^ y := by
  rw [Nat.xor_comm a (b ^^^ y), x1, Nat.xor_comm b a]
theorem x3 (a b c d y : Nat) : a ^^^ b ^^^ (c ^^^ y) ^^^ d = (a ^^^ b ^^^ c ^^^ d) ^^^ y := by
  rw [← Nat.xor_assoc (a ^^^ b) c y, Nat.xor_assoc (a ^^^ b ^^^ c) y d, Nat.xor_comm y d, ← Nat.xor_assoc]
theorem x4 (a b c d y : Nat) : a ^^^ b ^^^ c ^^^ (d ^^^ y) = (a ^^^ b ^^^ c ^^^ d) ^^^ y := by rw [← Nat.xor_assoc]
theorem toNat_xor (a b : UInt8) : (a ^^^ b).toNat = a.toNat ^^^ b.toNat := UInt8.toNat_xor a b
theorem read_7 {a : UInt8} {r : List UInt8} (h : ¬ a = 7) : read (a :: r) = .error 3 := by unfold read; dsimp only; rw [if_pos h]
theorem read_turned (b1 b2 b3 b4 b5 y : UInt8) (r : List UInt8) (hy : ¬ y.toNat = 0) (hx : b1.toNat ^^^ b2.toNat ^^^ b3.toNat ^^^ b4.toNat = b5.toNat) (k : Nat) (hk : k < 6) :
    read ((7 :: b1 :: b2 :: b3 :: b4 :: b5 :: r).set k ((7 :: b1 :: b2 :: b3 :: b4 :: b5 :: r).getD k 0 ^^^ y)) = .error 3 := by
  have hh : k = 0 ∨ k = 1 ∨ k = 2 ∨ k = 3 ∨ k = 4 ∨ k = 5 := by omega
  rcases hh with rfl | rfl | rfl | rfl | rfl | rfl
  · apply read_7
    intro e
    have := congrArg UInt8.toNat e
    exact xor_ne (a := 7) hy ((toNat_xor 7 y).symm.trans this)
  all_goals
    unfold read
    dsimp only [List.set, List.getD, List.getElem?_cons_zero, List.getElem?_cons_succ, Option.getD]
    rw [if_neg (by decide)]
    unfold readHead
    rw [if_pos]
    left
    rw [toNat_xor]
  · rw [x1, hx]; exact xor_ne hy
  · rw [x2, hx]; exact xor_ne hy
  · rw [x3, hx]; exact xor_ne hy
  · rw [x4, hx]; exact xor_ne hy
  · rw [hx]; exact fun e => xor_ne hy e.symm
theorem hd_bytes {f : Fr} (h : ok f) : ∃ b1 b2 b3 b4 b5 : UInt8, hd f.kd.toNat f.nm.toNat f.ak.toNat f.ch.toNat f.ca f.data.length = [7, b1, b2, b3, b4, b5] ∧ b1.toNat ^^^ b2.toNat ^^^ b3.toNat ^^^ b4.toNat = b5.toNat := by
  obtain ⟨⟨hk, ⟨n0, n1⟩, ⟨a0, a1⟩, c0, c1⟩, hl⟩ := h
  obtain ⟨k0, k5⟩ := kind_lt hk
  have hb := bit_le f.ca
  have q1 : f.nm.toNat * 8 + f.ch.toNat < 256 := by omega
  have q2 : f.ak.toNat * 8 + f.ch.toNat < 256 := by omega
  have q3 : f.kd.toNat * 32 + bit f.ca + f.data.length / 256 < 256 := by omega
  have q4 : f.data.length % 256 < 256 := by omega
  exact ⟨_, _, _, _, _, rfl, by rw [ofNat_toNat q1, ofNat_toNat q2, ofNat_toNat q3, ofNat_toNat q4, ofNat_toNat (xor_byte q1 q2 q3 q4)]⟩
theorem text_turned {f : Fr} (h : ok f) (y : UInt8) (hy : ¬ y.toNat = 0) (k : Nat) (hk : k < 6) : read ((text f).set k ((text f).getD k 0 ^^^ y)) = .error 3 := by
  obtain ⟨b1, b2, b3, b4, b5, e, hx⟩ := hd_bytes h
  unfold text
  rw [e]
  exact read_turned b1 b2 b3 b4 b5 y (body f.data) hy hx k hk
/-- Up to four neighbouring bytes of the data that are others are told. -/
theorem data_turned {f : Fr} (h : ok f) (p l m q : List UInt8) (hf : f.data = p ++ (l ++ q)) (hlm : l.length = m.length) (h4 : l.length ≤ 4) (hne : ¬ l = m) :
    read (hd f.kd.toNat f.nm.toNat f.ak.toNat f.ch.toNat f.ca f.data.length ++ ((p ++ (m ++ q)) ++ be4 (crc f.data))) = .error 4 := by
  have hl : (p ++ (m ++ q)).length = f.data.length := by rw [hf]; simp only [List.length_append]; omega
  have hn : ¬ f.data = [] := by
    intro e
    rw [hf] at e
    have e2 : l = [] := by
      have := (List.append_eq_nil_iff.1 e).2
      exact (List.append_eq_nil_iff.1 this).1
    subst e2
    exact hne (List.eq_nil_of_length_eq_zero hlm.symm).symm
  have hn0 : ¬ f.data.length = 0 := fun e => hn (List.eq_nil_of_length_eq_zero e)
  have hb : bsz f.data.length = f.data.length + 4 := by unfold bsz; rw [if_neg hn0]
  have hmn : ¬ p ++ (m ++ q) = [] := fun e => hn0 (by rw [← hl, e]; rfl)
  rw [read_hd h, if_neg (by rw [List.length_append, be4_len, hb]; omega), if_neg]
  intro e
  rw [← hl, List.take_left, hl, hb, List.take_of_length_le (by rw [List.length_append, be4_len]; omega)] at e
  unfold body at e
  rw [if_neg hmn] at e
  have e := be4_inj (crc_lt _) (crc_lt _) (List.append_cancel_left e)
  unfold crc at e
  rw [hf] at e
  exact hne (Chk.crc_near p l m q hlm h4 e.symm)
end If
end Go.Proofs.Ytlclfkogbfigbaa

namespace Go.Proofs.Ytlclfkogbfigbaa
namespace Ip
open Gp (Dr Pc Fi)
/-- How far a number is ahead. -/
def early (wants n : Int) : Int := Wn.ahead wants n 32
/-- What came early has bytes, and stands in the order in which it is waited for. -/
def okAhead (wants : Int) : Int → List Fi → Prop
  | _, [] => True
  | last, f :: r => f.data.size ≠ 0 ∧ last < early wants f.nm ∧ early wants f.nm ≤ 15 ∧ okAhead wants (early wants f.nm) r
def okPc (p : Pc) : Prop := p.data.size ≠ 0 ∧ 0 ≤ p.ch ∧ p.ch ≤ 7
def okText (z : Int) (s : ByteArray) : Prop := 2 ≤ s.size ∧ (s.size : Int) ≤ z + 1 ∧ (s.data.toList.headD 0).toNat ≤ 7
/-- P16.6, but for the phase. -/
structure base (d : Dr) : Prop where
  lt : d.letter = 105
  sz : 1 ≤ d.size ∧ d.size ≤ 4095
  rm : 1 ≤ d.room ∧ d.room ≤ 16
  wn : 0 ≤ d.wants ∧ d.wants ≤ 31
  at_ : 0 ≤ d.at_ ∧ d.at_ ≤ 1099511627776
  wt : 0 ≤ d.wait ∧ d.wait ≤ 3
  tr : 0 ≤ d.tries ∧ d.tries ≤ 13
  qu : ∀ p ∈ d.queue, okPc p
  wi : ∀ s ∈ d.win.l, okText d.size s
  ah : okAhead d.wants 0 d.ahead
structure runs (d : Dr) : Prop where
  st : -1 ≤ d.step ∧ d.step ≤ 31
  md : d.win.md = 32
  ws : d.win.sz = d.room
  bs : 0 ≤ d.win.bs ∧ d.win.bs < 32
  ln : (d.win.l.length : Int) ≤ d.win.sz
/-- P16.6. -/
def right (d : Dr) : Prop := base d ∧ ((d.phase = 1 ∧ d.win.l = [] ∧ d.ahead = []) ∨ (d.phase = 2 ∧ runs d) ∨ d.phase = 3 ∨ d.phase = 4 ∨ d.phase = 5)
def last (d : Dr) : Int := (d.wants + 31) % 32
/-- A packet that is said. -/
def pk (d : Dr) (kd nm ch : Int) (data : List UInt8) : List UInt8 := If.text ⟨kd, nm, last d, ch, d.caller, data⟩
def sync (d : Dr) : List UInt8 := pk d 1 0 0 [UInt8.ofNat (d.size.toNat / 256), UInt8.ofNat (d.size.toNat % 256), UInt8.ofNat d.room.toNat]
def begin_ (caller : Bool) (size room : Int) : Dr := ⟨105, 1, caller, 0, size, room, Wn.zero, 1, [], [], 0, [], 0, 0, []⟩
/-- A text of the window: its channel's byte, and its bytes. -/
def entry (ch : Int) (s : ByteArray) : ByteArray := ⟨#[UInt8.ofNat ch.toNat]⟩ ++ s
def packet (d : Dr) (n : Int) (s : ByteArray) : List UInt8 := pk d 0 n (s.data.toList.headD 0).toNat s.data.toList.tail
def allFrom (d : Dr) : List ByteArray → Nat → List UInt8
  | [], _ => []
  | s :: r, i => packet d (Wn.num d.win i) s ++ allFrom d r (i + 1)
def all (d : Dr) : List UInt8 := allFrom d d.win.l 0
/-- What waits goes: one text. -/
def fill1 (d : Dr) (p : Pc) : Dr × List UInt8 :=
  let k := min p.data.size d.size.toNat
  let s := entry p.ch (p.data.extract 0 k)
  let w := Wn.put d.win s
  ({ d with win := w.1, queue := Gp.cutQ d.queue k }, packet { d with win := w.1 } w.2.1 s)
def fillN : Nat → Dr → List UInt8 → Dr × List UInt8
  | 0, d, out => (d, out)
  | f + 1, d, out => match d.queue with
    | [] => (d, out)
    | p :: _ => if d.phase = 2 ∧ (d.win.l.length : Int) < d.win.sz then fillN f (fill1 d p).1 (out ++ (fill1 d p).2) else (d, out)
def fill (d : Dr) : Dr × List UInt8 := fillN 17 d []
/-- The other end's sync. -/
def opens (d : Dr) (data : List UInt8) : Dr × List UInt8 :=
  match data with
  | [a, b, c] =>
    if d.phase = 1 then
      if a.toNat * 256 + b.toNat = 0 ∨ c.toNat = 0 then (d, [])
      else
        let r := min d.room (c.toNat : Int)
        ({ d with size := min d.size ((a.toNat * 256 + b.toNat : Nat) : Int), room := r, phase := 2, step := -1, tries := 0, win := (Wn.begin_ 32 r 1).1 }, [])
    else if d.phase = 2 then (if d.wait % 2 = 1 then (d, []) else ({ d with wait := Gp.or1 d.wait }, sync { d with wait := Gp.or1 d.wait }))
    else (d, [])
  | _ => (d, [])
def closes (d : Dr) : Dr × List UInt8 :=
  if d.phase = 3 then ({ d with phase := 4, step := 0 }, [])
  else if d.phase = 4 then (d, if d.step = 1 then pk d 5 0 0 [] else [])
  else if d.phase = 5 then (d, [])
  else ({ d with phase := 4, step := 1 }, pk d 5 0 0 [])
def toFi (f : If.Fr) : Fi := ⟨f.kd, f.nm, f.ak, f.ch, f.ca, ⟨f.data.toArray⟩⟩
/-- A packet that came early stands by its number, once. -/
def ins (wants : Int) (f : Fi) : List Fi → List Fi
  | [] => [f]
  | g :: r => if early wants g.nm < early wants f.nm then g :: ins wants f r else if early wants g.nm = early wants f.nm then g :: r else f :: g :: r
/-- What was waited for comes, and what stands ready behind it. -/
def drain : Nat → Dr → List Pc → Dr × List Pc
  | 0, d, l => (d, l)
  | n + 1, d, l => match d.ahead with
    | [] => (d, l)
    | g :: r => if g.nm = d.wants then drain n { d with wants := (d.wants + 1) % 32, ahead := r } (l ++ [⟨g.ch, g.data⟩]) else (d, l)
def orders (d : Dr) (f : If.Fr) : Dr × List UInt8 × List Pc :=
  let k := early d.wants f.nm
  if k = 0 then
    let r := drain d.ahead.length { d with wants := (d.wants + 1) % 32 } [⟨f.ch, ⟨f.data.toArray⟩⟩]
    (r.1, pk r.1 2 0 0 [], r.2)
  else if k ≤ 15 then
    let e : Dr := { d with ahead := ins d.wants (toFi f) d.ahead }
    if e.wait % 2 = 1 then (e, [], []) else ({ e with wait := Gp.or1 e.wait }, pk e 3 e.wants 0 [], [])
  else (d, pk d 2 0 0 [], [])
/-- A packet that neither opens nor closes. -/
def takes2 (d : Dr) (f : If.Fr) : Dr × List UInt8 × List Pc :=
  if d.phase = 3 then (d, pk d 5 0 0 [], [])
  else if d.phase ≠ 2 then (d, [], [])
  else
    let d := Gp.acked d f.ak
    if f.kd = 3 then (match Wn.find d.win f.nm with
      | some s => (d, packet d f.nm s, [])
      | none => (d, [], []))
    else if f.kd = 0 ∧ f.data ≠ [] then orders d f
    else (d, [], [])
/-- A packet came. -/
def takes (d : Dr) (f : If.Fr) : Dr × List UInt8 × List Pc :=
  if f.ca = d.caller then (d, [], [])
  else
    let d : Dr := { d with wait := Gp.or2 d.wait }
    if f.kd = 1 then ((opens d f.data).1, (opens d f.data).2, [])
    else if f.kd = 5 then ((closes d).1, (closes d).2, [])
    else takes2 d f
def feedN : Nat → Dr → List UInt8 → List Pc → Dr × List UInt8 × List Pc
  | 0, d, out, came => (d, out, came)
  | f + 1, d, out, came =>
    let x := If.scan 0 d.buf
    if x.ok = true then
      let e : Dr := { d with took := d.took ++ [(d.at_ + x.a, d.at_ + x.b)], buf := d.buf.drop x.b, at_ := d.at_ + x.b }
      let r := takes e x.f
      feedN f r.1 (out ++ r.2.1) (came ++ r.2.2)
    else ({ d with buf := d.buf.drop x.a, at_ := d.at_ + x.a }, out, came)
/-- Neighbours of one channel are one piece. -/
def join : List Pc → List Pc
  | [] => []
  | p :: r => match join r with
    | [] => [p]
    | q :: t => if p.ch = q.ch then ⟨p.ch, p.data ++ q.data⟩ :: t else p :: q :: t
def feed (d : Dr) (s : List UInt8) : Dr × List UInt8 × List Pc :=
  let r := feedN (d.buf.length + s.length + 1) { Gp.own d with buf := d.buf ++ s } [] []
  ((fill r.1).1, r.2.1 ++ (fill r.1).2, r.2.2)
def tick (d : Dr) : Dr × List UInt8 :=
  let d := Gp.own d
  let d : Dr := if 2 ≤ d.wait then { d with wait := 0 } else { d with at_ := d.at_ + d.buf.length, buf := [], wait := 0 }
  if d.phase = 1 ∨ d.phase = 3 then
    let d : Dr := { d with tries := d.tries + 1 }
    if 12 < d.tries then (if d.phase = 3 then ({ d with phase := 4, step := 0 }, []) else ({ d with phase := 5 }, []))
    else if d.phase = 3 then (d, pk d 5 0 0 []) else (d, sync d)
  else if d.phase = 2 then
    if d.win.l = [] then ({ d with step := -1 }, [])
    else if d.step ≠ d.win.bs then ({ d with step := d.win.bs }, [])
    else
      let d : Dr := { d with tries := d.tries + 1 }
      if 12 < d.tries then ({ d with phase := 5 }, []) else (d, all d)
  else (d, [])
def send (d : Dr) (p : Pc) : Dr × List UInt8 := if p.data.size = 0 ∨ p.ch < 0 ∨ 7 < p.ch ∨ (d.phase ≠ 1 ∧ d.phase ≠ 2) then (Gp.own d, []) else fill { Gp.own d with queue := d.queue ++ [p] }
def close (d : Dr) : Dr × List UInt8 := if d.phase ≠ 1 ∧ d.phase ≠ 2 then (Gp.own d, []) else ({ Gp.own d with phase := 3, tries := 0, step := 0 }, pk { Gp.own d with phase := 3, tries := 0, step := 0 } 5 0 0 [])
end Ip
end Go.Proofs.Ytlclfkogbfigbaa
