/-
  Layer 2: the sums, as functions of lists of bytes. Plain mathematics, of no program. Mathematics of layer 11: packets of the protocol g as lists of bytes; what is written is read. Mathematics of layer 14: windows of numbers that begin anew.
-/
import Derived.WalkKit
import Derived.Test.YtomldoijcclhhaaGreatProg
namespace Go.Proofs.YtomldoijcclhhaaGreat
open Go.RowKit
namespace Chk

/-! The sum of the protocol g (P2.1). -/
def rot (s : Nat) : Nat := s * 2 % 65536 + s / 32768
def sumT (s c : Nat) : Nat := (rot s + c) % 65536
def sumX (s x n c : Nat) : Nat := (x + (sumT s c ^^^ n % 65536)) % 65536
def sumS (s x n c : Nat) : Nat := if sumT s c ≤ rot s then sumT s c ^^^ sumX s x n c else sumT s c
def sumOn : List UInt8 → Nat → Nat → Nat
  | [], s, _ => s
  | c :: l, s, x => sumOn l (sumS s x (l.length + 1) c.toNat) (sumX s x (l.length + 1) c.toNat)
def sum (l : List UInt8) : Nat := sumOn l 65535 0
theorem rot_lt {s : Nat} (h : s < 65536) : rot s < 65536 := by unfold rot; omega
theorem sumT_lt (s c : Nat) : sumT s c < 65536 := Nat.mod_lt _ (by decide)
theorem sumX_lt (s x n c : Nat) : sumX s x n c < 65536 := Nat.mod_lt _ (by decide)
theorem xor16 {a b : Nat} (ha : a < 65536) (hb : b < 65536) : a ^^^ b < 65536 := Nat.xor_lt_two_pow (n := 16) ha hb
theorem sumS_lt (s x n c : Nat) : sumS s x n c < 65536 := by
  unfold sumS
  split
  · exact xor16 (sumT_lt _ _) (sumX_lt _ _ _ _)
  · exact sumT_lt _ _
theorem sumOn_lt : ∀ (l : List UInt8) (s x : Nat), s < 65536 → sumOn l s x < 65536
  | [], _, _, h => h
  | _ :: l, _, _, _ => sumOn_lt l _ _ (sumS_lt _ _ _ _)
theorem sum_lt (l : List UInt8) : sum l < 65536 := sumOn_lt l _ _ (by decide)

/-! All bytes, turned by one another (P2.3). -/
def xor (l : List UInt8) : Nat := l.foldl (fun x c => x ^^^ c.toNat) 0
theorem xor8 {a b : Nat} (ha : a < 256) (hb : b < 256) : a ^^^ b < 256 := Nat.xor_lt_two_pow (n := 8) ha hb
theorem xorOn_lt : ∀ (l : List UInt8) (x : Nat), x < 256 → l.foldl (fun x c => x ^^^ c.toNat) x < 256
  | [], _, h => h
  | c :: l, _, h => xorOn_lt l _ (xor8 h (UInt8.toNat_lt c))
theorem xor_lt (l : List UInt8) : xor l < 256 := xorOn_lt l 0 (by decide)
theorem xorOn : ∀ (l : List UInt8) (x : Nat), l.foldl (fun x c => x ^^^ c.toNat) x = x ^^^ xor l
  | [], x => by simp [xor]
  | c :: l, x => by
    rw [List.foldl_cons, xorOn l (x ^^^ c.toNat)]
    unfold xor
    rw [List.foldl_cons, xorOn l (0 ^^^ c.toNat), Nat.zero_xor]
    exact Nat.xor_assoc _ _ _
theorem xor_append (a b : List UInt8) : xor (a ++ b) = xor a ^^^ xor b := by
  conv => lhs; unfold xor
  rw [List.foldl_append, xorOn b]; rfl
theorem xor_one (c : UInt8) : xor [c] = c.toNat := by unfold xor; rw [List.foldl_cons, List.foldl_nil, Nat.zero_xor]

/-! CRC-32 (P2.4). -/
def poly : Nat := 3988292384
def crcBit (c : Nat) : Nat := c / 2 ^^^ (if c % 2 = 1 then poly else 0)
theorem xor32 {a b : Nat} (ha : a < 4294967296) (hb : b < 4294967296) : a ^^^ b < 4294967296 := Nat.xor_lt_two_pow (n := 32) ha hb
theorem crcBit_lt {c : Nat} (h : c < 4294967296) : crcBit c < 4294967296 := by
  unfold crcBit
  refine xor32 (by omega) ?_
  split <;> decide
def crcBits : Nat → Nat → Nat
  | 0, c => c
  | k + 1, c => crcBits k (crcBit c)
theorem crcBits_lt : ∀ (k : Nat) {c : Nat}, c < 4294967296 → crcBits k c < 4294967296
  | 0, _, h => h
  | k + 1, _, h => crcBits_lt k (crcBit_lt h)
theorem crcBits_last : ∀ (k c : Nat), crcBits (k + 1) c = crcBit (crcBits k c)
  | 0, _ => rfl
  | k + 1, c => by
    show crcBits (k + 1) (crcBit c) = _
    exact crcBits_last k (crcBit c)
def crcStep (c : Nat) (b : UInt8) : Nat := crcBits 8 (c ^^^ b.toNat)
def crcOn (c : Nat) (l : List UInt8) : Nat := l.foldl crcStep c
theorem byte32 (b : UInt8) : b.toNat < 4294967296 := Nat.lt_trans (UInt8.toNat_lt b) (by decide)
theorem crcStep_lt {c : Nat} (b : UInt8) (h : c < 4294967296) : crcStep c b < 4294967296 := crcBits_lt 8 (xor32 h (byte32 b))
theorem crcOn_lt : ∀ (l : List UInt8) {c : Nat}, c < 4294967296 → crcOn c l < 4294967296
  | [], _, h => h
  | b :: l, _, h => crcOn_lt l (crcStep_lt b h)
theorem crcOn_append (c : Nat) (a b : List UInt8) : crcOn c (a ++ b) = crcOn (crcOn c a) b := List.foldl_append ..
def low32 (sum : Int) : Nat := (sum % 4294967296).toNat
theorem low32_lt (sum : Int) : low32 sum < 4294967296 := by unfold low32; omega
def more (sum : Int) (l : List UInt8) : Nat := 4294967295 ^^^ crcOn (4294967295 ^^^ low32 sum) l
theorem more_lt (sum : Int) (l : List UInt8) : more sum l < 4294967296 := xor32 (by decide) (crcOn_lt l (xor32 (by decide) (low32_lt _)))
/-! P2.6 -/
/-! P2.2 -/
def packet (l : List UInt8) (control : Int) : Int := (43690 - ((sum l ^^^ (control % 256).toNat : Nat) : Int)) % 65536
def control (c : Int) : Int := 43690 - c % 256
end Chk
end Go.Proofs.YtomldoijcclhhaaGreat

namespace Go.Proofs.YtomldoijcclhhaaGreat
namespace Gf
/-- A packet. -/
structure Fr where
  ty : Int
  hi : Int
  lo : Int
  sz : Int
  data : List UInt8
def zero : Fr := ⟨0, 0, 0, 0, []⟩
/-- What Read answers: a packet and how many bytes it has, or an error. -/
abbrev Res := Except Nat (Fr × Nat)
def code (z : Int) : Nat :=
  if z = 32 then 1 else if z = 64 then 2 else if z = 128 then 3 else if z = 256 then 4 else if z = 512 then 5 else if z = 1024 then 6 else if z = 2048 then 7 else if z = 4096 then 8 else 0
def size (k : Nat) : Nat := 16 * 2 ^ k
theorem code_le (z : Int) : code z ≤ 8 := by
  unfold code; repeat' split
  all_goals omega
theorem code_size {z : Int} (h : code z ≠ 0) : z = (size (code z) : Nat) ∧ 32 ≤ z ∧ z ≤ 4096 := by
  unfold code at h ⊢
  repeat' split
  all_goals first | (subst z; decide) | (simp_all)
theorem size_code {k : Nat} (h1 : 1 ≤ k) (h2 : k ≤ 8) : code (size k : Nat) = k := by
  have : k = 1 ∨ k = 2 ∨ k = 3 ∨ k = 4 ∨ k = 5 ∨ k = 6 ∨ k = 7 ∨ k = 8 := by omega
  rcases this with h | h | h | h | h | h | h | h <;> subst h <;> decide
theorem size_range {k : Nat} (h1 : 1 ≤ k) (h2 : k ≤ 8) : 32 ≤ size k ∧ size k ≤ 4096 := by
  have : k = 1 ∨ k = 2 ∨ k = 3 ∨ k = 4 ∨ k = 5 ∨ k = 6 ∨ k = 7 ∨ k = 8 := by omega
  rcases this with h | h | h | h | h | h | h | h <;> subst h <;> decide
/-- A head. -/
def head (k sum c : Nat) : List UInt8 := [16, UInt8.ofNat k, UInt8.ofNat (sum % 256), UInt8.ofNat (sum / 256), UInt8.ofNat c, UInt8.ofNat (k ^^^ sum % 256 ^^^ sum / 256 ^^^ c)]
/-- A count of bytes that are missing. -/
def cnt (n : Nat) : List UInt8 := if n < 128 then [UInt8.ofNat n] else [UInt8.ofNat (n % 128 + 128), UInt8.ofNat (n / 128)]
theorem cnt_len (n : Nat) : (cnt n).length = if n < 128 then 1 else 2 := by unfold cnt; split <;> rfl
/-- The field of a short packet. -/
def field (d : List UInt8) (z : Nat) : List UInt8 := cnt (z - d.length) ++ (d ++ List.replicate (z - d.length - (cnt (z - d.length)).length) 0)
theorem field_len {d : List UInt8} {z : Nat} (h : d.length < z) : (field d z).length = z := by
  unfold field
  rw [List.length_append, List.length_append, List.length_replicate, cnt_len]
  split <;> omega
/-- Where a field's data begin, and how many bytes are missing. -/
def from_ (b : List UInt8) : Nat := if 128 ≤ (b.getD 0 0).toNat then 2 else 1
def miss (b : List UInt8) : Nat := if 128 ≤ (b.getD 0 0).toNat then (b.getD 0 0).toNat - 128 + 128 * (b.getD 1 0).toNat else (b.getD 0 0).toNat
def pick (b : List UInt8) : List UInt8 := (b.drop (from_ b)).take (b.length - miss b)
def unfield (b : List UInt8) : Option (List UInt8) :=
  if miss b < from_ b ∨ b.length < miss b then none else if field (pick b) b.length = b then some (pick b) else none
theorem from_pos (b : List UInt8) : 1 ≤ from_ b ∧ from_ b ≤ 2 := by unfold from_; split <;> omega
theorem pick_len {b : List UInt8} (h1 : ¬ miss b < from_ b) (h2 : ¬ b.length < miss b) : (pick b).length = b.length - miss b := by
  unfold pick
  rw [List.length_take, List.length_drop]
  omega
theorem unfield_some {b d : List UInt8} (h : unfield b = some d) : field d b.length = b ∧ d.length < b.length := by
  unfold unfield at h
  split at h
  · cases h
  · rename_i hn
    split at h
    · rename_i he
      injection h with h
      subst h
      refine ⟨he, ?_⟩
      rw [pick_len (by omega) (by omega)]
      have := from_pos b
      omega
    · cases h
theorem ofNat_toNat {n : Nat} (h : n < 256) : (UInt8.ofNat n).toNat = n := by
  rw [UInt8.toNat_ofNat']; exact Nat.mod_eq_of_lt h
theorem unfield_field {d : List UInt8} {z : Nat} (h : d.length < z) (hz : z ≤ 4096) : unfield (field d z) = some d := by
  have hl := field_len h
  have hf : from_ (field d z) = (cnt (z - d.length)).length ∧ miss (field d z) = z - d.length := by
    unfold from_ miss field
    by_cases hn : z - d.length < 128
    · unfold cnt
      rw [if_pos hn]
      have e : ([UInt8.ofNat (z - d.length)] ++ (d ++ List.replicate (z - d.length - [UInt8.ofNat (z - d.length)].length) 0)).getD 0 0 = UInt8.ofNat (z - d.length) := rfl
      rw [e, ofNat_toNat (by omega), if_neg (by omega), if_neg (by omega)]
      exact ⟨rfl, rfl⟩
    · unfold cnt
      rw [if_neg hn]
      generalize (d ++ List.replicate (z - d.length - [UInt8.ofNat ((z - d.length) % 128 + 128), UInt8.ofNat ((z - d.length) / 128)].length) 0) = r
      have e0 : ([UInt8.ofNat ((z - d.length) % 128 + 128), UInt8.ofNat ((z - d.length) / 128)] ++ r).getD 0 0 = UInt8.ofNat ((z - d.length) % 128 + 128) := rfl
      have e1 : ([UInt8.ofNat ((z - d.length) % 128 + 128), UInt8.ofNat ((z - d.length) / 128)] ++ r).getD 1 0 = UInt8.ofNat ((z - d.length) / 128) := rfl
      rw [e0, e1, ofNat_toNat (by omega), ofNat_toNat (by omega), if_pos (by omega), if_pos (by omega)]
      exact ⟨rfl, by omega⟩
  have hp : pick (field d z) = d := by
    unfold pick
    rw [hf.1, hf.2, hl]
    unfold field
    rw [List.drop_left, show z - (z - d.length) = d.length by omega, List.take_left]
  unfold unfield
  have hc := cnt_len (z - d.length)
  rw [hf.1, hf.2, hl, hp, if_neg (by rw [hc]; split <;> omega), if_pos rfl]

/-- The control byte. -/
def ctl (f : Fr) : Nat := (f.ty * 64 + f.hi * 8 + f.lo).toNat
/-- Whether a packet may be. -/
def ok (f : Fr) : Prop := (0 ≤ f.hi ∧ f.hi ≤ 7 ∧ 0 ≤ f.lo ∧ f.lo ≤ 7) ∧ ((f.ty = 0 ∧ f.sz = 0 ∧ f.data = []) ∨ (f.ty = 2 ∧ code f.sz ≠ 0 ∧ (f.data.length : Int) = f.sz) ∨ (f.ty = 3 ∧ code f.sz ≠ 0 ∧ (f.data.length : Int) < f.sz))
def body (f : Fr) : List UInt8 := if f.ty = 3 then field f.data f.sz.toNat else f.data
def kd (f : Fr) : Nat := if f.ty = 0 then 9 else code f.sz
def sm (f : Fr) : Nat := if f.ty = 0 then (Chk.control (ctl f)).toNat else (Chk.packet (body f) (ctl f)).toNat
def text (f : Fr) : List UInt8 := head (kd f) (sm f) (ctl f) ++ body f

def okCode (t k : Nat) : Bool := if t = 0 then k == 9 else if t = 2 ∨ t = 3 then decide (1 ≤ k ∧ k ≤ 8) else false
/-- Read behind the head. -/
def readBody (c k sum : Nat) (r : List UInt8) : Res :=
  if r.length < size k then .error 2
  else if (sum : Int) ≠ Chk.packet (r.take (size k)) c then .error 4
  else if c / 64 = 2 then .ok (⟨2, (c / 8 % 8 : Nat), (c % 8 : Nat), (size k : Nat), r.take (size k)⟩, (6 + size k))
  else match unfield (r.take (size k)) with
    | none => .error 3
    | some d => .ok (⟨3, (c / 8 % 8 : Nat), (c % 8 : Nat), (size k : Nat), d⟩, (6 + size k))
def readHead (k l h c x : Nat) (r : List UInt8) : Res :=
  if (k ^^^ l ^^^ h ^^^ c) ≠ x ∨ okCode (c / 64) k = false then .error 3
  else if c / 64 = 0 then
    if ((l + 256 * h : Nat) : Int) ≠ Chk.control c then .error 4 else .ok (⟨0, (c / 8 % 8 : Nat), (c % 8 : Nat), 0, []⟩, 6)
  else readBody c k (l + 256 * h) r
def read : List UInt8 → Res
  | [] => .error 2
  | a :: r =>
    if a ≠ 16 then .error 3
    else match r with
      | k :: l :: h :: c :: x :: t => readHead k.toNat l.toNat h.toNat c.toNat x.toNat t
      | _ => .error 2
/-- Scan. -/
structure Sc where
  f : Fr
  a : Nat
  b : Nat
  ok : Bool
def scan : Nat → List UInt8 → Sc
  | p, [] => ⟨zero, p, p, false⟩
  | p, c :: r => match read (c :: r) with
    | .ok (f, n) => ⟨f, p, p + n, true⟩
    | .error e => if e = 2 then ⟨zero, p, p, false⟩ else scan (p + 1) r

theorem control_range (c : Nat) : 0 ≤ Chk.control (c : Int) ∧ Chk.control (c : Int) < 65536 := by unfold Chk.control; omega
theorem packet_range (l : List UInt8) (c : Nat) : 0 ≤ Chk.packet l (c : Int) ∧ Chk.packet l (c : Int) < 65536 := by unfold Chk.packet; omega
theorem ctl_facts {f : Fr} (h : ok f) : ctl f < 256 ∧ ((ctl f / 64 : Nat) : Int) = f.ty ∧ ((ctl f / 8 % 8 : Nat) : Int) = f.hi ∧ ((ctl f % 8 : Nat) : Int) = f.lo := by
  obtain ⟨⟨a, b, c, d⟩, h⟩ := h
  unfold ctl
  have ht : f.ty = 0 ∨ f.ty = 2 ∨ f.ty = 3 := by rcases h with h | h | h <;> simp [h.1]
  rcases ht with ht | ht | ht <;> rw [ht] <;> omega
theorem sm_lt (f : Fr) : sm f < 65536 := by
  unfold sm
  have h1 := control_range (ctl f)
  have h2 := packet_range (body f) (ctl f)
  split <;> omega
theorem kd_range {f : Fr} (h : ok f) : 1 ≤ kd f ∧ kd f ≤ 9 := by
  unfold kd
  have := code_le f.sz
  rcases h.2 with h | h | h
  · rw [if_pos h.1]; omega
  · rw [if_neg (by omega)]; omega
  · rw [if_neg (by omega)]; omega
theorem xor_byte (a b c d : Nat) (ha : a < 256) (hb : b < 256) (hc : c < 256) (hd : d < 256) : a ^^^ b ^^^ c ^^^ d < 256 := Chk.xor8 (Chk.xor8 (Chk.xor8 ha hb) hc) hd
/-- A head is read as it was. -/
theorem read_head {k s c : Nat} (hk : k < 256) (hs : s < 65536) (hc : c < 256) (r : List UInt8) :
    read (head k s c ++ r) = readHead k (s % 256) (s / 256) c (k ^^^ s % 256 ^^^ s / 256 ^^^ c) r := by
  have h1 : s % 256 < 256 := Nat.mod_lt _ (by decide)
  have h2 : s / 256 < 256 := by omega
  have h3 := xor_byte k (s % 256) (s / 256) c hk h1 h2 hc
  show read (16 :: UInt8.ofNat k :: UInt8.ofNat (s % 256) :: UInt8.ofNat (s / 256) :: UInt8.ofNat c :: UInt8.ofNat (k ^^^ s % 256 ^^^ s / 256 ^^^ c) :: r) = _
  unfold read
  dsimp only
  rw [if_neg (by decide), ofNat_toNat hk, ofNat_toNat h1, ofNat_toNat h2, ofNat_toNat hc, ofNat_toNat h3]
theorem body_len {f : Fr} (h : ok f) (ht : f.ty ≠ 0) : (body f).length = size (code f.sz) := by
  unfold body
  rcases h.2 with h | h | h
  · exact absurd h.1 ht
  · rw [if_neg (by omega)]
    have := (code_size h.2.1).1
    omega
  · rw [if_pos h.1]
    have := code_size h.2.1
    rw [field_len (by omega)]
    omega
theorem text_len (f : Fr) : (text f).length = 6 + (body f).length := by
  unfold text head
  rw [List.length_append]
  rfl
/-- What is written is read as it was. -/
theorem read_text {f : Fr} (h : ok f) (r : List UInt8) : read (text f ++ r) = .ok (f, (text f).length) := by
  obtain ⟨hc, ct, ch, cl⟩ := ctl_facts h
  have hk := kd_range h
  rw [text_len f]
  unfold text
  rw [List.append_assoc, read_head (by omega) (sm_lt f) hc]
  unfold readHead
  have hsum : sm f % 256 + 256 * (sm f / 256) = sm f := by omega
  obtain ⟨ty, hi, lo, sz, data⟩ := f
  rcases h.2 with h' | h' | h'
  · obtain ⟨e1, e2, e3⟩ := h'
    dsimp only at e1 e2 e3
    subst e1 e2 e3
    have hc0 : ctl ⟨0, hi, lo, 0, []⟩ / 64 = 0 := by have : ((ctl ⟨0, hi, lo, 0, []⟩ / 64 : Nat) : Int) = 0 := ct; omega
    have hkd : kd ⟨0, hi, lo, 0, []⟩ = 9 := rfl
    have hsm : sm ⟨0, hi, lo, 0, []⟩ = (Chk.control (ctl ⟨0, hi, lo, 0, []⟩)).toNat := rfl
    have hr := control_range (ctl ⟨0, hi, lo, 0, []⟩)
    rw [hkd, if_neg (by rw [hc0]; simp [okCode]), if_pos hc0, hsum, if_neg (by rw [hsm]; omega), ch, cl]
    rfl
  · have ht : (⟨ty, hi, lo, sz, data⟩ : Fr).ty ≠ 0 := by rw [h'.1]; decide
    have hbl := body_len h ht
    obtain ⟨e1, e2, e3⟩ := h'
    dsimp only at e1 e2 e3
    subst e1
    have hc0 : ctl ⟨2, hi, lo, sz, data⟩ / 64 = 2 := by have : ((ctl ⟨2, hi, lo, sz, data⟩ / 64 : Nat) : Int) = 2 := ct; omega
    have hkd : kd ⟨2, hi, lo, sz, data⟩ = code sz := rfl
    have hsm : sm ⟨2, hi, lo, sz, data⟩ = (Chk.packet data (ctl ⟨2, hi, lo, sz, data⟩)).toNat := rfl
    have hbd : body ⟨2, hi, lo, sz, data⟩ = data := rfl
    have hr := packet_range data (ctl ⟨2, hi, lo, sz, data⟩)
    have hz := code_size e2
    have hcl := code_le sz
    rw [hbd] at hbl ⊢
    rw [hkd, if_neg (by rw [hc0]; simp [okCode]; omega), if_neg (by omega), hsum]
    unfold readBody
    rw [if_neg (by rw [List.length_append]; omega), show (data ++ r).take (size (code sz)) = data by rw [← hbl, List.take_left], if_neg (by rw [hsm]; omega), if_pos hc0, ch, cl, ← hz.1, hbl]
  · have ht : (⟨ty, hi, lo, sz, data⟩ : Fr).ty ≠ 0 := by rw [h'.1]; decide
    have hbl := body_len h ht
    obtain ⟨e1, e2, e3⟩ := h'
    dsimp only at e1 e2 e3
    subst e1
    have hc0 : ctl ⟨3, hi, lo, sz, data⟩ / 64 = 3 := by have : ((ctl ⟨3, hi, lo, sz, data⟩ / 64 : Nat) : Int) = 3 := ct; omega
    have hkd : kd ⟨3, hi, lo, sz, data⟩ = code sz := rfl
    have hbd : body ⟨3, hi, lo, sz, data⟩ = field data sz.toNat := rfl
    have hsm : sm ⟨3, hi, lo, sz, data⟩ = (Chk.packet (body ⟨3, hi, lo, sz, data⟩) (ctl ⟨3, hi, lo, sz, data⟩)).toNat := rfl
    have hr := packet_range (body ⟨3, hi, lo, sz, data⟩) (ctl ⟨3, hi, lo, sz, data⟩)
    have hz := code_size e2
    have hcl := code_le sz
    have hu : unfield (body ⟨3, hi, lo, sz, data⟩) = some data := unfield_field (d := data) (z := sz.toNat) (by omega) (by omega)
    have hbl : (body ⟨3, hi, lo, sz, data⟩).length = size (code sz) := hbl
    generalize body ⟨3, hi, lo, sz, data⟩ = bd at *
    rw [hkd, if_neg (by rw [hc0]; simp [okCode]; omega), if_neg (by omega), hsum]
    unfold readBody
    rw [if_neg (by rw [List.length_append]; omega), show (bd ++ r).take (size (code sz)) = bd by rw [← hbl, List.take_left], if_neg (by rw [hsm]; omega), if_neg (by omega), hu]
    dsimp only
    rw [ch, cl, ← hz.1, hbl]

theorem byte_eq (b : UInt8) : UInt8.ofNat b.toNat = b := UInt8.ofNat_toNat
/-- The head, out of bytes. -/
theorem head_bytes {k l h c x : UInt8} (e : k.toNat ^^^ l.toNat ^^^ h.toNat ^^^ c.toNat = x.toNat) : head k.toNat (l.toNat + 256 * h.toNat) c.toNat = [16, k, l, h, c, x] := by
  have hl := UInt8.toNat_lt l
  unfold head
  rw [show (l.toNat + 256 * h.toNat) % 256 = l.toNat by omega, show (l.toNat + 256 * h.toNat) / 256 = h.toNat by omega, e, byte_eq, byte_eq, byte_eq, byte_eq, byte_eq]
/-- What is read is written so. -/
theorem text_read {s : List UInt8} {f : Fr} {n : Nat} (h : read s = .ok (f, n)) : ok f ∧ text f = s.take n ∧ 6 ≤ n ∧ n ≤ s.length := by
  match s with
  | [] => cases h
  | [a] | [a, _] | [a, _, _] | [a, _, _, _] | [a, _, _, _, _] => unfold read at h; dsimp only at h; split at h <;> cases h
  | a :: k :: l :: hh :: c :: x :: r =>
    unfold read at h
    dsimp only at h
    split at h
    · cases h
    rename_i ha
    have ha : a = 16 := Decidable.not_not.1 ha
    subst ha
    unfold readHead at h
    split at h
    · cases h
    rename_i hx
    have hx1 : k.toNat ^^^ l.toNat ^^^ hh.toNat ^^^ c.toNat = x.toNat := by
      apply Decidable.not_not.1; intro e; exact hx (Or.inl e)
    have hx2 : okCode (c.toNat / 64) k.toNat = true := by
      cases e : okCode (c.toNat / 64) k.toNat
      · exact absurd (Or.inr e) hx
      · rfl
    have hh1 := head_bytes hx1
    have hc := UInt8.toNat_lt c
    have hl := UInt8.toNat_lt l
    have hhl := UInt8.toNat_lt hh
    clear hx
    unfold okCode at hx2
    split at h
    · rename_i h0
      split at h
      · cases h
      rename_i hs
      have hs : ((l.toNat + 256 * hh.toNat : Nat) : Int) = Chk.control c.toNat := Decidable.not_not.1 hs
      rw [if_pos h0] at hx2
      have hk : k.toNat = 9 := by simpa using hx2
      obtain ⟨h1, h2⟩ := Prod.mk.inj (Except.ok.inj h)
      subst h1 h2
      have hok : ok ⟨0, (c.toNat / 8 % 8 : Nat), (c.toNat % 8 : Nat), 0, []⟩ := ⟨⟨by dsimp only; omega, by dsimp only; omega, by dsimp only; omega, by dsimp only; omega⟩, Or.inl ⟨rfl, rfl, rfl⟩⟩
      refine ⟨hok, ?_, by decide, by simp⟩
      have hct : ctl ⟨0, (c.toNat / 8 % 8 : Nat), (c.toNat % 8 : Nat), 0, []⟩ = c.toNat := by unfold ctl; dsimp only; omega
      have hkd : kd ⟨0, (c.toNat / 8 % 8 : Nat), (c.toNat % 8 : Nat), 0, []⟩ = k.toNat := by rw [hk]; rfl
      have hsm : sm ⟨0, (c.toNat / 8 % 8 : Nat), (c.toNat % 8 : Nat), 0, []⟩ = l.toNat + 256 * hh.toNat := by unfold sm; rw [if_pos rfl, hct, ← hs]; rfl
      unfold text
      rw [hct, hkd, hsm, hh1]
      rfl
    · rename_i h0
      have hk : (1 ≤ k.toNat ∧ k.toNat ≤ 8) ∧ (c.toNat / 64 = 2 ∨ c.toNat / 64 = 3) := by
        rw [if_neg h0] at hx2
        split at hx2
        · rename_i ht; exact ⟨by simpa using hx2, ht⟩
        · cases hx2
      obtain ⟨⟨hk1, hk2⟩, ht⟩ := hk
      have hsz := size_range hk1 hk2
      have hcd := size_code hk1 hk2
      unfold readBody at h
      split at h
      · cases h
      rename_i hlen
      split at h
      · cases h
      rename_i hs
      have hs : ((l.toNat + 256 * hh.toNat : Nat) : Int) = Chk.packet (r.take (size k.toNat)) c.toNat := Decidable.not_not.1 hs
      have hbl : (r.take (size k.toNat)).length = size k.toNat := by rw [List.length_take]; omega
      split at h
      · rename_i h2
        obtain ⟨e1, e2⟩ := Prod.mk.inj (Except.ok.inj h)
        subst e1 e2
        have hok : ok ⟨2, (c.toNat / 8 % 8 : Nat), (c.toNat % 8 : Nat), (size k.toNat : Nat), r.take (size k.toNat)⟩ := ⟨⟨by dsimp only; omega, by dsimp only; omega, by dsimp only; omega, by dsimp only; omega⟩, Or.inr (Or.inl ⟨rfl, by dsimp only; omega, by dsimp only; omega⟩)⟩
        refine ⟨hok, ?_, by omega, by simp only [List.length_cons]; omega⟩
        have hct : ctl ⟨2, (c.toNat / 8 % 8 : Nat), (c.toNat % 8 : Nat), (size k.toNat : Nat), r.take (size k.toNat)⟩ = c.toNat := by unfold ctl; dsimp only; omega
        have hkd : kd ⟨2, (c.toNat / 8 % 8 : Nat), (c.toNat % 8 : Nat), (size k.toNat : Nat), r.take (size k.toNat)⟩ = k.toNat := hcd
        have hbd : body ⟨2, (c.toNat / 8 % 8 : Nat), (c.toNat % 8 : Nat), (size k.toNat : Nat), r.take (size k.toNat)⟩ = r.take (size k.toNat) := rfl
        have hsm : sm ⟨2, (c.toNat / 8 % 8 : Nat), (c.toNat % 8 : Nat), (size k.toNat : Nat), r.take (size k.toNat)⟩ = l.toNat + 256 * hh.toNat := by unfold sm; rw [if_neg (by dsimp only; decide), hct, hbd, ← hs]; rfl
        unfold text
        rw [hct, hkd, hsm, hh1, hbd, Nat.add_comm 6 (size k.toNat)]
        rfl
      · rename_i h2
        split at h
        · cases h
        rename_i d hd
        obtain ⟨hd1, hd2⟩ := unfield_some hd
        rw [hbl] at hd1 hd2
        obtain ⟨e1, e2⟩ := Prod.mk.inj (Except.ok.inj h)
        subst e1 e2
        have hok : ok ⟨3, (c.toNat / 8 % 8 : Nat), (c.toNat % 8 : Nat), (size k.toNat : Nat), d⟩ := ⟨⟨by dsimp only; omega, by dsimp only; omega, by dsimp only; omega, by dsimp only; omega⟩, Or.inr (Or.inr ⟨rfl, by dsimp only; omega, by dsimp only; omega⟩)⟩
        refine ⟨hok, ?_, by omega, by simp only [List.length_cons]; omega⟩
        have hct : ctl ⟨3, (c.toNat / 8 % 8 : Nat), (c.toNat % 8 : Nat), (size k.toNat : Nat), d⟩ = c.toNat := by unfold ctl; dsimp only; omega
        have hkd : kd ⟨3, (c.toNat / 8 % 8 : Nat), (c.toNat % 8 : Nat), (size k.toNat : Nat), d⟩ = k.toNat := hcd
        have hbd : body ⟨3, (c.toNat / 8 % 8 : Nat), (c.toNat % 8 : Nat), (size k.toNat : Nat), d⟩ = r.take (size k.toNat) := by unfold body; rw [if_pos rfl]; exact hd1
        have hsm : sm ⟨3, (c.toNat / 8 % 8 : Nat), (c.toNat % 8 : Nat), (size k.toNat : Nat), d⟩ = l.toNat + 256 * hh.toNat := by unfold sm; rw [if_neg (by dsimp only; decide), hct, hbd, ← hs]; rfl
        unfold text
        rw [hct, hkd, hsm, hh1, hbd, Nat.add_comm 6 (size k.toNat)]
        rfl
end Gf
end Go.Proofs.YtomldoijcclhhaaGreat

namespace Go.Proofs.YtomldoijcclhhaaGreat
namespace Wn
/-- How many steps lead from a to b, modulo m; -1 where these may not be. -/
def ahead (a b m : Int) : Int := if 2 ≤ m ∧ m ≤ 64 ∧ 0 ≤ a ∧ a < m ∧ 0 ≤ b ∧ b < m then (if a ≤ b then b - a else b - a + m) else -1
/-- A window. -/
structure W where
  md : Int
  sz : Int
  bs : Int
  l : List ByteArray
def zero : W := ⟨0, 0, 0, []⟩
def fit (m s b : Int) : Prop := 2 ≤ m ∧ m ≤ 64 ∧ 1 ≤ s ∧ s < m ∧ 0 ≤ b ∧ b < m
def begin_ (m s b : Int) : W × Nat := if 2 ≤ m ∧ m ≤ 64 ∧ 1 ≤ s ∧ s < m ∧ 0 ≤ b ∧ b < m then (⟨m, s, b, []⟩, 0) else (zero, 1)
def rt (w : W) : Bool := decide (2 ≤ w.md ∧ w.md ≤ 64 ∧ 1 ≤ w.sz ∧ w.sz < w.md ∧ 0 ≤ w.bs ∧ w.bs < w.md ∧ (w.l.length : Int) ≤ w.sz)
def num (w : W) (i : Nat) : Int := (w.bs + i) % w.md
/-- Put: the window, the number, the error. -/
def put (w : W) (s : ByteArray) : W × Int × Nat := if rt w = true then (if (w.l.length : Int) = w.sz then (w, 0, 8) else ({ w with l := w.l ++ [s] }, num w w.l.length, 0)) else (w, 0, 1)
/-- The place of a number among what waits. -/
def place (w : W) (n : Int) : Option Nat := if rt w = true ∧ 0 ≤ ahead w.bs n w.md ∧ ahead w.bs n w.md < w.l.length then some (ahead w.bs n w.md).toNat else none
/-- Ack: the window, how many went. -/
def ack (w : W) (n : Int) : W × Nat := match place w n with
  | some k => ({ w with bs := (n + 1) % w.md, l := w.l.drop (k + 1) }, k + 1)
  | none => (w, 0)
def find (w : W) (n : Int) : Option ByteArray := (place w n).bind fun k => w.l[k]?
def nums (w : W) : List Int := if rt w = true then (List.range w.l.length).map (num w) else []
theorem ahead_no {a b m : Int} (h : ¬ (2 ≤ m ∧ m ≤ 64 ∧ 0 ≤ a ∧ a < m ∧ 0 ≤ b ∧ b < m)) : ahead a b m = -1 := if_neg h
theorem rt_parts {w : W} (h : rt w = true) : 2 ≤ w.md ∧ w.md ≤ 64 ∧ 1 ≤ w.sz ∧ w.sz < w.md ∧ 0 ≤ w.bs ∧ w.bs < w.md ∧ (w.l.length : Int) ≤ w.sz := of_decide_eq_true h
theorem rt_of {w : W} (h : 2 ≤ w.md ∧ w.md ≤ 64 ∧ 1 ≤ w.sz ∧ w.sz < w.md ∧ 0 ≤ w.bs ∧ w.bs < w.md ∧ (w.l.length : Int) ≤ w.sz) : rt w = true := decide_eq_true h
/-- One number more, within one round. -/
theorem wrapNum {b m : Int} {i : Nat} (hb : 0 ≤ b) (hb2 : b < m) (hi : (i : Int) < m) : (b + i) % m = if b + i < m then b + i else b + i - m := by
  split
  · rw [Int.emod_eq_of_lt (by omega) (by omega)]
  · rw [show b + (i : Int) = (b + i - m) + m by omega, Int.add_emod_right, Int.emod_eq_of_lt (by omega) (by omega)]; omega
theorem num_lt {w : W} (h : rt w = true) (i : Nat) : 0 ≤ num w i ∧ num w i < w.md := by
  obtain ⟨h1, _⟩ := rt_parts h
  exact ⟨Int.emod_nonneg _ (by omega), Int.emod_lt_of_pos _ (by omega)⟩
/-- The number of a place stands at that place. -/
theorem place_num {w : W} (h : rt w = true) {i : Nat} (hi : i < w.l.length) : place w (num w i) = some i := by
  obtain ⟨h1, h2, h3, h4, h5, h6, h7⟩ := rt_parts h
  have hn := num_lt h i
  have e : ahead w.bs (num w i) w.md = (i : Int) := by
    unfold ahead
    rw [if_pos ⟨h1, h2, h5, h6, hn.1, hn.2⟩]
    unfold num
    rw [wrapNum h5 h6 (by omega)]
    split <;> split <;> omega
  unfold place
  rw [e, if_pos ⟨h, by omega, by omega⟩, Int.toNat_natCast]
theorem place_some {w : W} {n : Int} {k : Nat} (h : place w n = some k) : rt w = true ∧ k < w.l.length ∧ n = num w k := by
  unfold place at h
  split at h
  · rename_i hc
    obtain ⟨hr, h0, hl⟩ := hc
    have hk : (ahead w.bs n w.md).toNat = k := Option.some.inj h
    obtain ⟨h1, h2, h3, h4, h5, h6, h7⟩ := rt_parts hr
    refine ⟨hr, by omega, ?_⟩
    by_cases hv : 2 ≤ w.md ∧ w.md ≤ 64 ∧ 0 ≤ w.bs ∧ w.bs < w.md ∧ 0 ≤ n ∧ n < w.md
    · have e : ahead w.bs n w.md = if w.bs ≤ n then n - w.bs else n - w.bs + w.md := if_pos hv
      unfold num
      rw [wrapNum h5 h6 (by omega)]
      split at e <;> split <;> omega
    · rw [ahead_no hv] at h0; omega
  · cases h
theorem put_ok {w : W} (h : rt w = true) (hl : ¬ (w.l.length : Int) = w.sz) (s : ByteArray) : put w s = ({ w with l := w.l ++ [s] }, num w w.l.length, 0) := by
  unfold put; rw [if_pos h, if_neg hl]
theorem ack_rt {w : W} {n : Int} {k : Nat} (h : place w n = some k) : rt { w with bs := (n + 1) % w.md, l := w.l.drop (k + 1) } = true := by
  obtain ⟨hr, hk, rfl⟩ := place_some h
  obtain ⟨h1, h2, h3, h4, h5, h6, h7⟩ := rt_parts hr
  apply rt_of
  have := Int.emod_nonneg (num w k + 1) (b := w.md) (by omega)
  have := Int.emod_lt_of_pos (num w k + 1) (b := w.md) (by omega)
  simp only [List.length_drop]
  omega
/-- What stands while calls are made: the window is right, of that mod and size, and its next number is that of the puts so far. -/
structure Row (m z : Int) (puts : Nat) (w : W) : Prop where
  ok : rt w = true
  md : w.md = m
  sz : w.sz = z
  nx : num w w.l.length = (puts : Int) % m
/-- What waits, each with its number. -/
def waits (w : W) : List (Int × ByteArray) := (List.range w.l.length).map fun i => (num w i, w.l.getD i ByteArray.empty)
end Wn
end Go.Proofs.YtomldoijcclhhaaGreat
