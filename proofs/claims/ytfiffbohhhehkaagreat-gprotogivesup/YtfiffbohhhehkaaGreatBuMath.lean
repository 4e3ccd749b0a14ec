/-
  Layer 2: the sums, as functions of lists of bytes. Plain mathematics, of no program. Mathematics of layer 11: packets of the protocol g as lists of bytes; what is written is read. Mathematics of layer 14: windows of numbers that begin anew. Mathematics of layer 15: one end of the protocols g and G, as the document says it; a drive that is right stays right. Mathematics of layer 15: a drive that is right stays right, whatever comes; what it keeps of the bytes is less than a packet. Mathematics of layer 15: what can be reached stays right, ticks among it. Layer 15: the six rounds of awake, reckoned. Mathematics of layer 15: packets that come one behind the other; ticks till an end gives up. Mathematics of layer 15: two ends that open, where nothing is lost. Mathematics of layer 15: two ends that run, where nothing is lost: what waits goes, comes in order, and is acknowledged. Mathematics of layer 15: rounds in which nothing is lost; both ends close. Mathematics of layer 15: two ends from their beginning on, where nothing is lost: all comes, and both are closed in the end. Mathematics of layer 15: what GprotoGivesUp and GprotoCloses ask of two ends where nothing is lost. Mathematics of layer 15: how many bytes are under way at most, where a short text was given.
-/
import Derived.WalkKit
import Derived.Test.YtfiffbohhhehkaaGreatProg
namespace Go.Proofs.YtfiffbohhhehkaaGreat
open Go.RowKit
namespace Chk

/-! The sum of the protocol g (P2.1). -/
def rot (s : Nat) : Nat := s * 2 % 65536 + s / 32768
def sumT (s c : Nat) : Nat := (rot s + c) % 65536
def sumX (s x n c : Nat) : Nat := (x + (sumT s c ^^^ n % 65536)) % 65536
def sumS (s x n c : Nat) : Nat := if sumT s c ≤ rot s then sumT s c ^^^ sumX s x n c else sumT s c
def sumOn : List UInt8 → Nat → Nat → Nat
  | [], s, _ => s
  | c :: l, s, x => sumOn l (sumS s x (l.length + 1) c.toNat) (sumX s x (l.length + 1) c.toNat)
def sum (l : List UInt8) : Nat := sumOn l 65535 0
theorem rot_lt {s : Nat} (h : s < 65536) : rot s < 65536 := by unfold rot; omega
theorem sumT_lt (s c : Nat) : sumT s c < 65536 := Nat.mod_lt _ (by decide)
theorem sumX_lt (s x n c : Nat) : sumX s x n c < 65536 := Nat.mod_lt _ (by decide)
theorem xor16 {a b : Nat} (ha : a < 65536) (hb : b < 65536) : a ^^^ b < 65536 := Nat.xor_lt_two_pow (n := 16) ha hb
theorem sumS_lt (s x n c : Nat) : sumS s x n c < 65536 := by
  unfold sumS
  split
  · exact xor16 (sumT_lt _ _) (sumX_lt _ _ _ _)
  · exact sumT_lt _ _
theorem sumOn_lt : ∀ (l : List UInt8) (s x : Nat), s < 65536 → sumOn l s x < 65536
  | [], _, _, h => h
  | _ :: l, _, _, _ => sumOn_lt l _ _ (sumS_lt _ _ _ _)
theorem sum_lt (l : List UInt8) : sum l < 65536 := sumOn_lt l _ _ (by decide)

/-! All bytes, turned by one another (P2.3). -/
def xor (l : List UInt8) : Nat := l.foldl (fun x c => x ^^^ c.toNat) 0
theorem xor8 {a b : Nat} (ha : a < 256) (hb : b < 256) : a ^^^ b < 256 := Nat.xor_lt_two_pow (n := 8) ha hb
theorem xorOn_lt : ∀ (l : List UInt8) (x : Nat), x < 256 → l.foldl (fun x c => x ^^^ c.toNat) x < 256
  | [], _, h => h
  | c :: l, _, h => xorOn_lt l _ (xor8 h (UInt8.toNat_lt c))
theorem xor_lt (l : List UInt8) : xor l < 256 := xorOn_lt l 0 (by decide)
theorem xorOn : ∀ (l : List UInt8) (x : Nat), l.foldl (fun x c => x ^^^ c.toNat) x = x ^^^ xor l
  | [], x => by simp [xor]
  | c :: l, x => by
    rw [List.foldl_cons, xorOn l (x ^^^ c.toNat)]
    unfold xor
    rw [List.foldl_cons, xorOn l (0 ^^^ c.toNat), Nat.zero_xor]
    exact Nat.xor_assoc _ _ _
theorem xor_append (a b : List UInt8) : xor (a ++ b) = xor a ^^^ xor b := by
  conv => lhs; unfold xor
  rw [List.foldl_append, xorOn b]; rfl
theorem xor_one (c : UInt8) : xor [c] = c.toNat := by unfold xor; rw [List.foldl_cons, List.foldl_nil, Nat.zero_xor]

/-! CRC-32 (P2.4). -/
def poly : Nat := 3988292384
def crcBit (c : Nat) : Nat := c / 2 ^^^ (if c % 2 = 1 then poly else 0)
theorem xor32 {a b : Nat} (ha : a < 4294967296) (hb : b < 4294967296) : a ^^^ b < 4294967296 := Nat.xor_lt_two_pow (n := 32) ha hb
theorem crcBit_lt {c : Nat} (h : c < 4294967296) : crcBit c < 4294967296 := by
  unfold crcBit
  refine xor32 (by omega) ?_
  split <;> decide
theorem crcBit_zero : crcBit 0 = 0 := by decide
theorem xor_four (a b c d : Nat) : (a ^^^ b) ^^^ (c ^^^ d) = (a ^^^ c) ^^^ (b ^^^ d) := by
  rw [Nat.xor_assoc, Nat.xor_assoc, ← Nat.xor_assoc b c d, Nat.xor_comm b c, Nat.xor_assoc c b d]
theorem xor_mod2 (a b : Nat) : (a ^^^ b) % 2 = (a + b) % 2 := by
  have h : (a ^^^ b).testBit 0 = ((a.testBit 0) ^^ (b.testBit 0)) := Nat.testBit_xor ..
  simp only [Nat.testBit_zero] at h
  rcases Nat.mod_two_eq_zero_or_one a with ha | ha <;> rcases Nat.mod_two_eq_zero_or_one b with hb | hb <;> rcases Nat.mod_two_eq_zero_or_one (a ^^^ b) with hc | hc <;> simp [ha, hb, hc] at h <;> omega
theorem xor_zero_eq {a b : Nat} (h : a ^^^ b = 0) : a = b := by
  have h1 : a ^^^ (a ^^^ b) = b := by rw [← Nat.xor_assoc, Nat.xor_self, Nat.zero_xor]
  rw [h, Nat.xor_zero] at h1
  exact h1
theorem crcBit_xor (a b : Nat) : crcBit (a ^^^ b) = crcBit a ^^^ crcBit b := by
  unfold crcBit
  rw [xor_four, Nat.xor_div_two]
  congr 1
  rw [xor_mod2]
  rcases Nat.mod_two_eq_zero_or_one a with ha | ha <;> rcases Nat.mod_two_eq_zero_or_one b with hb | hb
  · rw [if_neg (by omega), if_neg (by omega), if_neg (by omega)]; rfl
  · rw [if_pos (by omega), if_neg (by omega), if_pos (by omega), Nat.zero_xor]
  · rw [if_pos (by omega), if_pos (by omega), if_neg (by omega), Nat.xor_zero]
  · rw [if_neg (by omega), if_pos (by omega), if_pos (by omega), Nat.xor_self]
theorem crcBit_eq_zero {c : Nat} (h : c < 4294967296) (hz : crcBit c = 0) : c = 0 := by
  unfold crcBit at hz
  replace hz := xor_zero_eq hz
  by_cases hc : c % 2 = 1
  · rw [if_pos hc] at hz; unfold poly at hz; omega
  · rw [if_neg hc] at hz; omega
def crcBits : Nat → Nat → Nat
  | 0, c => c
  | k + 1, c => crcBits k (crcBit c)
theorem crcBits_lt : ∀ (k : Nat) {c : Nat}, c < 4294967296 → crcBits k c < 4294967296
  | 0, _, h => h
  | k + 1, _, h => crcBits_lt k (crcBit_lt h)
theorem crcBits_xor : ∀ (k a b : Nat), crcBits k (a ^^^ b) = crcBits k a ^^^ crcBits k b
  | 0, _, _ => rfl
  | k + 1, a, b => by unfold crcBits; rw [crcBit_xor]; exact crcBits_xor k _ _
theorem crcBits_eq_zero : ∀ (k : Nat) {c : Nat}, c < 4294967296 → crcBits k c = 0 → c = 0
  | 0, _, _, h => h
  | k + 1, _, hc, h => crcBit_eq_zero hc (crcBits_eq_zero k (crcBit_lt hc) h)
theorem crcBits_inj (k : Nat) {a b : Nat} (ha : a < 4294967296) (hb : b < 4294967296) (h : crcBits k a = crcBits k b) : a = b := by
  have h1 := crcBits_xor k a b
  rw [h, Nat.xor_self] at h1
  exact xor_zero_eq (crcBits_eq_zero k (xor32 ha hb) h1)
theorem crcBits_last : ∀ (k c : Nat), crcBits (k + 1) c = crcBit (crcBits k c)
  | 0, _ => rfl
  | k + 1, c => by
    show crcBits (k + 1) (crcBit c) = _
    exact crcBits_last k (crcBit c)
theorem crcBit_double (m : Nat) : crcBit (2 * m) = m := by unfold crcBit; rw [if_neg (by omega), Nat.xor_zero]; omega
theorem crcBits_shift : ∀ (k m : Nat), crcBits k (m * 2 ^ k) = m
  | 0, m => by unfold crcBits; omega
  | k + 1, m => by
    unfold crcBits
    rw [show m * 2 ^ (k + 1) = 2 * (m * 2 ^ k) by rw [Nat.pow_succ]; rw [← Nat.mul_assoc]; exact Nat.mul_comm _ _, crcBit_double]
    exact crcBits_shift k m
def crcStep (c : Nat) (b : UInt8) : Nat := crcBits 8 (c ^^^ b.toNat)
def crcOn (c : Nat) (l : List UInt8) : Nat := l.foldl crcStep c
theorem byte32 (b : UInt8) : b.toNat < 4294967296 := Nat.lt_trans (UInt8.toNat_lt b) (by decide)
theorem crcStep_lt {c : Nat} (b : UInt8) (h : c < 4294967296) : crcStep c b < 4294967296 := crcBits_lt 8 (xor32 h (byte32 b))
theorem crcOn_lt : ∀ (l : List UInt8) {c : Nat}, c < 4294967296 → crcOn c l < 4294967296
  | [], _, h => h
  | b :: l, _, h => crcOn_lt l (crcStep_lt b h)
theorem crcOn_append (c : Nat) (a b : List UInt8) : crcOn c (a ++ b) = crcOn (crcOn c a) b := List.foldl_append ..
def low32 (sum : Int) : Nat := (sum % 4294967296).toNat
theorem low32_lt (sum : Int) : low32 sum < 4294967296 := by unfold low32; omega
theorem low32_nat {n : Nat} (h : n < 4294967296) : low32 (n : Int) = n := by unfold low32; omega
def more (sum : Int) (l : List UInt8) : Nat := 4294967295 ^^^ crcOn (4294967295 ^^^ low32 sum) l
theorem more_lt (sum : Int) (l : List UInt8) : more sum l < 4294967296 := xor32 (by decide) (crcOn_lt l (xor32 (by decide) (low32_lt _)))
theorem turn_turn (a c : Nat) : a ^^^ (a ^^^ c) = c := by rw [← Nat.xor_assoc, Nat.xor_self, Nat.zero_xor]
/-- P2.5 -/
theorem more_more (sum : Int) (a b : List UInt8) : more (more sum a : Int) b = more sum (a ++ b) := by
  show 4294967295 ^^^ crcOn (4294967295 ^^^ low32 (more sum a : Int)) b = _
  rw [low32_nat (more_lt sum a)]
  unfold more
  rw [turn_turn, crcOn_append]
theorem more_none {n : Nat} (h : n < 4294967296) : more (n : Int) [] = n := by
  unfold more; rw [low32_nat h]; exact turn_turn _ _

/-! P2.6 -/
theorem crcOn_inj : ∀ (l : List UInt8) {a b : Nat}, a < 4294967296 → b < 4294967296 → crcOn a l = crcOn b l → a = b
  | [], _, _, _, _, h => h
  | c :: l, a, b, ha, hb, h => by
    have h1 := crcOn_inj l (crcStep_lt c ha) (crcStep_lt c hb) h
    have h2 := crcBits_inj 8 (xor32 ha (byte32 c)) (xor32 hb (byte32 c)) h1
    have h3 : c.toNat ^^^ a = c.toNat ^^^ b := by rw [Nat.xor_comm _ a, Nat.xor_comm _ b]; exact h2
    have h4 := congrArg (c.toNat ^^^ ·) h3
    simpa only [turn_turn] using h4
def pack : List UInt8 → Nat
  | [] => 0
  | b :: l => b.toNat + pack l * 256
theorem pack_lt : ∀ (l : List UInt8), pack l < 256 ^ l.length
  | [] => by decide
  | b :: l => by
    have h := pack_lt l
    have hb := UInt8.toNat_lt b
    rw [List.length_cons, Nat.pow_succ]
    unfold pack
    omega
theorem pack_inj : ∀ (l m : List UInt8), l.length = m.length → pack l = pack m → l = m
  | [], [], _, _ => rfl
  | [], _ :: _, h, _ => by cases h
  | _ :: _, [], h, _ => by cases h
  | a :: l, b :: m, hl, hp => by
    unfold pack at hp
    have ha := UInt8.toNat_lt a
    have hb := UInt8.toNat_lt b
    have h1 : a.toNat = b.toNat := by omega
    have h2 : pack l = pack m := by omega
    rw [UInt8.toNat_inj.mp h1, pack_inj l m (by simpa using hl) h2]
theorem pack_cons (b : UInt8) (l : List UInt8) : pack (b :: l) = b.toNat ^^^ pack l * 2 ^ 8 := by
  have h := Nat.shiftLeft_add_eq_or_of_lt (b := b.toNat) (i := 8) (UInt8.toNat_lt b) (pack l)
  have h2 : pack l * 2 ^ 8 ^^^ b.toNat = pack l * 2 ^ 8 + b.toNat := by
    apply Nat.eq_of_testBit_eq
    intro i
    rw [← Nat.shiftLeft_eq, h, Nat.testBit_xor, Nat.testBit_or, Nat.testBit_shiftLeft]
    by_cases hi : i < 8
    · rw [show decide (8 ≤ i) = false by simp; omega]; simp
    · rw [Nat.testBit_lt_two_pow (Nat.lt_of_lt_of_le (UInt8.toNat_lt b) (Nat.pow_le_pow_right (by decide) (by omega : 8 ≤ i)))]; simp
  rw [Nat.xor_comm, h2]
  show b.toNat + pack l * 256 = _
  omega
theorem crcOn_pack : ∀ (l : List UInt8) (c : Nat), c < 4294967296 → l.length ≤ 4 → crcOn c l = crcBits (8 * l.length) (c ^^^ pack l)
  | [], c, _, _ => by show c = c ^^^ 0; rw [Nat.xor_zero]
  | b :: l, c, hc, hl => by
    have h := crcOn_pack l (crcStep c b) (crcStep_lt b hc) (by rw [List.length_cons] at hl; omega)
    show crcOn (crcStep c b) l = _
    rw [h, pack_cons]
    have e : crcStep c b ^^^ pack l = crcBits 8 (c ^^^ (b.toNat ^^^ pack l * 2 ^ 8)) := by
      rw [← Nat.xor_assoc, crcBits_xor, crcBits_shift]; rfl
    rw [e]
    have add : ∀ (j k x : Nat), crcBits j (crcBits k x) = crcBits (k + j) x := by
      intro j k
      induction k with
      | zero => intro x; rw [Nat.zero_add]; rfl
      | succ k ih => intro x; show crcBits j (crcBits k (crcBit x)) = _; rw [ih, show k + 1 + j = (k + j) + 1 by omega]; rfl
    rw [add, List.length_cons, show 8 + 8 * l.length = 8 * (l.length + 1) by omega]
theorem crc_near (p l m q : List UInt8) (hlm : l.length = m.length) (h4 : l.length ≤ 4) (h : more 0 (p ++ (l ++ q)) = more 0 (p ++ (m ++ q))) : l = m := by
  have h0 := congrArg (4294967295 ^^^ ·) h
  simp only [more, turn_turn, crcOn_append] at h0
  have hp : crcOn (4294967295 ^^^ low32 0) p < 4294967296 := crcOn_lt p (xor32 (by decide) (low32_lt _))
  have h1 := crcOn_inj q (crcOn_lt l hp) (crcOn_lt m hp) h0
  rw [crcOn_pack l _ hp h4, crcOn_pack m _ hp (hlm ▸ h4), ← hlm] at h1
  have k4 : ∀ (k : List UInt8), k.length ≤ 4 → pack k < 4294967296 := fun k hk => Nat.lt_of_lt_of_le (pack_lt k) (Nat.pow_le_pow_right (by decide) hk)
  have h2 := crcBits_inj _ (xor32 hp (k4 l h4)) (xor32 hp (k4 m (hlm ▸ h4))) h1
  have h3 := congrArg (crcOn (4294967295 ^^^ low32 0) p ^^^ ·) h2
  simp only [turn_turn] at h3
  exact pack_inj l m hlm h3

/-! P2.2 -/
def packet (l : List UInt8) (control : Int) : Int := (43690 - ((sum l ^^^ (control % 256).toNat : Nat) : Int)) % 65536
def control (c : Int) : Int := 43690 - c % 256
theorem control_inj (a b : Int) : (control a == control b) = (a % 256 == b % 256) := by
  unfold control
  rw [Bool.eq_iff_iff, beq_iff_eq, beq_iff_eq]; omega
theorem packet_inj (l : List UInt8) (a b : Int) : (packet l a == packet l b) = (a % 256 == b % 256) := by
  have ka : sum l ^^^ (a % 256).toNat < 65536 := xor16 (sum_lt l) (by omega)
  have kb : sum l ^^^ (b % 256).toNat < 65536 := xor16 (sum_lt l) (by omega)
  unfold packet
  rw [Bool.eq_iff_iff, beq_iff_eq, beq_iff_eq]
  constructor
  · intro h
    have h1 : sum l ^^^ (a % 256).toNat = sum l ^^^ (b % 256).toNat := by omega
    have h2 := congrArg (sum l ^^^ ·) h1
    simp only [turn_turn] at h2
    omega
  · intro h; rw [h]
end Chk
end Go.Proofs.YtfiffbohhhehkaaGreat

namespace Go.Proofs.YtfiffbohhhehkaaGreat
namespace Gf
/-- A packet. -/
structure Fr where
  ty : Int
  hi : Int
  lo : Int
  sz : Int
  data : List UInt8
def zero : Fr := ⟨0, 0, 0, 0, []⟩
/-- What Read answers: a packet and how many bytes it has, or an error. -/
abbrev Res := Except Nat (Fr × Nat)
def code (z : Int) : Nat :=
  if z = 32 then 1 else if z = 64 then 2 else if z = 128 then 3 else if z = 256 then 4 else if z = 512 then 5 else if z = 1024 then 6 else if z = 2048 then 7 else if z = 4096 then 8 else 0
def size (k : Nat) : Nat := 16 * 2 ^ k
theorem code_le (z : Int) : code z ≤ 8 := by
  unfold code; repeat' split
  all_goals omega
theorem code_size {z : Int} (h : code z ≠ 0) : z = (size (code z) : Nat) ∧ 32 ≤ z ∧ z ≤ 4096 := by
  unfold code at h ⊢
  repeat' split
  all_goals first | (subst z; decide) | (simp_all)
theorem size_code {k : Nat} (h1 : 1 ≤ k) (h2 : k ≤ 8) : code (size k : Nat) = k := by
  have : k = 1 ∨ k = 2 ∨ k = 3 ∨ k = 4 ∨ k = 5 ∨ k = 6 ∨ k = 7 ∨ k = 8 := by omega
  rcases this with h | h | h | h | h | h | h | h <;> subst h <;> decide
theorem size_range {k : Nat} (h1 : 1 ≤ k) (h2 : k ≤ 8) : 32 ≤ size k ∧ size k ≤ 4096 := by
  have : k = 1 ∨ k = 2 ∨ k = 3 ∨ k = 4 ∨ k = 5 ∨ k = 6 ∨ k = 7 ∨ k = 8 := by omega
  rcases this with h | h | h | h | h | h | h | h <;> subst h <;> decide
/-- A head. -/
def head (k sum c : Nat) : List UInt8 := [16, UInt8.ofNat k, UInt8.ofNat (sum % 256), UInt8.ofNat (sum / 256), UInt8.ofNat c, UInt8.ofNat (k ^^^ sum % 256 ^^^ sum / 256 ^^^ c)]
/-- A count of bytes that are missing. -/
def cnt (n : Nat) : List UInt8 := if n < 128 then [UInt8.ofNat n] else [UInt8.ofNat (n % 128 + 128), UInt8.ofNat (n / 128)]
theorem cnt_len (n : Nat) : (cnt n).length = if n < 128 then 1 else 2 := by unfold cnt; split <;> rfl
/-- The field of a short packet. -/
def field (d : List UInt8) (z : Nat) : List UInt8 := cnt (z - d.length) ++ (d ++ List.replicate (z - d.length - (cnt (z - d.length)).length) 0)
theorem field_len {d : List UInt8} {z : Nat} (h : d.length < z) : (field d z).length = z := by
  unfold field
  rw [List.length_append, List.length_append, List.length_replicate, cnt_len]
  split <;> omega
/-- Where a field's data begin, and how many bytes are missing. -/
def from_ (b : List UInt8) : Nat := if 128 ≤ (b.getD 0 0).toNat then 2 else 1
def miss (b : List UInt8) : Nat := if 128 ≤ (b.getD 0 0).toNat then (b.getD 0 0).toNat - 128 + 128 * (b.getD 1 0).toNat else (b.getD 0 0).toNat
def pick (b : List UInt8) : List UInt8 := (b.drop (from_ b)).take (b.length - miss b)
def unfield (b : List UInt8) : Option (List UInt8) :=
  if miss b < from_ b ∨ b.length < miss b then none else if field (pick b) b.length = b then some (pick b) else none
theorem from_pos (b : List UInt8) : 1 ≤ from_ b ∧ from_ b ≤ 2 := by unfold from_; split <;> omega
theorem miss_lt (b : List UInt8) : miss b < 65536 := by
  unfold miss
  have h0 := UInt8.toNat_lt (b.getD 0 0)
  have h1 := UInt8.toNat_lt (b.getD 1 0)
  split <;> omega
theorem pick_len {b : List UInt8} (h1 : ¬ miss b < from_ b) (h2 : ¬ b.length < miss b) : (pick b).length = b.length - miss b := by
  unfold pick
  rw [List.length_take, List.length_drop]
  omega
theorem unfield_some {b d : List UInt8} (h : unfield b = some d) : field d b.length = b ∧ d.length < b.length := by
  unfold unfield at h
  split at h
  · cases h
  · rename_i hn
    split at h
    · rename_i he
      injection h with h
      subst h
      refine ⟨he, ?_⟩
      rw [pick_len (by omega) (by omega)]
      have := from_pos b
      omega
    · cases h
theorem ofNat_toNat {n : Nat} (h : n < 256) : (UInt8.ofNat n).toNat = n := by
  rw [UInt8.toNat_ofNat']; exact Nat.mod_eq_of_lt h
theorem unfield_field {d : List UInt8} {z : Nat} (h : d.length < z) (hz : z ≤ 4096) : unfield (field d z) = some d := by
  have hl := field_len h
  have hf : from_ (field d z) = (cnt (z - d.length)).length ∧ miss (field d z) = z - d.length := by
    unfold from_ miss field
    by_cases hn : z - d.length < 128
    · unfold cnt
      rw [if_pos hn]
      have e : ([UInt8.ofNat (z - d.length)] ++ (d ++ List.replicate (z - d.length - [UInt8.ofNat (z - d.length)].length) 0)).getD 0 0 = UInt8.ofNat (z - d.length) := rfl
      rw [e, ofNat_toNat (by omega), if_neg (by omega), if_neg (by omega)]
      exact ⟨rfl, rfl⟩
    · unfold cnt
      rw [if_neg hn]
      generalize (d ++ List.replicate (z - d.length - [UInt8.ofNat ((z - d.length) % 128 + 128), UInt8.ofNat ((z - d.length) / 128)].length) 0) = r
      have e0 : ([UInt8.ofNat ((z - d.length) % 128 + 128), UInt8.ofNat ((z - d.length) / 128)] ++ r).getD 0 0 = UInt8.ofNat ((z - d.length) % 128 + 128) := rfl
      have e1 : ([UInt8.ofNat ((z - d.length) % 128 + 128), UInt8.ofNat ((z - d.length) / 128)] ++ r).getD 1 0 = UInt8.ofNat ((z - d.length) / 128) := rfl
      rw [e0, e1, ofNat_toNat (by omega), ofNat_toNat (by omega), if_pos (by omega), if_pos (by omega)]
      exact ⟨rfl, by omega⟩
  have hp : pick (field d z) = d := by
    unfold pick
    rw [hf.1, hf.2, hl]
    unfold field
    rw [List.drop_left, show z - (z - d.length) = d.length by omega, List.take_left]
  unfold unfield
  have hc := cnt_len (z - d.length)
  rw [hf.1, hf.2, hl, hp, if_neg (by rw [hc]; split <;> omega), if_pos rfl]

/-- The control byte. -/
def ctl (f : Fr) : Nat := (f.ty * 64 + f.hi * 8 + f.lo).toNat
/-- Whether a packet may be. -/
def ok (f : Fr) : Prop := (0 ≤ f.hi ∧ f.hi ≤ 7 ∧ 0 ≤ f.lo ∧ f.lo ≤ 7) ∧ ((f.ty = 0 ∧ f.sz = 0 ∧ f.data = []) ∨ (f.ty = 2 ∧ code f.sz ≠ 0 ∧ (f.data.length : Int) = f.sz) ∨ (f.ty = 3 ∧ code f.sz ≠ 0 ∧ (f.data.length : Int) < f.sz))
def body (f : Fr) : List UInt8 := if f.ty = 3 then field f.data f.sz.toNat else f.data
def kd (f : Fr) : Nat := if f.ty = 0 then 9 else code f.sz
def sm (f : Fr) : Nat := if f.ty = 0 then (Chk.control (ctl f)).toNat else (Chk.packet (body f) (ctl f)).toNat
def text (f : Fr) : List UInt8 := head (kd f) (sm f) (ctl f) ++ body f

def okCode (t k : Nat) : Bool := if t = 0 then k == 9 else if t = 2 ∨ t = 3 then decide (1 ≤ k ∧ k ≤ 8) else false
/-- Read behind the head. -/
def readBody (c k sum : Nat) (r : List UInt8) : Res :=
  if r.length < size k then .error 2
  else if (sum : Int) ≠ Chk.packet (r.take (size k)) c then .error 4
  else if c / 64 = 2 then .ok (⟨2, (c / 8 % 8 : Nat), (c % 8 : Nat), (size k : Nat), r.take (size k)⟩, (6 + size k))
  else match unfield (r.take (size k)) with
    | none => .error 3
    | some d => .ok (⟨3, (c / 8 % 8 : Nat), (c % 8 : Nat), (size k : Nat), d⟩, (6 + size k))
def readHead (k l h c x : Nat) (r : List UInt8) : Res :=
  if (k ^^^ l ^^^ h ^^^ c) ≠ x ∨ okCode (c / 64) k = false then .error 3
  else if c / 64 = 0 then
    if ((l + 256 * h : Nat) : Int) ≠ Chk.control c then .error 4 else .ok (⟨0, (c / 8 % 8 : Nat), (c % 8 : Nat), 0, []⟩, 6)
  else readBody c k (l + 256 * h) r
def read : List UInt8 → Res
  | [] => .error 2
  | a :: r =>
    if a ≠ 16 then .error 3
    else match r with
      | k :: l :: h :: c :: x :: t => readHead k.toNat l.toNat h.toNat c.toNat x.toNat t
      | _ => .error 2
/-- Scan. -/
structure Sc where
  f : Fr
  a : Nat
  b : Nat
  ok : Bool
def scan : Nat → List UInt8 → Sc
  | p, [] => ⟨zero, p, p, false⟩
  | p, c :: r => match read (c :: r) with
    | .ok (f, n) => ⟨f, p, p + n, true⟩
    | .error e => if e = 2 then ⟨zero, p, p, false⟩ else scan (p + 1) r

theorem control_range (c : Nat) : 0 ≤ Chk.control (c : Int) ∧ Chk.control (c : Int) < 65536 := by unfold Chk.control; omega
theorem packet_range (l : List UInt8) (c : Nat) : 0 ≤ Chk.packet l (c : Int) ∧ Chk.packet l (c : Int) < 65536 := by unfold Chk.packet; omega
theorem ctl_facts {f : Fr} (h : ok f) : ctl f < 256 ∧ ((ctl f / 64 : Nat) : Int) = f.ty ∧ ((ctl f / 8 % 8 : Nat) : Int) = f.hi ∧ ((ctl f % 8 : Nat) : Int) = f.lo := by
  obtain ⟨⟨a, b, c, d⟩, h⟩ := h
  unfold ctl
  have ht : f.ty = 0 ∨ f.ty = 2 ∨ f.ty = 3 := by rcases h with h | h | h <;> simp [h.1]
  rcases ht with ht | ht | ht <;> rw [ht] <;> omega
theorem sm_lt (f : Fr) : sm f < 65536 := by
  unfold sm
  have h1 := control_range (ctl f)
  have h2 := packet_range (body f) (ctl f)
  split <;> omega
theorem kd_range {f : Fr} (h : ok f) : 1 ≤ kd f ∧ kd f ≤ 9 := by
  unfold kd
  have := code_le f.sz
  rcases h.2 with h | h | h
  · rw [if_pos h.1]; omega
  · rw [if_neg (by omega)]; omega
  · rw [if_neg (by omega)]; omega
theorem xor_byte (a b c d : Nat) (ha : a < 256) (hb : b < 256) (hc : c < 256) (hd : d < 256) : a ^^^ b ^^^ c ^^^ d < 256 := Chk.xor8 (Chk.xor8 (Chk.xor8 ha hb) hc) hd
/-- A head is read as it was. -/
theorem read_head {k s c : Nat} (hk : k < 256) (hs : s < 65536) (hc : c < 256) (r : List UInt8) :
    read (head k s c ++ r) = readHead k (s % 256) (s / 256) c (k ^^^ s % 256 ^^^ s / 256 ^^^ c) r := by
  have h1 : s % 256 < 256 := Nat.mod_lt _ (by decide)
  have h2 : s / 256 < 256 := by omega
  have h3 := xor_byte k (s % 256) (s / 256) c hk h1 h2 hc
  show read (16 :: UInt8.ofNat k :: UInt8.ofNat (s % 256) :: UInt8.ofNat (s / 256) :: UInt8.ofNat c :: UInt8.ofNat (k ^^^ s % 256 ^^^ s / 256 ^^^ c) :: r) = _
  unfold read
  dsimp only
  rw [if_neg (by decide), ofNat_toNat hk, ofNat_toNat h1, ofNat_toNat h2, ofNat_toNat hc, ofNat_toNat h3]
theorem body_len {f : Fr} (h : ok f) (ht : f.ty ≠ 0) : (body f).length = size (code f.sz) := by
  unfold body
  rcases h.2 with h | h | h
  · exact absurd h.1 ht
  · rw [if_neg (by omega)]
    have := (code_size h.2.1).1
    omega
  · rw [if_pos h.1]
    have := code_size h.2.1
    rw [field_len (by omega)]
    omega
theorem text_len (f : Fr) : (text f).length = 6 + (body f).length := by
  unfold text head
  rw [List.length_append]
  rfl
/-- What is written is read as it was. -/
theorem read_text {f : Fr} (h : ok f) (r : List UInt8) : read (text f ++ r) = .ok (f, (text f).length) := by
  obtain ⟨hc, ct, ch, cl⟩ := ctl_facts h
  have hk := kd_range h
  rw [text_len f]
  unfold text
  rw [List.append_assoc, read_head (by omega) (sm_lt f) hc]
  unfold readHead
  have hsum : sm f % 256 + 256 * (sm f / 256) = sm f := by omega
  obtain ⟨ty, hi, lo, sz, data⟩ := f
  rcases h.2 with h' | h' | h'
  · obtain ⟨e1, e2, e3⟩ := h'
    dsimp only at e1 e2 e3
    subst e1 e2 e3
    have hc0 : ctl ⟨0, hi, lo, 0, []⟩ / 64 = 0 := by have : ((ctl ⟨0, hi, lo, 0, []⟩ / 64 : Nat) : Int) = 0 := ct; omega
    have hkd : kd ⟨0, hi, lo, 0, []⟩ = 9 := rfl
    have hsm : sm ⟨0, hi, lo, 0, []⟩ = (Chk.control (ctl ⟨0, hi, lo, 0, []⟩)).toNat := rfl
    have hr := control_range (ctl ⟨0, hi, lo, 0, []⟩)
    rw [hkd, if_neg (by rw [hc0]; simp [okCode]), if_pos hc0, hsum, if_neg (by rw [hsm]; omega), ch, cl]
    rfl
  · have ht : (⟨ty, hi, lo, sz, data⟩ : Fr).ty ≠ 0 := by rw [h'.1]; decide
    have hbl := body_len h ht
    obtain ⟨e1, e2, e3⟩ := h'
    dsimp only at e1 e2 e3
    subst e1
    have hc0 : ctl ⟨2, hi, lo, sz, data⟩ / 64 = 2 := by have : ((ctl ⟨2, hi, lo, sz, data⟩ / 64 : Nat) : Int) = 2 := ct; omega
    have hkd : kd ⟨2, hi, lo, sz, data⟩ = code sz := rfl
    have hsm : sm ⟨2, hi, lo, sz, data⟩ = (Chk.packet data (ctl ⟨2, hi, lo, sz, data⟩)).toNat := rfl
    have hbd : body ⟨2, hi, lo, sz, data⟩ = data := rfl
    have hr := packet_range data (ctl ⟨2, hi, lo, sz, data⟩)
    have hz := code_size e2
    have hcl := code_le sz
    rw [hbd] at hbl ⊢
    rw [hkd, if_neg (by rw [hc0]; simp [okCode]; omega), if_neg (by omega), hsum]
    unfold readBody
    rw [if_neg (by rw [List.length_append]; omega), show (data ++ r).take (size (code sz)) = data by rw [← hbl, List.take_left], if_neg (by rw [hsm]; omega), if_pos hc0, ch, cl, ← hz.1, hbl]
  · have ht : (⟨ty, hi, lo, sz, data⟩ : Fr).ty ≠ 0 := by rw [h'.1]; decide
    have hbl := body_len h ht
    obtain ⟨e1, e2, e3⟩ := h'
    dsimp only at e1 e2 e3
    subst e1
    have hc0 : ctl ⟨3, hi, lo, sz, data⟩ / 64 = 3 := by have : ((ctl ⟨3, hi, lo, sz, data⟩ / 64 : Nat) : Int) = 3 := ct; omega
    have hkd : kd ⟨3, hi, lo, sz, data⟩ = code sz := rfl
    have hbd : body ⟨3, hi, lo, sz, data⟩ = field data sz.toNat := rfl
    have hsm : sm ⟨3, hi, lo, sz, data⟩ = (Chk.packet (body ⟨3, hi, lo, sz, data⟩) (ctl ⟨3, hi, lo, sz, data⟩)).toNat := rfl
    have hr := packet_range (body ⟨3, hi, lo, sz, data⟩) (ctl ⟨3, hi, lo, sz, data⟩)
    have hz := code_size e2
    have hcl := code_le sz
    have hu : unfield (body ⟨3, hi, lo, sz, data⟩) = some data := unfield_field (d := data) (z := sz.toNat) (by omega) (by omega)
    have hbl : (body ⟨3, hi, lo, sz, data⟩).length = size (code sz) := hbl
    generalize body ⟨3, hi, lo, sz, data⟩ = bd at *
    rw [hkd, if_neg (by rw [hc0]; simp [okCode]; omega), if_neg (by omega), hsum]
    unfold readBody
    rw [if_neg (by rw [List.length_append]; omega), show (bd ++ r).take (size (code sz)) = bd by rw [← hbl, List.take_left], if_neg (by rw [hsm]; omega), if_neg (by omega), hu]
    dsimp only
    rw [ch, cl, ← hz.1, hbl]

theorem xor_last {k l h c x : Nat} (e : k ^^^ l ^^^ h ^^^ c = x) : k ^^^ l ^^^ h ^^^ c = x := e
theorem byte_eq (b : UInt8) : UInt8.ofNat b.toNat = b := UInt8.ofNat_toNat
/-- The head, out of bytes. -/
theorem head_bytes {k l h c x : UInt8} (e : k.toNat ^^^ l.toNat ^^^ h.toNat ^^^ c.toNat = x.toNat) : head k.toNat (l.toNat + 256 * h.toNat) c.toNat = [16, k, l, h, c, x] := by
  have hl := UInt8.toNat_lt l
  unfold head
  rw [show (l.toNat + 256 * h.toNat) % 256 = l.toNat by omega, show (l.toNat + 256 * h.toNat) / 256 = h.toNat by omega, e, byte_eq, byte_eq, byte_eq, byte_eq, byte_eq]
/-- What is read is written so. -/
theorem text_read {s : List UInt8} {f : Fr} {n : Nat} (h : read s = .ok (f, n)) : ok f ∧ text f = s.take n ∧ 6 ≤ n ∧ n ≤ s.length := by
  match s with
  | [] => cases h
  | [a] | [a, _] | [a, _, _] | [a, _, _, _] | [a, _, _, _, _] => unfold read at h; dsimp only at h; split at h <;> cases h
  | a :: k :: l :: hh :: c :: x :: r =>
    unfold read at h
    dsimp only at h
    split at h
    · cases h
    rename_i ha
    have ha : a = 16 := Decidable.not_not.1 ha
    subst ha
    unfold readHead at h
    split at h
    · cases h
    rename_i hx
    have hx1 : k.toNat ^^^ l.toNat ^^^ hh.toNat ^^^ c.toNat = x.toNat := by
      apply Decidable.not_not.1; intro e; exact hx (Or.inl e)
    have hx2 : okCode (c.toNat / 64) k.toNat = true := by
      cases e : okCode (c.toNat / 64) k.toNat
      · exact absurd (Or.inr e) hx
      · rfl
    have hh1 := head_bytes hx1
    have hc := UInt8.toNat_lt c
    have hl := UInt8.toNat_lt l
    have hhl := UInt8.toNat_lt hh
    clear hx
    unfold okCode at hx2
    split at h
    · rename_i h0
      split at h
      · cases h
      rename_i hs
      have hs : ((l.toNat + 256 * hh.toNat : Nat) : Int) = Chk.control c.toNat := Decidable.not_not.1 hs
      rw [if_pos h0] at hx2
      have hk : k.toNat = 9 := by simpa using hx2
      obtain ⟨h1, h2⟩ := Prod.mk.inj (Except.ok.inj h)
      subst h1 h2
      have hok : ok ⟨0, (c.toNat / 8 % 8 : Nat), (c.toNat % 8 : Nat), 0, []⟩ := ⟨⟨by dsimp only; omega, by dsimp only; omega, by dsimp only; omega, by dsimp only; omega⟩, Or.inl ⟨rfl, rfl, rfl⟩⟩
      refine ⟨hok, ?_, by decide, by simp⟩
      have hct : ctl ⟨0, (c.toNat / 8 % 8 : Nat), (c.toNat % 8 : Nat), 0, []⟩ = c.toNat := by unfold ctl; dsimp only; omega
      have hkd : kd ⟨0, (c.toNat / 8 % 8 : Nat), (c.toNat % 8 : Nat), 0, []⟩ = k.toNat := by rw [hk]; rfl
      have hsm : sm ⟨0, (c.toNat / 8 % 8 : Nat), (c.toNat % 8 : Nat), 0, []⟩ = l.toNat + 256 * hh.toNat := by unfold sm; rw [if_pos rfl, hct, ← hs]; rfl
      unfold text
      rw [hct, hkd, hsm, hh1]
      rfl
    · rename_i h0
      have hk : (1 ≤ k.toNat ∧ k.toNat ≤ 8) ∧ (c.toNat / 64 = 2 ∨ c.toNat / 64 = 3) := by
        rw [if_neg h0] at hx2
        split at hx2
        · rename_i ht; exact ⟨by simpa using hx2, ht⟩
        · cases hx2
      obtain ⟨⟨hk1, hk2⟩, ht⟩ := hk
      have hsz := size_range hk1 hk2
      have hcd := size_code hk1 hk2
      unfold readBody at h
      split at h
      · cases h
      rename_i hlen
      split at h
      · cases h
      rename_i hs
      have hs : ((l.toNat + 256 * hh.toNat : Nat) : Int) = Chk.packet (r.take (size k.toNat)) c.toNat := Decidable.not_not.1 hs
      have hbl : (r.take (size k.toNat)).length = size k.toNat := by rw [List.length_take]; omega
      split at h
      · rename_i h2
        obtain ⟨e1, e2⟩ := Prod.mk.inj (Except.ok.inj h)
        subst e1 e2
        have hok : ok ⟨2, (c.toNat / 8 % 8 : Nat), (c.toNat % 8 : Nat), (size k.toNat : Nat), r.take (size k.toNat)⟩ := ⟨⟨by dsimp only; omega, by dsimp only; omega, by dsimp only; omega, by dsimp only; omega⟩, Or.inr (Or.inl ⟨rfl, by dsimp only; omega, by dsimp only; omega⟩)⟩
        refine ⟨hok, ?_, by omega, by simp only [List.length_cons]; omega⟩
        have hct : ctl ⟨2, (c.toNat / 8 % 8 : Nat), (c.toNat % 8 : Nat), (size k.toNat : Nat), r.take (size k.toNat)⟩ = c.toNat := by unfold ctl; dsimp only; omega
        have hkd : kd ⟨2, (c.toNat / 8 % 8 : Nat), (c.toNat % 8 : Nat), (size k.toNat : Nat), r.take (size k.toNat)⟩ = k.toNat := hcd
        have hbd : body ⟨2, (c.toNat / 8 % 8 : Nat), (c.toNat % 8 : Nat), (size k.toNat : Nat), r.take (size k.toNat)⟩ = r.take (size k.toNat) := rfl
        have hsm : sm ⟨2, (c.toNat / 8 % 8 : Nat), (c.toNat % 8 : Nat), (size k.toNat : Nat), r.take (size k.toNat)⟩ = l.toNat + 256 * hh.toNat := by unfold sm; rw [if_neg (by dsimp only; decide), hct, hbd, ← hs]; rfl
        unfold text
        rw [hct, hkd, hsm, hh1, hbd, Nat.add_comm 6 (size k.toNat)]
        rfl
      · rename_i h2
        split at h
        · cases h
        rename_i d hd
        obtain ⟨hd1, hd2⟩ := unfield_some hd
        rw [hbl] at hd1 hd2
        obtain ⟨e1, e2⟩ := Prod.mk.inj (Except.ok.inj h)
        subst e1 e2
        have hok : ok ⟨3, (c.toNat / 8 % 8 : Nat), (c.toNat % 8 : Nat), (size k.toNat : Nat), d⟩ := ⟨⟨by dsimp only; omega, by dsimp only; omega, by dsimp only; omega, by dsimp only; omega⟩, Or.inr (Or.inr ⟨rfl, by dsimp only; omega, by dsimp only; omega⟩)⟩
        refine ⟨hok, ?_, by omega, by simp only [List.length_cons]; omega⟩
        have hct : ctl ⟨3, (c.toNat / 8 % 8 : Nat), (c.toNat % 8 : Nat), (size k.toNat : Nat), d⟩ = c.toNat := by unfold ctl; dsimp only; omega
        have hkd : kd ⟨3, (c.toNat / 8 % 8 : Nat), (c.toNat % 8 : Nat), (size k.toNat : Nat), d⟩ = k.toNat := hcd
        have hbd : body ⟨3, (c.toNat / 8 % 8 : Nat), (c.toNat % 8 : Nat), (size k.toNat : Nat), d⟩ = r.take (size k.toNat) := by unfold body; rw [if_pos rfl]; exact hd1
        have hsm : sm ⟨3, (c.toNat / 8 % 8 : Nat), (c.toNat % 8 : Nat), (size k.toNat : Nat), d⟩ = l.toNat + 256 * hh.toNat := by unfold sm; rw [if_neg (by dsimp only; decide), hct, hbd, ← hs]; rfl
        unfold text
        rw [hct, hkd, hsm, hh1, hbd, Nat.add_comm 6 (size k.toNat)]
        rfl
end Gf
end Go.Proofs.YtfiffbohhhehkaaGreat

namespace Go.Proofs.YtfiffbohhhehkaaGreat
namespace Wn
/-- How many steps lead from a to b, modulo m; -1 where these may not be. -/
def ahead (a b m : Int) : Int := if 2 ≤ m ∧ m ≤ 64 ∧ 0 ≤ a ∧ a < m ∧ 0 ≤ b ∧ b < m then (if a ≤ b then b - a else b - a + m) else -1
/-- A window. -/
structure W where
  md : Int
  sz : Int
  bs : Int
  l : List ByteArray
def zero : W := ⟨0, 0, 0, []⟩
def fit (m s b : Int) : Prop := 2 ≤ m ∧ m ≤ 64 ∧ 1 ≤ s ∧ s < m ∧ 0 ≤ b ∧ b < m
theorem fit_dec (m s b : Int) : fit m s b ∨ ¬ fit m s b := by unfold fit; omega
def begin_ (m s b : Int) : W × Nat := if 2 ≤ m ∧ m ≤ 64 ∧ 1 ≤ s ∧ s < m ∧ 0 ≤ b ∧ b < m then (⟨m, s, b, []⟩, 0) else (zero, 1)
def rt (w : W) : Bool := decide (2 ≤ w.md ∧ w.md ≤ 64 ∧ 1 ≤ w.sz ∧ w.sz < w.md ∧ 0 ≤ w.bs ∧ w.bs < w.md ∧ (w.l.length : Int) ≤ w.sz)
def num (w : W) (i : Nat) : Int := (w.bs + i) % w.md
/-- Put: the window, the number, the error. -/
def put (w : W) (s : ByteArray) : W × Int × Nat := if rt w = true then (if (w.l.length : Int) = w.sz then (w, 0, 8) else ({ w with l := w.l ++ [s] }, num w w.l.length, 0)) else (w, 0, 1)
/-- The place of a number among what waits. -/
def place (w : W) (n : Int) : Option Nat := if rt w = true ∧ 0 ≤ ahead w.bs n w.md ∧ ahead w.bs n w.md < w.l.length then some (ahead w.bs n w.md).toNat else none
/-- Ack: the window, how many went. -/
def ack (w : W) (n : Int) : W × Nat := match place w n with
  | some k => ({ w with bs := (n + 1) % w.md, l := w.l.drop (k + 1) }, k + 1)
  | none => (w, 0)
def find (w : W) (n : Int) : Option ByteArray := (place w n).bind fun k => w.l[k]?
def nums (w : W) : List Int := if rt w = true then (List.range w.l.length).map (num w) else []
theorem ahead_no {a b m : Int} (h : ¬ (2 ≤ m ∧ m ≤ 64 ∧ 0 ≤ a ∧ a < m ∧ 0 ≤ b ∧ b < m)) : ahead a b m = -1 := if_neg h
theorem ahead_eq {a b m : Int} (h : 2 ≤ m ∧ m ≤ 64 ∧ 0 ≤ a ∧ a < m ∧ 0 ≤ b ∧ b < m) : ahead a b m = (b - a + m) % m := by
  unfold ahead
  rw [if_pos h]
  split
  · rw [show b - a + m = (b - a) + m by omega, Int.add_emod_right, Int.emod_eq_of_lt (by omega) (by omega)]
  · rw [Int.emod_eq_of_lt (by omega) (by omega)]
theorem ahead_lt {a b m : Int} (h : 2 ≤ m ∧ m ≤ 64 ∧ 0 ≤ a ∧ a < m ∧ 0 ≤ b ∧ b < m) : 0 ≤ ahead a b m ∧ ahead a b m < m := by
  unfold ahead
  rw [if_pos h]
  split <;> omega
theorem rt_parts {w : W} (h : rt w = true) : 2 ≤ w.md ∧ w.md ≤ 64 ∧ 1 ≤ w.sz ∧ w.sz < w.md ∧ 0 ≤ w.bs ∧ w.bs < w.md ∧ (w.l.length : Int) ≤ w.sz := of_decide_eq_true h
theorem rt_of {w : W} (h : 2 ≤ w.md ∧ w.md ≤ 64 ∧ 1 ≤ w.sz ∧ w.sz < w.md ∧ 0 ≤ w.bs ∧ w.bs < w.md ∧ (w.l.length : Int) ≤ w.sz) : rt w = true := decide_eq_true h
/-- One number more, within one round. -/
theorem wrapNum {b m : Int} {i : Nat} (hb : 0 ≤ b) (hb2 : b < m) (hi : (i : Int) < m) : (b + i) % m = if b + i < m then b + i else b + i - m := by
  split
  · rw [Int.emod_eq_of_lt (by omega) (by omega)]
  · rw [show b + (i : Int) = (b + i - m) + m by omega, Int.add_emod_right, Int.emod_eq_of_lt (by omega) (by omega)]; omega
theorem num_lt {w : W} (h : rt w = true) (i : Nat) : 0 ≤ num w i ∧ num w i < w.md := by
  obtain ⟨h1, _⟩ := rt_parts h
  exact ⟨Int.emod_nonneg _ (by omega), Int.emod_lt_of_pos _ (by omega)⟩
theorem num_inj {w : W} (h : rt w = true) {i j : Nat} (hi : i < w.l.length) (hj : j < w.l.length) (e : num w i = num w j) : i = j := by
  obtain ⟨h1, h2, h3, h4, h5, h6, h7⟩ := rt_parts h
  unfold num at e
  rw [wrapNum h5 h6 (by omega), wrapNum h5 h6 (by omega)] at e
  split at e <;> split at e <;> omega
/-- The number of a place stands at that place. -/
theorem place_num {w : W} (h : rt w = true) {i : Nat} (hi : i < w.l.length) : place w (num w i) = some i := by
  obtain ⟨h1, h2, h3, h4, h5, h6, h7⟩ := rt_parts h
  have hn := num_lt h i
  have e : ahead w.bs (num w i) w.md = (i : Int) := by
    unfold ahead
    rw [if_pos ⟨h1, h2, h5, h6, hn.1, hn.2⟩]
    unfold num
    rw [wrapNum h5 h6 (by omega)]
    split <;> split <;> omega
  unfold place
  rw [e, if_pos ⟨h, by omega, by omega⟩, Int.toNat_natCast]
theorem place_some {w : W} {n : Int} {k : Nat} (h : place w n = some k) : rt w = true ∧ k < w.l.length ∧ n = num w k := by
  unfold place at h
  split at h
  · rename_i hc
    obtain ⟨hr, h0, hl⟩ := hc
    have hk : (ahead w.bs n w.md).toNat = k := Option.some.inj h
    obtain ⟨h1, h2, h3, h4, h5, h6, h7⟩ := rt_parts hr
    refine ⟨hr, by omega, ?_⟩
    by_cases hv : 2 ≤ w.md ∧ w.md ≤ 64 ∧ 0 ≤ w.bs ∧ w.bs < w.md ∧ 0 ≤ n ∧ n < w.md
    · have e : ahead w.bs n w.md = if w.bs ≤ n then n - w.bs else n - w.bs + w.md := if_pos hv
      unfold num
      rw [wrapNum h5 h6 (by omega)]
      split at e <;> split <;> omega
    · rw [ahead_no hv] at h0; omega
  · cases h
theorem place_none {w : W} (h : rt w = true) {n : Int} (hn : place w n = none) : ∀ i, i < w.l.length → ¬ num w i = n := by
  intro i hi e
  rw [← e, place_num h hi] at hn
  cases hn
theorem put_ok {w : W} (h : rt w = true) (hl : ¬ (w.l.length : Int) = w.sz) (s : ByteArray) : put w s = ({ w with l := w.l ++ [s] }, num w w.l.length, 0) := by
  unfold put; rw [if_pos h, if_neg hl]
theorem put_full {w : W} (h : rt w = true) (hl : (w.l.length : Int) = w.sz) (s : ByteArray) : put w s = (w, 0, 8) := by
  unfold put; rw [if_pos h, if_pos hl]
theorem put_arg {w : W} (h : rt w = false) (s : ByteArray) : put w s = (w, 0, 1) := by
  unfold put; rw [if_neg (by rw [h]; simp)]
theorem put_rt {w : W} (h : rt w = true) (hl : ¬ (w.l.length : Int) = w.sz) (s : ByteArray) : rt { w with l := w.l ++ [s] } = true := by
  obtain ⟨h1, h2, h3, h4, h5, h6, h7⟩ := rt_parts h
  apply rt_of
  simp only [List.length_append, List.length_singleton]
  omega
theorem ack_rt {w : W} {n : Int} {k : Nat} (h : place w n = some k) : rt { w with bs := (n + 1) % w.md, l := w.l.drop (k + 1) } = true := by
  obtain ⟨hr, hk, rfl⟩ := place_some h
  obtain ⟨h1, h2, h3, h4, h5, h6, h7⟩ := rt_parts hr
  apply rt_of
  have := Int.emod_nonneg (num w k + 1) (b := w.md) (by omega)
  have := Int.emod_lt_of_pos (num w k + 1) (b := w.md) (by omega)
  simp only [List.length_drop]
  omega
/-- Behind an Ack the numbers of what is left are as they were. -/
theorem ack_num {w : W} {n : Int} {k : Nat} (h : place w n = some k) (i : Nat) : num { w with bs := (n + 1) % w.md, l := w.l.drop (k + 1) } i = num w (k + 1 + i) := by
  obtain ⟨hr, hk, rfl⟩ := place_some h
  unfold num
  dsimp only
  rw [Int.emod_add_emod, show (w.bs + (k : Int)) % w.md + 1 + (i : Int) = (w.bs + (k : Int)) % w.md + (1 + (i : Int)) by omega, Int.emod_add_emod]
  congr 1
  omega
theorem put_num (w : W) (s : ByteArray) (i : Nat) : num { w with l := w.l ++ [s] } i = num w i := rfl
/-- From a to c is as far as by b, but for rounds. -/
theorem ahead_by {a b c m : Int} (hm : 2 ≤ m ∧ m ≤ 64) (ha : 0 ≤ a ∧ a < m) (hb : 0 ≤ b ∧ b < m) (hc : 0 ≤ c ∧ c < m) : (ahead a b m + ahead b c m) % m = ahead a c m := by
  rw [ahead_eq ⟨hm.1, hm.2, ha.1, ha.2, hb.1, hb.2⟩, ahead_eq ⟨hm.1, hm.2, hb.1, hb.2, hc.1, hc.2⟩, ahead_eq ⟨hm.1, hm.2, ha.1, ha.2, hc.1, hc.2⟩, ← Int.add_emod, show b - a + m + (c - b + m) = (c - a + m) + m by omega, Int.add_emod_right]
/-- There and back is one round, or nothing. -/
theorem ahead_back {a b m : Int} (hm : 2 ≤ m ∧ m ≤ 64) (ha : 0 ≤ a ∧ a < m) (hb : 0 ≤ b ∧ b < m) : (ahead a b m + ahead b a m = m ∨ (ahead a b m + ahead b a m = 0 ∧ a = b)) ∧ (a + ahead a b m) % m = b := by
  have e1 : ahead a b m = if a ≤ b then b - a else b - a + m := if_pos ⟨hm.1, hm.2, ha.1, ha.2, hb.1, hb.2⟩
  have e2 : ahead b a m = if b ≤ a then a - b else a - b + m := if_pos ⟨hm.1, hm.2, hb.1, hb.2, ha.1, ha.2⟩
  refine ⟨?_, ?_⟩
  · rw [e1, e2]
    split <;> split <;> omega
  · rw [e1]
    split
    · rw [show a + (b - a) = b by omega]; exact Int.emod_eq_of_lt hb.1 hb.2
    · rw [show a + (b - a + m) = b + m by omega, Int.add_emod_right]; exact Int.emod_eq_of_lt hb.1 hb.2
/-- What stands while calls are made: the window is right, of that mod and size, and its next number is that of the puts so far. -/
structure Row (m z : Int) (puts : Nat) (w : W) : Prop where
  ok : rt w = true
  md : w.md = m
  sz : w.sz = z
  nx : num w w.l.length = (puts : Int) % m
theorem row_begin {m s : Int} (h : fit m s 0) : Row m s 0 (begin_ m s 0).1 ∧ (begin_ m s 0).2 = 0 := by
  have e : begin_ m s 0 = (⟨m, s, 0, []⟩, 0) := if_pos h
  rw [e]
  obtain ⟨h1, h2, h3, h4, h5, h6⟩ := h
  exact ⟨⟨rt_of ⟨h1, h2, h3, h4, h5, h6, by show ((0 : Nat) : Int) ≤ s; omega⟩, rfl, rfl, by simp [num]⟩, rfl⟩
theorem row_put {m s : Int} {p : Nat} {w : W} (h : Row m s p w) (hl : ¬ (w.l.length : Int) = w.sz) (x : ByteArray) : Row m s (p + 1) { w with l := w.l ++ [x] } := by
  refine ⟨put_rt h.ok hl x, h.md, h.sz, ?_⟩
  have e := h.nx
  unfold num at *
  dsimp only
  rw [List.length_append, List.length_singleton]
  rw [show w.bs + ((w.l.length + 1 : Nat) : Int) = (w.bs + (w.l.length : Int)) + 1 by omega, Int.add_emod, e, h.md, show ((p + 1 : Nat) : Int) = (p : Int) + 1 by omega, ← Int.add_emod]
theorem row_ack {m s : Int} {p : Nat} {w : W} (h : Row m s p w) {n : Int} {k : Nat} (hk : place w n = some k) : Row m s p { w with bs := (n + 1) % w.md, l := w.l.drop (k + 1) } := by
  refine ⟨ack_rt hk, h.md, h.sz, ?_⟩
  have hl := (place_some hk).2.1
  rw [ack_num hk, ← h.nx]
  congr 1
  simp only [List.length_drop]
  omega
theorem row_full {m s : Int} {p : Nat} {w : W} (h : Row m s p w) (x : ByteArray) : ((put w x).2.2 = 0 ∧ (put w x).2.1 = (p : Int) % m ∧ Row m s (p + 1) (put w x).1) ∨ ((put w x).2.2 = 8 ∧ (w.l.length : Int) = s ∧ (put w x).1 = w) := by
  by_cases hl : (w.l.length : Int) = w.sz
  · right
    rw [put_full h.ok hl]
    exact ⟨rfl, by rw [hl, h.sz], rfl⟩
  · left
    rw [put_ok h.ok hl]
    exact ⟨rfl, h.nx, row_put h hl x⟩
theorem nums_ok {w : W} (h : rt w = true) : nums w = (List.range w.l.length).map (num w) := by unfold nums; rw [if_pos h]
theorem nums_len {w : W} (h : rt w = true) : (nums w).length = w.l.length := by rw [nums_ok h]; simp
theorem nums_nodup {w : W} (h : rt w = true) : (nums w).Nodup := by
  rw [nums_ok h, List.nodup_iff_pairwise_ne, List.pairwise_map]
  refine List.Pairwise.imp_of_mem ?_ (List.nodup_iff_pairwise_ne.1 List.nodup_range)
  intro a b ha hb hne e
  exact hne (num_inj h (List.mem_range.1 ha) (List.mem_range.1 hb) e)
theorem nums_rng {w : W} (h : rt w = true) : ∀ n ∈ nums w, 0 ≤ n ∧ n < w.md := by
  intro n hn
  rw [nums_ok h, List.mem_map] at hn
  obtain ⟨i, _, rfl⟩ := hn
  exact num_lt h i
/-- What waits, each with its number. -/
def waits (w : W) : List (Int × ByteArray) := (List.range w.l.length).map fun i => (num w i, w.l.getD i ByteArray.empty)
theorem waits_len (w : W) : (waits w).length = w.l.length := by simp [waits]
theorem waits_get (w : W) {i : Nat} (hi : i < w.l.length) : (waits w)[i]'(by rw [waits_len]; exact hi) = (num w i, w.l[i]) := by
  simp [waits, List.getD_eq_getElem?_getD, hi]
theorem waits_put (w : W) (s : ByteArray) : waits { w with l := w.l ++ [s] } = waits w ++ [(num w w.l.length, s)] := by
  unfold waits
  dsimp only
  rw [List.length_append, List.length_singleton, List.range_succ, List.map_append]
  congr 1
  · apply List.map_congr_left
    intro i hi
    rw [List.mem_range] at hi
    simp [num, List.getD_eq_getElem?_getD, List.getElem?_append_left hi]
  · simp [num, List.getD_eq_getElem?_getD]
theorem waits_ack {w : W} {n : Int} {k : Nat} (h : place w n = some k) : waits { w with bs := (n + 1) % w.md, l := w.l.drop (k + 1) } = (waits w).drop (k + 1) := by
  have hl := (place_some h).2.1
  apply List.ext_getElem
  · simp [waits_len]
  · intro i h1 h2
    have hi : i < (w.l.drop (k + 1)).length := by rw [waits_len] at h1; exact h1
    have hi2 : k + 1 + i < w.l.length := by rw [List.length_drop] at hi; omega
    have e1 : ((waits w).drop (k + 1))[i] = (waits w)[k + 1 + i]'(by rw [waits_len]; exact hi2) := List.getElem_drop
    have e2 : (w.l.drop (k + 1))[i] = w.l[k + 1 + i] := List.getElem_drop
    rw [waits_get { w with bs := (n + 1) % w.md, l := w.l.drop (k + 1) } hi, e1, waits_get w hi2, ack_num h]
    show (_, (w.l.drop (k + 1))[i]) = _
    rw [e2]
theorem waits_find {w : W} (h : rt w = true) {i : Nat} (hi : i < w.l.length) : find w (num w i) = some w.l[i] := by
  unfold find
  rw [place_num h hi]
  simp [hi]
/-- The last place of a number among what waits, told from 1 on; 0: none. -/
def lastAt (n : Int) : List (Int × ByteArray) → Nat → Nat → Nat
  | [], _, k => k
  | y :: r, i, k => lastAt n r (i + 1) (if y.1 = n then i + 1 else k)
theorem lastAt_none {n : Int} : ∀ (l : List (Int × ByteArray)) (i k : Nat), (∀ y ∈ l, ¬ y.1 = n) → lastAt n l i k = k
  | [], _, _, _ => rfl
  | y :: r, i, k, h => by
    unfold lastAt
    rw [if_neg (h y (by simp))]
    exact lastAt_none r (i + 1) k (fun z hz => h z (by simp [hz]))
theorem lastAt_app {n : Int} : ∀ (l m : List (Int × ByteArray)) (i k : Nat), lastAt n (l ++ m) i k = lastAt n m (i + l.length) (lastAt n l i k)
  | [], m, i, k => by simp [lastAt]
  | y :: r, m, i, k => by
    rw [List.cons_append, lastAt, lastAt, lastAt_app r m (i + 1) _, List.length_cons]
    congr 1
    omega
theorem lastAt_ack {w : W} (h : rt w = true) (n : Int) : lastAt n (waits w) 0 0 = (ack w n).2 := by
  cases hp : place w n with
  | none =>
    rw [show (ack w n).2 = 0 by unfold ack; rw [hp]]
    apply lastAt_none
    intro y hy
    unfold waits at hy
    rw [List.mem_map] at hy
    obtain ⟨i, hi, rfl⟩ := hy
    exact place_none h hp i (List.mem_range.1 hi)
  | some k =>
    obtain ⟨_, hk, hn⟩ := place_some hp
    rw [show (ack w n).2 = k + 1 by unfold ack; rw [hp]]
    have hkw : k < (waits w).length := by rw [waits_len]; exact hk
    have e : waits w = (waits w).take k ++ ((waits w)[k] :: (waits w).drop (k + 1)) := by
      rw [← List.drop_eq_getElem_cons hkw, List.take_append_drop]
    rw [e, lastAt_app, lastAt, waits_get w hk, if_pos hn.symm, List.length_take]
    rw [lastAt_none]
    · omega
    · intro y hy
      obtain ⟨j, hj, rfl⟩ := List.mem_iff_getElem.1 hy
      rw [List.length_drop, waits_len] at hj
      rw [List.getElem_drop, waits_get w (by omega), hn]
      intro e2
      have := num_inj h (by omega) hk e2
      omega
end Wn
end Go.Proofs.YtfiffbohhhehkaaGreat

namespace Go.Proofs.YtfiffbohhhehkaaGreat
namespace Gp
/-- A piece that waits. -/
structure Pc where
  ch : Int
  data : ByteArray
/-- A packet of the protocol i, which a drive of g never keeps. -/
structure Fi where
  kd : Int
  nm : Int
  ak : Int
  ch : Int
  ca : Bool
  data : ByteArray
/-- A drive. Phases: 1 Opening, 2 Running, 3 Closing, 4 Closed, 5 Failed. Letters: 103 g, 71 G. -/
structure Dr where
  letter : Int
  phase : Int
  caller : Bool
  step : Int
  size : Int
  room : Int
  win : Wn.W
  wants : Int
  ahead : List Fi
  buf : List UInt8
  at_ : Int
  queue : List Pc
  wait : Int
  tries : Int
  took : List (Int × Int)
/-- P15.6, but for the phase. -/
def base (d : Dr) : Prop := (d.letter = 103 ∨ d.letter = 71) ∧ Gf.code d.size ≠ 0 ∧ (d.letter = 103 → d.size ≤ 64) ∧ 1 ≤ d.room ∧ d.room ≤ 7 ∧ 0 ≤ d.wants ∧ d.wants ≤ 7 ∧ 0 ≤ d.at_ ∧ d.at_ ≤ 1099511627776 ∧ 0 ≤ d.wait ∧ d.wait ≤ 3 ∧ 0 ≤ d.tries ∧ d.tries ≤ 13 ∧ d.ahead = [] ∧ ∀ p ∈ d.queue, p.data.size ≠ 0
def runs (d : Dr) : Prop := (∀ s ∈ d.win.l, s.size ≠ 0 ∧ (s.size : Int) ≤ d.size) ∧ -1 ≤ d.step ∧ d.step ≤ 7 ∧ d.win.md = 8 ∧ d.win.sz = d.room ∧ 0 ≤ d.win.bs ∧ d.win.bs < 8 ∧ (d.win.l.length : Int) ≤ d.win.sz
/-- P15.6. -/
def right (d : Dr) : Prop := base d ∧ ((d.phase = 1 ∧ 0 ≤ d.step ∧ d.step ≤ 2 ∧ d.win.l = []) ∨ (d.phase = 2 ∧ runs d) ∨ d.phase = 3 ∨ d.phase = 4 ∨ d.phase = 5)
/-- A drive with lists of its own: nothing was taken. -/
def own (d : Dr) : Dr := { d with took := [] }
def ctrl (h l : Int) : List UInt8 := Gf.text ⟨0, h, l, 0, []⟩
/-- The packet by which a step of the opening is made. -/
def opening (d : Dr) (st : Int) : List UInt8 := if st = 0 then ctrl 7 d.room else if st = 1 then ctrl 6 ((Gf.code d.size : Int) - 1) else ctrl 5 d.room
def last (d : Dr) : Int := (d.wants + 7) % 8
def ready (d : Dr) : List UInt8 := ctrl 4 (last d)
def begin_ (letter : Int) (caller : Bool) (size room : Int) : Dr := ⟨letter, 1, caller, 0, size, room, Wn.zero, 1, [], [], 0, [], 0, 0, []⟩
/-- The size of a short packet of G. -/
def hv : Nat → Nat → Nat → Nat
  | 0, z, _ => z
  | k + 1, z, n => if 32 < z ∧ n < z / 2 then hv k (z / 2) n else z
def packet (d : Dr) (n : Int) (s : ByteArray) : List UInt8 :=
  if (s.size : Int) < d.size then Gf.text ⟨3, n, last d, if d.letter = 71 then (hv 7 d.size.toNat s.size : Nat) else d.size, s.data.toList⟩ else Gf.text ⟨2, n, last d, d.size, s.data.toList⟩
/-- All of the window, from place i on. -/
def allFrom (d : Dr) : List ByteArray → Nat → List UInt8
  | [], _ => []
  | s :: r, i => packet d (Wn.num d.win i) s ++ allFrom d r (i + 1)
def all (d : Dr) : List UInt8 := allFrom d d.win.l 0
def cutQ (q : List Pc) (k : Nat) : List Pc := match q with
  | [] => []
  | p :: r => if k = p.data.size then r else ⟨p.ch, p.data.extract k p.data.size⟩ :: r
/-- What waits goes: one text. -/
def fill1 (d : Dr) (p : Pc) : Dr × List UInt8 :=
  let k := min p.data.size d.size.toNat
  let s := p.data.extract 0 k
  let w := Wn.put d.win s
  ({ d with win := w.1, queue := cutQ d.queue k }, packet { d with win := w.1 } w.2.1 s)
def fillN : Nat → Dr → List UInt8 → Dr × List UInt8
  | 0, d, out => (d, out)
  | f + 1, d, out => match d.queue with
    | [] => (d, out)
    | p :: _ => if d.phase = 2 ∧ (d.win.l.length : Int) < d.win.sz then fillN f (fill1 d p).1 (out ++ (fill1 d p).2) else (d, out)
def fill (d : Dr) : Dr × List UInt8 := fillN 8 d []
def open_ (d : Dr) : Dr := { d with phase := 2, step := -1, tries := 0, win := (Wn.begin_ 8 d.room 1).1 }
def or1 (w : Int) : Int := if w % 2 = 1 then w else w + 1
def or2 (w : Int) : Int := if 2 ≤ w then w else w + 2
/-- A packet of the opening. -/
def begins (d : Dr) (q low : Int) : Dr × List UInt8 :=
  if d.phase = 2 then (d, if q = 2 then ready d else [])
  else if d.phase ≠ 1 ∨ d.step < q then (d, [])
  else if q < d.step then (if q ≠ d.step - 1 ∨ d.wait % 2 = 1 then (d, []) else ({ d with wait := or1 d.wait }, opening { d with wait := or1 d.wait } q))
  else if q = 1 then
    let e : Dr := { d with size := min d.size (32 * 2 ^ low.toNat), step := d.step + 1, tries := 0 }
    (e, opening e e.step)
  else if low < 1 then (d, [])
  else
    let e : Dr := { d with room := min d.room low, step := d.step + 1, tries := 0 }
    if e.step = 3 then (open_ e, []) else (e, opening e e.step)
def acked (d : Dr) (n : Int) : Dr := { d with win := (Wn.ack d.win n).1, tries := if 0 < (Wn.ack d.win n).2 then 0 else d.tries }
def closes (d : Dr) : Dr × List UInt8 :=
  if d.phase = 3 then ({ d with phase := 4, step := 0 }, [])
  else if d.phase = 4 then (d, if d.step = 1 then ctrl 1 0 else [])
  else if d.phase = 5 then (d, [])
  else ({ d with phase := 4, step := 1 }, ctrl 1 0)
/-- A packet that is none of the opening's, nor a close. -/
def takes2 (d : Dr) (f : Gf.Fr) : Dr × List UInt8 × List UInt8 :=
  let d := if d.phase = 1 ∧ d.step = 2 then open_ d else d
  if d.phase = 3 then (d, ctrl 1 0, [])
  else if d.phase ≠ 2 then (d, [], [])
  else
    let d := acked d f.lo
    if f.ty = 0 then (if f.hi ≠ 2 ∨ d.wait % 2 = 1 then (d, [], []) else ({ d with wait := or1 d.wait }, all { d with wait := or1 d.wait }, []))
    else
      let k := Wn.ahead d.wants f.hi 8
      if k = 0 then
        let e : Dr := { d with wants := (d.wants + 1) % 8 }
        (e, ready e, f.data)
      else if k < d.room then (d, ctrl 2 (last d), []) else (d, ready d, [])
/-- A packet came. -/
def takes (d : Dr) (f : Gf.Fr) : Dr × List UInt8 × List UInt8 :=
  let d : Dr := { d with wait := or2 d.wait }
  if f.ty = 0 ∧ 5 ≤ f.hi then ((begins d (7 - f.hi) f.lo).1, (begins d (7 - f.hi) f.lo).2, [])
  else if f.ty = 0 ∧ f.hi = 1 then ((closes d).1, (closes d).2, [])
  else takes2 d f
/-- The packets that are found. -/
def feedN : Nat → Dr → List UInt8 → List UInt8 → Dr × List UInt8 × List UInt8
  | 0, d, out, came => (d, out, came)
  | f + 1, d, out, came =>
    let x := Gf.scan 0 d.buf
    if x.ok = true then
      let e : Dr := { d with took := d.took ++ [(d.at_ + x.a, d.at_ + x.b)], buf := d.buf.drop x.b, at_ := d.at_ + x.b }
      let r := takes e x.f
      feedN f r.1 (out ++ r.2.1) (came ++ r.2.2)
    else ({ d with buf := d.buf.drop x.a, at_ := d.at_ + x.a }, out, came)
def feed (d : Dr) (s : List UInt8) : Dr × List UInt8 × List UInt8 :=
  let r := feedN (d.buf.length + s.length + 1) { own d with buf := d.buf ++ s } [] []
  ((fill r.1).1, r.2.1 ++ (fill r.1).2, r.2.2)
def tick (d : Dr) : Dr × List UInt8 :=
  let d := own d
  let d : Dr := if 2 ≤ d.wait then { d with wait := 0 } else { d with at_ := d.at_ + d.buf.length, buf := [], wait := 0 }
  if d.phase = 1 ∨ d.phase = 3 then
    let d : Dr := { d with tries := d.tries + 1 }
    if 12 < d.tries then (if d.phase = 3 then ({ d with phase := 4, step := 0 }, []) else ({ d with phase := 5 }, []))
    else if d.phase = 3 then (d, ctrl 1 0) else (d, opening d d.step)
  else if d.phase = 2 then
    if d.win.l = [] then ({ d with step := -1 }, [])
    else if d.step ≠ d.win.bs then ({ d with step := d.win.bs }, [])
    else
      let d : Dr := { d with tries := d.tries + 1 }
      if 12 < d.tries then ({ d with phase := 5 }, []) else (d, all d)
  else (d, [])
def send (d : Dr) (p : Pc) : Dr × List UInt8 := if p.data.size = 0 ∨ (d.phase ≠ 1 ∧ d.phase ≠ 2) then (own d, []) else fill { own d with queue := d.queue ++ [p] }
def close (d : Dr) : Dr × List UInt8 := if d.phase ≠ 1 ∧ d.phase ≠ 2 then (own d, []) else ({ own d with phase := 3, tries := 0, step := 0 }, ctrl 1 0)
end Gp
end Go.Proofs.YtfiffbohhhehkaaGreat

namespace Go.Proofs.YtfiffbohhhehkaaGreat
namespace Gp
/-- What Scan finds. -/
theorem scan_yes : ∀ (b : List UInt8) (p : Nat), (Gf.scan p b).ok = true → ∃ i n, (Gf.scan p b).a = p + i ∧ (Gf.scan p b).b = p + i + n ∧ Gf.read (b.drop i) = .ok ((Gf.scan p b).f, n) ∧ i + n ≤ b.length ∧ 6 ≤ n
  | [], p, h => by simp [Gf.scan] at h
  | c :: r, p, h => by
    unfold Gf.scan at h ⊢
    cases hr : Gf.read (c :: r) with
    | ok x =>
      obtain ⟨f, n⟩ := x
      have ht := Gf.text_read hr
      exact ⟨0, n, rfl, rfl, hr, by omega, ht.2.2.1⟩
    | error e =>
      rw [hr] at h
      dsimp only at h ⊢
      by_cases he : e = 2
      · rw [if_pos he] at h; simp at h
      · rw [if_neg he] at h ⊢
        obtain ⟨i, n, h1, h2, h3, h4, h5⟩ := scan_yes r (p + 1) h
        exact ⟨i + 1, n, by rw [h1]; omega, by rw [h2]; omega, h3, by rw [List.length_cons]; omega, h5⟩
theorem scan_no : ∀ (b : List UInt8) (p : Nat), (Gf.scan p b).ok = false → ∃ i, (Gf.scan p b).a = p + i ∧ i ≤ b.length ∧ (b.drop i = [] ∨ Gf.read (b.drop i) = .error 2)
  | [], p, _ => ⟨0, rfl, Nat.le_refl _, .inl rfl⟩
  | c :: r, p, h => by
    unfold Gf.scan at h ⊢
    cases hr : Gf.read (c :: r) with
    | ok x => rw [hr] at h; simp at h
    | error e =>
      rw [hr] at h
      dsimp only at h ⊢
      by_cases he : e = 2
      · rw [if_pos he] at h ⊢
        exact ⟨0, rfl, Nat.zero_le _, .inr (by rw [List.drop_zero, hr, he])⟩
      · rw [if_neg he] at h ⊢
        obtain ⟨i, h1, h2, h3⟩ := scan_no r (p + 1) h
        exact ⟨i + 1, by rw [h1]; omega, by rw [List.length_cons]; omega, h3⟩
/-- What is too short for a packet is short. -/
theorem read_short {b : List UInt8} (h : Gf.read b = .error 2) : b.length < 4102 := by
  unfold Gf.read at h
  match b, h with
  | [], _ => show 0 < 4102; omega
  | a :: r, h =>
    dsimp only at h
    by_cases ha : a ≠ 16
    · rw [if_pos ha] at h; simp at h
    · rw [if_neg ha] at h
      match r, h with
      | k :: l :: g :: c :: x :: t, h =>
        dsimp only at h
        unfold Gf.readHead at h
        split at h
        · simp at h
        · rename_i hk
          split at h
          · split at h <;> simp at h
          · unfold Gf.readBody at h
            split at h
            · rename_i hc hs
              have hok : Gf.okCode (c.toNat / 64) k.toNat = true := by
                cases e : Gf.okCode (c.toNat / 64) k.toNat with
                | true => rfl
                | false => exact absurd (.inr e) hk
              unfold Gf.okCode at hok
              rw [if_neg hc] at hok
              split at hok
              · have := of_decide_eq_true hok
                have := (Gf.size_range this.1 this.2).2
                simp only [List.length_cons]
                omega
              · simp at hok
            · split at h
              · simp at h
              · split at h
                · simp at h
                · split at h <;> simp at h
      | [], _ => show 1 < 4102; omega
      | [_], _ => show 2 < 4102; omega
      | [_, _], _ => show 3 < 4102; omega
      | [_, _, _], _ => show 4 < 4102; omega
      | [_, _, _, _], _ => show 5 < 4102; omega
theorem code_min {z low : Int} (hz : Gf.code z ≠ 0) (h0 : 0 ≤ low) (h7 : low ≤ 7) : Gf.code (min z (32 * 2 ^ low.toNat)) ≠ 0 := by
  have h1 : Gf.code (32 * 2 ^ low.toNat) ≠ 0 := by
    have : low = 0 ∨ low = 1 ∨ low = 2 ∨ low = 3 ∨ low = 4 ∨ low = 5 ∨ low = 6 ∨ low = 7 := by omega
    rcases this with h | h | h | h | h | h | h | h <;> subst h <;> decide
  rcases Int.le_total z (32 * 2 ^ low.toNat) with c | c
  · rw [Int.min_eq_left c]; exact hz
  · rw [Int.min_eq_right c]; exact h1
theorem right_own {d : Dr} (h : right d) : right (own d) := h
theorem wait1 {w : Int} (h0 : 0 ≤ w) (h3 : w ≤ 3) : 0 ≤ or1 w ∧ or1 w ≤ 3 := by unfold or1; split <;> omega
theorem wait2 {w : Int} (h0 : 0 ≤ w) (h3 : w ≤ 3) : 0 ≤ or2 w ∧ or2 w ≤ 3 := by unfold or2; split <;> omega
theorem right_wait {d : Dr} (h : right d) {w : Int} (h0 : 0 ≤ w) (h3 : w ≤ 3) : right { d with wait := w } := by
  obtain ⟨⟨b1, b2, b3, b4, b5, b6, b7, b8, b9, b10, b11, b12, b13, b14, b15⟩, hp⟩ := h
  exact ⟨⟨b1, b2, b3, b4, b5, b6, b7, b8, b9, h0, h3, b12, b13, b14, b15⟩, hp⟩
theorem right_open {d : Dr} (h : base d) : right (open_ d) := by
  obtain ⟨b1, b2, b3, b4, b5, b6, b7, b8, b9, b10, b11, b12, b13, b14, b15⟩ := h
  have e : Wn.begin_ 8 d.room 1 = (⟨8, d.room, 1, []⟩, 0) := if_pos ⟨by omega, by omega, b4, by omega, by omega, by omega⟩
  refine ⟨⟨b1, b2, b3, b4, b5, b6, b7, b8, b9, b10, b11, by show (0 : Int) ≤ 0; omega, by show (0 : Int) ≤ 13; omega, b14, b15⟩, .inr (.inl ⟨rfl, ?_⟩)⟩
  unfold runs open_
  rw [e]
  exact ⟨fun s hs => by simp at hs, by show (-1 : Int) ≤ -1; omega, by show (-1 : Int) ≤ 7; omega, rfl, rfl, by show (0 : Int) ≤ 1; omega, by show (1 : Int) < 8; omega, by show ((0 : Nat) : Int) ≤ d.room; omega⟩
theorem right_begins {d : Dr} (h : right d) {q low : Int} (hq : 0 ≤ q) (hq2 : q ≤ 2) (h0 : 0 ≤ low) (h7 : low ≤ 7) : right (begins d q low).1 := by
  unfold begins
  split
  · exact h
  rename_i hp2
  split
  · exact h
  rename_i hp
  have hp1 : d.phase = 1 := Classical.byContradiction fun e => hp (.inl e)
  have hq3 : ¬ d.step < q := fun e => hp (.inr e)
  have hb := h.1
  have hst : 0 ≤ d.step ∧ d.step ≤ 2 ∧ d.win.l = [] := by
    rcases h.2 with ⟨_, h⟩ | ⟨h, _⟩ | h | h | h
    · exact h
    all_goals omega
  split
  · split
    · exact h
    · exact right_wait h (wait1 hb.2.2.2.2.2.2.2.2.2.1 hb.2.2.2.2.2.2.2.2.2.2.1).1 (wait1 hb.2.2.2.2.2.2.2.2.2.1 hb.2.2.2.2.2.2.2.2.2.2.1).2
  rename_i hqs
  have hqe : q = d.step := by omega
  obtain ⟨b1, b2, b3, b4, b5, b6, b7, b8, b9, b10, b11, b12, b13, b14, b15⟩ := hb
  split
  · refine ⟨⟨b1, code_min b2 h0 h7, fun e => Int.le_trans (Int.min_le_left _ _) (b3 e), b4, b5, b6, b7, b8, b9, b10, b11, by show (0 : Int) ≤ 0; omega, by show (0 : Int) ≤ 13; omega, b14, b15⟩, .inl ⟨hp1, by show 0 ≤ d.step + 1; omega, by show d.step + 1 ≤ 2; omega, hst.2.2⟩⟩
  split
  · exact ⟨⟨b1, b2, b3, b4, b5, b6, b7, b8, b9, b10, b11, b12, b13, b14, b15⟩, .inl ⟨hp1, hst⟩⟩
  · rename_i hl
    have hroom : 1 ≤ min d.room low ∧ min d.room low ≤ 7 := by
      rcases Int.le_total d.room low with c | c
      · rw [Int.min_eq_left c]; omega
      · rw [Int.min_eq_right c]; omega
    have hb2 : base { d with room := min d.room low, step := d.step + 1, tries := 0 } := ⟨b1, b2, b3, hroom.1, hroom.2, b6, b7, b8, b9, b10, b11, by show (0 : Int) ≤ 0; omega, by show (0 : Int) ≤ 13; omega, b14, b15⟩
    dsimp only
    split
    · exact right_open hb2
    · rename_i h3
      exact ⟨hb2, .inl ⟨hp1, by show 0 ≤ d.step + 1; omega, by show d.step + 1 ≤ 2; omega, hst.2.2⟩⟩
theorem runs_rt {d : Dr} (hb : base d) (h : runs d) : Wn.rt d.win = true := by
  obtain ⟨h1, h2, h3, h4, h5, h6, h7, h8⟩ := h
  obtain ⟨b1, b2, b3, b4, b5, b6, b7, b8, b9, b10, b11, b12, b13, b14, b15⟩ := hb
  exact Wn.rt_of (by omega)
theorem right_acked {d : Dr} (hb : base d) (h : runs d) (n : Int) : base (acked d n) ∧ runs (acked d n) := by
  have hrt := runs_rt hb h
  obtain ⟨b1, b2, b3, b4, b5, b6, b7, b8, b9, b10, b11, b12, b13, b14, b15⟩ := hb
  obtain ⟨h1, h2, h3, h4, h5, h6, h7, h8⟩ := h
  refine ⟨⟨b1, b2, b3, b4, b5, b6, b7, b8, b9, b10, b11, ?_, ?_, b14, b15⟩, ?_⟩
  · show 0 ≤ if 0 < (Wn.ack d.win n).2 then 0 else d.tries
    split <;> omega
  · show (if 0 < (Wn.ack d.win n).2 then 0 else d.tries) ≤ 13
    split <;> omega
  · unfold runs acked
    dsimp only
    cases hp : Wn.place d.win n with
    | none =>
      rw [show Wn.ack d.win n = (d.win, 0) by unfold Wn.ack; rw [hp]]
      exact ⟨h1, h2, h3, h4, h5, h6, h7, h8⟩
    | some K =>
      rw [show (Wn.ack d.win n).1 = { d.win with bs := (n + 1) % d.win.md, l := d.win.l.drop (K + 1) } by unfold Wn.ack; rw [hp]]
      have hr := Wn.rt_parts (Wn.ack_rt hp)
      dsimp only at hr
      exact ⟨fun s hs => h1 s (List.mem_of_mem_drop hs), h2, h3, h4, h5, hr.2.2.2.2.1, by have := hr.2.2.2.2.2.1; rw [h4] at this; rw [h4]; exact this, hr.2.2.2.2.2.2⟩
theorem right_closes {d : Dr} (h : right d) : right (closes d).1 := by
  have hb := h.1
  unfold closes
  split
  · exact ⟨hb, .inr (.inr (.inr (.inl rfl)))⟩
  split
  · exact h
  split
  · exact h
  · exact ⟨hb, .inr (.inr (.inr (.inl rfl)))⟩
theorem right_takes2 {d : Dr} (h : right d) (f : Gf.Fr) : right (takes2 d f).1 := by
  unfold takes2
  have hO : right (if d.phase = 1 ∧ d.step = 2 then open_ d else d) := by
    split
    · exact right_open h.1
    · exact h
  generalize (if d.phase = 1 ∧ d.step = 2 then open_ d else d) = e at *
  dsimp only
  split
  · exact hO
  split
  · exact hO
  rename_i h3 h2
  have hp2 : e.phase = 2 := Classical.byContradiction fun x => h2 x
  have hr : runs e := by
    rcases hO.2 with ⟨h, _⟩ | ⟨_, h⟩ | h | h | h
    · omega
    · exact h
    all_goals omega
  obtain ⟨ab, ar⟩ := right_acked hO.1 hr f.lo
  have hA : right (acked e f.lo) := ⟨ab, .inr (.inl ⟨hp2, ar⟩)⟩
  split
  · split
    · exact hA
    · exact right_wait hA (wait1 ab.2.2.2.2.2.2.2.2.2.1 ab.2.2.2.2.2.2.2.2.2.2.1).1 (wait1 ab.2.2.2.2.2.2.2.2.2.1 ab.2.2.2.2.2.2.2.2.2.2.1).2
  · split
    · obtain ⟨b1, b2, b3, b4, b5, b6, b7, b8, b9, b10, b11, b12, b13, b14, b15⟩ := ab
      exact ⟨⟨b1, b2, b3, b4, b5, Int.emod_nonneg _ (by decide), by show ((acked e f.lo).wants + 1) % 8 ≤ 7; have := Int.emod_lt_of_pos ((acked e f.lo).wants + 1) (b := 8) (by decide); omega, b8, b9, b10, b11, b12, b13, b14, b15⟩, .inr (.inl ⟨hp2, ar⟩)⟩
    · split
      · exact hA
      · exact hA
theorem right_takes {d : Dr} (h : right d) {f : Gf.Fr} (hf : Gf.ok f) : right (takes d f).1 := by
  have hb := h.1
  have hw := wait2 hb.2.2.2.2.2.2.2.2.2.1 hb.2.2.2.2.2.2.2.2.2.2.1
  have h2 := right_wait h hw.1 hw.2
  obtain ⟨⟨f1, f2, f3, f4⟩, _⟩ := hf
  unfold takes
  dsimp only
  split
  · exact right_begins h2 (by omega) (by omega) f3 f4
  split
  · exact right_closes h2
  · exact right_takes2 h2 f
theorem size_pos {z : Int} (h : Gf.code z ≠ 0) : 32 ≤ z ∧ z ≤ 4096 := (Gf.code_size h).2
theorem ex_size (s : ByteArray) (k : Nat) (h : k ≤ s.size) : (s.extract 0 k).size = k := by simp; omega
theorem right_fill1 {d : Dr} (hb : base d) (hr : runs d) {p : Pc} {q : List Pc} (hq : d.queue = p :: q) (hl : (d.win.l.length : Int) < d.win.sz) : base (fill1 d p).1 ∧ runs (fill1 d p).1 := by
  have hrt := runs_rt hb hr
  obtain ⟨b1, b2, b3, b4, b5, b6, b7, b8, b9, b10, b11, b12, b13, b14, b15⟩ := hb
  obtain ⟨h1, h2, h3, h4, h5, h6, h7, h8⟩ := hr
  have hz := size_pos b2
  have hp : p.data.size ≠ 0 := b15 p (by rw [hq]; simp)
  have hk : min p.data.size d.size.toNat ≤ p.data.size ∧ 0 < min p.data.size d.size.toNat ∧ ((min p.data.size d.size.toNat : Nat) : Int) ≤ d.size := by omega
  unfold fill1
  dsimp only
  rw [Wn.put_ok hrt (by omega)]
  dsimp only
  refine ⟨⟨b1, b2, b3, b4, b5, b6, b7, b8, b9, b10, b11, b12, b13, b14, ?_⟩, ?_, h2, h3, h4, h5, h6, h7, ?_⟩
  · intro x hx
    dsimp only at hx
    rw [hq] at hx
    unfold cutQ at hx
    dsimp only at hx
    split at hx
    · exact b15 x (by rw [hq]; simp [hx])
    · rename_i hne
      rcases List.mem_cons.1 hx with rfl | hx
      · show (p.data.extract (min p.data.size d.size.toNat) p.data.size).size ≠ 0
        simp
        omega
      · exact b15 x (by rw [hq]; simp [hx])
  · intro s hs
    rcases List.mem_append.1 hs with hs | hs
    · exact h1 s hs
    · obtain rfl := List.mem_singleton.1 hs
      rw [ex_size _ _ hk.1]
      exact ⟨by omega, hk.2.2⟩
  · show ((d.win.l ++ [_]).length : Int) ≤ d.win.sz
    rw [List.length_append, List.length_singleton]
    omega
theorem right_fillN : ∀ (f : Nat) (d : Dr) (out : List UInt8), right d → right (fillN f d out).1 ∧ (fillN f d out).1.at_ = d.at_ ∧ (fillN f d out).1.buf = d.buf ∧ (fillN f d out).1.phase = d.phase
  | 0, _, _, h => ⟨h, rfl, rfl, rfl⟩
  | f + 1, d, out, h => by
    unfold fillN
    cases hq : d.queue with
    | nil => exact ⟨h, rfl, rfl, rfl⟩
    | cons p q =>
      dsimp only
      split
      · rename_i hc
        have hr : runs d := by
          rcases h.2 with ⟨h, _⟩ | ⟨_, h⟩ | h | h | h
          · omega
          · exact h
          all_goals omega
        obtain ⟨fb, fr⟩ := right_fill1 h.1 hr hq hc.2
        have hx : right (fill1 d p).1 := ⟨fb, .inr (.inl ⟨hc.1, fr⟩)⟩
        obtain ⟨r1, r2, r3, r4⟩ := right_fillN f (fill1 d p).1 (out ++ (fill1 d p).2) hx
        exact ⟨r1, r2, r3, r4⟩
      · exact ⟨h, rfl, rfl, rfl⟩
theorem right_fill {d : Dr} (h : right d) : right (fill d).1 ∧ (fill d).1.at_ = d.at_ ∧ (fill d).1.buf = d.buf ∧ (fill d).1.phase = d.phase := right_fillN 8 d [] h
theorem takes_keeps (d : Dr) (f : Gf.Fr) : (takes d f).1.at_ = d.at_ ∧ (takes d f).1.buf = d.buf := by
  have hb : ∀ (e : Dr) q low, (begins e q low).1.at_ = e.at_ ∧ (begins e q low).1.buf = e.buf := by
    intro e q low
    unfold begins
    dsimp only
    repeat' split
    all_goals exact ⟨rfl, rfl⟩
  have hc : ∀ e : Dr, (closes e).1.at_ = e.at_ ∧ (closes e).1.buf = e.buf := by
    intro e
    unfold closes
    repeat' split
    all_goals exact ⟨rfl, rfl⟩
  have ht : ∀ e : Dr, (takes2 e f).1.at_ = e.at_ ∧ (takes2 e f).1.buf = e.buf := by
    intro e
    have ho : (if e.phase = 1 ∧ e.step = 2 then open_ e else e).at_ = e.at_ ∧ (if e.phase = 1 ∧ e.step = 2 then open_ e else e).buf = e.buf := by
      split <;> exact ⟨rfl, rfl⟩
    unfold takes2
    generalize (if e.phase = 1 ∧ e.step = 2 then open_ e else e) = g at *
    dsimp only
    repeat' split
    all_goals exact ho
  unfold takes
  dsimp only
  split
  · exact hb _ _ _
  split
  · exact hc _
  · exact ht _
/-- Whatever is found, the drive stays right, as long as the bytes' number is one. -/
theorem right_feedN : ∀ (f : Nat) (d : Dr) (out came : List UInt8), d.buf.length < f → right d → d.at_ + d.buf.length ≤ 1099511627776 →
    right (feedN f d out came).1 ∧ (feedN f d out came).1.buf.length < 4102 ∧ (feedN f d out came).1.at_ + (feedN f d out came).1.buf.length = d.at_ + d.buf.length
  | 0, _, _, _, h, _, _ => by omega
  | f + 1, d, out, came, hf, h, ha => by
    unfold feedN
    dsimp only
    cases hs : (Gf.scan 0 d.buf).ok with
    | true =>
      obtain ⟨i, n, h1, h2, h3, h4, h5⟩ := scan_yes d.buf 0 hs
      rw [if_pos rfl]
      have hok := (Gf.text_read h3).1
      have hbl : (d.buf.drop (Gf.scan 0 d.buf).b).length = d.buf.length - (i + n) := by rw [List.length_drop, h2]; omega
      have hat : d.at_ + ((Gf.scan 0 d.buf).b : Int) = d.at_ + ((i + n : Nat) : Int) := by rw [h2]; omega
      obtain ⟨b1, b2, b3, b4, b5, b6, b7, b8, b9, b10, b11, b12, b13, b14, b15⟩ := h.1
      have hR : right { d with took := d.took ++ [(d.at_ + ((Gf.scan 0 d.buf).a : Int), d.at_ + ((Gf.scan 0 d.buf).b : Int))], buf := d.buf.drop (Gf.scan 0 d.buf).b, at_ := d.at_ + ((Gf.scan 0 d.buf).b : Int) } :=
        ⟨⟨b1, b2, b3, b4, b5, b6, b7, by show 0 ≤ d.at_ + _; omega, by show d.at_ + _ ≤ _; rw [hat]; omega, b10, b11, b12, b13, b14, b15⟩, h.2⟩
      have hT := right_takes hR hok
      have hK := takes_keeps { d with took := d.took ++ [(d.at_ + ((Gf.scan 0 d.buf).a : Int), d.at_ + ((Gf.scan 0 d.buf).b : Int))], buf := d.buf.drop (Gf.scan 0 d.buf).b, at_ := d.at_ + ((Gf.scan 0 d.buf).b : Int) } (Gf.scan 0 d.buf).f
      dsimp only at hK
      obtain ⟨r1, r2, r3⟩ := right_feedN f _ (out ++ (takes { d with took := d.took ++ [(d.at_ + ((Gf.scan 0 d.buf).a : Int), d.at_ + ((Gf.scan 0 d.buf).b : Int))], buf := d.buf.drop (Gf.scan 0 d.buf).b, at_ := d.at_ + ((Gf.scan 0 d.buf).b : Int) } (Gf.scan 0 d.buf).f).2.1) (came ++ (takes { d with took := d.took ++ [(d.at_ + ((Gf.scan 0 d.buf).a : Int), d.at_ + ((Gf.scan 0 d.buf).b : Int))], buf := d.buf.drop (Gf.scan 0 d.buf).b, at_ := d.at_ + ((Gf.scan 0 d.buf).b : Int) } (Gf.scan 0 d.buf).f).2.2) (by rw [hK.2, hbl]; omega) hT (by rw [hK.1, hK.2, hbl, hat]; omega)
      refine ⟨r1, r2, ?_⟩
      rw [r3, hK.1, hK.2, hbl, hat]
      omega
    | false =>
      obtain ⟨i, h1, h2, h3⟩ := scan_no d.buf 0 hs
      rw [if_neg (by simp)]
      have hbl : (d.buf.drop (Gf.scan 0 d.buf).a).length = d.buf.length - i := by rw [List.length_drop, h1]; omega
      have hat : d.at_ + ((Gf.scan 0 d.buf).a : Int) = d.at_ + (i : Int) := by rw [h1]; omega
      obtain ⟨b1, b2, b3, b4, b5, b6, b7, b8, b9, b10, b11, b12, b13, b14, b15⟩ := h.1
      refine ⟨⟨⟨b1, b2, b3, b4, b5, b6, b7, by show 0 ≤ d.at_ + _; omega, by show d.at_ + _ ≤ _; rw [hat]; omega, b10, b11, b12, b13, b14, b15⟩, h.2⟩, ?_, ?_⟩
      · show (d.buf.drop (Gf.scan 0 d.buf).a).length < 4102
        rw [h1, Nat.zero_add]
        rcases h3 with h3 | h3
        · rw [h3]; show 0 < 4102; omega
        · exact read_short h3
      · show d.at_ + _ + ((d.buf.drop (Gf.scan 0 d.buf).a).length : Int) = _
        rw [hbl, hat]
        omega
theorem right_feed {d : Dr} (h : right d) (s : List UInt8) (ha : d.at_ + d.buf.length + s.length ≤ 1099511627776) : right (feed d s).1 ∧ (feed d s).1.buf.length < 4102 ∧ (feed d s).1.at_ + (feed d s).1.buf.length = d.at_ + d.buf.length + s.length := by
  have hl : (d.buf ++ s).length = d.buf.length + s.length := List.length_append
  have h0 : right { own d with buf := d.buf ++ s } := h
  obtain ⟨r1, r2, r3⟩ := right_feedN (d.buf.length + s.length + 1) { own d with buf := d.buf ++ s } [] [] (by show (d.buf ++ s).length < _; omega) h0 (by show d.at_ + ((d.buf ++ s).length : Int) ≤ _; omega)
  obtain ⟨f1, f2, f3, _⟩ := right_fill r1
  unfold feed
  dsimp only
  refine ⟨f1, by rw [f3]; exact r2, ?_⟩
  rw [f2, f3, r3]
  show d.at_ + ((d.buf ++ s).length : Int) = _
  omega
theorem right_close {d : Dr} (h : right d) : right (close d).1 := by
  obtain ⟨b1, b2, b3, b4, b5, b6, b7, b8, b9, b10, b11, b12, b13, b14, b15⟩ := h.1
  unfold close
  split
  · exact h
  · exact ⟨⟨b1, b2, b3, b4, b5, b6, b7, b8, b9, b10, b11, by show (0 : Int) ≤ 0; omega, by show (0 : Int) ≤ 13; omega, b14, b15⟩, .inr (.inr (.inl rfl))⟩
theorem right_send {d : Dr} (h : right d) (p : Pc) : right (send d p).1 ∧ (send d p).1.at_ = d.at_ ∧ (send d p).1.buf = d.buf := by
  obtain ⟨b1, b2, b3, b4, b5, b6, b7, b8, b9, b10, b11, b12, b13, b14, b15⟩ := h.1
  unfold send
  split
  · exact ⟨h, rfl, rfl⟩
  · rename_i hc
    have h1 : right { own d with queue := d.queue ++ [p] } := ⟨⟨b1, b2, b3, b4, b5, b6, b7, b8, b9, b10, b11, b12, b13, b14, fun x hx => by
      rcases List.mem_append.1 hx with hx | hx
      · exact b15 x hx
      · obtain rfl := List.mem_singleton.1 hx
        exact fun e => hc (.inl e)⟩, h.2⟩
    obtain ⟨f1, f2, f3, _⟩ := right_fill h1
    exact ⟨f1, f2, f3⟩
end Gp
end Go.Proofs.YtfiffbohhhehkaaGreat

namespace Go.Proofs.YtfiffbohhhehkaaGreat
namespace Gp
/-- An end that has not given up has not tried too often. -/
def live (d : Dr) : Prop := d.phase ≤ 3 → d.tries ≤ 12
theorem live_open (d : Dr) : live (open_ d) := fun _ => by show (0 : Int) ≤ 12; omega
theorem live_begins {d : Dr} (h : live d) (q low : Int) : live (begins d q low).1 := by
  unfold begins
  dsimp only
  repeat' split
  all_goals first
    | exact h
    | exact live_open _
    | exact (fun _ => by show (0 : Int) ≤ 12; omega)
theorem live_closes {d : Dr} (h : live d) : live (closes d).1 := by
  unfold closes
  repeat' split
  all_goals first
    | exact h
    | exact (fun e => absurd e (by show ¬ (4 : Int) ≤ 3; omega))
theorem live_acked {d : Dr} (h : live d) (n : Int) : live (acked d n) := by
  intro e
  show (if 0 < (Wn.ack d.win n).2 then 0 else d.tries) ≤ 12
  split
  · omega
  · exact h e
theorem live_takes2 {d : Dr} (h : live d) (f : Gf.Fr) : live (takes2 d f).1 := by
  have ho : live (if d.phase = 1 ∧ d.step = 2 then open_ d else d) := by
    split
    · exact live_open d
    · exact h
  unfold takes2
  generalize (if d.phase = 1 ∧ d.step = 2 then open_ d else d) = g at *
  have ha := live_acked ho f.lo
  dsimp only
  repeat' split
  all_goals first
    | exact ho
    | exact ha
theorem live_takes {d : Dr} (h : live d) (f : Gf.Fr) : live (takes d f).1 := by
  have h2 : live { d with wait := or2 d.wait } := h
  unfold takes
  dsimp only
  split
  · exact live_begins h2 _ _
  split
  · exact live_closes h2
  · exact live_takes2 h2 f
theorem live_fillN : ∀ (f : Nat) (d : Dr) (out : List UInt8), live d → live (fillN f d out).1
  | 0, _, _, h => h
  | f + 1, d, out, h => by
    unfold fillN
    cases d.queue with
    | nil => exact h
    | cons p q =>
      dsimp only
      split
      · exact live_fillN f (fill1 d p).1 _ h
      · exact h
theorem live_fill {d : Dr} (h : live d) : live (fill d).1 := live_fillN 8 d [] h
theorem live_feedN : ∀ (f : Nat) (d : Dr) (out came : List UInt8), live d → live (feedN f d out came).1
  | 0, _, _, _, h => h
  | f + 1, d, out, came, h => by
    unfold feedN
    dsimp only
    split
    · exact live_feedN f _ _ _ (live_takes (d := { d with took := d.took ++ [(d.at_ + ((Gf.scan 0 d.buf).a : Int), d.at_ + ((Gf.scan 0 d.buf).b : Int))], buf := d.buf.drop (Gf.scan 0 d.buf).b, at_ := d.at_ + ((Gf.scan 0 d.buf).b : Int) }) h _)
    · exact h
theorem live_feed {d : Dr} (h : live d) (s : List UInt8) : live (feed d s).1 := by
  unfold feed
  dsimp only
  exact live_fill (live_feedN _ _ _ _ h)
theorem live_send {d : Dr} (h : live d) (p : Pc) : live (send d p).1 := by
  unfold send
  split
  · exact h
  · exact live_fill (d := { own d with queue := d.queue ++ [p] }) h
theorem live_close {d : Dr} (h : live d) : live (close d).1 := by
  unfold close
  split
  · exact h
  · exact fun _ => by show (0 : Int) ≤ 12; omega
theorem tick_ok {d : Dr} (h : right d) (hl : live d) (ha : d.at_ + d.buf.length ≤ 1099511627776) : right (tick d).1 ∧ live (tick d).1 ∧ (tick d).1.buf.length ≤ d.buf.length ∧ (tick d).1.at_ + (tick d).1.buf.length = d.at_ + d.buf.length := by
  obtain ⟨b1, b2, b3, b4, b5, b6, b7, b8, b9, b10, b11, b12, b13, b14, b15⟩ := h.1
  have key : ∃ e : Dr, (if 2 ≤ (own d).wait then { own d with wait := 0 } else { own d with at_ := (own d).at_ + (own d).buf.length, buf := [], wait := 0 }) = e ∧ right e ∧ live e ∧ e.buf.length ≤ d.buf.length ∧ e.at_ + e.buf.length = d.at_ + d.buf.length := by
    by_cases hw : 2 ≤ d.wait
    · refine ⟨{ own d with wait := 0 }, if_pos hw, ⟨⟨b1, b2, b3, b4, b5, b6, b7, b8, b9, by show (0 : Int) ≤ 0; omega, by show (0 : Int) ≤ 3; omega, b12, b13, b14, b15⟩, h.2⟩, hl, Nat.le_refl _, rfl⟩
    · refine ⟨{ own d with at_ := d.at_ + d.buf.length, buf := [], wait := 0 }, if_neg hw, ⟨⟨b1, b2, b3, b4, b5, b6, b7, by show 0 ≤ d.at_ + _; omega, ha, by show (0 : Int) ≤ 0; omega, by show (0 : Int) ≤ 3; omega, b12, b13, b14, b15⟩, h.2⟩, hl, Nat.zero_le _, ?_⟩
      show d.at_ + (d.buf.length : Int) + ((0 : Nat) : Int) = _
      omega
  obtain ⟨e, he, hr, hle, e5, e6⟩ := key
  unfold tick
  dsimp only
  rw [he]
  obtain ⟨c1, c2, c3, c4, c5, c6, c7, c8, c9, c10, c11, c12, c13, c14, c15⟩ := hr.1
  have hb1 : e.phase ≤ 3 → base { e with tries := e.tries + 1 } := fun hp => ⟨c1, c2, c3, c4, c5, c6, c7, c8, c9, c10, c11, by show 0 ≤ e.tries + 1; omega, by show e.tries + 1 ≤ 13; have := hle hp; omega, c14, c15⟩
  split
  · rename_i hp
    have hb2 := hb1 (by omega)
    split
    · split
      · exact ⟨⟨hb2, .inr (.inr (.inr (.inl rfl)))⟩, fun x => absurd x (by show ¬ (4 : Int) ≤ 3; omega), e5, e6⟩
      · exact ⟨⟨hb2, .inr (.inr (.inr (.inr rfl)))⟩, fun x => absurd x (by show ¬ (5 : Int) ≤ 3; omega), e5, e6⟩
    · rename_i ht
      split
      · exact ⟨⟨hb2, hr.2⟩, fun _ => by show e.tries + 1 ≤ 12; omega, e5, e6⟩
      · exact ⟨⟨hb2, hr.2⟩, fun _ => by show e.tries + 1 ≤ 12; omega, e5, e6⟩
  split
  · rename_i hp1 hp
    have hrun : runs e := by
      rcases hr.2 with ⟨h, _⟩ | ⟨_, h⟩ | h | h | h
      · omega
      · exact h
      all_goals omega
    obtain ⟨r1, r2, r3, r4, r5, r6, r7, r8⟩ := hrun
    split
    · exact ⟨⟨hr.1, .inr (.inl ⟨hp, r1, by show (-1 : Int) ≤ -1; omega, by show (-1 : Int) ≤ 7; omega, r4, r5, r6, r7, r8⟩)⟩, hle, e5, e6⟩
    split
    · exact ⟨⟨hr.1, .inr (.inl ⟨hp, r1, by show -1 ≤ e.win.bs; omega, by show e.win.bs ≤ 7; omega, r4, r5, r6, r7, r8⟩)⟩, hle, e5, e6⟩
    · have hb2 := hb1 (by omega)
      split
      · exact ⟨⟨hb2, .inr (.inr (.inr (.inr rfl)))⟩, fun x => absurd x (by show ¬ (5 : Int) ≤ 3; omega), e5, e6⟩
      · rename_i ht
        exact ⟨⟨hb2, .inr (.inl ⟨hp, r1, r2, r3, r4, r5, r6, r7, r8⟩)⟩, fun _ => by show e.tries + 1 ≤ 12; omega, e5, e6⟩
  · exact ⟨hr, hle, e5, e6⟩
theorem begin_ok {letter : Int} {size room : Int} (caller : Bool) (h1 : letter = 103 ∨ letter = 71) (h2 : Gf.code size ≠ 0) (h3 : letter = 103 → size ≤ 64) (h4 : 1 ≤ room) (h5 : room ≤ 7) : right (begin_ letter caller size room) ∧ live (begin_ letter caller size room) := by
  refine ⟨⟨⟨h1, h2, h3, h4, h5, by show (0 : Int) ≤ 1; omega, by show (1 : Int) ≤ 7; omega, by show (0 : Int) ≤ 0; omega, by show (0 : Int) ≤ 1099511627776; omega, by show (0 : Int) ≤ 0; omega, by show (0 : Int) ≤ 3; omega, by show (0 : Int) ≤ 0; omega, by show (0 : Int) ≤ 13; omega, rfl, fun p hp => by simp [begin_] at hp⟩, .inl ⟨rfl, by show (0 : Int) ≤ 0; omega, by show (0 : Int) ≤ 2; omega, rfl⟩⟩, fun _ => by show (0 : Int) ≤ 12; omega⟩
/-- What the statement on right drives asks, call by call: N bytes have come so far. -/
structure Ok (N : Nat) (d : Dr) : Prop where
  rt : right d
  lv : live d
  tot : d.at_ + d.buf.length ≤ N
  buf : d.buf.length < 4102
theorem Ok.mono {N M : Nat} {d : Dr} (h : Ok N d) (hm : N ≤ M) : Ok M d := ⟨h.rt, h.lv, by have := h.tot; omega, h.buf⟩
theorem Ok.feed {N : Nat} {d : Dr} (h : Ok N d) (s : List UInt8) (hN : N + s.length ≤ 1099511627776) : Ok (N + s.length) (feed d s).1 := by
  have ht := h.tot
  obtain ⟨r1, r2, r3⟩ := right_feed h.rt s (by omega)
  exact ⟨r1, live_feed h.lv s, by rw [r3]; omega, r2⟩
theorem Ok.tick {N : Nat} {d : Dr} (h : Ok N d) (hN : N ≤ 1099511627776) : Ok N (tick d).1 := by
  have ht := h.tot
  obtain ⟨r1, r2, r3, r4⟩ := tick_ok h.rt h.lv (by omega)
  exact ⟨r1, r2, by rw [r4]; exact ht, Nat.lt_of_le_of_lt r3 h.buf⟩
theorem Ok.send {N : Nat} {d : Dr} (h : Ok N d) (p : Pc) : Ok N (send d p).1 := by
  obtain ⟨r1, r2, r3⟩ := right_send h.rt p
  exact ⟨r1, live_send h.lv p, by rw [r2, r3]; exact h.tot, by rw [r3]; exact h.buf⟩
theorem Ok.close {N : Nat} {d : Dr} (h : Ok N d) : Ok N (close d).1 := by
  refine ⟨right_close h.rt, live_close h.lv, ?_, ?_⟩
  · unfold Gp.close; split <;> exact h.tot
  · unfold Gp.close; split <;> exact h.buf
theorem Ok.begin_ {letter : Int} {size room : Int} (caller : Bool) (h1 : letter = 103 ∨ letter = 71) (h2 : Gf.code size ≠ 0) (h3 : letter = 103 → size ≤ 64) (h4 : 1 ≤ room) (h5 : room ≤ 7) : Ok 0 (begin_ letter caller size room) :=
  ⟨(begin_ok caller h1 h2 h3 h4 h5).1, (begin_ok caller h1 h2 h3 h4 h5).2, by show (0 : Int) + ((0 : Nat) : Int) ≤ ((0 : Nat) : Int); omega, by show 0 < 4102; omega⟩
end Gp
end Go.Proofs.YtfiffbohhhehkaaGreat

namespace Go.Proofs.YtfiffbohhhehkaaGreat
namespace Gp
/-- the two ends of awake, and what is under way -/
structure Aw where
  a : Dr
  s : List UInt8
  b : Dr
  t : List UInt8
  c : List UInt8
def hello : List UInt8 := [104, 101, 108, 108, 111]
def aw0 : Aw := ⟨(send (begin_ 103 true 64 3) ⟨0, ⟨hello.toArray⟩⟩).1, opening (begin_ 103 true 64 3) 0, begin_ 103 false 32 7, opening (begin_ 103 false 32 7) 0, []⟩
def aw1 (x : Aw) : Aw := ⟨(feed x.a x.t).1, (feed x.a x.t).2.1, (feed x.b x.s).1, (feed x.b x.s).2.1, x.c ++ (feed x.b x.s).2.2⟩
def awN : Nat → Aw
  | 0 => aw0
  | n + 1 => aw1 (awN n)
set_option maxRecDepth 100000 in
theorem aw_small : ∀ n, n < 7 → (awN n).a.at_ ≤ 1000 ∧ (awN n).a.buf.length ≤ 1000 ∧ (awN n).t.length ≤ 1000 ∧ (awN n).b.at_ ≤ 1000 ∧ (awN n).b.buf.length ≤ 1000 ∧ (awN n).s.length ≤ 1000 ∧ (awN n).c.length ≤ 1000 := by decide +kernel
set_option maxRecDepth 100000 in
theorem aw_end : (awN 6).c = hello ∧ (awN 6).a.phase = 2 ∧ (awN 6).b.phase = 2 ∧ (awN 6).a.size = 32 ∧ (awN 6).b.room = 3 := by decide +kernel
theorem begin_right {lt z ro : Int} (ca : Bool) (h1 : lt = 103 ∨ lt = 71) (h2 : Gf.code z ≠ 0) (h3 : lt = 103 → z ≤ 64) (h4 : 1 ≤ ro) (h5 : ro ≤ 7) : right (begin_ lt ca z ro) :=
  ⟨⟨h1, h2, h3, h4, h5, by unfold begin_; dsimp only; omega, by unfold begin_; dsimp only; omega, by unfold begin_; dsimp only; omega, by unfold begin_; dsimp only; omega, by unfold begin_; dsimp only; omega, by unfold begin_; dsimp only; omega, by unfold begin_; dsimp only; omega, by unfold begin_; dsimp only; omega, rfl, fun p hp => by cases hp⟩, .inl ⟨rfl, by unfold begin_; dsimp only; omega, by unfold begin_; dsimp only; omega, rfl⟩⟩
theorem aw_right : ∀ n, n < 7 → right (awN n).a ∧ right (awN n).b
  | 0, _ => ⟨(right_send (begin_right true (.inl rfl) (by decide) (by decide) (by decide) (by decide)) _).1, begin_right false (.inl rfl) (by decide) (by decide) (by decide) (by decide)⟩
  | n + 1, h => by
    have ih := aw_right n (by omega)
    obtain ⟨s1, s2, s3, s4, s5, s6, _⟩ := aw_small n (by omega)
    exact ⟨(right_feed ih.1 _ (by omega)).1, (right_feed ih.2 _ (by omega)).1⟩
end Gp
end Go.Proofs.YtfiffbohhhehkaaGreat

namespace Go.Proofs.YtfiffbohhhehkaaGreat
namespace Gp
/-- What no packet asks: the bytes that are kept, their number, what was taken. -/
def put (d : Dr) (b : List UInt8) (a : Int) (t : List (Int × Int)) : Dr := { d with buf := b, at_ := a, took := t }
theorem allFrom_put (d : Dr) (b : List UInt8) (a : Int) (t : List (Int × Int)) : ∀ (l : List ByteArray) (i : Nat), allFrom (put d b a t) l i = allFrom d l i
  | [], _ => rfl
  | s :: r, i => by
    unfold allFrom
    rw [allFrom_put d b a t r (i + 1)]
    rfl
theorem all_put (d : Dr) (b : List UInt8) (a : Int) (t : List (Int × Int)) : all (put d b a t) = all d := allFrom_put d b a t d.win.l 0
theorem begins_put (d : Dr) (b : List UInt8) (a : Int) (t : List (Int × Int)) (q low : Int) : begins (put d b a t) q low = (put (begins d q low).1 b a t, (begins d q low).2) := by
  unfold begins
  simp only [show (put d b a t).phase = d.phase from rfl, show (put d b a t).step = d.step from rfl, show (put d b a t).wait = d.wait from rfl, show (put d b a t).size = d.size from rfl, show (put d b a t).room = d.room from rfl]
  repeat' split
  all_goals rfl
theorem closes_put (d : Dr) (b : List UInt8) (a : Int) (t : List (Int × Int)) : closes (put d b a t) = (put (closes d).1 b a t, (closes d).2) := by
  unfold closes
  simp only [show (put d b a t).phase = d.phase from rfl, show (put d b a t).step = d.step from rfl]
  repeat' split
  all_goals rfl
theorem takes2_put (d : Dr) (b : List UInt8) (a : Int) (t : List (Int × Int)) (f : Gf.Fr) : takes2 (put d b a t) f = (put (takes2 d f).1 b a t, (takes2 d f).2) := by
  have ho : (if (put d b a t).phase = 1 ∧ (put d b a t).step = 2 then open_ (put d b a t) else put d b a t) = put (if d.phase = 1 ∧ d.step = 2 then open_ d else d) b a t := by
    show (if d.phase = 1 ∧ d.step = 2 then open_ (put d b a t) else put d b a t) = _
    split <;> rfl
  unfold takes2
  rw [ho]
  generalize (if d.phase = 1 ∧ d.step = 2 then open_ d else d) = e
  have ha : acked (put e b a t) f.lo = put (acked e f.lo) b a t := rfl
  dsimp only
  rw [ha]
  simp only [show (put e b a t).phase = e.phase from rfl, show (put (acked e f.lo) b a t).wait = (acked e f.lo).wait from rfl, show (put (acked e f.lo) b a t).wants = (acked e f.lo).wants from rfl, show (put (acked e f.lo) b a t).room = (acked e f.lo).room from rfl]
  split
  · rfl
  split
  · rfl
  split
  · split
    · rfl
    · exact congrArg (fun x => (put { acked e f.lo with wait := or1 (acked e f.lo).wait } b a t, x, ([] : List UInt8))) (all_put { acked e f.lo with wait := or1 (acked e f.lo).wait } b a t)
  · split
    · rfl
    · split <;> rfl
theorem takes_put (d : Dr) (b : List UInt8) (a : Int) (t : List (Int × Int)) (f : Gf.Fr) : takes (put d b a t) f = (put (takes d f).1 b a t, (takes d f).2) := by
  unfold takes
  rw [show ({ put d b a t with wait := or2 (put d b a t).wait } : Dr) = put { d with wait := or2 d.wait } b a t from rfl]
  dsimp only
  rw [begins_put, closes_put, takes2_put]
  split
  · rfl
  · split <;> rfl
/-- Packets, one behind the other. -/
def takesL : Dr → List Gf.Fr → List UInt8 → List UInt8 → Dr × List UInt8 × List UInt8
  | d, [], out, came => (d, out, came)
  | d, f :: r, out, came => takesL (takes d f).1 r (out ++ (takes d f).2.1) (came ++ (takes d f).2.2)
def texts (l : List Gf.Fr) : List UInt8 := l.flatMap Gf.text
theorem texts_cons (f : Gf.Fr) (l : List Gf.Fr) : texts (f :: l) = Gf.text f ++ texts l := by simp [texts]
theorem text_cons (f : Gf.Fr) : ∃ r, Gf.text f = 16 :: r := ⟨_, rfl⟩
theorem scan_text {f : Gf.Fr} (h : Gf.ok f) (r : List UInt8) : Gf.scan 0 (Gf.text f ++ r) = ⟨f, 0, (Gf.text f).length, true⟩ := by
  have hr := Gf.read_text h r
  obtain ⟨x, hx⟩ := text_cons f
  rw [hx] at hr ⊢
  rw [List.cons_append] at hr ⊢
  unfold Gf.scan
  rw [hr]
  simp
theorem feedN_texts : ∀ (l : List Gf.Fr) (n : Nat) (d : Dr) (b : List UInt8) (a : Int) (t : List (Int × Int)) (out came : List UInt8), (∀ f ∈ l, Gf.ok f) → b = texts l → l.length < n → ∃ a' t', feedN n (put d b a t) out came = (put (takesL d l out came).1 [] a' t', (takesL d l out came).2)
  | [], n + 1, d, b, a, t, out, came, _, hb, _ => by
    subst hb
    refine ⟨a, t, ?_⟩
    show feedN (n + 1) (put d [] a t) out came = _
    unfold feedN
    have hs : Gf.scan 0 (put d [] a t).buf = ⟨Gf.zero, 0, 0, false⟩ := rfl
    dsimp only
    rw [hs]
    simp only [Bool.false_eq_true, if_false, takesL]
    show (({ put d [] a t with buf := [], at_ := a + ((0 : Nat) : Int) } : Dr), out, came) = _
    simp [put]
  | f :: l, n + 1, d, b, a, t, out, came, hl, hb, hn => by
    rw [texts_cons] at hb
    subst hb
    have hs : Gf.scan 0 (put d (Gf.text f ++ texts l) a t).buf = ⟨f, 0, (Gf.text f).length, true⟩ := scan_text (hl f (by simp)) (texts l)
    unfold feedN
    dsimp only
    rw [hs]
    dsimp only
    rw [if_pos rfl]
    have hput : ({ put d (Gf.text f ++ texts l) a t with took := (put d (Gf.text f ++ texts l) a t).took ++ [((put d (Gf.text f ++ texts l) a t).at_ + ((0 : Nat) : Int), (put d (Gf.text f ++ texts l) a t).at_ + ((Gf.text f).length : Int))], buf := (put d (Gf.text f ++ texts l) a t).buf.drop (Gf.text f).length, at_ := (put d (Gf.text f ++ texts l) a t).at_ + ((Gf.text f).length : Int) } : Dr) = put d (texts l) (a + ((Gf.text f).length : Int)) (t ++ [(a + ((0 : Nat) : Int), a + ((Gf.text f).length : Int))]) := by
      show put d ((Gf.text f ++ texts l).drop (Gf.text f).length) _ _ = _
      rw [List.drop_left]
      rfl
    rw [hput, takes_put]
    exact feedN_texts l n (takes d f).1 (texts l) _ _ _ _ (fun x hx => hl x (by simp [hx])) rfl (by simp at hn; omega)
  | _, 0, _, _, _, _, _, _, _, _, h => by simp at h
theorem texts_len (l : List Gf.Fr) : l.length ≤ (texts l).length := by
  induction l with
  | nil => exact Nat.le_refl _
  | cons f l ih =>
    rw [texts_cons, List.length_append, List.length_cons]
    obtain ⟨r, hr⟩ := text_cons f
    rw [hr, List.length_cons]
    omega
/-- A drive that keeps no bytes is fed packets. -/
theorem feed_texts {d : Dr} (hd : d.buf = []) (l : List Gf.Fr) (hl : ∀ f ∈ l, Gf.ok f) : ∃ a t, feed d (texts l) = ((fill (put (takesL d l [] []).1 [] a t)).1, (takesL d l [] []).2.1 ++ (fill (put (takesL d l [] []).1 [] a t)).2, (takesL d l [] []).2.2) := by
  have hlen := texts_len l
  obtain ⟨a, t, h⟩ := feedN_texts l (d.buf.length + (texts l).length + 1) d (texts l) d.at_ [] [] [] hl rfl (by rw [hd]; show l.length < 0 + _ + 1; omega)
  refine ⟨a, t, ?_⟩
  unfold feed
  have e : ({ own d with buf := d.buf ++ texts l } : Dr) = put d (texts l) d.at_ [] := by rw [hd]; rfl
  rw [e, h]
/-- Ticks, one behind the other. -/
def ticks : Nat → Dr → Dr
  | 0, d => d
  | n + 1, d => ticks n (tick d).1
theorem tick_opening {d : Dr} (h : d.phase = 1) : (tick d).1.tries = d.tries + 1 ∧ (tick d).1.phase = if 12 < d.tries + 1 then 5 else 1 := by
  unfold tick
  dsimp only
  have key : ∃ e : Dr, (if 2 ≤ (own d).wait then { own d with wait := 0 } else { own d with at_ := (own d).at_ + (own d).buf.length, buf := [], wait := 0 }) = e ∧ e.phase = 1 ∧ e.tries = d.tries := by
    split
    · exact ⟨_, rfl, h, rfl⟩
    · exact ⟨_, rfl, h, rfl⟩
  obtain ⟨e, he, h1, h2⟩ := key
  rw [he, if_pos (.inl h1), h2]
  by_cases ht : 12 < d.tries + 1
  · rw [if_pos ht, if_pos ht, if_neg (by omega)]
    exact ⟨rfl, rfl⟩
  · rw [if_neg ht, if_neg ht, if_neg (by omega)]
    exact ⟨rfl, h1⟩
theorem tick_closing {d : Dr} (h : d.phase = 3) : (tick d).1.tries = d.tries + 1 ∧ (tick d).1.phase = if 12 < d.tries + 1 then 4 else 3 := by
  unfold tick
  dsimp only
  have key : ∃ e : Dr, (if 2 ≤ (own d).wait then { own d with wait := 0 } else { own d with at_ := (own d).at_ + (own d).buf.length, buf := [], wait := 0 }) = e ∧ e.phase = 3 ∧ e.tries = d.tries := by
    split
    · exact ⟨_, rfl, h, rfl⟩
    · exact ⟨_, rfl, h, rfl⟩
  obtain ⟨e, he, h1, h2⟩ := key
  rw [he, if_pos (.inr h1), h2]
  by_cases ht : 12 < d.tries + 1
  · rw [if_pos ht, if_pos ht, if_pos h1]
    exact ⟨rfl, rfl⟩
  · rw [if_neg ht, if_neg ht, if_pos h1]
    exact ⟨rfl, h1⟩
theorem tick_over {d : Dr} (h : d.phase = 4 ∨ d.phase = 5) : (tick d).1.phase = d.phase := by
  unfold tick
  dsimp only
  have key : ∃ e : Dr, (if 2 ≤ (own d).wait then { own d with wait := 0 } else { own d with at_ := (own d).at_ + (own d).buf.length, buf := [], wait := 0 }) = e ∧ e.phase = d.phase := by
    split
    · exact ⟨_, rfl, rfl⟩
    · exact ⟨_, rfl, rfl⟩
  obtain ⟨e, he, h1⟩ := key
  rw [he, if_neg (by omega), if_neg (by omega)]
  exact h1
theorem tick_idle {d : Dr} (h : d.phase = 2) (hw : d.win.l = []) : (tick d).1.phase = 2 ∧ (tick d).1.win = d.win := by
  unfold tick
  dsimp only
  have key : ∃ e : Dr, (if 2 ≤ (own d).wait then { own d with wait := 0 } else { own d with at_ := (own d).at_ + (own d).buf.length, buf := [], wait := 0 }) = e ∧ e.phase = 2 ∧ e.win = d.win := by
    split
    · exact ⟨_, rfl, h, rfl⟩
    · exact ⟨_, rfl, h, rfl⟩
  obtain ⟨e, he, h1, h2⟩ := key
  rw [he, if_neg (by omega), if_pos h1, if_pos (by rw [h2]; exact hw)]
  exact ⟨h1, h2⟩
theorem ticks_over : ∀ (n : Nat) {d : Dr}, d.phase = 4 ∨ d.phase = 5 → (ticks n d).phase = d.phase
  | 0, _, _ => rfl
  | n + 1, d, h => by
    have h1 := tick_over h
    show (ticks n (tick d).1).phase = _
    rw [ticks_over n (by rw [h1]; exact h), h1]
/-- An end that opens and hears nothing fails. -/
theorem ticks_fails : ∀ (n : Nat) {d : Dr} (t : Nat), d.phase = 1 → d.tries = (t : Int) → 13 ≤ t + n → t ≤ 12 → (ticks n d).phase = 5
  | 0, _, t, _, _, h, h2 => by omega
  | n + 1, d, t, hp, ht, h, h2 => by
    obtain ⟨t1, t2⟩ := tick_opening hp
    show (ticks n (tick d).1).phase = 5
    by_cases hc : 12 < t + 1
    · have h5 : (tick d).1.phase = 5 := by rw [t2, if_pos (by rw [ht]; omega)]
      rw [ticks_over n (.inr h5), h5]
    · exact ticks_fails n (t + 1) (by rw [t2, if_neg (by rw [ht]; omega)]) (by rw [t1, ht]; omega) (by omega) (by omega)
/-- An end that closes and hears nothing is closed. -/
theorem ticks_closes : ∀ (n : Nat) {d : Dr} (t : Nat), d.phase = 3 → d.tries = (t : Int) → 13 ≤ t + n → t ≤ 12 → (ticks n d).phase = 4
  | 0, _, t, _, _, h, h2 => by omega
  | n + 1, d, t, hp, ht, h, h2 => by
    obtain ⟨t1, t2⟩ := tick_closing hp
    show (ticks n (tick d).1).phase = 4
    by_cases hc : 12 < t + 1
    · have h5 : (tick d).1.phase = 4 := by rw [t2, if_pos (by rw [ht]; omega)]
      rw [ticks_over n (.inl h5), h5]
    · exact ticks_closes n (t + 1) (by rw [t2, if_neg (by rw [ht]; omega)]) (by rw [t1, ht]; omega) (by omega) (by omega)
/-- An end that has nothing under way waits. -/
theorem ticks_idle : ∀ (n : Nat) {d : Dr}, d.phase = 2 → d.win.l = [] → (ticks n d).phase = 2
  | 0, _, h, _ => h
  | n + 1, d, h, hw => by
    obtain ⟨t1, t2⟩ := tick_idle h hw
    exact ticks_idle n t1 (by rw [t2]; exact hw)
end Gp
end Go.Proofs.YtfiffbohhhehkaaGreat

namespace Go.Proofs.YtfiffbohhhehkaaGreat
namespace Gp
/-- A control packet. -/
def cf (h l : Int) : Gf.Fr := ⟨0, h, l, 0, []⟩
theorem cf_ok {h l : Int} (h0 : 0 ≤ h) (h7 : h ≤ 7) (l0 : 0 ≤ l) (l7 : l ≤ 7) : Gf.ok (cf h l) := ⟨⟨h0, h7, l0, l7⟩, .inl ⟨rfl, rfl, rfl⟩⟩
theorem ctrl_text (h l : Int) : ctrl h l = Gf.text (cf h l) := rfl
theorem texts_one (f : Gf.Fr) : Gf.text f = texts [f] := by simp [texts]
theorem texts_two (f g : Gf.Fr) : Gf.text f ++ Gf.text g = texts [f, g] := by simp [texts]
theorem or2_rng {w : Int} (h0 : 0 ≤ w) (h3 : w ≤ 3) : 0 ≤ or2 w ∧ or2 w ≤ 3 := wait2 h0 h3
theorem code_pow {z : Int} (h : Gf.code z ≠ 0) : (32 : Int) * 2 ^ ((Gf.code z : Int) - 1).toNat = z := by
  have hk := Gf.code_le z
  have hz := (Gf.code_size h).1
  unfold Gf.size at hz
  have : Gf.code z = 1 ∨ Gf.code z = 2 ∨ Gf.code z = 3 ∨ Gf.code z = 4 ∨ Gf.code z = 5 ∨ Gf.code z = 6 ∨ Gf.code z = 7 ∨ Gf.code z = 8 := by omega
  rcases this with e | e | e | e | e | e | e | e <;> rw [e] at hz ⊢ <;> rw [hz] <;> decide
/-- An end that opens: what stands of it. -/
structure Op1 (d : Dr) (letter st z r : Int) (q : List Pc) : Prop where
  lt : d.letter = letter
  ph : d.phase = 1
  st : d.step = st
  sz : d.size = z
  rm : d.room = r
  wn : d.wants = 1
  bf : d.buf = []
  qu : d.queue = q
  wt : 0 ≤ d.wait ∧ d.wait ≤ 3
/-- An end that runs: what stands of it. -/
structure Run (d : Dr) (letter z r bs wants : Int) (l : List ByteArray) (q : List Pc) : Prop where
  lt : d.letter = letter
  ph : d.phase = 2
  sz : d.size = z
  rm : d.room = r
  wi : d.win = ⟨8, r, bs, l⟩
  wn : d.wants = wants
  bf : d.buf = []
  qu : d.queue = q
  wt : 0 ≤ d.wait ∧ d.wait ≤ 3
theorem begin_op (letter : Int) (caller : Bool) (z r : Int) : Op1 (begin_ letter caller z r) letter 0 z r [] := ⟨rfl, rfl, rfl, rfl, rfl, rfl, rfl, rfl, by show (0 : Int) ≤ 0 ∧ (0 : Int) ≤ 3; omega⟩
theorem takes_a {d : Dr} {letter z r : Int} {q : List Pc} (h : Op1 d letter 0 z r q) {low : Int} (hl : 1 ≤ low) : Op1 (takes d (cf 7 low)).1 letter 1 z (min r low) q ∧ (takes d (cf 7 low)).2 = (ctrl 6 ((Gf.code z : Int) - 1), []) := by
  obtain ⟨h1, h2, h3, h4, h5, h6, h7, h8, h9⟩ := h
  unfold takes
  dsimp only
  rw [if_pos ⟨rfl, by show (5 : Int) ≤ 7; omega⟩]
  unfold begins
  rw [if_neg (by show ¬ d.phase = 2; omega), if_neg (by show ¬ (d.phase ≠ 1 ∨ d.step < 7 - 7); omega), if_neg (by show ¬ (7 - 7 < d.step); omega), if_neg (by show ¬ ((7 : Int) - 7 = 1); omega), if_neg (by show ¬ low < 1; omega)]
  dsimp only
  rw [if_neg (by omega)]
  refine ⟨⟨h1, h2, by show d.step + 1 = 1; omega, h4, by show min d.room low = _; rw [h5], h6, h7, h8, or2_rng h9.1 h9.2⟩, ?_⟩
  unfold opening
  dsimp only
  rw [h3, if_neg (by omega), if_pos (by omega), h4]
theorem takes_b {d : Dr} {letter z r : Int} {q : List Pc} (h : Op1 d letter 1 z r q) {y : Int} (hy : Gf.code y ≠ 0) : Op1 (takes d (cf 6 ((Gf.code y : Int) - 1))).1 letter 2 (min z y) r q ∧ (takes d (cf 6 ((Gf.code y : Int) - 1))).2 = (ctrl 5 r, []) := by
  obtain ⟨h1, h2, h3, h4, h5, h6, h7, h8, h9⟩ := h
  unfold takes
  dsimp only
  rw [if_pos ⟨rfl, by show (5 : Int) ≤ 6; omega⟩]
  unfold begins
  rw [if_neg (by show ¬ d.phase = 2; omega), if_neg (by show ¬ (d.phase ≠ 1 ∨ d.step < 7 - 6); omega), if_neg (by show ¬ (7 - 6 < d.step); omega), if_pos (by show ((7 : Int) - 6 = 1); omega)]
  dsimp only
  refine ⟨⟨h1, h2, by show d.step + 1 = 2; omega, by show min d.size (32 * 2 ^ ((Gf.code y : Int) - 1).toNat) = _; rw [h4, code_pow hy], h5, h6, h7, h8, or2_rng h9.1 h9.2⟩, ?_⟩
  unfold opening
  dsimp only
  rw [h3, if_neg (by omega), if_neg (by omega), h5]
theorem open_run {d : Dr} {letter z r : Int} {q : List Pc} (h1 : d.letter = letter) (h4 : d.size = z) (h5 : d.room = r) (h6 : d.wants = 1) (h7 : d.buf = []) (h8 : d.queue = q) (h9 : 0 ≤ d.wait ∧ d.wait ≤ 3) (hr : 1 ≤ r) (hr7 : r ≤ 7) : Run (open_ d) letter z r 1 1 [] q := by
  refine ⟨h1, rfl, h4, h5, ?_, h6, h7, h8, h9⟩
  show (Wn.begin_ 8 d.room 1).1 = _
  rw [h5, show Wn.begin_ 8 r 1 = (⟨8, r, 1, []⟩, 0) from if_pos ⟨by omega, by omega, hr, by omega, by omega, by omega⟩]
theorem takes_c {d : Dr} {letter z r : Int} {q : List Pc} (h : Op1 d letter 2 z r q) (hr : 1 ≤ r) (hr7 : r ≤ 7) : Run (takes d (cf 5 r)).1 letter z r 1 1 [] q ∧ (takes d (cf 5 r)).2 = ([], []) := by
  obtain ⟨h1, h2, h3, h4, h5, h6, h7, h8, h9⟩ := h
  unfold takes
  dsimp only
  rw [if_pos ⟨rfl, by show (5 : Int) ≤ 5; omega⟩]
  unfold begins
  rw [if_neg (by show ¬ d.phase = 2; omega), if_neg (by show ¬ (d.phase ≠ 1 ∨ d.step < 7 - 5); omega), if_neg (by show ¬ (7 - 5 < d.step); omega), if_neg (by show ¬ ((7 : Int) - 5 = 1); omega), if_neg (by show ¬ r < 1; omega)]
  dsimp only
  rw [if_pos (by omega)]
  exact ⟨open_run h1 h4 (by show min d.room r = r; rw [h5]; exact Int.min_self r) h6 h7 h8 (or2_rng h9.1 h9.2) hr hr7, rfl⟩
theorem fill_opening {d : Dr} (h : d.phase = 1) : fill d = (d, []) := by
  unfold fill fillN
  cases d.queue with
  | nil => rfl
  | cons p q =>
    dsimp only
    rw [if_neg (by omega)]
theorem fill_empty {d : Dr} (h : d.queue = []) : fill d = (d, []) := by
  unfold fill fillN
  rw [h]
theorem Op1.put {d : Dr} {letter st z r : Int} {q : List Pc} (h : Op1 d letter st z r q) (a : Int) (t : List (Int × Int)) : Op1 (put d [] a t) letter st z r q := ⟨h.lt, h.ph, h.st, h.sz, h.rm, h.wn, rfl, h.qu, h.wt⟩
theorem Run.put {d : Dr} {letter z r bs wants : Int} {l : List ByteArray} {q : List Pc} (h : Run d letter z r bs wants l q) (a : Int) (t : List (Int × Int)) : Run (put d [] a t) letter z r bs wants l q := ⟨h.lt, h.ph, h.sz, h.rm, h.wi, h.wn, rfl, h.qu, h.wt⟩
theorem Op1.own {d : Dr} {letter st z r : Int} {q : List Pc} (h : Op1 d letter st z r q) : Op1 (own d) letter st z r q := ⟨h.lt, h.ph, h.st, h.sz, h.rm, h.wn, h.bf, h.qu, h.wt⟩
theorem code_rng {z : Int} (h : Gf.code z ≠ 0) : 0 ≤ (Gf.code z : Int) - 1 ∧ (Gf.code z : Int) - 1 ≤ 7 := by have := Gf.code_le z; omega
/-- The first end takes INITA. -/
theorem feed_a {d : Dr} {letter z r : Int} {q : List Pc} (h : Op1 d letter 0 z r q) {low : Int} (hl : 1 ≤ low) (hl7 : low ≤ 7) : Op1 (feed d (ctrl 7 low)).1 letter 1 z (min r low) q ∧ (feed d (ctrl 7 low)).2 = (ctrl 6 ((Gf.code z : Int) - 1), []) := by
  rw [ctrl_text, texts_one]
  obtain ⟨a, t, e⟩ := feed_texts h.bf [cf 7 low] (fun f hf => by simp at hf; subst hf; exact cf_ok (by omega) (by omega) (by omega) hl7)
  obtain ⟨h1, h2⟩ := takes_a h hl
  rw [e]
  have ht : takesL d [cf 7 low] [] [] = ((takes d (cf 7 low)).1, (takes d (cf 7 low)).2.1, (takes d (cf 7 low)).2.2) := by simp [takesL]
  rw [ht, h2]
  dsimp only
  rw [fill_opening (h1.put a t).ph]
  exact ⟨h1.put a t, by simp⟩
/-- The other end takes INITA and INITB. -/
theorem feed_ab {d : Dr} {letter z r : Int} {q : List Pc} (h : Op1 d letter 0 z r q) {low y : Int} (hl : 1 ≤ low) (hl7 : low ≤ 7) (hy : Gf.code y ≠ 0) : Op1 (feed d (ctrl 7 low ++ ctrl 6 ((Gf.code y : Int) - 1))).1 letter 2 (min z y) (min r low) q ∧ (feed d (ctrl 7 low ++ ctrl 6 ((Gf.code y : Int) - 1))).2 = (ctrl 6 ((Gf.code z : Int) - 1) ++ ctrl 5 (min r low), []) := by
  rw [ctrl_text 7 low, ctrl_text 6 ((Gf.code y : Int) - 1), texts_two]
  obtain ⟨a, t, e⟩ := feed_texts h.bf [cf 7 low, cf 6 ((Gf.code y : Int) - 1)] (fun f hf => by
    simp at hf
    rcases hf with rfl | rfl
    · exact cf_ok (by omega) (by omega) (by omega) hl7
    · exact cf_ok (by omega) (by omega) (code_rng hy).1 (code_rng hy).2)
  obtain ⟨h1, h2⟩ := takes_a h hl
  obtain ⟨h3, h4⟩ := takes_b h1 hy
  rw [e]
  have ht : takesL d [cf 7 low, cf 6 ((Gf.code y : Int) - 1)] [] [] = ((takes (takes d (cf 7 low)).1 (cf 6 ((Gf.code y : Int) - 1))).1, (takes d (cf 7 low)).2.1 ++ (takes (takes d (cf 7 low)).1 (cf 6 ((Gf.code y : Int) - 1))).2.1, (takes d (cf 7 low)).2.2 ++ (takes (takes d (cf 7 low)).1 (cf 6 ((Gf.code y : Int) - 1))).2.2) := by simp [takesL]
  rw [ht, h2, h4]
  dsimp only
  rw [fill_opening (h3.put a t).ph]
  exact ⟨h3.put a t, by simp⟩
/-- The first end takes INITB and INITC: it runs, and what waits goes. -/
theorem feed_bc {d : Dr} {letter z r : Int} {q : List Pc} (h : Op1 d letter 1 z r q) {y : Int} (hy : Gf.code y ≠ 0) (hr : 1 ≤ r) (hr7 : r ≤ 7) : ∃ e, Run e letter (min z y) r 1 1 [] q ∧ feed d (ctrl 6 ((Gf.code y : Int) - 1) ++ ctrl 5 r) = ((fill e).1, ctrl 5 r ++ (fill e).2, []) := by
  rw [ctrl_text 6 ((Gf.code y : Int) - 1), ctrl_text 5 r, texts_two]
  obtain ⟨a, t, e⟩ := feed_texts h.bf [cf 6 ((Gf.code y : Int) - 1), cf 5 r] (fun f hf => by
    simp at hf
    rcases hf with rfl | rfl
    · exact cf_ok (by omega) (by omega) (code_rng hy).1 (code_rng hy).2
    · exact cf_ok (by omega) (by omega) (by omega) hr7)
  obtain ⟨h1, h2⟩ := takes_b h hy
  obtain ⟨h3, h4⟩ := takes_c h1 hr hr7
  refine ⟨_, h3.put a t, ?_⟩
  rw [e]
  have ht : takesL d [cf 6 ((Gf.code y : Int) - 1), cf 5 r] [] [] = ((takes (takes d (cf 6 ((Gf.code y : Int) - 1))).1 (cf 5 r)).1, (takes d (cf 6 ((Gf.code y : Int) - 1))).2.1 ++ (takes (takes d (cf 6 ((Gf.code y : Int) - 1))).1 (cf 5 r)).2.1, (takes d (cf 6 ((Gf.code y : Int) - 1))).2.2 ++ (takes (takes d (cf 6 ((Gf.code y : Int) - 1))).1 (cf 5 r)).2.2) := by simp [takesL]
  rw [ht, h2, h4]
  simp [ctrl_text]
end Gp
end Go.Proofs.YtfiffbohhhehkaaGreat

namespace Go.Proofs.YtfiffbohhhehkaaGreat
namespace Gp
/-- A text of the window as a packet. -/
def pf (letter z lastn n : Int) (s : ByteArray) : Gf.Fr :=
  if (s.size : Int) < z then ⟨3, n, lastn, if letter = 71 then (hv 7 z.toNat s.size : Nat) else z, s.data.toList⟩ else ⟨2, n, lastn, z, s.data.toList⟩
theorem packet_text (d : Dr) (n : Int) (s : ByteArray) : packet d n s = Gf.text (pf d.letter d.size (last d) n s) := by
  unfold packet pf
  split <;> rfl
theorem code_half {z : Nat} (h : Gf.code (z : Int) ≠ 0) (h2 : 32 < z) : Gf.code ((z / 2 : Nat) : Int) ≠ 0 := by
  have hk := Gf.code_le (z : Int)
  have hz := (Gf.code_size h).1
  have : Gf.code (z : Int) = 1 ∨ Gf.code (z : Int) = 2 ∨ Gf.code (z : Int) = 3 ∨ Gf.code (z : Int) = 4 ∨ Gf.code (z : Int) = 5 ∨ Gf.code (z : Int) = 6 ∨ Gf.code (z : Int) = 7 ∨ Gf.code (z : Int) = 8 := by omega
  have hz2 : z = Gf.size (Gf.code (z : Int)) := Int.ofNat.inj hz
  rcases this with e | e | e | e | e | e | e | e <;> rw [e] at hz2 <;> subst hz2
  · exact absurd h2 (by decide)
  all_goals decide
theorem hv_ok : ∀ (f z n : Nat), Gf.code (z : Int) ≠ 0 → n < z → Gf.code ((hv f z n : Nat) : Int) ≠ 0 ∧ n < hv f z n
  | 0, _, _, h, hn => ⟨h, hn⟩
  | f + 1, z, n, h, hn => by
    unfold hv
    split
    · rename_i hc
      exact hv_ok f (z / 2) n (code_half h hc.1) hc.2
    · exact ⟨h, hn⟩
theorem bytes_len (s : ByteArray) : s.data.toList.length = s.size := rfl
theorem pf_ok {letter z lastn n : Int} {s : ByteArray} (hz : Gf.code z ≠ 0) (hl : 0 ≤ lastn ∧ lastn ≤ 7) (hn : 0 ≤ n ∧ n ≤ 7) (hs : (s.size : Int) ≤ z) : Gf.ok (pf letter z lastn n s) := by
  have hzz := size_pos hz
  unfold pf
  split
  · rename_i hc
    refine ⟨⟨hn.1, hn.2, hl.1, hl.2⟩, .inr (.inr ⟨rfl, ?_⟩)⟩
    dsimp only
    rw [bytes_len]
    split
    · have h := hv_ok 7 z.toNat s.size (by rw [show ((z.toNat : Nat) : Int) = z by omega]; exact hz) (by omega)
      exact ⟨h.1, by omega⟩
    · exact ⟨hz, hc⟩
  · refine ⟨⟨hn.1, hn.2, hl.1, hl.2⟩, .inr (.inl ⟨rfl, hz, ?_⟩)⟩
    show (s.data.toList.length : Int) = z
    rw [bytes_len]
    omega
theorem pf_parts (letter z lastn n : Int) (s : ByteArray) : (pf letter z lastn n s).ty ≠ 0 ∧ (pf letter z lastn n s).hi = n ∧ (pf letter z lastn n s).lo = lastn ∧ (pf letter z lastn n s).data = s.data.toList := by
  unfold pf
  split
  · exact ⟨by show (3 : Int) ≠ 0; omega, rfl, rfl, rfl⟩
  · exact ⟨by show (2 : Int) ≠ 0; omega, rfl, rfl, rfl⟩
/-- The texts that go next, n at most, and what is left. -/
def fillL : Nat → Nat → List Pc → List ByteArray × List Pc
  | 0, _, q => ([], q)
  | _ + 1, _, [] => ([], [])
  | n + 1, z, p :: r => (p.data.extract 0 (min p.data.size z) :: (fillL n z (cutQ (p :: r) (min p.data.size z))).1, (fillL n z (cutQ (p :: r) (min p.data.size z))).2)
/-- Their packets, from place i of the window on. -/
def frames (letter z lastn bs : Int) : Nat → List ByteArray → List Gf.Fr
  | _, [] => []
  | i, s :: r => pf letter z lastn ((bs + i) % 8) s :: frames letter z lastn bs (i + 1) r
theorem fillN_stop {f : Nat} {d : Dr} {out : List UInt8} (h : d.queue = [] ∨ ¬ (d.win.l.length : Int) < d.win.sz) : fillN (f + 1) d out = (d, out) := by
  unfold fillN
  cases hq : d.queue with
  | nil => rfl
  | cons p x =>
    dsimp only
    rcases h with h | h
    · rw [h] at hq; cases hq
    · rw [if_neg (fun e => h e.2)]
theorem fillN_go {f : Nat} {d : Dr} {out : List UInt8} {p : Pc} {q : List Pc} (hq : d.queue = p :: q) (h2 : d.phase = 2) (hl : (d.win.l.length : Int) < d.win.sz) : fillN (f + 1) d out = fillN f (fill1 d p).1 (out ++ (fill1 d p).2) := by
  conv => lhs; unfold fillN
  rw [hq]
  dsimp only
  rw [if_pos ⟨h2, hl⟩]
theorem fill1_run {d : Dr} {letter z r bs wants : Int} {l : List ByteArray} {p : Pc} {q : List Pc} (h : Run d letter z r bs wants l (p :: q)) (hl : (l.length : Int) < r) (h1 : 1 ≤ r) (h7 : r ≤ 7) (hb : 0 ≤ bs) (hb8 : bs < 8) :
    Run (fill1 d p).1 letter z r bs wants (l ++ [p.data.extract 0 (min p.data.size z.toNat)]) (cutQ (p :: q) (min p.data.size z.toNat)) ∧ (fill1 d p).2 = Gf.text (pf letter z ((wants + 7) % 8) ((bs + (l.length : Int)) % 8) (p.data.extract 0 (min p.data.size z.toNat))) := by
  have hw := h.wi
  have hrt : Wn.rt d.win = true := by
    rw [hw]
    exact Wn.rt_of ⟨by dsimp only; omega, by dsimp only; omega, by dsimp only; omega, by dsimp only; omega, by dsimp only; omega, by dsimp only; omega, by dsimp only; omega⟩
  have hput : ∀ s, Wn.put d.win s = (⟨8, r, bs, l ++ [s]⟩, (bs + (l.length : Int)) % 8, 0) := fun s => by
    rw [Wn.put_ok hrt (by rw [hw]; dsimp only; omega), hw]
    rfl
  unfold fill1
  dsimp only
  rw [packet_text, h.sz, hput, h.qu]
  refine ⟨⟨h.lt, h.ph, rfl, h.rm, rfl, h.wn, h.bf, rfl, h.wt⟩, ?_⟩
  show Gf.text (pf d.letter z ((d.wants + 7) % 8) _ _) = _
  rw [h.lt, h.wn]
theorem fillN_run (letter z r bs wants : Int) (h1 : 1 ≤ r) (h7 : r ≤ 7) (hb : 0 ≤ bs) (hb8 : bs < 8) : ∀ (n f : Nat) (d : Dr) (out : List UInt8) (l : List ByteArray) (q : List Pc), Run d letter z r bs wants l q → (l.length : Int) + n = r → n < f →
    Run (fillN f d out).1 letter z r bs wants (l ++ (fillL n z.toNat q).1) (fillL n z.toNat q).2 ∧ (fillN f d out).2 = out ++ texts (frames letter z ((wants + 7) % 8) bs l.length (fillL n z.toNat q).1) := by
  intro n
  induction n with
  | zero =>
    intro f d out l q h hn hf
    obtain ⟨f, rfl⟩ : ∃ g, f = g + 1 := ⟨f - 1, by omega⟩
    rw [fillN_stop (.inr (by rw [h.wi]; dsimp only; omega))]
    show Run d letter z r bs wants (l ++ []) q ∧ out = out ++ texts []
    exact ⟨by rw [List.append_nil]; exact h, by simp [texts]⟩
  | succ n ih =>
    intro f d out l q h hn hf
    obtain ⟨f, rfl⟩ : ∃ g, f = g + 1 := ⟨f - 1, by omega⟩
    cases q with
    | nil =>
      rw [fillN_stop (.inl h.qu)]
      show Run d letter z r bs wants (l ++ []) [] ∧ out = out ++ texts []
      exact ⟨by rw [List.append_nil]; exact h, by simp [texts]⟩
    | cons p q =>
      obtain ⟨hR, hO⟩ := fill1_run h (by omega) h1 h7 hb hb8
      rw [fillN_go h.qu h.ph (by rw [h.wi]; dsimp only; omega)]
      obtain ⟨r1, r2⟩ := ih f (fill1 d p).1 (out ++ (fill1 d p).2) _ _ hR (by rw [List.length_append, List.length_singleton]; omega) (by omega)
      refine ⟨?_, ?_⟩
      · rw [List.append_assoc] at r1
        exact r1
      · rw [r2, hO, List.append_assoc, List.length_append, List.length_singleton]
        show _ = out ++ texts (pf letter z ((wants + 7) % 8) ((bs + (l.length : Int)) % 8) (p.data.extract 0 (min p.data.size z.toNat)) :: frames letter z ((wants + 7) % 8) bs (l.length + 1) (fillL n z.toNat (cutQ (p :: q) (min p.data.size z.toNat))).1)
        rw [texts_cons]
theorem fill_run {d : Dr} {letter z r bs wants : Int} {l : List ByteArray} {q : List Pc} (h : Run d letter z r bs wants l q) (n : Nat) (hn : (l.length : Int) + n = r) (h1 : 1 ≤ r) (h7 : r ≤ 7) (hb : 0 ≤ bs) (hb8 : bs < 8) :
    Run (fill d).1 letter z r bs wants (l ++ (fillL n z.toNat q).1) (fillL n z.toNat q).2 ∧ (fill d).2 = texts (frames letter z ((wants + 7) % 8) bs l.length (fillL n z.toNat q).1) := by
  obtain ⟨r1, r2⟩ := fillN_run letter z r bs wants h1 h7 hb hb8 n 8 d [] l q h hn (by omega)
  exact ⟨r1, by unfold fill; rw [r2, List.nil_append]⟩
/-- A packet that is none of the opening's comes to an end that runs. -/
theorem takes2_run {d : Dr} (h : d.phase = 2) (f : Gf.Fr) : takes2 d f =
    if f.ty = 0 then (if f.hi ≠ 2 ∨ (acked d f.lo).wait % 2 = 1 then (acked d f.lo, [], []) else ({ acked d f.lo with wait := or1 (acked d f.lo).wait }, all { acked d f.lo with wait := or1 (acked d f.lo).wait }, []))
    else if Wn.ahead (acked d f.lo).wants f.hi 8 = 0 then ({ acked d f.lo with wants := ((acked d f.lo).wants + 1) % 8 }, ready { acked d f.lo with wants := ((acked d f.lo).wants + 1) % 8 }, f.data)
    else if Wn.ahead (acked d f.lo).wants f.hi 8 < (acked d f.lo).room then (acked d f.lo, ctrl 2 (last (acked d f.lo)), []) else (acked d f.lo, ready (acked d f.lo), []) := by
  have hc : ¬ (d.phase = 1 ∧ d.step = 2) := by omega
  have h3 : ¬ d.phase = 3 := by omega
  have h2 : ¬ d.phase ≠ 2 := by omega
  unfold takes2
  simp only [if_neg hc, if_neg h3, if_neg h2]
/-- A packet that is awaited comes. -/
theorem takes_data {d : Dr} {letter z r bs wants : Int} {q : List Pc} (h : Run d letter z r bs wants [] q) (hw : 0 ≤ wants) (hw8 : wants < 8) (lt z2 lo : Int) (s : ByteArray) :
    Run (takes d (pf lt z2 lo wants s)).1 letter z r bs ((wants + 1) % 8) [] q ∧ (takes d (pf lt z2 lo wants s)).2 = (Gf.text (cf 4 wants), s.data.toList) := by
  obtain ⟨p1, p2, p3, p4⟩ := pf_parts lt z2 lo wants s
  have hack : Wn.ack d.win lo = (d.win, 0) := by
    unfold Wn.ack
    have : Wn.place d.win lo = none := by
      cases hp : Wn.place d.win lo with
      | none => rfl
      | some K =>
        have := (Wn.place_some hp).2.1
        rw [h.wi] at this
        exact absurd this (Nat.not_lt_zero _)
    rw [this]
  unfold takes
  dsimp only
  rw [if_neg (fun e => p1 e.1), if_neg (fun e => p1 e.1)]
  rw [takes2_run (by exact h.ph), if_neg p1]
  unfold acked
  dsimp only
  rw [p2, p3, p4, hack, h.wn]
  have ha : Wn.ahead wants wants 8 = 0 := by
    unfold Wn.ahead
    rw [if_pos ⟨by omega, by omega, hw, hw8, hw, hw8⟩, if_pos (Int.le_refl _)]
    omega
  rw [ha, if_pos rfl]
  dsimp only
  refine ⟨⟨h.lt, h.ph, h.sz, h.rm, h.wi, rfl, h.bf, h.qu, or2_rng h.wt.1 h.wt.2⟩, ?_⟩
  unfold ready last
  dsimp only
  rw [ctrl_text, show ((wants + 1) % 8 + 7) % 8 = wants by omega]
/-- What B says of packets that come in order. -/
def readies (bs : Int) : Nat → Nat → List Gf.Fr
  | _, 0 => []
  | i, n + 1 => cf 4 ((bs + i) % 8) :: readies bs (i + 1) n
theorem readies_succ (bs : Int) (i n : Nat) : readies bs i (n + 1) = cf 4 ((bs + i) % 8) :: readies bs (i + 1) n := rfl
def bytes (l : List ByteArray) : List UInt8 := l.flatMap (·.data.toList)
theorem takesL_data : ∀ (l : List ByteArray) (i : Nat) (d : Dr) (out came : List UInt8) (letter z r bB wants : Int) (q : List Pc) (lt z2 lo bs : Int), Run d letter z r bB wants [] q → wants = (bs + i) % 8 →
    Run (takesL d (frames lt z2 lo bs i l) out came).1 letter z r bB ((bs + i + l.length) % 8) [] q ∧ (takesL d (frames lt z2 lo bs i l) out came).2 = (out ++ texts (readies bs i l.length), came ++ bytes l)
  | [], i, d, out, came, letter, z, r, bB, wants, q, lt, z2, lo, bs, h, hw => by
    refine ⟨?_, ?_⟩
    · show Run d letter z r bB ((bs + i + ((0 : Nat) : Int)) % 8) [] q
      rw [show bs + (i : Int) + ((0 : Nat) : Int) = bs + i by omega, ← hw]
      exact h
    · show (out, came) = (out ++ texts [], came ++ bytes [])
      simp [texts, bytes]
  | s :: l, i, d, out, came, letter, z, r, bB, wants, q, lt, z2, lo, bs, h, hw => by
    have hw0 : 0 ≤ wants ∧ wants < 8 := by rw [hw]; omega
    obtain ⟨t1, t2⟩ := takes_data h hw0.1 hw0.2 lt z2 lo s
    unfold frames
    rw [← hw]
    show Run (takesL (takes d (pf lt z2 lo wants s)).1 (frames lt z2 lo bs (i + 1) l) (out ++ (takes d (pf lt z2 lo wants s)).2.1) (came ++ (takes d (pf lt z2 lo wants s)).2.2)).1 _ _ _ _ _ _ _ ∧ (takesL (takes d (pf lt z2 lo wants s)).1 (frames lt z2 lo bs (i + 1) l) (out ++ (takes d (pf lt z2 lo wants s)).2.1) (came ++ (takes d (pf lt z2 lo wants s)).2.2)).2 = _
    rw [t2]
    obtain ⟨r1, r2⟩ := takesL_data l (i + 1) (takes d (pf lt z2 lo wants s)).1 (out ++ Gf.text (cf 4 wants)) (came ++ s.data.toList) letter z r bB ((wants + 1) % 8) q lt z2 lo bs t1 (by rw [hw]; omega)
    refine ⟨?_, ?_⟩
    · rw [show bs + (i : Int) + ((s :: l).length : Int) = bs + ((i + 1 : Nat) : Int) + (l.length : Int) by rw [List.length_cons]; omega]
      exact r1
    · dsimp only
      rw [r2, List.length_cons, readies_succ, texts_cons, ← hw]
      simp [bytes]
/-- What is under way is acknowledged. -/
theorem takes_ready {d : Dr} {letter z r bs wants : Int} {s : ByteArray} {l : List ByteArray} {q : List Pc} (h : Run d letter z r bs wants (s :: l) q) (h1 : 1 ≤ r) (h7 : r ≤ 7) (hb : 0 ≤ bs) (hb8 : bs < 8) (hl : ((s :: l).length : Int) ≤ r) :
    Run (takes d (cf 4 bs)).1 letter z r ((bs + 1) % 8) wants l q ∧ (takes d (cf 4 bs)).2 = ([], []) := by
  have hrt : Wn.rt d.win = true := by
    rw [h.wi]
    exact Wn.rt_of ⟨by dsimp only; omega, by dsimp only; omega, by dsimp only; omega, by dsimp only; omega, by dsimp only; omega, by dsimp only; omega, by dsimp only; omega⟩
  have hpl : Wn.place d.win bs = some 0 := by
    have := Wn.place_num hrt (i := 0) (by rw [h.wi]; simp)
    rw [show Wn.num d.win 0 = bs by unfold Wn.num; rw [h.wi]; dsimp only; omega] at this
    exact this
  have hack : Wn.ack d.win bs = (⟨8, r, (bs + 1) % 8, l⟩, 1) := by
    unfold Wn.ack
    rw [hpl]
    dsimp only
    rw [h.wi]
    rfl
  unfold takes
  dsimp only
  rw [if_neg (by show ¬ ((0 : Int) = 0 ∧ (5 : Int) ≤ 4); omega), if_neg (by show ¬ ((0 : Int) = 0 ∧ (4 : Int) = 1); omega)]
  rw [takes2_run (by exact h.ph), if_pos (show (cf 4 bs).ty = 0 from rfl), if_pos (.inl (by show (4 : Int) ≠ 2; omega))]
  unfold acked
  dsimp only
  rw [show (cf 4 bs).lo = bs from rfl, hack]
  exact ⟨⟨h.lt, h.ph, h.sz, h.rm, rfl, h.wn, h.bf, h.qu, or2_rng h.wt.1 h.wt.2⟩, rfl⟩
theorem takesL_ready : ∀ (l : List ByteArray) (i : Nat) (d : Dr) (out came : List UInt8) (letter z r b wants bs : Int) (q : List Pc), Run d letter z r b wants l q → 1 ≤ r → r ≤ 7 → b = (bs + i) % 8 → (l.length : Int) ≤ r →
    Run (takesL d (readies bs i l.length) out came).1 letter z r ((bs + i + l.length) % 8) wants [] q ∧ (takesL d (readies bs i l.length) out came).2 = (out, came)
  | [], i, d, out, came, letter, z, r, b, wants, bs, q, h, _, _, hb, _ => by
    refine ⟨?_, rfl⟩
    show Run d letter z r ((bs + i + ((0 : Nat) : Int)) % 8) wants [] q
    rw [show bs + (i : Int) + ((0 : Nat) : Int) = bs + i by omega, ← hb]
    exact h
  | s :: l, i, d, out, came, letter, z, r, b, wants, bs, q, h, h1, h7, hb, hl => by
    obtain ⟨t1, t2⟩ := takes_ready h h1 h7 (by omega) (by omega) hl
    rw [List.length_cons, readies_succ, ← hb]
    show Run (takesL (takes d (cf 4 b)).1 (readies bs (i + 1) l.length) (out ++ (takes d (cf 4 b)).2.1) (came ++ (takes d (cf 4 b)).2.2)).1 _ _ _ _ _ _ _ ∧ (takesL (takes d (cf 4 b)).1 (readies bs (i + 1) l.length) (out ++ (takes d (cf 4 b)).2.1) (came ++ (takes d (cf 4 b)).2.2)).2 = _
    rw [t2]
    obtain ⟨r1, r2⟩ := takesL_ready l (i + 1) (takes d (cf 4 b)).1 (out ++ []) (came ++ []) letter z r ((b + 1) % 8) wants bs q t1 h1 h7 (by rw [hb]; omega) (by rw [List.length_cons] at hl; omega)
    refine ⟨?_, ?_⟩
    · rw [show bs + (i : Int) + ((l.length + 1 : Nat) : Int) = bs + ((i + 1 : Nat) : Int) + (l.length : Int) by omega]
      exact r1
    · rw [r2]
      simp
end Gp
end Go.Proofs.YtfiffbohhhehkaaGreat

namespace Go.Proofs.YtfiffbohhhehkaaGreat
namespace Gp
theorem readies_ok (bs : Int) : ∀ (n i : Nat), ∀ f ∈ readies bs i n, Gf.ok f
  | 0, _, f, h => by simp [readies] at h
  | n + 1, i, f, h => by
    rw [readies_succ] at h
    rcases List.mem_cons.1 h with rfl | h
    · exact cf_ok (by omega) (by omega) (by omega) (by omega)
    · exact readies_ok bs n (i + 1) f h
theorem frames_ok {letter z lastn : Int} (bs : Int) (hz : Gf.code z ≠ 0) (hl : 0 ≤ lastn ∧ lastn ≤ 7) : ∀ (l : List ByteArray) (i : Nat), (∀ s ∈ l, (s.size : Int) ≤ z) → ∀ f ∈ frames letter z lastn bs i l, Gf.ok f
  | [], _, _, f, h => by simp [frames] at h
  | s :: l, i, hs, f, h => by
    unfold frames at h
    rcases List.mem_cons.1 h with rfl | h
    · exact pf_ok hz hl (by omega) (hs s (by simp))
    · exact frames_ok bs hz hl l (i + 1) (fun x hx => hs x (by simp [hx])) f h
theorem fillL_size : ∀ (n z : Nat) (q : List Pc), ∀ s ∈ (fillL n z q).1, s.size ≤ z
  | 0, _, _, s, h => by simp [fillL] at h
  | _ + 1, _, [], s, h => by simp [fillL] at h
  | n + 1, z, p :: r, s, h => by
    unfold fillL at h
    rcases List.mem_cons.1 h with rfl | h
    · rw [ex_size _ _ (Nat.min_le_left _ _)]
      exact Nat.min_le_right _ _
    · exact fillL_size n z _ s h
theorem fillL_len : ∀ (n z : Nat) (q : List Pc), (fillL n z q).1.length ≤ n
  | 0, _, _ => Nat.le_refl _
  | _ + 1, _, [] => Nat.zero_le _
  | n + 1, z, p :: r => by
    unfold fillL
    rw [List.length_cons]
    have := fillL_len n z (cutQ (p :: r) (min p.data.size z))
    omega
/-- The bytes that wait. -/
def qbytes (q : List Pc) : List UInt8 := q.flatMap (·.data.data.toList)
theorem ex_bytes (s : ByteArray) (i j : Nat) : (s.extract i j).data.toList = (s.data.toList.drop i).take (j - i) := by
  rw [ByteArray.data_extract]
  simp [List.take_drop]
theorem cut_bytes (p : Pc) (r : List Pc) (z : Nat) : (p.data.extract 0 (min p.data.size z)).data.toList ++ qbytes (cutQ (p :: r) (min p.data.size z)) = qbytes (p :: r) := by
  have hl : p.data.data.toList.length = p.data.size := rfl
  rw [ex_bytes, List.drop_zero, Nat.sub_zero]
  unfold cutQ
  dsimp only
  split
  · rename_i e
    rw [e, ← hl, List.take_length]
    simp [qbytes]
  · rw [show qbytes (⟨p.ch, p.data.extract (min p.data.size z) p.data.size⟩ :: r) = (p.data.extract (min p.data.size z) p.data.size).data.toList ++ qbytes r by simp [qbytes], ex_bytes, ← List.append_assoc]
    rw [List.take_of_length_le (l := p.data.data.toList.drop (min p.data.size z)) (by rw [List.length_drop, hl]; exact Nat.le_refl _), List.take_append_drop]
    simp [qbytes]
theorem fillL_bytes : ∀ (n z : Nat) (q : List Pc), bytes (fillL n z q).1 ++ qbytes (fillL n z q).2 = qbytes q
  | 0, _, _ => by simp [fillL, bytes]
  | _ + 1, _, [] => by simp [fillL, bytes]
  | n + 1, z, p :: r => by
    have ih := fillL_bytes n z (cutQ (p :: r) (min p.data.size z))
    unfold fillL
    dsimp only
    rw [show bytes (p.data.extract 0 (min p.data.size z) :: (fillL n z (cutQ (p :: r) (min p.data.size z))).1) = (p.data.extract 0 (min p.data.size z)).data.toList ++ bytes (fillL n z (cutQ (p :: r) (min p.data.size z))).1 by simp [bytes], List.append_assoc, ih, cut_bytes]
/-- Two ends that run; the first one's texts have come to the other one, and its answers are under way. -/
structure St (a b : Dr) (w0 : List UInt8) (letter z r wa bB bs : Int) (l : List ByteArray) (q : List Pc) : Prop where
  ra : Run a letter z r bs wa l q
  rb : Run b letter z r bB ((bs + l.length) % 8) [] []
  ws : w0 = texts (readies bs 0 l.length)
  hz : Gf.code z ≠ 0
  r1 : 1 ≤ r
  r7 : r ≤ 7
  hb : 0 ≤ bs ∧ bs < 8
  hw : 0 ≤ wa ∧ wa < 8
  len : (l.length : Int) ≤ r
theorem Run.fed {d : Dr} {letter z r bs wants : Int} {l : List ByteArray} (h : Run d letter z r bs wants l []) (a : Int) (t : List (Int × Int)) : fill (Gp.put d [] a t) = (Gp.put d [] a t, []) := fill_empty (h.put a t).qu
/-- A round: the first end is fed, then the other one. -/
theorem round_ok {a b : Dr} {w0 : List UInt8} {letter z r wa bB bs : Int} {l : List ByteArray} {q : List Pc} (h : St a b w0 letter z r wa bB bs l q) :
    St (feed a w0).1 (feed b (feed a w0).2.1).1 (feed b (feed a w0).2.1).2.1 letter z r wa bB ((bs + l.length) % 8) (fillL r.toNat z.toNat q).1 (fillL r.toNat z.toNat q).2 ∧
    (feed a w0).2.2 = [] ∧ (feed b (feed a w0).2.1).2.2 = bytes (fillL r.toNat z.toNat q).1 ∧ (feed a w0).2.1 = texts (frames letter z ((wa + 7) % 8) ((bs + l.length) % 8) 0 (fillL r.toNat z.toNat q).1) := by
  obtain ⟨ra, rb, ws, hz, r1, r7, hb, hw, hlen⟩ := h
  have hbs' : 0 ≤ (bs + (l.length : Int)) % 8 ∧ (bs + (l.length : Int)) % 8 < 8 := by omega
  obtain ⟨x, t, e⟩ := feed_texts ra.bf (readies bs 0 l.length) (readies_ok bs _ _)
  rw [← ws] at e
  obtain ⟨k1, k2⟩ := takesL_ready l 0 a [] [] letter z r bs wa bs q ra r1 r7 (by omega) hlen
  rw [show bs + ((0 : Nat) : Int) + (l.length : Int) = bs + l.length by omega] at k1
  obtain ⟨f1, f2⟩ := fill_run (k1.put x t) r.toNat (by show ((0 : Nat) : Int) + (r.toNat : Int) = r; omega) r1 r7 hbs'.1 hbs'.2
  have ea : feed a w0 = ((fill (Gp.put (takesL a (readies bs 0 l.length) [] []).1 [] x t)).1, texts (frames letter z ((wa + 7) % 8) ((bs + l.length) % 8) 0 (fillL r.toNat z.toNat q).1), []) := by
    rw [e, k2, f2]
    simp
  rw [List.nil_append] at f1
  obtain ⟨y, u, e2⟩ := feed_texts rb.bf (frames letter z ((wa + 7) % 8) ((bs + l.length) % 8) 0 (fillL r.toNat z.toNat q).1) (frames_ok _ hz (by omega) _ 0 (fun s hs => by have := fillL_size _ _ _ s hs; have := size_pos hz; omega))
  obtain ⟨m1, m2⟩ := takesL_data (fillL r.toNat z.toNat q).1 0 b [] [] letter z r bB ((bs + l.length) % 8) [] letter z ((wa + 7) % 8) ((bs + l.length) % 8) rb (by omega)
  have eb : feed b (texts (frames letter z ((wa + 7) % 8) ((bs + l.length) % 8) 0 (fillL r.toNat z.toNat q).1)) = (Gp.put (takesL b (frames letter z ((wa + 7) % 8) ((bs + l.length) % 8) 0 (fillL r.toNat z.toNat q).1) [] []).1 [] y u, texts (readies ((bs + l.length) % 8) 0 (fillL r.toNat z.toNat q).1.length), bytes (fillL r.toNat z.toNat q).1) := by
    rw [e2, m2, m1.fed]
    simp
  rw [ea]
  dsimp only
  rw [eb]
  refine ⟨⟨f1, ?_, rfl, hz, r1, r7, hbs', hw, ?_⟩, rfl, rfl, rfl⟩
  · have := m1.put y u
    rw [show (bs + (l.length : Int)) % 8 + ((0 : Nat) : Int) + ((fillL r.toNat z.toNat q).1.length : Int) = (bs + (l.length : Int)) % 8 + ((fillL r.toNat z.toNat q).1.length : Int) by omega] at this
    exact this
  · have := fillL_len r.toNat z.toNat q
    omega
/-- One piece at most waits. -/
def single (q : List Pc) : Prop := q = [] ∨ ∃ p, q = [p]
theorem single_cut {p : Pc} {k : Nat} : single (cutQ [p] k) := by
  unfold cutQ
  dsimp only
  split
  · exact .inl rfl
  · exact .inr ⟨_, rfl⟩
theorem fillL_single : ∀ (n z : Nat) (q : List Pc), single q → single (fillL n z q).2
  | 0, _, _, h => h
  | _ + 1, _, [], _ => .inl rfl
  | n + 1, z, p :: r, h => by
    rcases h with h | ⟨p', h⟩
    · cases h
    · cases h
      exact fillL_single n z (cutQ [p] (min p.data.size z)) single_cut
/-- Each round takes 32 bytes at least off what waits, or all. -/
theorem fillL_less {n z : Nat} (hn : 1 ≤ n) (hz : 32 ≤ z) {q : List Pc} (h : single q) : (qbytes (fillL n z q).2).length ≤ (qbytes q).length - 32 := by
  obtain ⟨n, rfl⟩ : ∃ m, n = m + 1 := ⟨n - 1, by omega⟩
  rcases h with rfl | ⟨p, rfl⟩
  · simp [fillL, qbytes]
  · have hb := fillL_bytes (n + 1) z [p]
    have hl := congrArg List.length hb
    rw [List.length_append] at hl
    have h1 : min p.data.size z ≤ (bytes (fillL (n + 1) z [p]).1).length := by
      unfold fillL
      dsimp only
      rw [show bytes (p.data.extract 0 (min p.data.size z) :: (fillL n z (cutQ [p] (min p.data.size z))).1) = (p.data.extract 0 (min p.data.size z)).data.toList ++ bytes (fillL n z (cutQ [p] (min p.data.size z))).1 by simp [bytes], List.length_append, bytes_len, ex_size _ _ (Nat.min_le_left _ _)]
      omega
    have h2 : (qbytes [p]).length = p.data.size := by simp [qbytes]
    omega
theorem nonempty_pieces : ∀ (n z : Nat) (q : List Pc), 1 ≤ z → (∀ p ∈ q, p.data.size ≠ 0) → ∀ p ∈ (fillL n z q).2, p.data.size ≠ 0
  | 0, _, _, _, h => h
  | _ + 1, _, [], _, _ => fun p hp => by simp [fillL] at hp
  | n + 1, z, p :: r, hz, h => by
    refine nonempty_pieces n z (cutQ (p :: r) (min p.data.size z)) hz (fun x hx => ?_)
    unfold cutQ at hx
    dsimp only at hx
    split at hx
    · exact h x (by simp [hx])
    · rename_i hne
      rcases List.mem_cons.1 hx with rfl | hx
      · show (p.data.extract (min p.data.size z) p.data.size).size ≠ 0
        simp
        omega
      · exact h x (by simp [hx])
theorem qbytes_nil {q : List Pc} (h : ∀ p ∈ q, p.data.size ≠ 0) (hl : (qbytes q).length = 0) : q = [] := by
  cases q with
  | nil => rfl
  | cons p r =>
    have h1 := h p (by simp)
    have : (qbytes (p :: r)).length = p.data.size + (qbytes r).length := by simp [qbytes]
    omega
/-- The other end takes a close. -/
theorem feed_close {b : Dr} {letter z r bB wants : Int} {q : List Pc} (h : Run b letter z r bB wants [] q) : (feed b (ctrl 1 0)).1.phase = 4 ∧ (feed b (ctrl 1 0)).1.step = 1 ∧ (feed b (ctrl 1 0)).1.buf = [] ∧ (feed b (ctrl 1 0)).2 = (ctrl 1 0, []) := by
  rw [ctrl_text, texts_one]
  obtain ⟨a, t, e⟩ := feed_texts h.bf [cf 1 0] (fun f hf => by simp at hf; subst hf; exact cf_ok (by omega) (by omega) (by omega) (by omega))
  have ht : takes b (cf 1 0) = ({ b with wait := or2 b.wait, phase := 4, step := 1 }, ctrl 1 0, []) := by
    unfold takes
    dsimp only
    rw [if_neg (by show ¬ ((0 : Int) = 0 ∧ (5 : Int) ≤ 1); omega), if_pos ⟨rfl, rfl⟩]
    unfold closes
    dsimp only
    rw [if_neg (by rw [h.ph]; omega), if_neg (by rw [h.ph]; omega), if_neg (by rw [h.ph]; omega)]
  have hL : takesL b [cf 1 0] [] [] = ({ b with wait := or2 b.wait, phase := 4, step := 1 }, ctrl 1 0, []) := by
    simp [takesL, ht]
  rw [hL] at e
  have hf : fill (Gp.put { b with wait := or2 b.wait, phase := 4, step := 1 } [] a t) = (Gp.put { b with wait := or2 b.wait, phase := 4, step := 1 } [] a t, []) := by
    unfold fill fillN
    cases (Gp.put { b with wait := or2 b.wait, phase := 4, step := 1 } [] a t).queue with
    | nil => rfl
    | cons p x =>
      dsimp only
      rw [if_neg (fun e => absurd e.1 (by show ¬ (4 : Int) = 2; omega))]
  rw [e]
  dsimp only
  rw [hf]
  exact ⟨rfl, rfl, rfl, by rw [List.append_nil]; rfl⟩
/-- The first end takes the answer. -/
theorem feed_closed {a : Dr} (hp : a.phase = 3) (hb : a.buf = []) : (feed a (ctrl 1 0)).1.phase = 4 ∧ (feed a (ctrl 1 0)).1.step = 0 ∧ (feed a (ctrl 1 0)).1.buf = [] ∧ (feed a (ctrl 1 0)).2 = ([], []) := by
  rw [ctrl_text, texts_one]
  obtain ⟨x, t, e⟩ := feed_texts hb [cf 1 0] (fun f hf => by simp at hf; subst hf; exact cf_ok (by omega) (by omega) (by omega) (by omega))
  have ht : takes a (cf 1 0) = ({ a with wait := or2 a.wait, phase := 4, step := 0 }, [], []) := by
    unfold takes
    dsimp only
    rw [if_neg (by show ¬ ((0 : Int) = 0 ∧ (5 : Int) ≤ 1); omega), if_pos ⟨rfl, rfl⟩]
    unfold closes
    dsimp only
    rw [if_pos hp]
  have hL : takesL a [cf 1 0] [] [] = ({ a with wait := or2 a.wait, phase := 4, step := 0 }, [], []) := by
    simp [takesL, ht]
  rw [hL] at e
  have hf : fill (Gp.put { a with wait := or2 a.wait, phase := 4, step := 0 } [] x t) = (Gp.put { a with wait := or2 a.wait, phase := 4, step := 0 } [] x t, []) := by
    unfold fill fillN
    cases (Gp.put { a with wait := or2 a.wait, phase := 4, step := 0 } [] x t).queue with
    | nil => rfl
    | cons p y =>
      dsimp only
      rw [if_neg (fun e => absurd e.1 (by show ¬ (4 : Int) = 2; omega))]
  rw [e]
  dsimp only
  rw [hf]
  exact ⟨rfl, rfl, rfl, rfl⟩
/-- Nothing comes to an end that does not run. -/
theorem feed_nothing {a : Dr} (hp : a.phase ≠ 2 ∨ a.queue = []) (hb : a.buf = []) : (feed a []).1.phase = a.phase ∧ (feed a []).1.step = a.step ∧ (feed a []).1.buf = [] ∧ (feed a []).1.queue = a.queue ∧ (feed a []).1.win = a.win ∧ (feed a []).2 = ([], []) := by
  obtain ⟨x, t, e⟩ := feed_texts hb [] (fun f hf => by simp at hf)
  have hf : fill (Gp.put a [] x t) = (Gp.put a [] x t, []) := by
    unfold fill fillN
    cases hq : (Gp.put a [] x t).queue with
    | nil => rfl
    | cons p y =>
      dsimp only
      rw [if_neg]
      intro c
      rcases hp with h | h
      · exact h c.1
      · have : a.queue = p :: y := hq
        rw [h] at this
        cases this
  rw [show texts [] = [] from rfl] at e
  rw [e]
  show (fill (Gp.put a [] x t)).1.phase = _ ∧ _
  simp only [takesL]
  rw [hf]
  exact ⟨rfl, rfl, rfl, rfl, rfl, rfl⟩
end Gp
end Go.Proofs.YtfiffbohhhehkaaGreat

namespace Go.Proofs.YtfiffbohhhehkaaGreat
namespace Gp
/-- Two ends, what is under way to each, what has come to each. -/
structure Pr where
  a : Dr
  b : Dr
  w0 : List UInt8
  w1 : List UInt8
  c0 : List UInt8
  c1 : List UInt8
/-- A round: all that is under way comes, to the first end and then to the other one. -/
def rnd (p : Pr) : Pr := ⟨(feed p.a p.w0).1, (feed p.b (p.w1 ++ (feed p.a p.w0).2.1)).1, (feed p.b (p.w1 ++ (feed p.a p.w0).2.1)).2.1, [], p.c0 ++ (feed p.a p.w0).2.2, p.c1 ++ (feed p.b (p.w1 ++ (feed p.a p.w0).2.1)).2.2⟩
def rnds : Nat → Pr → Pr
  | 0, p => p
  | n + 1, p => rnds n (rnd p)
/-- The other end takes INITC, and what stands behind it. -/
theorem feed_c_data {b : Dr} {letter z r : Int} (h : Op1 b letter 2 z r []) (r1 : 1 ≤ r) (r7 : r ≤ 7) (hz : Gf.code z ≠ 0) {lo : Int} (hlo : 0 ≤ lo ∧ lo ≤ 7) (l : List ByteArray) (hl : ∀ s ∈ l, (s.size : Int) ≤ z) :
    Run (feed b (ctrl 5 r ++ texts (frames letter z lo 1 0 l))).1 letter z r 1 ((1 + l.length) % 8) [] [] ∧ (feed b (ctrl 5 r ++ texts (frames letter z lo 1 0 l))).2 = (texts (readies 1 0 l.length), bytes l) := by
  rw [ctrl_text, ← texts_cons]
  obtain ⟨a, t, e⟩ := feed_texts h.bf (cf 5 r :: frames letter z lo 1 0 l) (fun f hf => by
    rcases List.mem_cons.1 hf with rfl | hf
    · exact cf_ok (by omega) (by omega) (by omega) r7
    · exact frames_ok 1 hz hlo l 0 hl f hf)
  obtain ⟨h3, h4⟩ := takes_c h r1 r7
  have hL : takesL b (cf 5 r :: frames letter z lo 1 0 l) [] [] = takesL (takes b (cf 5 r)).1 (frames letter z lo 1 0 l) [] [] := by
    show takesL (takes b (cf 5 r)).1 (frames letter z lo 1 0 l) ([] ++ (takes b (cf 5 r)).2.1) ([] ++ (takes b (cf 5 r)).2.2) = _
    rw [h4]
    rfl
  obtain ⟨m1, m2⟩ := takesL_data l 0 (takes b (cf 5 r)).1 [] [] letter z r 1 1 [] letter z lo 1 h3 (by omega)
  rw [hL] at e
  rw [e, m2, m1.fed]
  refine ⟨?_, by simp⟩
  have := m1.put a t
  rw [show (1 : Int) + ((0 : Nat) : Int) + (l.length : Int) = 1 + l.length by omega] at this
  exact this
theorem code_min2 {x y : Int} (hx : Gf.code x ≠ 0) (hy : Gf.code y ≠ 0) : Gf.code (min x y) ≠ 0 := by
  rcases Int.le_total x y with c | c
  · rw [Int.min_eq_left c]; exact hx
  · rw [Int.min_eq_right c]; exact hy
/-- Two rounds, and both run. -/
theorem opens {a b : Dr} {letter za zb ra rb : Int} {q : List Pc} (ha : Op1 a letter 0 za ra q) (hb : Op1 b letter 0 zb rb []) (hza : Gf.code za ≠ 0) (hzb : Gf.code zb ≠ 0) (ra1 : 1 ≤ ra) (ra7 : ra ≤ 7) (rb1 : 1 ≤ rb) (rb7 : rb ≤ 7) :
    ∃ z r, z = min za zb ∧ r = min ra rb ∧ ∃ p, rnds 2 ⟨a, b, ctrl 7 rb, ctrl 7 ra, [], []⟩ = p ∧ St p.a p.b p.w0 letter z r 1 1 1 (fillL r.toNat z.toNat q).1 (fillL r.toNat z.toNat q).2 ∧ p.w1 = [] ∧ p.c0 = [] ∧ p.c1 = bytes (fillL r.toNat z.toNat q).1 := by
  have hr1 : 1 ≤ min ra rb := by rcases Int.le_total ra rb with c | c <;> first | (rw [Int.min_eq_left c]; exact ra1) | (rw [Int.min_eq_right c]; exact rb1)
  have hr7 : min ra rb ≤ 7 := Int.le_trans (Int.min_le_left _ _) ra7
  have hzz := code_min2 hza hzb
  obtain ⟨a1, a2⟩ := feed_a ha rb1 rb7
  obtain ⟨b1, b2⟩ := feed_ab hb (y := za) ra1 ra7 hza
  rw [Int.min_comm zb za, Int.min_comm rb ra] at b1
  rw [Int.min_comm rb ra] at b2
  have e1 : rnd ⟨a, b, ctrl 7 rb, ctrl 7 ra, [], []⟩ = ⟨(feed a (ctrl 7 rb)).1, (feed b (ctrl 7 ra ++ ctrl 6 ((Gf.code za : Int) - 1))).1, ctrl 6 ((Gf.code zb : Int) - 1) ++ ctrl 5 (min ra rb), [], [], []⟩ := by
    unfold rnd
    dsimp only
    rw [a2]
    dsimp only
    rw [b2]
    simp
  obtain ⟨e, hE, e2⟩ := feed_bc a1 (y := zb) hzb hr1 hr7
  obtain ⟨f1, f2⟩ := fill_run hE (min ra rb).toNat (by show ((0 : Nat) : Int) + _ = _; omega) hr1 hr7 (by omega) (by omega)
  rw [List.nil_append] at f1
  obtain ⟨g1, g2⟩ := feed_c_data b1 hr1 hr7 hzz (lo := (1 + 7) % 8) (by omega) (fillL (min ra rb).toNat (min za zb).toNat q).1 (fun s hs => by have := fillL_size _ _ _ s hs; have := size_pos hzz; omega)
  have e3 : rnd ⟨(feed a (ctrl 7 rb)).1, (feed b (ctrl 7 ra ++ ctrl 6 ((Gf.code za : Int) - 1))).1, ctrl 6 ((Gf.code zb : Int) - 1) ++ ctrl 5 (min ra rb), [], [], []⟩ = ⟨(fill e).1, (feed (feed b (ctrl 7 ra ++ ctrl 6 ((Gf.code za : Int) - 1))).1 (ctrl 5 (min ra rb) ++ texts (frames letter (min za zb) ((1 + 7) % 8) 1 0 (fillL (min ra rb).toNat (min za zb).toNat q).1))).1, texts (readies 1 0 (fillL (min ra rb).toNat (min za zb).toNat q).1.length), [], [], bytes (fillL (min ra rb).toNat (min za zb).toNat q).1⟩ := by
    unfold rnd
    dsimp only
    rw [e2]
    dsimp only
    rw [f2, List.nil_append]
    show (⟨(fill e).1, (feed _ (ctrl 5 (min ra rb) ++ texts (frames letter (min za zb) ((1 + 7) % 8) 1 0 _))).1, (feed _ (ctrl 5 (min ra rb) ++ texts (frames letter (min za zb) ((1 + 7) % 8) 1 0 _))).2.1, [], _, _ ++ (feed _ (ctrl 5 (min ra rb) ++ texts (frames letter (min za zb) ((1 + 7) % 8) 1 0 _))).2.2⟩ : Pr) = _
    rw [g2]
    simp
  refine ⟨_, _, rfl, rfl, _, (congrArg rnd e1).trans e3, ?_⟩
  · refine ⟨⟨f1, g1, rfl, hzz, hr1, hr7, by omega, by omega, ?_⟩, rfl, rfl, rfl⟩
    have := fillL_len (min ra rb).toNat (min za zb).toNat q
    show ((fillL (min ra rb).toNat (min za zb).toNat q).1.length : Int) ≤ min ra rb
    omega
/-- Rounds behind the opening: all that waits comes. -/
theorem rounds : ∀ (n : Nat) (p : Pr) {letter z r wa bB bs : Int} {l : List ByteArray} {q : List Pc} (c : List UInt8), St p.a p.b p.w0 letter z r wa bB bs l q → p.w1 = [] → p.c0 = [] → p.c1 ++ qbytes q = c → single q → (∀ x ∈ q, x.data.size ≠ 0) → (qbytes q).length ≤ 32 * n →
    ∃ bs', St (rnds (n + 1) p).a (rnds (n + 1) p).b (rnds (n + 1) p).w0 letter z r wa bB bs' [] [] ∧ (rnds (n + 1) p).w1 = [] ∧ (rnds (n + 1) p).c0 = [] ∧ (rnds (n + 1) p).c1 = c
  | 0, p, letter, z, r, wa, bB, bs, l, q, c, h, h1, h0, hc, hs, hne, hl => by
    have hq : q = [] := qbytes_nil hne (by omega)
    subst hq
    obtain ⟨k1, k2, k3, k4⟩ := round_ok h
    have e : rnds 1 p = ⟨(feed p.a p.w0).1, (feed p.b (feed p.a p.w0).2.1).1, (feed p.b (feed p.a p.w0).2.1).2.1, [], [], p.c1 ++ bytes (fillL r.toNat z.toNat []).1⟩ := by
      show rnd p = _
      unfold rnd
      rw [h1, h0, List.nil_append, k2, k3]
      rfl
    have hf : fillL r.toNat z.toNat [] = ([], []) := by
      cases r.toNat <;> rfl
    rw [hf] at k1 e
    refine ⟨(bs + l.length) % 8, ?_, ?_⟩
    · show St (rnds 1 p).a (rnds 1 p).b (rnds 1 p).w0 letter z r wa bB _ [] []
      rw [e]
      exact k1
    · show (rnds 1 p).w1 = [] ∧ (rnds 1 p).c0 = [] ∧ (rnds 1 p).c1 = c
      rw [e]
      refine ⟨rfl, rfl, ?_⟩
      show p.c1 ++ bytes [] = c
      rw [← hc]
      simp [bytes, qbytes]
  | n + 1, p, letter, z, r, wa, bB, bs, l, q, c, h, h1, h0, hc, hs, hne, hl => by
    obtain ⟨k1, k2, k3, k4⟩ := round_ok h
    have hz := size_pos h.hz
    have e : rnd p = ⟨(feed p.a p.w0).1, (feed p.b (feed p.a p.w0).2.1).1, (feed p.b (feed p.a p.w0).2.1).2.1, [], [], p.c1 ++ bytes (fillL r.toNat z.toNat q).1⟩ := by
      unfold rnd
      rw [h1, h0, List.nil_append, k2, k3]
      rfl
    have d1 : St (rnd p).a (rnd p).b (rnd p).w0 letter z r wa bB ((bs + l.length) % 8) (fillL r.toNat z.toNat q).1 (fillL r.toNat z.toNat q).2 := by rw [e]; exact k1
    have d2 : (rnd p).w1 = [] := by rw [e]
    have d3 : (rnd p).c0 = [] := by rw [e]
    have d4 : (rnd p).c1 ++ qbytes (fillL r.toNat z.toNat q).2 = c := by
      rw [e]
      show p.c1 ++ bytes (fillL r.toNat z.toNat q).1 ++ qbytes (fillL r.toNat z.toNat q).2 = c
      rw [List.append_assoc, fillL_bytes, hc]
    have d5 : (qbytes (fillL r.toNat z.toNat q).2).length ≤ 32 * n := by
      have := fillL_less (n := r.toNat) (z := z.toNat) (by have := h.r1; omega) (by omega) hs
      omega
    have hstep : rnds (n + 1 + 1) p = rnds (n + 1) (rnd p) := rfl
    rw [hstep]
    clear e hstep k1 k2 k3 k4
    generalize rnd p = P at *
    exact rounds n P c d1 d2 d3 d4 (fillL_single _ _ _ hs) (nonempty_pieces _ _ _ (by omega) hne) d5
end Gp
end Go.Proofs.YtfiffbohhhehkaaGreat

namespace Go.Proofs.YtfiffbohhhehkaaGreat
namespace Gp
theorem rnds_add : ∀ (m n : Nat) (p : Pr), rnds (m + n) p = rnds n (rnds m p)
  | 0, n, p => by rw [Nat.zero_add]; rfl
  | m + 1, n, p => by
    rw [show m + 1 + n = (m + n) + 1 by omega]
    show rnds (m + n) (rnd p) = rnds n (rnds m (rnd p))
    exact rnds_add m n (rnd p)
/-- The pair that the statements begin with. -/
def pair0 (letter za zb ra rb : Int) (q : List Pc) : Pr := ⟨(send (begin_ letter true za ra) (q.headD ⟨0, ByteArray.empty⟩)).1, begin_ letter false zb rb, ctrl 7 rb, ctrl 7 ra, [], []⟩
theorem send_op {d : Dr} {letter z r : Int} (h : Op1 d letter 0 z r []) (p : Pc) : Op1 (send d p).1 letter 0 z r (if p.data.size = 0 then [] else [p]) ∧ (send d p).2 = [] := by
  unfold send
  by_cases hp : p.data.size = 0
  · rw [if_pos (.inl hp), if_pos hp]
    exact ⟨h.own, rfl⟩
  · rw [if_neg (by rw [h.ph]; omega), if_neg hp, fill_opening (by exact h.ph)]
    refine ⟨⟨h.lt, h.ph, h.st, h.sz, h.rm, h.wn, h.bf, ?_, h.wt⟩, rfl⟩
    show d.queue ++ [p] = [p]
    rw [h.qu]
    rfl
/-- Where nothing is lost all that was given to the first end comes to the other one, in as many rounds as the statement plays. -/
theorem all_comes {a b : Dr} {letter za zb ra rb : Int} {q : List Pc} (ha : Op1 a letter 0 za ra q) (hb : Op1 b letter 0 zb rb []) (hza : Gf.code za ≠ 0) (hzb : Gf.code zb ≠ 0) (ra1 : 1 ≤ ra) (ra7 : ra ≤ 7) (rb1 : 1 ≤ rb) (rb7 : rb ≤ 7) (hs : single q) (hne : ∀ x ∈ q, x.data.size ≠ 0) (n : Nat) (hn : (qbytes q).length ≤ 32 * n) :
    ∃ bs, St (rnds (2 + (n + 1)) ⟨a, b, ctrl 7 rb, ctrl 7 ra, [], []⟩).a (rnds (2 + (n + 1)) ⟨a, b, ctrl 7 rb, ctrl 7 ra, [], []⟩).b (rnds (2 + (n + 1)) ⟨a, b, ctrl 7 rb, ctrl 7 ra, [], []⟩).w0 letter (min za zb) (min ra rb) 1 1 bs [] [] ∧ (rnds (2 + (n + 1)) ⟨a, b, ctrl 7 rb, ctrl 7 ra, [], []⟩).w1 = [] ∧ (rnds (2 + (n + 1)) ⟨a, b, ctrl 7 rb, ctrl 7 ra, [], []⟩).c0 = [] ∧ (rnds (2 + (n + 1)) ⟨a, b, ctrl 7 rb, ctrl 7 ra, [], []⟩).c1 = qbytes q := by
  obtain ⟨z, r, rfl, rfl, p, hp, h1, h2, h3, h4⟩ := opens ha hb hza hzb ra1 ra7 rb1 rb7
  rw [rnds_add, hp]
  have hz := size_pos h1.hz
  have hr := h1.r1
  refine rounds n p (qbytes q) h1 h2 h3 (by rw [h4]; exact fillL_bytes _ _ _) (fillL_single _ _ _ hs) (nonempty_pieces _ _ _ (by omega) hne) ?_
  have := fillL_less (n := (min ra rb).toNat) (z := (min za zb).toNat) (by omega) (by omega) hs
  omega
/-- Then the first end closes: four rounds on both are closed, and nothing is under way. -/
theorem both_close {a b : Dr} {letter z r wa bB bs : Int} {w0 c0 c1 : List UInt8} (h : St a b w0 letter z r wa bB bs [] []) :
    (rnds 4 ⟨(close a).1, b, w0, (close a).2, c0, c1⟩).a.phase = 4 ∧ (rnds 4 ⟨(close a).1, b, w0, (close a).2, c0, c1⟩).b.phase = 4 ∧ (rnds 4 ⟨(close a).1, b, w0, (close a).2, c0, c1⟩).w0 = [] ∧ (rnds 4 ⟨(close a).1, b, w0, (close a).2, c0, c1⟩).w1 = [] ∧ (rnds 4 ⟨(close a).1, b, w0, (close a).2, c0, c1⟩).c1 = c1 := by
  have hw : w0 = [] := by rw [h.ws]; rfl
  subst hw
  have hc : close a = ({ own a with phase := 3, tries := 0, step := 0 }, ctrl 1 0) := by
    unfold close
    rw [if_neg (by rw [h.ra.ph]; omega)]
  rw [hc]
  dsimp only
  obtain ⟨x1, x2, x3, x4, x5, x6⟩ := feed_nothing (a := { own a with phase := 3, tries := 0, step := 0 }) (.inl (by show (3 : Int) ≠ 2; omega)) (by exact h.ra.bf)
  obtain ⟨y1, y2, y3, y4⟩ := feed_close h.rb
  generalize hA : (feed { own a with phase := 3, tries := 0, step := 0 } []).1 = A at *
  generalize hB : (feed b (ctrl 1 0)).1 = B at *
  have e1 : rnd ⟨{ own a with phase := 3, tries := 0, step := 0 }, b, [], ctrl 1 0, c0, c1⟩ = ⟨A, B, ctrl 1 0, [], c0, c1⟩ := by
    unfold rnd
    dsimp only
    rw [x6]
    dsimp only
    rw [List.append_nil, y4, hA, hB]
    simp
  have hpA : A.phase = 3 := x1
  obtain ⟨u1, u2, u3, u4⟩ := feed_closed hpA x3
  obtain ⟨v1, v2, v3, v4, v5, v6⟩ := feed_nothing (a := B) (.inl (by rw [y1]; omega)) y3
  have e2 : rnd ⟨A, B, ctrl 1 0, [], c0, c1⟩ = ⟨(feed A (ctrl 1 0)).1, (feed B []).1, [], [], c0, c1⟩ := by
    unfold rnd
    dsimp only
    rw [u4]
    dsimp only
    rw [List.append_nil, v6]
    simp
  generalize (feed A (ctrl 1 0)).1 = A2 at *
  generalize (feed B []).1 = B2 at *
  have idle : ∀ (D E : Dr), D.phase = 4 → E.phase = 4 → D.buf = [] → E.buf = [] → ∃ D' E', rnd ⟨D, E, [], [], c0, c1⟩ = ⟨D', E', [], [], c0, c1⟩ ∧ D'.phase = 4 ∧ E'.phase = 4 ∧ D'.buf = [] ∧ E'.buf = [] := by
    intro D E hD hE bD bE
    obtain ⟨p1, p2, p3, p4, p5, p6⟩ := feed_nothing (a := D) (.inl (by rw [hD]; omega)) bD
    obtain ⟨q1, q2, q3, q4, q5, q6⟩ := feed_nothing (a := E) (.inl (by rw [hE]; omega)) bE
    refine ⟨(feed D []).1, (feed E []).1, ?_, by rw [p1]; exact hD, by rw [q1]; exact hE, p3, q3⟩
    unfold rnd
    dsimp only
    rw [p6]
    dsimp only
    rw [List.append_nil, q6]
    simp
  obtain ⟨A3, B3, e3, a3, b3, s3, t3⟩ := idle A2 B2 u1 (by rw [v1]; exact y1) u3 v3
  obtain ⟨A4, B4, e4, a4, b4, _, _⟩ := idle A3 B3 a3 b3 s3 t3
  have e : rnds 4 ⟨{ own a with phase := 3, tries := 0, step := 0 }, b, [], ctrl 1 0, c0, c1⟩ = ⟨A4, B4, [], [], c0, c1⟩ := by
    show rnd (rnd (rnd (rnd ⟨{ own a with phase := 3, tries := 0, step := 0 }, b, [], ctrl 1 0, c0, c1⟩))) = _
    rw [e1, e2, e3, e4]
  rw [e]
  exact ⟨a4, b4, rfl, rfl, rfl⟩
/-- The end that was begun, and has something to send, fails behind forty ticks; closed, it is closed. -/
theorem forty (letter : Int) (caller : Bool) (z r : Int) (p : Pc) : (ticks 40 (send (begin_ letter caller z r) p).1).phase = 5 ∧ (ticks 40 (close (begin_ letter caller z r)).1).phase = 4 := by
  refine ⟨?_, ?_⟩
  · have h1 := (send_op (begin_op letter caller z r) p).1
    refine ticks_fails 40 0 h1.ph ?_ (by omega) (by omega)
    unfold send
    split
    · rfl
    · rw [fill_opening (by rfl)]
      rfl
  · refine ticks_closes 40 0 ?_ ?_ (by omega) (by omega)
    · unfold close
      rw [if_neg (by show ¬ ((1 : Int) ≠ 1 ∧ (1 : Int) ≠ 2); omega)]
    · unfold close
      rw [if_neg (by show ¬ ((1 : Int) ≠ 1 ∧ (1 : Int) ≠ 2); omega)]
      rfl
end Gp
end Go.Proofs.YtfiffbohhhehkaaGreat

namespace Go.Proofs.YtfiffbohhhehkaaGreat
namespace Gp
theorem hv_le : ∀ (f z n : Nat), hv f z n ≤ z
  | 0, _, _ => Nat.le_refl _
  | f + 1, z, n => by
    unfold hv
    split
    · exact Nat.le_trans (hv_le f (z / 2) n) (Nat.div_le_self _ _)
    · exact Nat.le_refl _
theorem ctrl_len (h l : Int) : (ctrl h l).length = 6 := rfl
theorem readies_len (bs : Int) : ∀ (n i : Nat), (texts (readies bs i n)).length = 6 * n
  | 0, _ => rfl
  | n + 1, i => by
    rw [readies_succ, texts_cons, List.length_append, readies_len bs n (i + 1)]
    show 6 + 6 * n = _
    omega
theorem pf_len {letter z lastn n : Int} {s : ByteArray} (hz : Gf.code z ≠ 0) (hl : 0 ≤ lastn ∧ lastn ≤ 7) (hn : 0 ≤ n ∧ n ≤ 7) (hs : (s.size : Int) ≤ z) : ((Gf.text (pf letter z lastn n s)).length : Int) ≤ 6 + z := by
  have hok := pf_ok (letter := letter) hz hl hn hs
  have hty := (pf_parts letter z lastn n s).1
  rw [Gf.text_len, Gf.body_len hok hty]
  have hsz : (pf letter z lastn n s).sz ≤ z ∧ Gf.code (pf letter z lastn n s).sz ≠ 0 := by
    have hzz := size_pos hz
    unfold pf
    split
    · rename_i hc
      dsimp only
      split
      · have h := hv_ok 7 z.toNat s.size (by rw [show ((z.toNat : Nat) : Int) = z by omega]; exact hz) (by omega)
        have := hv_le 7 z.toNat s.size
        exact ⟨by omega, h.1⟩
      · exact ⟨Int.le_refl _, hz⟩
    · exact ⟨Int.le_refl _, hz⟩
  have := (Gf.code_size hsz.2).1
  omega
theorem frames_len {letter z lastn : Int} (bs : Int) (hz : Gf.code z ≠ 0) (hl : 0 ≤ lastn ∧ lastn ≤ 7) : ∀ (l : List ByteArray) (i : Nat), (∀ s ∈ l, (s.size : Int) ≤ z) → ((texts (frames letter z lastn bs i l)).length : Int) ≤ l.length * (6 + z)
  | [], _, _ => by show ((0 : Nat) : Int) ≤ ((0 : Nat) : Int) * (6 + z); rw [Int.natCast_zero, Int.zero_mul]; exact Int.le_refl _
  | s :: l, i, hs => by
    unfold frames
    rw [texts_cons, List.length_append, List.length_cons]
    have h1 := pf_len (letter := letter) (n := (bs + i) % 8) hz hl (by omega) (hs s (by simp))
    have h2 := frames_len (letter := letter) bs hz hl l (i + 1) (fun x hx => hs x (by simp [hx]))
    rw [show ((l.length + 1 : Nat) : Int) * (6 + z) = (l.length : Int) * (6 + z) + (6 + z) by rw [Int.natCast_add, Int.add_mul]; simp]
    omega
theorem fillL_one {z : Nat} : ∀ (n : Nat) {q : List Pc}, single q → (qbytes q).length < z → (fillL n z q).1.length ≤ 1
  | 0, _, _, _ => Nat.zero_le _
  | n + 1, q, h, hl => by
    rcases h with rfl | ⟨p, rfl⟩
    · exact Nat.zero_le _
    · have h2 : (qbytes [p]).length = p.data.size := by simp [qbytes]
      have hm : min p.data.size z = p.data.size := Nat.min_eq_left (by omega)
      have hc : cutQ [p] (min p.data.size z) = [] := by
        unfold cutQ
        dsimp only
        rw [if_pos hm]
      unfold fillL
      rw [hc]
      have : fillL n z [] = ([], []) := by cases n <;> rfl
      rw [this]
      exact Nat.le_refl _
/-- What the first end says in a round is never too much for the statement. -/
theorem said_short {letter z lastn r : Int} (bs : Int) (hz : Gf.code z ≠ 0) (hl : 0 ≤ lastn ∧ lastn ≤ 7) (hr : r ≤ 7) {q : List Pc} (hs : single q) (hq : (qbytes q).length ≤ 500) : (texts (frames letter z lastn bs 0 (fillL r.toNat z.toNat q).1)).length ≤ 5000 := by
  have hzz := size_pos hz
  have h1 := frames_len (letter := letter) bs hz hl (fillL r.toNat z.toNat q).1 0 (fun s hs => by have := fillL_size _ _ _ s hs; omega)
  have hlen := fillL_len r.toNat z.toNat q
  by_cases hc : 500 < z
  · have h2 := fillL_one (z := z.toNat) r.toNat hs (by omega)
    have : ((fillL r.toNat z.toNat q).1.length : Int) * (6 + z) ≤ 1 * (6 + z) := Int.mul_le_mul_of_nonneg_right (by omega) (by omega)
    omega
  · have : ((fillL r.toNat z.toNat q).1.length : Int) * (6 + z) ≤ 7 * (6 + z) := Int.mul_le_mul_of_nonneg_right (by omega) (by omega)
    omega
end Gp
end Go.Proofs.YtfiffbohhhehkaaGreat
