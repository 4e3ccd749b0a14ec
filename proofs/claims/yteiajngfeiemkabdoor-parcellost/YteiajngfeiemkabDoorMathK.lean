/-
  Layer 2: the sums, as functions of lists of bytes. Plain mathematics, of no program.
-/
import Derived.WalkKit
namespace Go.Proofs.YteiajngfeiemkabDoor
open Go.RowKit
namespace Chk

/-! The sum of the protocol g (P2.1). -/
def rot (s : Nat) : Nat := s * 2 % 65536 + s / 32768
def sumT (s c : Nat) : Nat := (rot s + c) % 65536
def sumX (s x n c : Nat) : Nat := (x + (sumT s c ^^^ n % 65536)) % 65536
def sumS (s x n c : Nat) : Nat := if sumT s c ≤ rot s then sumT s c ^^^ sumX s x n c else sumT s c
def sumOn : List UInt8 → Nat → Nat → Nat
  | [], s, _ => s
  | c :: l, s, x => sumOn l (sumS s x (l.length + 1) c.toNat) (sumX s x (l.length + 1) c.toNat)
def sum (l : List UInt8) : Nat := sumOn l 65535 0
theorem rot_lt {s : Nat} (h : s < 65536) : rot s < 65536 := by unfold rot; omega
theorem sumT_lt (s c : Nat) : sumT s c < 65536 := Nat.mod_lt _ (by decide)
theorem sumX_lt (s x n c : Nat) : sumX s x n c < 65536 := Nat.mod_lt _ (by decide)
theorem xor16 {a b : Nat} (ha : a < 65536) (hb : b < 65536) : a ^^^ b < 65536 := Nat.xor_lt_two_pow (n := 16) ha hb
theorem sumS_lt (s x n c : Nat) : sumS s x n c < 65536 := by
  unfold sumS
  split
  · exact xor16 (sumT_lt _ _) (sumX_lt _ _ _ _)
  · exact sumT_lt _ _
theorem sumOn_lt : ∀ (l : List UInt8) (s x : Nat), s < 65536 → sumOn l s x < 65536
  | [], _, _, h => h
  | _ :: l, _, _, _ => sumOn_lt l _ _ (sumS_lt _ _ _ _)
theorem sum_lt (l : List UInt8) : sum l < 65536 := sumOn_lt l _ _ (by decide)

/-! All bytes, turned by one another (P2.3). -/
def xor (l : List UInt8) : Nat := l.foldl (fun x c => x ^^^ c.toNat) 0
theorem xor8 {a b : Nat} (ha : a < 256) (hb : b < 256) : a ^^^ b < 256 := Nat.xor_lt_two_pow (n := 8) ha hb
theorem xorOn_lt : ∀ (l : List UInt8) (x : Nat), x < 256 → l.foldl (fun x c => x ^^^ c.toNat) x < 256
  | [], _, h => h
  | c :: l, _, h => xorOn_lt l _ (xor8 h (UInt8.toNat_lt c))
theorem xor_lt (l : List UInt8) : xor l < 256 := xorOn_lt l 0 (by decide)
theorem xorOn : ∀ (l : List UInt8) (x : Nat), l.foldl (fun x c => x ^^^ c.toNat) x = x ^^^ xor l
  | [], x => by simp [xor]
  | c :: l, x => by
    rw [List.foldl_cons, xorOn l (x ^^^ c.toNat)]
    unfold xor
    rw [List.foldl_cons, xorOn l (0 ^^^ c.toNat), Nat.zero_xor]
    exact Nat.xor_assoc _ _ _
theorem xor_append (a b : List UInt8) : xor (a ++ b) = xor a ^^^ xor b := by
  conv => lhs; unfold xor
  rw [List.foldl_append, xorOn b]; rfl
theorem xor_one (c : UInt8) : xor [c] = c.toNat := by unfold xor; rw [List.foldl_cons, List.foldl_nil, Nat.zero_xor]

/-! CRC-32 (P2.4). -/
def poly : Nat := 3988292384
def crcBit (c : Nat) : Nat := c / 2 ^^^ (if c % 2 = 1 then poly else 0)
theorem xor32 {a b : Nat} (ha : a < 4294967296) (hb : b < 4294967296) : a ^^^ b < 4294967296 := Nat.xor_lt_two_pow (n := 32) ha hb
theorem crcBit_lt {c : Nat} (h : c < 4294967296) : crcBit c < 4294967296 := by
  unfold crcBit
  refine xor32 (by omega) ?_
  split <;> decide
theorem crcBit_zero : crcBit 0 = 0 := by decide
theorem xor_four (a b c d : Nat) : (a ^^^ b) ^^^ (c ^^^ d) = (a ^^^ c) ^^^ (b ^^^ d) := by
  rw [Nat.xor_assoc, Nat.xor_assoc, ← Nat.xor_assoc b c d, Nat.xor_comm b c, Nat.xor_assoc c b d]
theorem xor_mod2 (a b : Nat) : (a ^^^ b) % 2 = (a + b) % 2 := by
  have h : (a ^^^ b).testBit 0 = ((a.testBit 0) ^^ (b.testBit 0)) := Nat.testBit_xor ..
  simp only [Nat.testBit_zero] at h
  rcases Nat.mod_two_eq_zero_or_one a with ha | ha <;> rcases Nat.mod_two_eq_zero_or_one b with hb | hb <;> rcases Nat.mod_two_eq_zero_or_one (a ^^^ b) with hc | hc <;> simp [ha, hb, hc] at h <;> omega
theorem xor_zero_eq {a b : Nat} (h : a ^^^ b = 0) : a = b := by
  have h1 : a ^^^ (a ^^^ b) = b := by rw [← Nat.xor_assoc, Nat.xor_self, Nat.zero_xor]
  rw [h, Nat.xor_zero] at h1
  exact h1
theorem crcBit_xor (a b : Nat) : crcBit (a ^^^ b) = crcBit a ^^^ crcBit b := by
  unfold crcBit
  rw [xor_four, Nat.xor_div_two]
  congr 1
  rw [xor_mod2]
  rcases Nat.mod_two_eq_zero_or_one a with ha | ha <;> rcases Nat.mod_two_eq_zero_or_one b with hb | hb
  · rw [if_neg (by omega), if_neg (by omega), if_neg (by omega)]; rfl
  · rw [if_pos (by omega), if_neg (by omega), if_pos (by omega), Nat.zero_xor]
  · rw [if_pos (by omega), if_pos (by omega), if_neg (by omega), Nat.xor_zero]
  · rw [if_neg (by omega), if_pos (by omega), if_pos (by omega), Nat.xor_self]
theorem crcBit_eq_zero {c : Nat} (h : c < 4294967296) (hz : crcBit c = 0) : c = 0 := by
  unfold crcBit at hz
  replace hz := xor_zero_eq hz
  by_cases hc : c % 2 = 1
  · rw [if_pos hc] at hz; unfold poly at hz; omega
  · rw [if_neg hc] at hz; omega
def crcBits : Nat → Nat → Nat
  | 0, c => c
  | k + 1, c => crcBits k (crcBit c)
theorem crcBits_lt : ∀ (k : Nat) {c : Nat}, c < 4294967296 → crcBits k c < 4294967296
  | 0, _, h => h
  | k + 1, _, h => crcBits_lt k (crcBit_lt h)
theorem crcBits_xor : ∀ (k a b : Nat), crcBits k (a ^^^ b) = crcBits k a ^^^ crcBits k b
  | 0, _, _ => rfl
  | k + 1, a, b => by unfold crcBits; rw [crcBit_xor]; exact crcBits_xor k _ _
theorem crcBits_eq_zero : ∀ (k : Nat) {c : Nat}, c < 4294967296 → crcBits k c = 0 → c = 0
  | 0, _, _, h => h
  | k + 1, _, hc, h => crcBit_eq_zero hc (crcBits_eq_zero k (crcBit_lt hc) h)
theorem crcBits_inj (k : Nat) {a b : Nat} (ha : a < 4294967296) (hb : b < 4294967296) (h : crcBits k a = crcBits k b) : a = b := by
  have h1 := crcBits_xor k a b
  rw [h, Nat.xor_self] at h1
  exact xor_zero_eq (crcBits_eq_zero k (xor32 ha hb) h1)
theorem crcBits_last : ∀ (k c : Nat), crcBits (k + 1) c = crcBit (crcBits k c)
  | 0, _ => rfl
  | k + 1, c => by
    show crcBits (k + 1) (crcBit c) = _
    exact crcBits_last k (crcBit c)
theorem crcBit_double (m : Nat) : crcBit (2 * m) = m := by unfold crcBit; rw [if_neg (by omega), Nat.xor_zero]; omega
theorem crcBits_shift : ∀ (k m : Nat), crcBits k (m * 2 ^ k) = m
  | 0, m => by unfold crcBits; omega
  | k + 1, m => by
    unfold crcBits
    rw [show m * 2 ^ (k + 1) = 2 * (m * 2 ^ k) by rw [Nat.pow_succ]; rw [← Nat.mul_assoc]; exact Nat.mul_comm _ _, crcBit_double]
    exact crcBits_shift k m
def crcStep (c : Nat) (b : UInt8) : Nat := crcBits 8 (c ^^^ b.toNat)
def crcOn (c : Nat) (l : List UInt8) : Nat := l.foldl crcStep c
theorem byte32 (b : UInt8) : b.toNat < 4294967296 := Nat.lt_trans (UInt8.toNat_lt b) (by decide)
theorem crcStep_lt {c : Nat} (b : UInt8) (h : c < 4294967296) : crcStep c b < 4294967296 := crcBits_lt 8 (xor32 h (byte32 b))
theorem crcOn_lt : ∀ (l : List UInt8) {c : Nat}, c < 4294967296 → crcOn c l < 4294967296
  | [], _, h => h
  | b :: l, _, h => crcOn_lt l (crcStep_lt b h)
theorem crcOn_append (c : Nat) (a b : List UInt8) : crcOn c (a ++ b) = crcOn (crcOn c a) b := List.foldl_append ..
def low32 (sum : Int) : Nat := (sum % 4294967296).toNat
theorem low32_lt (sum : Int) : low32 sum < 4294967296 := by unfold low32; omega
theorem low32_nat {n : Nat} (h : n < 4294967296) : low32 (n : Int) = n := by unfold low32; omega
def more (sum : Int) (l : List UInt8) : Nat := 4294967295 ^^^ crcOn (4294967295 ^^^ low32 sum) l
theorem more_lt (sum : Int) (l : List UInt8) : more sum l < 4294967296 := xor32 (by decide) (crcOn_lt l (xor32 (by decide) (low32_lt _)))
theorem turn_turn (a c : Nat) : a ^^^ (a ^^^ c) = c := by rw [← Nat.xor_assoc, Nat.xor_self, Nat.zero_xor]
/-- P2.5 -/
theorem more_more (sum : Int) (a b : List UInt8) : more (more sum a : Int) b = more sum (a ++ b) := by
  show 4294967295 ^^^ crcOn (4294967295 ^^^ low32 (more sum a : Int)) b = _
  rw [low32_nat (more_lt sum a)]
  unfold more
  rw [turn_turn, crcOn_append]
theorem more_none {n : Nat} (h : n < 4294967296) : more (n : Int) [] = n := by
  unfold more; rw [low32_nat h]; exact turn_turn _ _

/-! P2.6 -/
theorem crcOn_inj : ∀ (l : List UInt8) {a b : Nat}, a < 4294967296 → b < 4294967296 → crcOn a l = crcOn b l → a = b
  | [], _, _, _, _, h => h
  | c :: l, a, b, ha, hb, h => by
    have h1 := crcOn_inj l (crcStep_lt c ha) (crcStep_lt c hb) h
    have h2 := crcBits_inj 8 (xor32 ha (byte32 c)) (xor32 hb (byte32 c)) h1
    have h3 : c.toNat ^^^ a = c.toNat ^^^ b := by rw [Nat.xor_comm _ a, Nat.xor_comm _ b]; exact h2
    have h4 := congrArg (c.toNat ^^^ ·) h3
    simpa only [turn_turn] using h4
def pack : List UInt8 → Nat
  | [] => 0
  | b :: l => b.toNat + pack l * 256
theorem pack_lt : ∀ (l : List UInt8), pack l < 256 ^ l.length
  | [] => by decide
  | b :: l => by
    have h := pack_lt l
    have hb := UInt8.toNat_lt b
    rw [List.length_cons, Nat.pow_succ]
    unfold pack
    omega
theorem pack_inj : ∀ (l m : List UInt8), l.length = m.length → pack l = pack m → l = m
  | [], [], _, _ => rfl
  | [], _ :: _, h, _ => by cases h
  | _ :: _, [], h, _ => by cases h
  | a :: l, b :: m, hl, hp => by
    unfold pack at hp
    have ha := UInt8.toNat_lt a
    have hb := UInt8.toNat_lt b
    have h1 : a.toNat = b.toNat := by omega
    have h2 : pack l = pack m := by omega
    rw [UInt8.toNat_inj.mp h1, pack_inj l m (by simpa using hl) h2]
theorem pack_cons (b : UInt8) (l : List UInt8) : pack (b :: l) = b.toNat ^^^ pack l * 2 ^ 8 := by
  have h := Nat.shiftLeft_add_eq_or_of_lt (b := b.toNat) (i := 8) (UInt8.toNat_lt b) (pack l)
  have h2 : pack l * 2 ^ 8 ^^^ b.toNat = pack l * 2 ^ 8 + b.toNat := by
    apply Nat.eq_of_testBit_eq
    intro i
    rw [← Nat.shiftLeft_eq, h, Nat.testBit_xor, Nat.testBit_or, Nat.testBit_shiftLeft]
    by_cases hi : i < 8
    · rw [show decide (8 ≤ i) = false by simp; omega]; simp
    · rw [Nat.testBit_lt_two_pow (Nat.lt_of_lt_of_le (UInt8.toNat_lt b) (Nat.pow_le_pow_right (by decide) (by omega : 8 ≤ i)))]; simp
  rw [Nat.xor_comm, h2]
  show b.toNat + pack l * 256 = _
  omega
theorem crcOn_pack : ∀ (l : List UInt8) (c : Nat), c < 4294967296 → l.length ≤ 4 → crcOn c l = crcBits (8 * l.length) (c ^^^ pack l)
  | [], c, _, _ => by show c = c ^^^ 0; rw [Nat.xor_zero]
  | b :: l, c, hc, hl => by
    have h := crcOn_pack l (crcStep c b) (crcStep_lt b hc) (by rw [List.length_cons] at hl; omega)
    show crcOn (crcStep c b) l = _
    rw [h, pack_cons]
    have e : crcStep c b ^^^ pack l = crcBits 8 (c ^^^ (b.toNat ^^^ pack l * 2 ^ 8)) := by
      rw [← Nat.xor_assoc, crcBits_xor, crcBits_shift]; rfl
    rw [e]
    have add : ∀ (j k x : Nat), crcBits j (crcBits k x) = crcBits (k + j) x := by
      intro j k
      induction k with
      | zero => intro x; rw [Nat.zero_add]; rfl
      | succ k ih => intro x; show crcBits j (crcBits k (crcBit x)) = _; rw [ih, show k + 1 + j = (k + j) + 1 by omega]; rfl
    rw [add, List.length_cons, show 8 + 8 * l.length = 8 * (l.length + 1) by omega]
theorem crc_near (p l m q : List UInt8) (hlm : l.length = m.length) (h4 : l.length ≤ 4) (h : more 0 (p ++ (l ++ q)) = more 0 (p ++ (m ++ q))) : l = m := by
  have h0 := congrArg (4294967295 ^^^ ·) h
  simp only [more, turn_turn, crcOn_append] at h0
  have hp : crcOn (4294967295 ^^^ low32 0) p < 4294967296 := crcOn_lt p (xor32 (by decide) (low32_lt _))
  have h1 := crcOn_inj q (crcOn_lt l hp) (crcOn_lt m hp) h0
  rw [crcOn_pack l _ hp h4, crcOn_pack m _ hp (hlm ▸ h4), ← hlm] at h1
  have k4 : ∀ (k : List UInt8), k.length ≤ 4 → pack k < 4294967296 := fun k hk => Nat.lt_of_lt_of_le (pack_lt k) (Nat.pow_le_pow_right (by decide) hk)
  have h2 := crcBits_inj _ (xor32 hp (k4 l h4)) (xor32 hp (k4 m (hlm ▸ h4))) h1
  have h3 := congrArg (crcOn (4294967295 ^^^ low32 0) p ^^^ ·) h2
  simp only [turn_turn] at h3
  exact pack_inj l m hlm h3

/-! P2.2 -/
def packet (l : List UInt8) (control : Int) : Int := (43690 - ((sum l ^^^ (control % 256).toNat : Nat) : Int)) % 65536
def control (c : Int) : Int := 43690 - c % 256
theorem control_inj (a b : Int) : (control a == control b) = (a % 256 == b % 256) := by
  unfold control
  rw [Bool.eq_iff_iff, beq_iff_eq, beq_iff_eq]; omega
theorem packet_inj (l : List UInt8) (a b : Int) : (packet l a == packet l b) = (a % 256 == b % 256) := by
  have ka : sum l ^^^ (a % 256).toNat < 65536 := xor16 (sum_lt l) (by omega)
  have kb : sum l ^^^ (b % 256).toNat < 65536 := xor16 (sum_lt l) (by omega)
  unfold packet
  rw [Bool.eq_iff_iff, beq_iff_eq, beq_iff_eq]
  constructor
  · intro h
    have h1 : sum l ^^^ (a % 256).toNat = sum l ^^^ (b % 256).toNat := by omega
    have h2 := congrArg (sum l ^^^ ·) h1
    simp only [turn_turn] at h2
    omega
  · intro h; rw [h]
end Chk
end Go.Proofs.YteiajngfeiemkabDoor
