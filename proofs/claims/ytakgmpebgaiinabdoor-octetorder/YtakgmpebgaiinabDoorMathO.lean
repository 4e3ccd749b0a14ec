/-
  Plain mathematics of layer 1 (octet), seventh part: digits of one width stand in the order of their numbers.
-/
import Derived.Test.YtakgmpebgaiinabDoorFix
namespace Go.Proofs.YtakgmpebgaiinabDoor
namespace Oct
theorem rights_succ (k : Nat) (f : Nat → UInt8) : rights (k + 1) f = f k :: rights k f := by
  unfold rights
  rw [List.range_succ_eq_map, List.map_cons, List.map_map]
  congr 1
  apply List.map_congr_left
  intro i _
  simp only [Function.comp]
  congr 1
  omega
theorem rights_congr (k : Nat) (f g : Nat → UInt8) (h : ∀ j, j < k → f j = g j) : rights k f = rights k g := by
  unfold rights
  apply List.map_congr_left
  intro i hi
  have := List.mem_range.1 hi
  exact h _ (by omega)
theorem digF_mod (q k j : Nat) (h : j < k) : digF q j = digF (q % 10 ^ k) j := by
  unfold digF
  congr 2
  have e : (10 : Nat) ^ k = 10 ^ j * 10 ^ (k - j) := by rw [← Nat.pow_add]; congr 1; omega
  rw [e, Nat.mod_mul_right_div_self]
  have e2 : (10 : Nat) ^ (k - j) = 10 * 10 ^ (k - j - 1) := by rw [Nat.mul_comm, ← Nat.pow_succ]; congr 1; omega
  rw [e2, Nat.mod_mul_right_mod]
theorem rights_mod (q k : Nat) : rights k (digF q) = rights k (digF (q % 10 ^ k)) := rights_congr k _ _ fun j hj => digF_mod q k j hj
theorem digF_top (q k : Nat) (h : q < 10 ^ (k + 1)) : (digF q k).toNat = 48 + q / 10 ^ k ∧ q / 10 ^ k < 10 := by
  have h10 : q / 10 ^ k < 10 := Nat.div_lt_of_lt_mul (by rw [← Nat.pow_succ]; exact h)
  refine ⟨?_, h10⟩
  unfold digF
  rw [UInt8.toNat_ofNat', Nat.mod_eq_of_lt h10]
  generalize q / 10 ^ k = d at h10
  omega
theorem less_digits : ∀ (k q r : Nat), q < 10 ^ k → r < 10 ^ k → Op.bytesLess (rights k (digF q)) (rights k (digF r)) = decide (q < r)
  | 0, q, r, hq, hr => by
    simp at hq hr
    subst hq; subst hr; rfl
  | k + 1, q, r, hq, hr => by
    rw [rights_succ, rights_succ]
    obtain ⟨eq1, lq⟩ := digF_top q k hq
    obtain ⟨er1, lr⟩ := digF_top r k hr
    have hp : 0 < 10 ^ k := Nat.pow_pos (by omega)
    have dq := Nat.div_add_mod q (10 ^ k)
    have dr := Nat.div_add_mod r (10 ^ k)
    have mq := Nat.mod_lt q hp
    have mr := Nat.mod_lt r hp
    have ih := less_digits k (q % 10 ^ k) (r % 10 ^ k) mq mr
    rw [← rights_mod, ← rights_mod] at ih
    simp only [Op.bytesLess]
    rw [ih]
    generalize digF q k = a at *
    generalize digF r k = b at *
    generalize q / 10 ^ k = A at *
    generalize r / 10 ^ k = B at *
    generalize q % 10 ^ k = s at *
    generalize r % 10 ^ k = t at *
    generalize 10 ^ k = p at *
    rcases Nat.lt_trichotomy A B with h | h | h
    · have h1 : p * (A + 1) ≤ p * B := Nat.mul_le_mul_left p h
      rw [Nat.mul_succ] at h1
      have hl : a < b := UInt8.lt_iff_toNat_lt.2 (by omega)
      rw [decide_eq_true (show q < r by omega)]
      simp [hl]
    · subst h
      have hab : a = b := UInt8.toNat_inj.1 (by omega)
      subst hab
      have e : decide (q < r) = decide (s < t) := by
        by_cases hst : s < t
        · rw [decide_eq_true hst, decide_eq_true (by omega)]
        · rw [decide_eq_false hst, decide_eq_false (by omega)]
      rw [e]
      simp
    · have h1 : p * (B + 1) ≤ p * A := Nat.mul_le_mul_left p h
      rw [Nat.mul_succ] at h1
      have hl : ¬ a < b := fun x => by have := UInt8.lt_iff_toNat_lt.1 x; omega
      have hne : a ≠ b := fun x => by subst x; omega
      rw [decide_eq_false (show ¬ q < r by omega)]
      simp [hl, hne]
theorem eq_digits (k q r : Nat) (hq : q < 10 ^ k) (hr : r < 10 ^ k) : (rights k (digF q) == rights k (digF r)) = decide (q = r) := by
  by_cases h : q = r
  · subst h; simp
  · rw [decide_eq_false h, beq_eq_false_iff_ne]
    intro e
    have h1 := less_digits k q r hq hr
    have h2 := less_digits k r q hr hq
    have h3 := less_digits k q q hq hq
    rw [e] at h1 h2 h3
    rw [h3] at h1 h2
    simp at h1 h2
    omega
theorem fixed_zero {n width : Int} (h : (fixed n width).2 = 0) : ∃ q k : Nat, n = (q : Int) ∧ width = (k : Int) ∧ q < 10 ^ k ∧ (fixed n width).1 = rights k (digF q) := by
  by_cases ha : width < 1 ∨ 20 < width ∨ n < 0
  · rw [fixed_arg ha] at h; simp at h
  · obtain ⟨q, rfl⟩ := Int.eq_ofNat_of_zero_le (show 0 ≤ n by omega)
    obtain ⟨k, rfl⟩ := Int.eq_ofNat_of_zero_le (show 0 ≤ width by omega)
    rcases Nat.lt_or_ge q (10 ^ k) with hl | hl
    · exact ⟨q, k, rfl, rfl, hl, by rw [fixed_ok (by omega) (by omega) hl]⟩
    · rw [fixed_long (by omega) (by omega) hl] at h; simp at h
theorem order_facts {n m width : Int} (h1 : (fixed n width).2 = 0) (h2 : (fixed m width).2 = 0) :
    Op.bytesLess (fixed n width).1 (fixed m width).1 = decide (n < m) ∧ ((fixed n width).1 == (fixed m width).1) = (n == m) ∧ ((fixed n width).1.length : Int) = width ∧ ((fixed m width).1.length : Int) = width := by
  obtain ⟨q, k, rfl, rfl, hq, e1⟩ := fixed_zero h1
  obtain ⟨r, k', rfl, hk, hr, e2⟩ := fixed_zero h2
  obtain rfl : k = k' := by omega
  rw [e1, e2, less_digits k q r hq hr, eq_digits k q r hq hr, rights_length, rights_length]
  refine ⟨?_, ?_, rfl, rfl⟩
  · by_cases h : q < r
    · rw [decide_eq_true h, decide_eq_true (by omega)]
    · rw [decide_eq_false h, decide_eq_false (by omega)]
  · by_cases h : q = r
    · rw [decide_eq_true h, h]; simp
    · rw [decide_eq_false h]; symm; rw [beq_eq_false_iff_ne]; omega
end Oct
end Go.Proofs.YtakgmpebgaiinabDoor
