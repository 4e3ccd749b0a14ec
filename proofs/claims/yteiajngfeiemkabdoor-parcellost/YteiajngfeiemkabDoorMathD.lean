/-
  Mathematics of layer 1: digits, written and read.
-/
import Derived.Test.YteiajngfeiemkabDoorMathA
import Derived.Lib.ItoaMem
namespace Go.Proofs.YteiajngfeiemkabDoor
namespace Oct
theorem all_of_fin {p : UInt8 → Prop} (h : ∀ n : Fin 256, p (UInt8.ofNat n.val)) (c : UInt8) : p c := by
  have := h ⟨c.toNat, c.toNat_lt⟩
  rwa [show UInt8.ofNat c.toNat = c from UInt8.ofNat_toNat] at this

/-! ### Digits -/
theorem pow_le_of_digits (n : Nat) : ∀ width, width < Lib.nDigits n → 1 ≤ width → 10 ^ width ≤ n := by
  induction n using Nat.strongRecOn with
  | ind n ih =>
    intro width h h1
    by_cases h10 : n < 10
    · rw [Lib.nDigits_small h10] at h; omega
    · rw [Lib.nDigits_big h10] at h
      by_cases hw : width = 1
      · subst hw; omega
      · have := ih (n / 10) (by omega) (width - 1) (by omega) (by omega)
        have e : (10 : Nat) ^ width = 10 ^ (width - 1) * 10 := by rw [← Nat.pow_succ]; congr 1; omega
        rw [e]; omega

theorem dec_big {n : Nat} (h : ¬ n < 10) : Lib.decDigits n = Lib.decDigits (n / 10) ++ [UInt8.ofNat (48 + n % 10)] := by
  rw [Lib.decDigits, dif_neg h]
theorem dec_small {n : Nat} (h : n < 10) : Lib.decDigits n = [UInt8.ofNat (48 + n)] := by rw [Lib.decDigits, dif_pos h]
theorem dig_toNat (d : Nat) (h : d < 10) : (UInt8.ofNat (48 + d)).toNat = 48 + d := by rw [UInt8.toNat_ofNat']; omega
theorem dec_facts (n : Nat) : numTo (Lib.decDigits n) = n ∧ (Lib.decDigits n).all isDig = true ∧ Lib.decDigits n ≠ [] ∧ (1 ≤ n → (Lib.decDigits n).headD 0 ≠ 48) := by
  induction n using Nat.strongRecOn with
  | ind n ih =>
    by_cases h : n < 10
    · rw [dec_small h]
      have e := dig_toNat n h
      refine ⟨?_, ?_, by simp, ?_⟩
      · simp [numTo]; omega
      · simp only [List.all_cons, List.all_nil, Bool.and_true]; exact isDig_true (by rw [e]; omega) (by rw [e]; omega)
      · intro h1 h2
        have : (UInt8.ofNat (48 + n)).toNat = 48 := by simp at h2; rw [show UInt8.ofNat (48 + n) = 48 by simpa using h2]; rfl
        omega
    · obtain ⟨i1, i2, i3, i4⟩ := ih (n / 10) (by omega)
      rw [dec_big h]
      have e := dig_toNat (n % 10) (by omega)
      refine ⟨?_, ?_, by simp, ?_⟩
      · rw [numTo_snoc, i1, e]; omega
      · rw [List.all_append, i2]; simp only [List.all_cons, List.all_nil, Bool.and_true, Bool.true_and]; exact isDig_true (by rw [e]; omega) (by rw [e]; omega)
      · intro _
        have h1 := i4 (by omega)
        cases hd : Lib.decDigits (n / 10) with
        | nil => exact absurd hd i3
        | cons a r => rw [hd] at h1; simpa using h1
theorem number_itoa {n : Nat} (h : n ≤ 1099511627776) : number (Lib.itoa (n : Int)) = (n, 0) := by
  rw [Lib.itoa_nonneg]
  obtain ⟨h1, h2, h3, h4⟩ := dec_facts n
  have hl : (Lib.decDigits n).length ≤ 13 := by
    rw [Lib.decDigits_length]
    rcases Nat.lt_or_ge 13 (Lib.nDigits n) with hx | hx
    · have := pow_le_of_digits n 13 hx (by omega)
      have e : (10 : Nat) ^ 13 = 10000000000000 := by decide
      omega
    · exact hx
  have hz : ¬ (1 < (Lib.decDigits n).length ∧ (Lib.decDigits n).headD 0 = 48) := by
    rintro ⟨hx, hy⟩
    by_cases hn : 1 ≤ n
    · exact h4 hn hy
    · have : n = 0 := by omega
      subst this
      rw [dec_small (by decide)] at hx
      simp at hx
  rw [number_else (areDig_mk h2 (List.length_pos_iff.2 h3)) hz, if_neg (by omega), h1, if_neg (by omega)]
theorem number_neg {n : Int} (h : n < 0) : number (Lib.itoa n) = (0, 3) := by
  apply number_form
  unfold Lib.itoa areDig
  rw [if_pos h]
  rw [List.all_cons]
  have : isDig 45 = false := by decide
  rw [this]; rfl
theorem numTo_ge {a : UInt8} {r : List UInt8} (hd : (a :: r).all isDig = true) (h : a ≠ 48) : 1 ≤ numTo (a :: r) := by
  have h1 : isDig a = true := by rw [List.all_cons, Bool.and_eq_true] at hd; exact hd.1
  have h2 := isDig_le h1
  have h3 : a.toNat ≠ 48 := fun e => h (UInt8.toNat_inj.1 (by show a.toNat = 48; exact e))
  have key : ∀ (l : List UInt8) (x : Nat), 1 ≤ x → 1 ≤ l.foldl (fun n c => n * 10 + (c.toNat - 48)) x := by
    intro l
    induction l with
    | nil => intro x hx; exact hx
    | cons c t ih => intro x hx; rw [List.foldl_cons]; exact ih _ (by omega)
  unfold numTo
  rw [List.foldl_cons]
  exact key r _ (by omega)
theorem dec_back : ∀ (r : List UInt8), r ≠ [] → r.reverse.all isDig = true → (1 < r.length → r.reverse.headD 0 ≠ 48) → Lib.decDigits (numTo r.reverse) = r.reverse := by
  intro r
  induction r with
  | nil => intro h; exact absurd rfl h
  | cons c t ih =>
    intro _ hall hz
    rw [List.reverse_cons] at hall hz ⊢
    rw [List.all_append, Bool.and_eq_true] at hall
    have hc := isDig_le (c := c) (by simpa using hall.2)
    have ec : UInt8.ofNat (48 + (c.toNat - 48)) = c := by
      rw [show 48 + (c.toNat - 48) = c.toNat by omega]; exact UInt8.ofNat_toNat
    rw [numTo_snoc]
    by_cases ht : t = []
    · subst ht
      simp only [List.reverse_nil, numTo_nil, List.nil_append, Nat.zero_mul, Nat.zero_add]
      rw [dec_small (by omega), ec]
    · have hz' : t.reverse.headD 0 ≠ 48 := by
        have := hz (by rw [List.length_cons]; have := List.length_pos_iff.2 ht; omega)
        cases hr : t.reverse with
        | nil => exact absurd (List.reverse_eq_nil_iff.1 hr) ht
        | cons a u => rw [hr] at this; simpa using this
      have h1 : 1 ≤ numTo t.reverse := by
        cases hr : t.reverse with
        | nil => exact absurd (List.reverse_eq_nil_iff.1 hr) ht
        | cons a u => rw [hr] at hz' hall; exact numTo_ge hall.1 (by simpa using hz')
      rw [dec_big (by omega)]
      have e1 : (numTo t.reverse * 10 + (c.toNat - 48)) / 10 = numTo t.reverse := by omega
      have e2 : (numTo t.reverse * 10 + (c.toNat - 48)) % 10 = c.toNat - 48 := by omega
      rw [e1, e2, ih ht hall.1 (fun _ => hz'), ec]
theorem number_back {l : List UInt8} (h : (number l).2 = 0) : Lib.itoa ((number l).1 : Int) = l ∧ (number l).1 ≤ 1099511627776 := by
  by_cases hf : areDig l = false ∨ (1 < l.length ∧ l.headD 0 = 48)
  · unfold number at h; rw [if_pos hf] at h; simp at h
  · have hd : areDig l = true := by
      cases hx : areDig l with
      | true => rfl
      | false => exact absurd (Or.inl hx) hf
    have hz : ¬ (1 < l.length ∧ l.headD 0 = 48) := fun x => hf (Or.inr x)
    have e := number_else hd hz
    rw [e] at h ⊢
    split at h
    · simp at h
    · split at h
      · simp at h
      · rename_i h13 hbig
        rw [if_neg h13, if_neg hbig]
        refine ⟨?_, by show numTo l ≤ _; omega⟩
        rw [Lib.itoa_nonneg]
        have := dec_back l.reverse (by intro e0; have := areDig_pos hd; rw [List.reverse_eq_nil_iff.1 e0] at this; simp at this) (by rw [List.reverse_reverse]; exact areDig_all hd)
          (by intro hl; rw [List.reverse_reverse]; intro hy; exact hz ⟨by simpa using hl, hy⟩)
        rw [List.reverse_reverse] at this
        exact this

end Oct
end Go.Proofs.YteiajngfeiemkabDoor
