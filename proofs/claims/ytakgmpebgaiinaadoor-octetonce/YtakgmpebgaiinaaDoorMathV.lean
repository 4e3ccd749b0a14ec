/-
  Plain mathematics of layer 1 (octet), sixth part: what is written is read as it was, and what is read is written as it was.
-/
import Derived.Test.YtakgmpebgaiinaaDoorMathU
namespace Go.Proofs.YtakgmpebgaiinaaDoor
namespace Oct
theorem all_of_fin {p : UInt8 → Prop} (h : ∀ n : Fin 256, p (UInt8.ofNat n.val)) (c : UInt8) : p c := by
  have := h ⟨c.toNat, c.toNat_lt⟩
  rwa [show UInt8.ofNat c.toNat = c from UInt8.ofNat_toNat] at this

/-! ### A quoted text -/
theorem pair_hex_fin : ∀ n : Fin 256, plain (UInt8.ofNat n.val) = true ∨ pair (hexc ((UInt8.ofNat n.val).toNat / 16)) (hexc ((UInt8.ofNat n.val).toNat % 16)) = some (UInt8.ofNat n.val, 3) := by decide +kernel
theorem pair_hex (c : UInt8) (h : plain c = false) : pair (hexc (c.toNat / 16)) (hexc (c.toNat % 16)) = some (c, 3) := by
  rcases all_of_fin (p := fun c => plain c = true ∨ pair (hexc (c.toNat / 16)) (hexc (c.toNat % 16)) = some (c, 3)) pair_hex_fin c with h' | h'
  · rw [h] at h'; cases h'
  · exact h'
theorem plain_bs : plain 92 = false := by decide
theorem unq1_q1 (c : UInt8) (r : List UInt8) : unq1 (q1 c ++ r) = some (c, (q1 c).length) := by
  cases h : plain c with
  | true => rw [q1_yes h]; simp [unq1, h]
  | false =>
    rw [q1_no h]
    have h2 := pair_hex c h
    simp [unq1, plain_bs]
    exact h2
theorem quote_cons (c : UInt8) (r : List UInt8) : quote (c :: r) = q1 c ++ quote r := rfl
theorem unquote_quote : ∀ l : List UInt8, unquote (quote l) = some l
  | [] => rfl
  | c :: r => by
    rw [quote_cons, unquote_step (unq1_q1 c (quote r))]
    rw [List.drop_left]
    rw [unquote_quote r]
    rfl
theorem q1_seen_fin : ∀ n : Fin 256, ∀ b ∈ q1 (UInt8.ofNat n.val), 33 ≤ b.toNat ∧ b.toNat ≤ 126 := by decide +kernel
theorem q1_seen (c : UInt8) : ∀ b ∈ q1 c, 33 ≤ b.toNat ∧ b.toNat ≤ 126 := all_of_fin (p := fun c => ∀ b ∈ q1 c, 33 ≤ b.toNat ∧ b.toNat ≤ 126) q1_seen_fin c
theorem quote_seen (l : List UInt8) (b : UInt8) (h : b ∈ quote l) : 33 ≤ b.toNat ∧ b.toNat ≤ 126 := by
  obtain ⟨c, _, hc⟩ := List.mem_flatMap.1 h
  exact q1_seen c b hc
theorem hexc_digit_fin : ∀ n : Fin 256, digit ((UInt8.ofNat n.val).toNat : Int) < 0 ∨ hexc (digit ((UInt8.ofNat n.val).toNat : Int)).toNat = UInt8.ofNat n.val := by decide +kernel
theorem hexc_digit (a : UInt8) (h : ¬ digit (a.toNat : Int) < 0) : hexc (digit (a.toNat : Int)).toNat = a := by
  rcases all_of_fin (p := fun a => digit (a.toNat : Int) < 0 ∨ hexc (digit (a.toNat : Int)).toNat = a) hexc_digit_fin a with h' | h'
  · exact absurd h' h
  · exact h'
theorem pair_q1 {a b c : UInt8} {n : Nat} (h : pair a b = some (c, n)) : q1 c = [92, a, b] ∧ n = 3 := by
  unfold pair at h
  split at h
  · cases h
  · rename_i hd
    split at h
    · cases h
    · rename_i hp
      have hda : ¬ digit (a.toNat : Int) < 0 := fun x => hd (Or.inl x)
      have hdb : ¬ digit (b.toNat : Int) < 0 := fun x => hd (Or.inr x)
      have b1 := digit_bd (a.toNat : Int)
      have b2 := digit_bd (b.toNat : Int)
      have ea := hexc_digit a hda
      have eb := hexc_digit b hdb
      simp only [Option.some.injEq, Prod.mk.injEq] at h
      obtain ⟨hc, hn⟩ := h
      have hcn : c.toNat = (16 * digit (a.toNat : Int) + digit (b.toNat : Int)).toNat := by
        rw [← hc, UInt8.toNat_ofNat']; omega
      refine ⟨?_, hn.symm⟩
      have hpc : plain c = false := by
        unfold plain
        rw [hcn, Int.toNat_of_nonneg (by omega)]
        simpa using hp
      rw [q1_no hpc, hcn]
      have e1 : (16 * digit (a.toNat : Int) + digit (b.toNat : Int)).toNat / 16 = (digit (a.toNat : Int)).toNat := by omega
      have e2 : (16 * digit (a.toNat : Int) + digit (b.toNat : Int)).toNat % 16 = (digit (b.toNat : Int)).toNat := by omega
      rw [e1, e2, ea, eb]
theorem unq1_back {l : List UInt8} {c : UInt8} {n : Nat} (h : unq1 l = some (c, n)) : q1 c ++ l.drop n = l := by
  match l, h with
  | [], h => cases h
  | d :: r, h =>
    by_cases hp : plain d = true
    · simp [unq1, hp] at h; obtain ⟨rfl, rfl⟩ := h; rw [q1_yes hp]; rfl
    · by_cases h92 : d = 92
      · match r, h with
        | [], h => simp [unq1, hp] at h
        | [e], h => simp [unq1, hp] at h
        | a :: b :: t, h =>
          simp only [unq1, hp, if_pos h92] at h
          simp at h
          obtain ⟨h1, rfl⟩ := pair_q1 h
          rw [h1, h92]; rfl
      · simp [unq1, hp, h92] at h
theorem quote_unquote_len : ∀ (m : Nat) (l t : List UInt8), l.length ≤ m → unquote l = some t → quote t = l := by
  intro m
  induction m with
  | zero =>
    intro l t hl h
    have : l = [] := List.eq_nil_of_length_eq_zero (by omega)
    subst this
    simp [unquote] at h
    subst h; rfl
  | succ m ih =>
    intro l t hl h
    by_cases h0 : l = []
    · subst h0; simp [unquote] at h; subst h; rfl
    · cases hq : unq1 l with
      | none => rw [unquote_none h0 hq] at h; cases h
      | some x =>
        obtain ⟨c, n⟩ := x
        rw [unquote_step hq] at h
        obtain ⟨u, hu, rfl⟩ := Option.map_eq_some_iff.1 h
        have hn := unq1_pos hq
        have := ih (l.drop n) u (by rw [List.length_drop]; omega) hu
        rw [quote_cons, this]
        exact unq1_back hq
theorem quote_unquote {l t : List UInt8} (h : unquote l = some t) : quote t = l := quote_unquote_len l.length l t (Nat.le_refl _) h

theorem quote_ge (l : List UInt8) : l.length ≤ (quote l).length := by
  induction l with
  | nil => simp
  | cons a r ih =>
    have h : 1 ≤ (q1 a).length := by unfold q1; split <;> simp
    rw [quote_cons, List.length_append, List.length_cons]; omega

/-! ### Digits -/
theorem dec_big {n : Nat} (h : ¬ n < 10) : Lib.decDigits n = Lib.decDigits (n / 10) ++ [UInt8.ofNat (48 + n % 10)] := by
  rw [Lib.decDigits, dif_neg h]
theorem dec_small {n : Nat} (h : n < 10) : Lib.decDigits n = [UInt8.ofNat (48 + n)] := by rw [Lib.decDigits, dif_pos h]
theorem dig_toNat (d : Nat) (h : d < 10) : (UInt8.ofNat (48 + d)).toNat = 48 + d := by rw [UInt8.toNat_ofNat']; omega
theorem dec_facts (n : Nat) : numTo (Lib.decDigits n) = n ∧ (Lib.decDigits n).all isDig = true ∧ Lib.decDigits n ≠ [] ∧ (1 ≤ n → (Lib.decDigits n).headD 0 ≠ 48) := by
  induction n using Nat.strongRecOn with
  | ind n ih =>
    by_cases h : n < 10
    · rw [dec_small h]
      have e := dig_toNat n h
      refine ⟨?_, ?_, by simp, ?_⟩
      · simp [numTo]; omega
      · simp only [List.all_cons, List.all_nil, Bool.and_true]; exact isDig_true (by rw [e]; omega) (by rw [e]; omega)
      · intro h1 h2
        have : (UInt8.ofNat (48 + n)).toNat = 48 := by simp at h2; rw [show UInt8.ofNat (48 + n) = 48 by simpa using h2]; rfl
        omega
    · obtain ⟨i1, i2, i3, i4⟩ := ih (n / 10) (by omega)
      rw [dec_big h]
      have e := dig_toNat (n % 10) (by omega)
      refine ⟨?_, ?_, by simp, ?_⟩
      · rw [numTo_snoc, i1, e]; omega
      · rw [List.all_append, i2]; simp only [List.all_cons, List.all_nil, Bool.and_true, Bool.true_and]; exact isDig_true (by rw [e]; omega) (by rw [e]; omega)
      · intro _
        have h1 := i4 (by omega)
        cases hd : Lib.decDigits (n / 10) with
        | nil => exact absurd hd i3
        | cons a r => rw [hd] at h1; simpa using h1
theorem number_itoa {n : Nat} (h : n ≤ 1099511627776) : number (Lib.itoa (n : Int)) = (n, 0) := by
  rw [Lib.itoa_nonneg]
  obtain ⟨h1, h2, h3, h4⟩ := dec_facts n
  have hl : (Lib.decDigits n).length ≤ 13 := by
    rw [Lib.decDigits_length]
    rcases Nat.lt_or_ge 13 (Lib.nDigits n) with hx | hx
    · have := pow_le_of_digits n 13 hx (by omega)
      have e : (10 : Nat) ^ 13 = 10000000000000 := by decide
      omega
    · exact hx
  have hz : ¬ (1 < (Lib.decDigits n).length ∧ (Lib.decDigits n).headD 0 = 48) := by
    rintro ⟨hx, hy⟩
    by_cases hn : 1 ≤ n
    · exact h4 hn hy
    · have : n = 0 := by omega
      subst this
      rw [dec_small (by decide)] at hx
      simp at hx
  rw [number_else (areDig_mk h2 (List.length_pos_iff.2 h3)) hz, if_neg (by omega), h1, if_neg (by omega)]
theorem number_neg {n : Int} (h : n < 0) : number (Lib.itoa n) = (0, 3) := by
  apply number_form
  unfold Lib.itoa areDig
  rw [if_pos h]
  rw [List.all_cons]
  have : isDig 45 = false := by decide
  rw [this]; rfl
theorem numTo_ge {a : UInt8} {r : List UInt8} (hd : (a :: r).all isDig = true) (h : a ≠ 48) : 1 ≤ numTo (a :: r) := by
  have h1 : isDig a = true := by rw [List.all_cons, Bool.and_eq_true] at hd; exact hd.1
  have h2 := isDig_le h1
  have h3 : a.toNat ≠ 48 := fun e => h (UInt8.toNat_inj.1 (by show a.toNat = 48; exact e))
  have key : ∀ (l : List UInt8) (x : Nat), 1 ≤ x → 1 ≤ l.foldl (fun n c => n * 10 + (c.toNat - 48)) x := by
    intro l
    induction l with
    | nil => intro x hx; exact hx
    | cons c t ih => intro x hx; rw [List.foldl_cons]; exact ih _ (by omega)
  unfold numTo
  rw [List.foldl_cons]
  exact key r _ (by omega)
theorem dec_back : ∀ (r : List UInt8), r ≠ [] → r.reverse.all isDig = true → (1 < r.length → r.reverse.headD 0 ≠ 48) → Lib.decDigits (numTo r.reverse) = r.reverse := by
  intro r
  induction r with
  | nil => intro h; exact absurd rfl h
  | cons c t ih =>
    intro _ hall hz
    rw [List.reverse_cons] at hall hz ⊢
    rw [List.all_append, Bool.and_eq_true] at hall
    have hc := isDig_le (c := c) (by simpa using hall.2)
    have ec : UInt8.ofNat (48 + (c.toNat - 48)) = c := by
      rw [show 48 + (c.toNat - 48) = c.toNat by omega]; exact UInt8.ofNat_toNat
    rw [numTo_snoc]
    by_cases ht : t = []
    · subst ht
      simp only [List.reverse_nil, numTo_nil, List.nil_append, Nat.zero_mul, Nat.zero_add]
      rw [dec_small (by omega), ec]
    · have hz' : t.reverse.headD 0 ≠ 48 := by
        have := hz (by rw [List.length_cons]; have := List.length_pos_iff.2 ht; omega)
        cases hr : t.reverse with
        | nil => exact absurd (List.reverse_eq_nil_iff.1 hr) ht
        | cons a u => rw [hr] at this; simpa using this
      have h1 : 1 ≤ numTo t.reverse := by
        cases hr : t.reverse with
        | nil => exact absurd (List.reverse_eq_nil_iff.1 hr) ht
        | cons a u => rw [hr] at hz' hall; exact numTo_ge hall.1 (by simpa using hz')
      rw [dec_big (by omega)]
      have e1 : (numTo t.reverse * 10 + (c.toNat - 48)) / 10 = numTo t.reverse := by omega
      have e2 : (numTo t.reverse * 10 + (c.toNat - 48)) % 10 = c.toNat - 48 := by omega
      rw [e1, e2, ih ht hall.1 (fun _ => hz'), ec]
theorem number_back {l : List UInt8} (h : (number l).2 = 0) : Lib.itoa ((number l).1 : Int) = l ∧ (number l).1 ≤ 1099511627776 := by
  by_cases hf : areDig l = false ∨ (1 < l.length ∧ l.headD 0 = 48)
  · unfold number at h; rw [if_pos hf] at h; simp at h
  · have hd : areDig l = true := by
      cases hx : areDig l with
      | true => rfl
      | false => exact absurd (Or.inl hx) hf
    have hz : ¬ (1 < l.length ∧ l.headD 0 = 48) := fun x => hf (Or.inr x)
    have e := number_else hd hz
    rw [e] at h ⊢
    split at h
    · simp at h
    · split at h
      · simp at h
      · rename_i h13 hbig
        rw [if_neg h13, if_neg hbig]
        refine ⟨?_, by show numTo l ≤ _; omega⟩
        rw [Lib.itoa_nonneg]
        have := dec_back l.reverse (by intro e0; have := areDig_pos hd; rw [List.reverse_eq_nil_iff.1 e0] at this; simp at this) (by rw [List.reverse_reverse]; exact areDig_all hd)
          (by intro hl; rw [List.reverse_reverse]; intro hy; exact hz ⟨by simpa using hl, hy⟩)
        rw [List.reverse_reverse] at this
        exact this

/-! ### Bytes as numbers -/
theorem be_put (q m : Nat) (h1 : 1 ≤ m) (h4 : m ≤ 4) (h : q < 256 ^ m) : be (rights m (putF q)) = q := by
  have hm : m = 1 ∨ m = 2 ∨ m = 3 ∨ m = 4 := by omega
  rcases hm with rfl | rfl | rfl | rfl
  · have hq : q < 256 := h
    simp [be, rights, putF, List.range, List.range.loop, UInt8.toNat_ofNat']; omega
  · have hq : q < 65536 := h
    simp [be, rights, putF, List.range, List.range.loop, UInt8.toNat_ofNat']; omega
  · have hq : q < 16777216 := h
    simp [be, rights, putF, List.range, List.range.loop, UInt8.toNat_ofNat']; omega
  · have hq : q < 4294967296 := h
    simp [be, rights, putF, List.range, List.range.loop, UInt8.toNat_ofNat']; omega
theorem get_put {n size : Int} (s : List UInt8) (h : (put n size).2 = 0) :
    get (s ++ (put n size).1 ++ s) (s.length : Int) size = (n.toNat, 0) ∧ ((put n size).1.length : Int) = size ∧ 0 ≤ n := by
  by_cases ha : size < 1 ∨ 4 < size
  · rw [put_arg ha] at h; simp at h
  · by_cases hb : n < 0 ∨ (256 : Int) ^ size.toNat ≤ n
    · rw [put_long (by omega) (by omega) hb] at h; simp at h
    · have e := put_ok (n := n) (size := size) (by omega) (by omega) (by omega) (by omega)
      obtain ⟨q, rfl⟩ := Int.eq_ofNat_of_zero_le (show 0 ≤ n by omega)
      obtain ⟨m, rfl⟩ := Int.eq_ofNat_of_zero_le (show 0 ≤ size by omega)
      rw [e, Int.toNat_natCast, Int.toNat_natCast]
      have hm1 : 1 ≤ m := by omega
      have hm4 : m ≤ 4 := by omega
      have hq : q < 256 ^ m := by
        have h2 : ¬ (256 : Int) ^ m ≤ (q : Int) := fun x => hb (Or.inr (by rw [Int.toNat_natCast]; exact x))
        have h3 : ((256 ^ m : Nat) : Int) = (256 : Int) ^ m := by rw [Int.natCast_pow]; rfl
        omega
      have hl := rights_length m (putF q)
      refine ⟨?_, by simp [hl], by omega⟩
      rw [get_ok (by omega) (by omega) (by omega) (by simp [hl]; omega), Int.toNat_natCast, Int.toNat_natCast]
      rw [List.append_assoc, List.drop_left, List.take_left' hl, be_put q m hm1 hm4 hq]
end Oct
end Go.Proofs.YtakgmpebgaiinaaDoor
