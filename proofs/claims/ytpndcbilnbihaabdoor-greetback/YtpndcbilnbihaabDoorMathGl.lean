/-
  Layer 9: letters of protocols, in plain mathematics; runes of a string. No program in it.
-/
import Derived.Test.YtpndcbilnbihaabDoorMathGr
import Derived.Lib.DecodeN
import Derived.Lib.Bytealg
namespace Go.Proofs.YtpndcbilnbihaabDoor
namespace Gr
/-- the place of a letter, or -1 -/
def ix (R : Nat) : Int := if R = 103 then 0 else if R = 71 then 1 else if R = 105 then 2 else if R = 101 then 3 else -1
theorem ix_low : ∀ R, R < 128 → Lib.indexByte [103, 71, 105, 101] R.toUInt8 = ix R := by decide
theorem ix_high {R : Nat} (h : 128 ≤ R) : ix R = -1 := by unfold ix; rw [if_neg (by omega), if_neg (by omega), if_neg (by omega), if_neg (by omega)]
theorem ix_known (c : UInt8) (h : ix c.toNat = -1) : known c = false := by
  cases e : known c with
  | false => rfl
  | true =>
    simp only [known, Bool.or_eq_true, beq_iff_eq] at e
    rcases e with ((rfl | rfl) | rfl) | rfl <;> exact absurd h (by decide)
theorem ix_four {c : UInt8} (h : ¬ ix c.toNat = -1) : c = 103 ∨ c = 71 ∨ c = 105 ∨ c = 101 := by
  unfold ix at h
  by_cases h0 : c.toNat = 103
  · exact Or.inl (UInt8.toNat_inj.1 h0)
  · by_cases h1 : c.toNat = 71
    · exact Or.inr (Or.inl (UInt8.toNat_inj.1 h1))
    · by_cases h2 : c.toNat = 105
      · exact Or.inr (Or.inr (Or.inl (UInt8.toNat_inj.1 h2)))
      · by_cases h3 : c.toNat = 101
        · exact Or.inr (Or.inr (Or.inr (UInt8.toNat_inj.1 h3)))
        · rw [if_neg h0, if_neg h1, if_neg h2, if_neg h3] at h; exact absurd rfl h

theorem get_at (s : ByteArray) (j : Nat) (h : j < s.size) : s.get! j = s[j] := by
  simp [ByteArray.get!, getElem!_pos, h]
  rfl
/-- a rune that does not begin with an ASCII byte has none -/
theorem decode_run (s : ByteArray) (pos : Nat) (h : pos < s.size) (ha : 128 ≤ s[pos].toNat) (j : Nat) (h1 : pos ≤ j) (h2 : j < pos + (Utf8.decode s pos).2) (h3 : j < s.size) : 128 ≤ s[j].toNat := by
  rw [← get_at s pos h] at ha
  rw [← get_at s j h3]
  rw [Lib.decode_at] at h2
  generalize s.size - pos = m at h2
  obtain ⟨t, rfl⟩ : ∃ t, j = pos + t := ⟨j - pos, by omega⟩
  clear h1 h3
  have ht : t < (Lib.decodeN m (s.get! pos).toNat (s.get! (pos + 1)).toNat (s.get! (pos + 2)).toNat (s.get! (pos + 3)).toNat).2 := by omega
  clear h2
  have key : ∀ b0 b1 b2 b3 : Nat, 128 ≤ b0 → t < (Lib.decodeN m b0 b1 b2 b3).2 → t = 0 ∨ (t = 1 ∧ 128 ≤ b1) ∨ (t = 2 ∧ 128 ≤ b2) ∨ (t = 3 ∧ 128 ≤ b3) := by
    intro b0 b1 b2 b3 hb ht
    unfold Lib.decodeN at ht
    rw [if_neg (by omega)] at ht
    split at ht
    · rename_i hc
      split at ht
      · simp only at ht
        have : t = 0 ∨ t = 1 := by omega
        rcases this with h | h
        · exact Or.inl h
        · exact Or.inr (Or.inl ⟨h, by omega⟩)
      · simp only at ht; omega
    · split at ht
      · rename_i hc
        split at ht
        · simp only at ht
          have : t = 0 ∨ t = 1 ∨ t = 2 := by omega
          rcases this with h | h | h
          · exact Or.inl h
          · exact Or.inr (Or.inl ⟨h, by omega⟩)
          · exact Or.inr (Or.inr (Or.inl ⟨h, by omega⟩))
        · simp only at ht; omega
      · split at ht
        · rename_i hc
          split at ht
          · simp only at ht
            have : t = 0 ∨ t = 1 ∨ t = 2 ∨ t = 3 := by omega
            rcases this with h | h | h | h
            · exact Or.inl h
            · exact Or.inr (Or.inl ⟨h, by omega⟩)
            · exact Or.inr (Or.inr (Or.inl ⟨h, by omega⟩))
            · exact Or.inr (Or.inr (Or.inr ⟨h, by omega⟩))
          · simp only at ht; omega
        · simp only at ht; omega
  rcases key _ _ _ _ ha ht with rfl | ⟨rfl, h⟩ | ⟨rfl, h⟩ | ⟨rfl, h⟩
  · exact ha
  · exact h
  · exact h
  · exact h
theorem decode_fair (s : ByteArray) (pos : Nat) : ¬ (55296 ≤ (Utf8.decode s pos).1 ∧ (Utf8.decode s pos).1 ≤ 57343) ∧ (Utf8.decode s pos).1 ≤ 1114111 := by
  rw [Lib.decode_at]
  have hb := (s.get! pos).toNat_lt
  have hb1 := (s.get! (pos + 1)).toNat_lt
  generalize (s.get! pos).toNat = b0 at *
  generalize (s.get! (pos + 1)).toNat = b1 at *
  generalize (s.get! (pos + 2)).toNat = b2
  generalize (s.get! (pos + 3)).toNat = b3
  unfold Lib.decodeN
  repeat' split
  all_goals simp only
  all_goals omega

/-! letters, each once -/
def lets (l : List UInt8) : Bool := l.all known && decide l.Nodup && !l.isEmpty
def okPre (l : List UInt8) : Bool := l.all known && decide l.Nodup
theorem lets_nil : lets [] = false := rfl
theorem split_at (s : ByteArray) (k : Nat) (h : k < s.size) : s.data.toList = s.data.toList.take k ++ s[k] :: s.data.toList.drop (k + 1) := by
  conv => lhs; rw [← List.take_append_drop k s.data.toList, drop_at s k h]
theorem lets_unknown (s : ByteArray) (k : Nat) (h : k < s.size) (hc : known s[k] = false) : lets s.data.toList = false := by
  have : s.data.toList.all known = false := by rw [List.all_eq_false]; exact ⟨s[k], Oct.mem_at s k h, by simp [hc]⟩
  unfold lets; rw [this]; rfl
theorem lets_twice (s : ByteArray) (k : Nat) (h : k < s.size) (hc : s[k] ∈ s.data.toList.take k) : lets s.data.toList = false := by
  have : ¬ s.data.toList.Nodup := by
    rw [split_at s k h, List.nodup_append]
    intro hn
    exact hn.2.2 _ hc _ (by simp) rfl
  unfold lets; rw [decide_eq_false this]; simp
theorem pre_snoc (s : ByteArray) (k : Nat) (h : k < s.size) (hp : okPre (s.data.toList.take k) = true) (hk : known s[k] = true) (hn : ¬ s[k] ∈ s.data.toList.take k) : okPre (s.data.toList.take (k + 1)) = true := by
  unfold okPre at *
  rw [Bool.and_eq_true, decide_eq_true_eq] at *
  rw [Oct.take_snoc s k h]
  refine ⟨by rw [List.all_append, hp.1]; simp [hk], ?_⟩
  rw [List.nodup_append]
  refine ⟨hp.2, by simp, ?_⟩
  intro a ha b hb
  simp at hb
  subst hb
  rintro rfl
  exact hn ha
theorem lets_all (s : ByteArray) (hp : okPre s.data.toList = true) (h0 : ¬ s = ⟨#[]⟩) : lets s.data.toList = true := by
  unfold lets okPre at *
  rw [hp]
  cases e : s.data.toList with
  | nil => exact absurd (ByteArray.ext (by simpa using e)) h0
  | cons a b => rfl
theorem has_snoc (s : ByteArray) (k : Nat) (h : k < s.size) (x : UInt8) : (s.data.toList.take (k + 1)).contains x = ((s.data.toList.take k).contains x || x == s[k]) := by
  rw [Oct.take_snoc s k h, List.contains_append, List.contains_cons, List.contains_nil, Bool.or_false]
theorem has_skip (s : ByteArray) (x : UInt8) (hx : x.toNat < 128) (k : Nat) : ∀ (n : Nat), (∀ j, k ≤ j → j < k + n → (h : j < s.size) → 128 ≤ s[j].toNat) → (s.data.toList.take (k + n)).contains x = (s.data.toList.take k).contains x
  | 0, _ => rfl
  | n + 1, hall => by
    have ih := has_skip s x hx k n (fun j a b c => hall j a (by omega) c)
    by_cases hlt : k + n < s.size
    · have hh := hall (k + n) (by omega) (by omega) hlt
      rw [← Nat.add_assoc, has_snoc s (k + n) hlt, ih, show (x == s[k + n]) = false by rw [beq_eq_false_iff_ne]; rintro e; rw [← e] at hh; omega, Bool.or_false]
    · rw [← ih, List.take_of_length_le (by rw [Array.length_toList]; exact (by omega : s.size ≤ k + (n + 1))), List.take_of_length_le (by rw [Array.length_toList]; exact (by omega : s.size ≤ k + n))]
def pick (offer : List UInt8) (c : UInt8) : Bool := known c && offer.contains c
theorem find_skip (s : ByteArray) (offer : List UInt8) (k : Nat) : ∀ (n : Nat), (∀ j, k ≤ j → j < k + n → (h : j < s.size) → 128 ≤ s[j].toNat) → (s.data.toList.drop (k + n)).find? (pick offer) = (s.data.toList.drop k).find? (pick offer)
  | 0, _ => rfl
  | n + 1, hall => by
    have ih := find_skip s offer k n (fun j a b c => hall j a (by omega) c)
    rw [← ih]
    by_cases hlt : k + n < s.size
    · have hh := hall (k + n) (by omega) (by omega) hlt
      have hp : pick offer s[k + n] = false := by unfold pick; rw [known_high hh]; rfl
      rw [drop_at s (k + n) hlt, List.find?_cons, hp, Nat.add_assoc]
    · rw [drop_end s (k + (n + 1)) (by omega), drop_end s (k + n) hlt]
def chosen (o : Option UInt8) : Int := match o with
  | some c => (c.toNat : Int)
  | none => 0
theorem choose_eq (offer hav : List UInt8) : choose offer hav = chosen (hav.find? (pick offer)) := rfl
end Gr
end Go.Proofs.YtpndcbilnbihaabDoor
