/-
  Walks of layer 11: Read of whatever bytes.
-/
import Derived.Test.YtpgjdobgfhhbiaaGw9
import Derived.Test.YtpgjdobgfhhbiaaGwA
import Derived.Test.YtpgjdobgfhhbiaaGwB
import Derived.Test.YtpgjdobgfhhbiaaGwC
import Derived.Test.YtpgjdobgfhhbiaaGwD
import Derived.Test.YtpgjdobgfhhbiaaGwE
namespace Go.Proofs.Ytpgjdobgfhhbiaa
open Go.RowKit
namespace Gf
theorem okCode_body {t k : Nat} (h : okCode t k = true) (h0 : ¬ t = 0) : (t = 2 ∨ t = 3) ∧ 1 ≤ k ∧ k ≤ 8 := by
  unfold okCode at h
  rw [if_neg h0] at h
  split at h
  · rename_i ht
    exact ⟨ht, by simpa using h⟩
  · cases h
theorem head_bad {k l h c x : Nat} {r : List UInt8} (hx : ¬ (k ^^^ l ^^^ h ^^^ c) = x) : readHead k l h c x r = .error 3 := by
  unfold readHead; rw [if_pos (Or.inl hx)]
theorem head_code {k l h c x : Nat} {r : List UInt8} (hc : okCode (c / 64) k = false) : readHead k l h c x r = .error 3 := by
  unfold readHead; rw [if_pos (Or.inr hc)]
theorem head_ok {k l h c x : Nat} {r : List UInt8} (hx : (k ^^^ l ^^^ h ^^^ c) = x) (hc : okCode (c / 64) k = true) : readHead k l h c x r = if c / 64 = 0 then (if ((l + 256 * h : Nat) : Int) ≠ Chk.control c then .error 4 else .ok (⟨0, (c / 8 % 8 : Nat), (c % 8 : Nat), 0, []⟩, 6)) else readBody c k (l + 256 * h) r := by
  unfold readHead; rw [if_neg (by rw [hc]; simp [hx])]
theorem drop_extract (s : ByteArray) (h6 : 6 ≤ s.size) : (s.extract 6 s.size).data.toList = s.data.toList.drop 6 := by
  rw [extract_eq s 6 s.size h6 (Nat.le_refl _), List.take_of_length_le]
  rw [List.length_drop, len_eq]; exact Nat.le_refl _
end Gf
theorem hold_of (w : World) (k m c T HI LO : Nat) :
    ∀ W', Below ((((w.alloc (.cells #[.int .i64 0, .int .i64 0, .int .i64 0, .int .i64 0, .string ⟨#[]⟩] 23)).alloc (.cells #[.int .i64 k, .int .i64 m, .int .i64 c] 45)).drew).alloc (.cells #[.int .i64 T, .int .i64 HI, .int .i64 LO, .int .i64 0, .string ⟨#[]⟩] 23)).drew.heap.size ((((w.alloc (.cells #[.int .i64 0, .int .i64 0, .int .i64 0, .int .i64 0, .string ⟨#[]⟩] 23)).alloc (.cells #[.int .i64 k, .int .i64 m, .int .i64 c] 45)).drew).alloc (.cells #[.int .i64 T, .int .i64 HI, .int .i64 LO, .int .i64 0, .string ⟨#[]⟩] 23)).drew W' →
      (W'.cell? ⟨w.heap.size + 1, 0, none⟩ = some (.int .i64 k) ∧ W'.cell? ⟨w.heap.size + 1, 1, none⟩ = some (.int .i64 m) ∧ W'.cell? ⟨w.heap.size + 1, 2, none⟩ = some (.int .i64 c) ∧ W'.cell? ⟨w.heap.size + 1 + 1, 0, none⟩ = some (.int .i64 T)) ∧ Rg.Bk w.heap.size [.int .i64 0, .int .i64 0, .int .i64 0, .int .i64 0, .string ⟨#[]⟩] 23 W' ∧ Rg.Bk (w.heap.size + 1) [.int .i64 k, .int .i64 m, .int .i64 c] 45 W' ∧ Rg.Bk (w.heap.size + 1 + 1) [.int .i64 T, .int .i64 HI, .int .i64 LO, .int .i64 0, .string ⟨#[]⟩] 23 W' ∧ Below w.heap.size w W' := by
  intro W' hW
  have k0 : Rg.Bk w.heap.size [.int .i64 0, .int .i64 0, .int .i64 0, .int .i64 0, .string ⟨#[]⟩] 23 (w.alloc (.cells #[.int .i64 0, .int .i64 0, .int .i64 0, .int .i64 0, .string ⟨#[]⟩] 23)) := Rg.Bk.new rfl
  have k1 : Rg.Bk (w.heap.size + 1) [.int .i64 k, .int .i64 m, .int .i64 c] 45 ((w.alloc (.cells #[.int .i64 0, .int .i64 0, .int .i64 0, .int .i64 0, .string ⟨#[]⟩] 23)).alloc (.cells #[.int .i64 k, .int .i64 m, .int .i64 c] 45)).drew := (Rg.Bk.new (by simp)).drew
  have k2 : Rg.Bk (w.heap.size + 1 + 1) [.int .i64 T, .int .i64 HI, .int .i64 LO, .int .i64 0, .string ⟨#[]⟩] 23 (((w.alloc (.cells #[.int .i64 0, .int .i64 0, .int .i64 0, .int .i64 0, .string ⟨#[]⟩] 23)).alloc (.cells #[.int .i64 k, .int .i64 m, .int .i64 c] 45)).drew.alloc (.cells #[.int .i64 T, .int .i64 HI, .int .i64 LO, .int .i64 0, .string ⟨#[]⟩] 23)).drew := (Rg.Bk.new (by simp)).drew
  have r0 := ((k0.old (.cells #[.int .i64 k, .int .i64 m, .int .i64 c] 45)).drew.old (.cells #[.int .i64 T, .int .i64 HI, .int .i64 LO, .int .i64 0, .string ⟨#[]⟩] 23)).drew
  have r1 := (k1.old (.cells #[.int .i64 T, .int .i64 HI, .int .i64 LO, .int .i64 0, .string ⟨#[]⟩] 23)).drew
  have q0 := r0.below hW r0.lt
  have q1 := r1.below hW r1.lt
  have q2 := k2.below hW k2.lt
  have b0 := Gf.below1 w (.cells #[.int .i64 0, .int .i64 0, .int .i64 0, .int .i64 0, .string ⟨#[]⟩] 23)
  have b1 := (b0.alloc b0.size (.cells #[.int .i64 k, .int .i64 m, .int .i64 c] 45)).drew
  have b2 := (b1.alloc b1.size (.cells #[.int .i64 T, .int .i64 HI, .int .i64 LO, .int .i64 0, .string ⟨#[]⟩] 23)).drew
  exact ⟨⟨q1.cell 0, q1.cell 1, q1.cell 2, q2.cell 0⟩, q0, q1, q2, b2.trans (hW.mono b2.size)⟩

set_option maxRecDepth 100000 in
theorem gread_any (s : ByteArray) (hs : s.size ≤ maxLen) (w : World) :
    Calls Try.prog 14 #[.string s] w fun e w' => e = .returned (Gf.resV (Gf.read s.data.toList)) ∧ Below w.heap.size w w' := by
  by_cases h0 : s.size = 0
  · obtain rfl : s = ⟨#[]⟩ := by
      apply ByteArray.ext; apply Array.toList_inj.1
      have : s.data.toList.length = 0 := by rw [Gf.len_eq]; exact h0
      exact List.eq_nil_of_length_eq_zero this
    exact read_empty w
  have h0 : 0 < s.size := by omega
  by_cases h16 : s[0].toNat = 16
  · have e16 : s[0] = 16 := UInt8.toNat_inj.1 h16
    by_cases h6 : s.size < 6
    · rw [Gf.read_few (by rw [Gf.len_eq]; exact h6) (by rw [Gf.len_eq]; exact h0) (by rw [Gf.getD_at s 0 h0]; exact e16)]
      exact read_short s h0 h16 h6 w
    have h6 : 6 ≤ s.size := by omega
    rw [Gf.read_six s h6 e16]
    by_cases hx : (s[1].toNat ^^^ s[2].toNat ^^^ s[3].toNat ^^^ s[4].toNat) = s[5].toNat
    · cases hc : Gf.okCode (s[4].toNat / 64) s[1].toNat with
      | false =>
        rw [Gf.head_code hc]
        exact read_code s h6 h16 hs hx hc w
      | true =>
        rw [Gf.head_ok hx hc]
        by_cases hT : s[4].toNat / 64 = 0
        · rw [if_pos hT]
          by_cases hp : ((s[2].toNat + 256 * s[3].toNat : Nat) : Int) = Chk.control s[4].toNat
          · rw [if_neg (by simpa using hp)]
            exact read_ctl s h6 h16 hs hx hc hT _ hp rfl w
          · rw [if_pos hp]
            exact read_csum s h6 h16 hs hx hc hT _ hp rfl w
        · rw [if_neg hT]
          obtain ⟨ht, hk1, hk8⟩ := Gf.okCode_body hc hT
          have b1 := UInt8.toNat_lt s[1]
          have b2 := UInt8.toNat_lt s[2]
          have b3 := UInt8.toNat_lt s[3]
          have b4 := UInt8.toNat_lt s[4]
          have hsl : s[2].toNat + 256 * s[3].toNat < 65536 := by omega
          have dT := Gf.head_dec s h6 h16
          rw [decide_eq_true hx] at dT
          have hz := Gf.size_range hk1 hk8
          have hb := hold_of w s[1].toNat (s[2].toNat + 256 * s[3].toNat) s[4].toNat (s[4].toNat / 64) (s[4].toNat / 8 % 8) (s[4].toNat % 8)
          obtain ⟨⟨i0, i1, i2, n0⟩, _⟩ := hb _ (Below.refl _ _)
          have HT : Hid (∀ W, Calls Try.prog 21 #[.agg #[.int .i64 s[1].toNat, .int .i64 ((s[2].toNat + 256 * s[3].toNat : Nat) : Int), .int .i64 s[4].toNat]] W fun e w' => e = .returned (.string ⟨(Gf.head s[1].toNat (s[2].toNat + 256 * s[3].toNat) s[4].toNat).toArray⟩) ∧ Below W.heap.size W w') := fun W => gtext_any _ _ _ b1 hsl b4 W
          have HC : Hid (∀ W, Calls Try.prog 29 #[.int .i64 ((s[4].toNat / 64 : Nat) : Int), .int .i64 s[1].toNat] W fun e w' => e = .returned (.bool true) ∧ w' = W) := fun W => by have := isCodeOf_any (s[4].toNat / 64) s[1].toNat W; rwa [hc] at this
          have HS : Hid (∀ W, Calls Try.prog 30 #[.int .i64 s[1].toNat] W fun e w' => e = .returned (.int .i64 (Gf.size s[1].toNat : Nat)) ∧ w' = W) := fun W => sizeOf_any _ hk1 hk8 W
          have hes : (s.extract 6 s.size).size ≤ maxLen := by
            rw [← Gf.len_eq, Gf.drop_extract s h6, List.length_drop, Gf.len_eq]
            exact Nat.le_trans (Nat.sub_le _ _) hs
          have HB := fun W => rbody_any (s.extract 6 s.size) (s[4].toNat / 64) s[4].toNat s[1].toNat (s[2].toNat + 256 * s[3].toNat) ht hk1 hk8 hes W
          rw [Gf.drop_extract s h6] at HB
          obtain ⟨d, e, hbo⟩ : ∃ d e, Gf.bodyOut (s[4].toNat / 64) s[4].toNat s[1].toNat (s[2].toNat + 256 * s[3].toNat) (s.data.toList.drop 6) = (d, e) := ⟨_, _, rfl⟩
          rw [hbo] at HB
          have f3 : (s[4].toNat : Int) / 64 = ((s[4].toNat / 64 : Nat) : Int) := by omega
          by_cases he : e = 0
          · subst he
            rw [Gf.readBody_yes rfl ht hbo]
            exact rcore_ok s _ _ _ _ _ w h6 hs (Gf.ne_nil h0) (by rw [h16]; rfl) (by simp; omega) b1 b2 b3 b4 (Gf.sum_or b2 b3) (by omega) (by omega) (by omega) (by omega) (by omega) (Gf.hi_and _) (Gf.lo_and _) f3 dT HT HC hb i0 i1 i2 n0 _ ⟨d.toArray⟩ 0 _ (by omega) hz.2 (beq_eq_false_iff_ne.2 (by omega)) HS HB rfl
          · rw [Gf.readBody_no rfl hbo he]
            exact rcore_no s _ _ _ _ _ w h6 hs (Gf.ne_nil h0) (by rw [h16]; rfl) (by simp; omega) b1 b2 b3 b4 (Gf.sum_or b2 b3) (by omega) (by omega) (by omega) (by omega) (by omega) (Gf.hi_and _) (Gf.lo_and _) f3 dT HT HC hb i0 i1 i2 n0 _ ⟨d.toArray⟩ e (beq_eq_false_iff_ne.2 (by omega)) HS HB (beq_eq_false_iff_ne.2 (by omega))
    · rw [Gf.head_bad hx]
      exact read_bad s h6 h16 hs hx w
  · have e : s.data.toList = s[0] :: s.data.toList.drop 1 := Chk.drop_cons s 0 h0
    rw [e, Gf.read_16 (fun h => h16 (by rw [h]; rfl))]
    exact read_form s h0 h16 hs w
end Go.Proofs.Ytpgjdobgfhhbiaa
