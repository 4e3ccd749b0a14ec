/-
  Walks of layer 12: Read of whatever bytes.
-/
import Derived.Test.YtghelhcmecmldaaIf3
import Derived.Test.YtghelhcmecmldaaIf8
import Derived.Test.YtghelhcmecmldaaIf9
import Derived.Test.YtghelhcmecmldaaIfA
import Derived.Test.YtghelhcmecmldaaIfB
namespace Go.Proofs.Ytghelhcmecmldaa
open Go.RowKit
namespace If
theorem six (s : ByteArray) (h : 6 ≤ s.size) : s.data.toList = s[0] :: s[1] :: s[2] :: s[3] :: s[4] :: s[5] :: s.data.toList.drop 6 := by
  have e : ∀ k (hk : k < s.size), s.data.toList.drop k = s[k] :: s.data.toList.drop (k + 1) := fun k hk => by
    rw [List.drop_eq_getElem_cons (by rw [len_eq]; exact hk)]; rfl
  have e0 := e 0 (by omega)
  rw [List.drop_zero] at e0
  rw [e0, e 1 (by omega), e 2 (by omega), e 3 (by omega), e 4 (by omega), e 5 (by omega)]
  rfl
theorem read_six (s : ByteArray) (h : 6 ≤ s.size) (h7 : s[0] = 7) : read s.data.toList = readHead s[1].toNat s[2].toNat s[3].toNat s[4].toNat s[5].toNat (s.data.toList.drop 6) := by
  rw [six s h, h7]
  unfold read
  dsimp only
  rw [if_neg (by decide)]
  rfl
theorem head_test (s : ByteArray) (h : 6 ≤ s.size) (h7 : s[0] = 7) :
    ((⟨(hd (s[3].toNat / 32) (s[1].toNat / 8) (s[2].toNat / 8) (s[1].toNat % 8) (decide (s[3].toNat / 16 % 2 = 1)) (s[3].toNat % 16 * 256 + s[4].toNat)).toArray⟩ : ByteArray).toList == (s.extract 0 6).toList) = decide ((s[1].toNat ^^^ s[2].toNat ^^^ s[3].toNat ^^^ s[4].toNat) = s[5].toNat ∧ s[1].toNat % 8 = s[2].toNat % 8) := by
  have b1 := UInt8.toNat_lt s[1]
  have b2 := UInt8.toNat_lt s[2]
  have b3 := UInt8.toNat_lt s[3]
  have b4 := UInt8.toNat_lt s[4]
  rw [tl_eq, tl_eq, extract_eq s 0 6 (by omega) h, List.drop_zero, six s h, h7]
  generalize s[1] = a at *
  generalize s[2] = b at *
  generalize s[3] = c at *
  generalize s[4] = d at *
  generalize s[5] = e at *
  generalize s.data.toList.drop 6 = r
  have hbit : bit (decide (c.toNat / 16 % 2 = 1)) = c.toNat / 16 % 2 * 16 := by
    unfold bit
    rcases Nat.mod_two_eq_zero_or_one (c.toNat / 16) with q | q
    · rw [q]; rfl
    · rw [q]; rfl
  unfold hd
  rw [hbit, show a.toNat / 8 * 8 + a.toNat % 8 = a.toNat by omega, show c.toNat / 32 * 32 + c.toNat / 16 % 2 * 16 + (c.toNat % 16 * 256 + d.toNat) / 256 = c.toNat by omega, show (c.toNat % 16 * 256 + d.toNat) % 256 = d.toNat by omega]
  unfold head
  show ([7, UInt8.ofNat a.toNat, UInt8.ofNat (b.toNat / 8 * 8 + a.toNat % 8), UInt8.ofNat c.toNat, UInt8.ofNat d.toNat, UInt8.ofNat (a.toNat ^^^ (b.toNat / 8 * 8 + a.toNat % 8) ^^^ c.toNat ^^^ d.toNat)] == [7, a, b, c, d, e]) = _
  rw [byte_eq, byte_eq, byte_eq]
  by_cases hc : a.toNat % 8 = b.toNat % 8
  · rw [show b.toNat / 8 * 8 + a.toNat % 8 = b.toNat by omega, byte_eq]
    have hx := xor_byte b1 b2 b3 b4
    by_cases hx2 : (a.toNat ^^^ b.toNat ^^^ c.toNat ^^^ d.toNat) = e.toNat
    · rw [hx2, byte_eq, decide_eq_true ⟨rfl, hc⟩]
      exact beq_iff_eq.2 rfl
    · rw [decide_eq_false fun q => hx2 q.1]
      apply beq_eq_false_iff_ne.2
      intro q
      simp only [List.cons.injEq, true_and, and_true] at q
      exact hx2 (by rw [← q, ofNat_toNat hx])
  · rw [decide_eq_false fun q => hc q.2]
    apply beq_eq_false_iff_ne.2
    intro q
    simp only [List.cons.injEq, true_and, and_true] at q
    have := congrArg UInt8.toNat q.1
    rw [ofNat_toNat (by omega)] at this
    omega
theorem readBody_rb (a b c n : Nat) (r : List UInt8) : readBody a b c n r = if (rb n r).2 = 0 then .ok (⟨(c / 32 : Nat), (a / 8 : Nat), (b / 8 : Nat), (a % 8 : Nat), decide (c / 16 % 2 = 1), (rb n r).1⟩, 6 + bsz n) else .error (rb n r).2 := by
  unfold readBody rb
  split
  · rfl
  · split
    · rfl
    · rfl
theorem drop_extract (s : ByteArray) (h6 : 6 ≤ s.size) : (s.extract 6 s.size).data.toList = s.data.toList.drop 6 := by
  rw [extract_eq s 6 s.size h6 (Nat.le_refl _), List.take_of_length_le]
  rw [List.length_drop, len_eq]; exact Nat.le_refl _
end If
set_option maxRecDepth 100000 in
theorem iread_any (s : ByteArray) (hs : s.size ≤ maxLen) (w : World) :
    Calls Try.prog 12 #[.string s] w fun e w' => e = .returned (If.resV (If.read s.data.toList)) ∧ Below w.heap.size w w' := by
  by_cases h0 : s.size = 0
  · obtain rfl := If.empty_of h0
    exact iread_empty w
  have h0 : 0 < s.size := by omega
  by_cases h7 : s[0].toNat = 7
  · have e7 : s[0] = 7 := UInt8.toNat_inj.1 h7
    by_cases h6 : s.size < 6
    · rw [If.read_few (by rw [If.len_eq]; exact h6) (Or.inr (by rw [If.getD_at s 0 h0]; exact e7))]
      exact iread_short s h0 h7 h6 w
    have h6 : 6 ≤ s.size := by omega
    rw [If.read_six s h6 e7]
    have b1 := UInt8.toNat_lt s[1]
    have b2 := UInt8.toNat_lt s[2]
    have b3 := UInt8.toNat_lt s[3]
    have b4 := UInt8.toNat_lt s[4]
    have HR := fun W => rhead_any s h6 hs W
    have HK := fun W => isKind_any (s[3].toNat / 32 : Nat) W
    have q1 := If.ne_nil h0
    have q2 : ((s[0].toNat : Int) == 7) = true := by rw [h7]; rfl
    have q3 : decide ((s.size : Int) < 6) = false := by simp; omega
    have q4 : (6 : Int) ≤ (s.size : Int) := by omega
    cases hk : If.kind (s[3].toNat / 32 : Nat) with
    | false =>
      rw [hk] at HK
      have e : If.readHead s[1].toNat s[2].toNat s[3].toNat s[4].toNat s[5].toNat (s.data.toList.drop 6) = .error 3 := by
        unfold If.readHead; rw [if_pos (Or.inr (Or.inl hk))]
      rw [e]
      exact iread_kind s _ _ _ _ _ _ w h6 hs q1 q2 q3 q4 HR HK
    | true =>
      rw [hk] at HK
      have HH := fun W => head_any (s[3].toNat / 32) (s[1].toNat / 8) (s[2].toNat / 8) (s[1].toNat % 8) (s[3].toNat % 16 * 256 + s[4].toNat) (decide (s[3].toNat / 16 % 2 = 1)) ⟨#[]⟩ (by omega) (by omega) (by omega) (by omega) (by omega) W
      have ht := If.head_test s h6 e7
      by_cases hx : (s[1].toNat ^^^ s[2].toNat ^^^ s[3].toNat ^^^ s[4].toNat) = s[5].toNat ∧ s[1].toNat % 8 = s[2].toNat % 8
      · rw [decide_eq_true hx] at ht
        have e : If.readHead s[1].toNat s[2].toNat s[3].toNat s[4].toNat s[5].toNat (s.data.toList.drop 6) = If.readBody s[1].toNat s[2].toNat s[3].toNat (s[3].toNat % 16 * 256 + s[4].toNat) (s.data.toList.drop 6) := by
          unfold If.readHead; rw [if_neg (by rw [hk]; simp [hx.1, hx.2])]
        rw [e, If.readBody_rb, ← If.drop_extract s h6]
        have HB := fun W => rbody_any (s.extract 6 s.size) (s[3].toNat % 16 * 256 + s[4].toNat) (by omega) W
        generalize hz : s[3].toNat % 16 * 256 + s[4].toNat = z at *
        have hzb := If.bsz_le z
        obtain ⟨D, E, hrb⟩ : ∃ D E, If.rb z (s.extract 6 s.size).data.toList = (D, E) := ⟨_, _, rfl⟩
        rw [hrb] at HB ⊢
        dsimp only at HB ⊢
        by_cases hE : E = 0
        · subst hE
          rw [if_pos rfl]
          have HZ := fun W => bodySize_any z (by omega) W
          exact iread_ok s _ _ _ _ _ _ w h6 hs q1 q2 q3 q4 HR _ ht HK HH ⟨D.toArray⟩ HB (If.bsz z) (6 + If.bsz z) (by omega) (by rw [IntKind.wrap_i64]; omega) (by unfold wrap64; omega) HZ
        · rw [if_neg hE]
          exact iread_no s _ _ _ _ _ _ w h6 hs q1 q2 q3 q4 HR _ ht HK HH ⟨D.toArray⟩ E HB (beq_eq_false_iff_ne.2 (by omega))
      · rw [decide_eq_false hx] at ht
        have e : If.readHead s[1].toNat s[2].toNat s[3].toNat s[4].toNat s[5].toNat (s.data.toList.drop 6) = .error 3 := by
          unfold If.readHead
          rw [if_pos]
          by_cases hx1 : (s[1].toNat ^^^ s[2].toNat ^^^ s[3].toNat ^^^ s[4].toNat) = s[5].toNat
          · exact Or.inr (Or.inr fun q => hx ⟨hx1, q⟩)
          · exact Or.inl hx1
        rw [e]
        exact iread_bad s _ _ _ _ _ _ w h6 hs q1 q2 q3 q4 HR _ ht HK HH
  · have e : s.data.toList = s[0] :: s.data.toList.drop 1 := by
      have := List.drop_eq_getElem_cons (l := s.data.toList) (i := 0) (by rw [If.len_eq]; exact h0)
      rw [List.drop_zero] at this
      exact this
    rw [e, If.read_7 (fun h => h7 (by rw [h]; rfl))]
    exact iread_form s h0 h7 hs w
end Go.Proofs.Ytghelhcmecmldaa
