/-
  Walks of the document's layer 11: Read of whatever bytes.
-/
import Derived.Test.YtpgjdobgfhhbiaaGwV
import Derived.Test.YtpgjdobgfhhbiaaGwW1
import Derived.Test.YtpgjdobgfhhbiaaGwW2
import Derived.Test.YtpgjdobgfhhbiaaGwW3
import Derived.Test.YtpgjdobgfhhbiaaGwW4
import Derived.Test.YtpgjdobgfhhbiaaGwF
namespace Go.Proofs.Ytpgjdobgfhhbiaa
open Go.RowKit
namespace Gf
theorem okCode_bad {t k : Nat} (ht : t < 4) (h : okCode t k = false) : k < 1 ∨ 9 < k ∨ (k = 9 ∧ ¬ t = 0) ∨ (¬ k = 9 ∧ t = 0) ∨ (¬ k = 9 ∧ t = 1) := by
  unfold okCode at h
  by_cases h0 : t = 0
  · rw [if_pos h0] at h
    have : ¬ k = 9 := by simpa using h
    exact Or.inr (Or.inr (Or.inr (Or.inl ⟨this, h0⟩)))
  · rw [if_neg h0] at h
    by_cases h2 : t = 2 ∨ t = 3
    · rw [if_pos h2] at h
      have : ¬ (1 ≤ k ∧ k ≤ 8) := by simpa using h
      omega
    · omega
theorem okCode_ctl {t k : Nat} (h : okCode t k = true) (h0 : t = 0) : k = 9 := by
  unfold okCode at h
  rw [if_pos h0] at h
  simpa using h
theorem xor_five (s : ByteArray) (h6 : 6 ≤ s.size) : Chk.xor (s.extract 1 6).data.toList = s[1].toNat ^^^ s[2].toNat ^^^ s[3].toNat ^^^ s[4].toNat ^^^ s[5].toNat := by
  rw [extract_eq s 1 6 (by decide) h6]
  have e := list6 s h6
  generalize s.data.toList.drop 6 = r at e
  rw [e]
  simp [Chk.xor]
theorem size_shl {k : Nat} (h1 : 1 ≤ k) (h8 : k ≤ 8) : wrap64 ((32 : Int) * 2 ^ (k - 1)) = ((size k : Nat) : Int) := by
  have : k = 1 ∨ k = 2 ∨ k = 3 ∨ k = 4 ∨ k = 5 ∨ k = 6 ∨ k = 7 ∨ k = 8 := by omega
  rcases this with h | h | h | h | h | h | h | h <;> subst h <;> decide +kernel
end Gf
set_option maxHeartbeats 4000000 in
set_option maxRecDepth 100000 in
theorem rgread_any (s : ByteArray) (hs : s.size ≤ maxLen) (w : World) :
    Calls Try.prog 15 #[.string s] w fun e w' => e = .returned (Gf.resV (Gf.read s.data.toList)) ∧ Below w.heap.size w w' := by
  by_cases h0 : s.size = 0
  · obtain rfl : s = ⟨#[]⟩ := by
      apply ByteArray.ext; apply Array.toList_inj.1
      have : s.data.toList.length = 0 := by rw [Gf.len_eq]; exact h0
      exact List.eq_nil_of_length_eq_zero this
    exact rr_empty w
  have h0 : 0 < s.size := by omega
  by_cases h16 : s[0].toNat = 16
  · have e16 : s[0] = 16 := UInt8.toNat_inj.1 h16
    by_cases h6 : s.size < 6
    · rw [Gf.read_few (by rw [Gf.len_eq]; exact h6) (by rw [Gf.len_eq]; exact h0) (by rw [Gf.getD_at s 0 h0]; exact e16)]
      exact rr_short s w hs (Gf.ne_nil h0) (by omega) (by rw [h16]; rfl) (by simp; omega)
    have h6 : 6 ≤ s.size := by omega
    rw [Gf.read_six s h6 e16]
    have b1 := UInt8.toNat_lt s[1]
    have b2 := UInt8.toNat_lt s[2]
    have b3 := UInt8.toNat_lt s[3]
    have b4 := UInt8.toNat_lt s[4]
    have f3 : (s[4].toNat : Int) / 64 = ((s[4].toNat / 64 : Nat) : Int) := by omega
    have hx5 := Gf.xor_five s h6
    have hes : (s.extract 1 6).size ≤ maxLen := by
      rw [← Gf.len_eq, Gf.extract_eq s 1 6 (by decide) h6, List.length_take]; unfold maxLen; omega
    have HX0 := fun W => refXor_any (s.extract 1 6) W hes
    rw [hx5] at HX0
    by_cases hx : (s[1].toNat ^^^ s[2].toNat ^^^ s[3].toNat ^^^ s[4].toNat) = s[5].toNat
    · have hxz : s[1].toNat ^^^ s[2].toNat ^^^ s[3].toNat ^^^ s[4].toNat ^^^ s[5].toNat = 0 := by rw [hx, Nat.xor_self]
      rw [hxz] at HX0
      have HX : Hid (∀ W, Calls Try.prog 32 #[.string (s.extract 1 6)] W fun e w' => e = .returned (.int .i64 0) ∧ w' = W) := HX0
      cases hc : Gf.okCode (s[4].toNat / 64) s[1].toNat with
      | false =>
        rw [Gf.head_code hc]
        by_cases k1 : s[1].toNat < 1
        · exact rr_k1 s w hs h6 (Gf.ne_nil h0) (by rw [h16]; rfl) (by simp; omega) b1 b2 b3 b4 _ _ _ _ (Gf.sum_or b2 b3) (by omega) (by omega) (by omega) (by omega) (by omega) (Gf.hi_and _) (Gf.lo_and _) f3 HX (decide_eq_true (by omega))
        by_cases k9 : 9 < s[1].toNat
        · exact rr_k9 s w hs h6 (Gf.ne_nil h0) (by rw [h16]; rfl) (by simp; omega) b1 b2 b3 b4 _ _ _ _ (Gf.sum_or b2 b3) (by omega) (by omega) (by omega) (by omega) (by omega) (Gf.hi_and _) (Gf.lo_and _) f3 HX (decide_eq_false (by omega)) (decide_eq_true (by omega))
        rcases Gf.okCode_bad (by omega) hc with h | h | ⟨h, h'⟩ | ⟨h, h'⟩ | ⟨h, h'⟩
        · exact absurd h k1
        · exact absurd h k9
        · exact rr_m1 s w hs h6 (Gf.ne_nil h0) (by rw [h16]; rfl) (by simp; omega) b1 b2 b3 b4 _ _ _ _ (Gf.sum_or b2 b3) (by omega) (by omega) (by omega) (by omega) (by omega) (Gf.hi_and _) (Gf.lo_and _) f3 HX (decide_eq_false (by omega)) (decide_eq_false (by omega)) (beq_iff_eq.2 (by omega)) (beq_eq_false_iff_ne.2 (by omega))
        · exact rr_m2 s w hs h6 (Gf.ne_nil h0) (by rw [h16]; rfl) (by simp; omega) b1 b2 b3 b4 _ _ _ _ (Gf.sum_or b2 b3) (by omega) (by omega) (by omega) (by omega) (by omega) (Gf.hi_and _) (Gf.lo_and _) f3 HX (decide_eq_false (by omega)) (decide_eq_false (by omega)) (beq_eq_false_iff_ne.2 (by omega)) (beq_iff_eq.2 (by omega))
        · exact rr_t1 s w hs h6 (Gf.ne_nil h0) (by rw [h16]; rfl) (by simp; omega) b1 b2 b3 b4 _ _ _ _ (Gf.sum_or b2 b3) (by omega) (by omega) (by omega) (by omega) (by omega) (Gf.hi_and _) (Gf.lo_and _) f3 HX (decide_eq_false (by omega)) (decide_eq_false (by omega)) (beq_eq_false_iff_ne.2 (by omega)) (beq_eq_false_iff_ne.2 (by omega)) (beq_iff_eq.2 (by omega))
      | true =>
        rw [Gf.head_ok hx hc]
        by_cases hT : s[4].toNat / 64 = 0
        · rw [if_pos hT]
          have hk9 := Gf.okCode_ctl hc hT
          have HC0 := fun W => refControl_any s[4].toNat W
          by_cases hp : ((s[2].toNat + 256 * s[3].toNat : Nat) : Int) = Chk.control s[4].toNat
          · rw [if_neg (by simpa using hp)]
            rw [← hp] at HC0
            have h := rr_ctl s w hs h6 (Gf.ne_nil h0) (by rw [h16]; rfl) (by simp; omega) b1 b2 b3 b4 _ _ _ _ (Gf.sum_or b2 b3) (by omega) (by omega) (by omega) (by omega) (by omega) (Gf.hi_and _) (Gf.lo_and _) f3 HX (decide_eq_false (by omega)) (decide_eq_false (by omega)) (beq_iff_eq.2 (by omega)) (beq_iff_eq.2 (by omega)) (beq_eq_false_iff_ne.2 (by omega)) HC0
            rw [hT] at h
            exact h
          · rw [if_pos hp]
            exact rr_csum s w hs h6 (Gf.ne_nil h0) (by rw [h16]; rfl) (by simp; omega) b1 b2 b3 b4 _ _ _ _ (Gf.sum_or b2 b3) (by omega) (by omega) (by omega) (by omega) (by omega) (Gf.hi_and _) (Gf.lo_and _) f3 HX (decide_eq_false (by omega)) (decide_eq_false (by omega)) (beq_iff_eq.2 (by omega)) (beq_iff_eq.2 (by omega)) (beq_eq_false_iff_ne.2 (by omega)) _ HC0 hp
        · rw [if_neg hT]
          obtain ⟨ht, hk1, hk8⟩ := Gf.okCode_body hc hT
          have hz := Gf.size_range hk1 hk8
          unfold Gf.readBody
          have hdl : (s.data.toList.drop 6).length = s.size - 6 := by rw [List.length_drop, Gf.len_eq]
          by_cases hsh : s.size < 6 + Gf.size s[1].toNat
          · rw [if_pos (by rw [hdl]; omega)]
            exact rr_bshort s w hs h6 (Gf.ne_nil h0) (by rw [h16]; rfl) (by simp; omega) b1 b2 b3 b4 _ _ _ _ (Gf.sum_or b2 b3) (by omega) (by omega) (by omega) (by omega) (by omega) (Gf.hi_and _) (Gf.lo_and _) f3 HX (decide_eq_false (by omega)) (decide_eq_false (by omega)) (beq_eq_false_iff_ne.2 (by omega)) (beq_eq_false_iff_ne.2 (by omega)) (beq_eq_false_iff_ne.2 (by omega)) (s[1].toNat - 1) _ (6 + Gf.size s[1].toNat) (by omega) (by rw [IntKind.wrap_u64]; omega) (Gf.size_shl hk1 hk8) (by omega) hz.2 (by omega) (by omega)
          rw [if_neg (by rw [hdl]; omega)]
          have hbd : (s.extract 6 (6 + Gf.size s[1].toNat)).data.toList = (s.data.toList.drop 6).take (Gf.size s[1].toNat) := by
            rw [Gf.extract_eq s 6 _ (by omega) (by omega), show 6 + Gf.size s[1].toNat - 6 = Gf.size s[1].toNat by omega]
          have hbs : (s.extract 6 (6 + Gf.size s[1].toNat)).size = Gf.size s[1].toNat := by
            rw [← Gf.len_eq, hbd, List.length_take, hdl]; omega
          have HP0 := fun W => refPacket_any (s.extract 6 (6 + Gf.size s[1].toNat)) s[4].toNat W (by unfold maxLen; omega)
          rw [hbd] at HP0
          by_cases hp : ((s[2].toNat + 256 * s[3].toNat : Nat) : Int) = Chk.packet ((s.data.toList.drop 6).take (Gf.size s[1].toNat)) s[4].toNat
          · rw [if_neg (by simpa using hp)]
            rw [← hp] at HP0
            by_cases h2 : s[4].toNat / 64 = 2
            · rw [if_pos h2]
              have h := rr_long s w hs h6 (Gf.ne_nil h0) (by rw [h16]; rfl) (by simp; omega) b1 b2 b3 b4 _ _ _ _ (Gf.sum_or b2 b3) (by omega) (by omega) (by omega) (by omega) (by omega) (Gf.hi_and _) (Gf.lo_and _) f3 HX (decide_eq_false (by omega)) (decide_eq_false (by omega)) (beq_eq_false_iff_ne.2 (by omega)) (beq_eq_false_iff_ne.2 (by omega)) (beq_eq_false_iff_ne.2 (by omega)) (s[1].toNat - 1) _ (6 + Gf.size s[1].toNat) (by omega) (by rw [IntKind.wrap_u64]; omega) (Gf.size_shl hk1 hk8) (by omega) hz.2 (by omega) (by omega) (by omega) HP0 (beq_eq_false_iff_ne.2 (by omega))
              rw [h2, hbd] at h
              exact h
            · rw [if_neg h2]
              have h3 : s[4].toNat / 64 = 3 := by omega
              have HU0 := fun W => unfield_any (s.extract 6 (6 + Gf.size s[1].toNat)) (by omega) (by omega) W
              rw [hbd] at HU0
              cases hu : Gf.unfield ((s.data.toList.drop 6).take (Gf.size s[1].toNat)) with
              | none =>
                rw [hu] at HU0
                exact rr_fno s w hs h6 (Gf.ne_nil h0) (by rw [h16]; rfl) (by simp; omega) b1 b2 b3 b4 _ _ _ _ (Gf.sum_or b2 b3) (by omega) (by omega) (by omega) (by omega) (by omega) (Gf.hi_and _) (Gf.lo_and _) f3 HX (decide_eq_false (by omega)) (decide_eq_false (by omega)) (beq_eq_false_iff_ne.2 (by omega)) (beq_eq_false_iff_ne.2 (by omega)) (beq_eq_false_iff_ne.2 (by omega)) (s[1].toNat - 1) _ (6 + Gf.size s[1].toNat) (by omega) (by rw [IntKind.wrap_u64]; omega) (Gf.size_shl hk1 hk8) (by omega) hz.2 (by omega) (by omega) (by omega) HP0 (beq_iff_eq.2 (by omega)) (fun W => (HU0 W).mono fun _ _ ⟨a, b⟩ => ⟨a, b.symm⟩)
              | some dd =>
                rw [hu] at HU0
                have h := rr_fok s w hs h6 (Gf.ne_nil h0) (by rw [h16]; rfl) (by simp; omega) b1 b2 b3 b4 _ _ _ _ (Gf.sum_or b2 b3) (by omega) (by omega) (by omega) (by omega) (by omega) (Gf.hi_and _) (Gf.lo_and _) f3 HX (decide_eq_false (by omega)) (decide_eq_false (by omega)) (beq_eq_false_iff_ne.2 (by omega)) (beq_eq_false_iff_ne.2 (by omega)) (beq_eq_false_iff_ne.2 (by omega)) (s[1].toNat - 1) _ (6 + Gf.size s[1].toNat) (by omega) (by rw [IntKind.wrap_u64]; omega) (Gf.size_shl hk1 hk8) (by omega) hz.2 (by omega) (by omega) (by omega) HP0 ⟨dd.toArray⟩ (beq_iff_eq.2 (by omega)) (fun W => (HU0 W).mono fun _ _ ⟨a, b⟩ => ⟨a, b.symm⟩)
                rw [h3] at h
                exact h
          · rw [if_pos hp]
            exact rr_bsum s w hs h6 (Gf.ne_nil h0) (by rw [h16]; rfl) (by simp; omega) b1 b2 b3 b4 _ _ _ _ (Gf.sum_or b2 b3) (by omega) (by omega) (by omega) (by omega) (by omega) (Gf.hi_and _) (Gf.lo_and _) f3 HX (decide_eq_false (by omega)) (decide_eq_false (by omega)) (beq_eq_false_iff_ne.2 (by omega)) (beq_eq_false_iff_ne.2 (by omega)) (beq_eq_false_iff_ne.2 (by omega)) (s[1].toNat - 1) _ (6 + Gf.size s[1].toNat) (by omega) (by rw [IntKind.wrap_u64]; omega) (Gf.size_shl hk1 hk8) (by omega) hz.2 (by omega) (by omega) (by omega) _ HP0 hp
    · rw [Gf.head_bad hx]
      refine rr_xor s w hs h6 (Gf.ne_nil h0) (by rw [h16]; rfl) (by simp; omega) b1 b2 b3 b4 _ _ _ _ _ (Gf.sum_or b2 b3) (by omega) (by omega) (by omega) (by omega) (by omega) (Gf.hi_and _) (Gf.lo_and _) f3 HX0 ?_
      intro e
      have e' : s[1].toNat ^^^ s[2].toNat ^^^ s[3].toNat ^^^ s[4].toNat ^^^ s[5].toNat = 0 := by omega
      exact hx (Chk.xor_zero_eq e')
  · have e : s.data.toList = s[0] :: s.data.toList.drop 1 := Chk.drop_cons s 0 h0
    rw [e, Gf.read_16 (fun h => h16 (by rw [h]; rfl))]
    exact rr_form s w hs (Gf.ne_nil h0) (by omega) (beq_eq_false_iff_ne.2 (by omega))
end Go.Proofs.Ytpgjdobgfhhbiaa
