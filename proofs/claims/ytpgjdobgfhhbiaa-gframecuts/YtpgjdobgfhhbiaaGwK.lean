/-
  Walks of the laws of layer 11: GframeCuts, whole.
-/
import Derived.Test.YtpgjdobgfhhbiaaGwJ
namespace Go.Proofs.Ytpgjdobgfhhbiaa
open Go.RowKit
namespace Gf
/-- A packet that is cut is too short. -/
theorem read_cut {f : Fr} (h : ok f) {k : Nat} (hk : k < (text f).length) : read ((text f).take k) = .error 2 := by
  by_cases h0 : k = 0
  · subst h0; rfl
  by_cases h6 : k < 6
  · apply read_few
    · rw [List.length_take]; omega
    · rw [List.length_take]; omega
    · unfold text head
      obtain ⟨j, rfl⟩ : ∃ j, k = j + 1 := ⟨k - 1, by omega⟩
      rfl
  · have ht : f.ty ≠ 0 := by
      intro ht
      rw [text_len] at hk
      have hb : body f = [] := by
        rcases h.2 with h' | h' | h'
        · unfold body; rw [if_neg (by rw [ht]; decide)]; exact h'.2.2
        · rw [ht] at h'; exact absurd h'.1 (by decide)
        · rw [ht] at h'; exact absurd h'.1 (by decide)
      rw [hb] at hk
      simp at hk
      omega
    obtain ⟨hc, ct, _, _⟩ := ctl_facts h
    have hkd := kd_range h
    have hbl := body_len h ht
    have hkc : kd f = code f.sz := by unfold kd; rw [if_neg ht]
    have e : (text f).take k = head (kd f) (sm f) (ctl f) ++ (body f).take (k - 6) := by
      unfold text
      rw [List.take_append, List.take_of_length_le (by show 6 ≤ k; omega)]
      rfl
    rw [text_len] at hk
    rw [e, read_head (by omega) (sm_lt f) hc]
    have hT : ctl f / 64 = 2 ∨ ctl f / 64 = 3 := by
      rcases h.2 with h' | h' | h'
      · exact absurd h'.1 ht
      · left; rw [h'.1] at ct; omega
      · right; rw [h'.1] at ct; omega
    have hcl := code_le f.sz
    have hok : okCode (ctl f / 64) (kd f) = true := by
      unfold okCode
      rw [if_neg (by omega), if_pos hT, hkc]
      rw [hkc] at hkd
      exact decide_eq_true ⟨hkd.1, hcl⟩
    unfold readHead
    rw [if_neg (by rw [hok]; simp), if_neg (by omega)]
    unfold readBody
    rw [if_pos (by rw [List.length_take, hkc]; omega)]
end Gf
theorem cuts_walk (t h l z : Int) (d : ByteArray) (a : Int) (w : World) :
    Calls Try.prog 7 #[.agg #[.int .i64 t, .int .i64 h, .int .i64 l, .int .i64 z, .string d], .int .i64 a] w fun e w' => e = .returned (.bool true) ∧ Below w.heap.size w w' := by
  have bw := Gf.below1 w (.cells #[.int .i64 t, .int .i64 h, .int .i64 l, .int .i64 z, .string d] 23)
  have kw : Rg.Bk w.heap.size [.int .i64 t, .int .i64 h, .int .i64 l, .int .i64 z, .string d] 23 (w.alloc (.cells #[.int .i64 t, .int .i64 h, .int .i64 l, .int .i64 z, .string d] 23)) := Rg.Bk.new rfl
  have HA := keepF (C := [.int .i64 t, .int .i64 h, .int .i64 l, .int .i64 z, .string d]) (ty := 23) w gawake_any
  by_cases hk : Gf.ok ⟨t, h, l, z, d.data.toList⟩
  · have HW := keepF (C := [.int .i64 t, .int .i64 h, .int .i64 l, .int .i64 z, .string d]) (ty := 23) w (write_yes t h l z d hk)
    by_cases q1 : 5000 < d.size
    · exact cuts_big t h l z a d w bw kw HA (by simp; omega) _ 0 HW
    have q1' : decide ((5000 : Int) < (d.size : Int)) = false := by simp; omega
    obtain ⟨hX, hX6⟩ := Gf.text_size hk
    obtain ⟨U, hU⟩ : ∃ U : Nat, IntKind.u64.wrap a = (U : Int) := ⟨(IntKind.u64.wrap a).toNat, by rw [IntKind.wrap_u64]; omega⟩
    have hKl := Nat.mod_lt U (show 0 < (⟨(Gf.text ⟨t, h, l, z, d.data.toList⟩).toArray⟩ : ByteArray).size by omega)
    have HR : ∀ W, Calls Try.prog 14 #[.string ((⟨(Gf.text ⟨t, h, l, z, d.data.toList⟩).toArray⟩ : ByteArray).extract 0 (U % (⟨(Gf.text ⟨t, h, l, z, d.data.toList⟩).toArray⟩ : ByteArray).size))] W fun e w' => e = .returned (.tuple #[.agg #[.int .i64 0, .int .i64 0, .int .i64 0, .int .i64 0, .string ⟨#[]⟩], .int .i64 0, .int .i64 2]) ∧ Below W.heap.size W w' := fun W => by
      have e := Gf.extract_eq (⟨(Gf.text ⟨t, h, l, z, d.data.toList⟩).toArray⟩ : ByteArray) 0 (U % (⟨(Gf.text ⟨t, h, l, z, d.data.toList⟩).toArray⟩ : ByteArray).size) (Nat.zero_le _) (by omega)
      have hr := gread_any ((⟨(Gf.text ⟨t, h, l, z, d.data.toList⟩).toArray⟩ : ByteArray).extract 0 (U % (⟨(Gf.text ⟨t, h, l, z, d.data.toList⟩).toArray⟩ : ByteArray).size)) (by rw [← Gf.len_eq, e, List.length_take]; unfold maxLen; omega) W
      rw [e] at hr
      have hc := Gf.read_cut hk (k := U % (⟨(Gf.text ⟨t, h, l, z, d.data.toList⟩).toArray⟩ : ByteArray).size) (by rw [← Gf.size_of]; exact hKl)
      have e2 : (List.drop 0 (⟨(Gf.text ⟨t, h, l, z, d.data.toList⟩).toArray⟩ : ByteArray).data.toList).take (U % (⟨(Gf.text ⟨t, h, l, z, d.data.toList⟩).toArray⟩ : ByteArray).size - 0) = (Gf.text ⟨t, h, l, z, d.data.toList⟩).take (U % (⟨(Gf.text ⟨t, h, l, z, d.data.toList⟩).toArray⟩ : ByteArray).size) := rfl
      rw [e2, hc] at hr
      exact hr
    generalize (⟨(Gf.text ⟨t, h, l, z, d.data.toList⟩).toArray⟩ : ByteArray) = X at *
    exact cuts_yes t h l z a d w bw kw HA q1' X U (U % X.size) hU (by rw [IntKind.wrap_u64]; omega) (by rw [Int.natCast_emod]) (by rw [Int.tmod_eq_emod_of_nonneg (by omega), Int.natCast_emod]) (by omega) (by omega) (by omega) (by omega) HW (keepF w HR)
  · have HW := keepF (C := [.int .i64 t, .int .i64 h, .int .i64 l, .int .i64 z, .string d]) (ty := 23) w (write_no t h l z d hk)
    by_cases q1 : 5000 < d.size
    · exact cuts_big t h l z a d w bw kw HA (by simp; omega) _ 1 HW
    · exact cuts_no t h l z a d w bw kw HA (by simp; omega) HW
end Go.Proofs.Ytpgjdobgfhhbiaa
