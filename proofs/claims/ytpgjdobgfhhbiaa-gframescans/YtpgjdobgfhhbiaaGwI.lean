/-
  Walks of the laws of layer 11: GframeBack, whole.
-/
import Derived.Test.YtpgjdobgfhhbiaaGwH
namespace Go.Proofs.Ytpgjdobgfhhbiaa
open Go.RowKit
theorem keepF {f : FuncId} {args : Array Value} {r : Value} {C : List Value} {ty : TypeId} (w : World) (H : ∀ W, Calls Try.prog f args W fun e w' => e = .returned r ∧ Below W.heap.size W w') :
    Hid (∀ W, Below w.heap.size w W → Rg.Bk w.heap.size C ty W → Calls Try.prog f args W fun e w' => e = .returned r ∧ Below w.heap.size w w' ∧ Rg.Bk w.heap.size C ty w') :=
  fun W hW hk => (H W).mono fun _ _ ⟨a, b⟩ => ⟨a, hW.trans (b.mono hW.size), hk.below b hk.lt⟩
namespace Gf
theorem app_toList (x : List UInt8) (s : ByteArray) : ((⟨x.toArray⟩ : ByteArray) ++ s).data.toList = x ++ s.data.toList := by
  have := ba_app x s.data.toList
  rw [show s = ⟨s.data.toList.toArray⟩ from rfl, this]
theorem text_size {f : Fr} (h : ok f) : (⟨(text f).toArray⟩ : ByteArray).size ≤ 4102 ∧ 6 ≤ (⟨(text f).toArray⟩ : ByteArray).size := by
  rw [size_of, text_len]
  by_cases ht : f.ty = 0
  · rcases h.2 with h' | h' | h'
    · have : body f = [] := by unfold body; rw [if_neg (by rw [ht]; decide)]; exact h'.2.2
      rw [this]; decide
    · rw [ht] at h'; exact absurd h'.1 (by decide)
    · rw [ht] at h'; exact absurd h'.1 (by decide)
  · rw [body_len h ht]
    have hk := kd_range h
    unfold kd at hk
    rw [if_neg ht] at hk
    have := size_range hk.1 (code_le _)
    omega
theorem read_err0 (s : List UInt8) : ¬ read s = .error 0 := by
  intro h
  match s with
  | [] => cases h
  | [a] | [a, _] | [a, _, _] | [a, _, _, _] | [a, _, _, _, _] => unfold read at h; dsimp only at h; split at h <;> cases h
  | a :: k :: l :: hh :: c :: x :: r =>
    unfold read at h
    dsimp only at h
    split at h
    · cases h
    unfold readHead at h
    split at h
    · cases h
    split at h
    · split at h <;> cases h
    · unfold readBody at h
      split at h
      · cases h
      split at h
      · cases h
      split at h
      · cases h
      split at h <;> cases h
/-- A packet's text is read, whatever stands behind it. -/
theorem reads_text {t h l z : Int} {d s : ByteArray} (hk : ok ⟨t, h, l, z, d.data.toList⟩) (hs : s.size ≤ 9000) (W : World) :
    Calls Try.prog 14 #[.string ((⟨(text ⟨t, h, l, z, d.data.toList⟩).toArray⟩ : ByteArray) ++ s)] W fun e w' => e = .returned (.tuple #[.agg #[.int .i64 t, .int .i64 h, .int .i64 l, .int .i64 z, .string d], .int .i64 (⟨(text ⟨t, h, l, z, d.data.toList⟩).toArray⟩ : ByteArray).size, .int .i64 0]) ∧ Below W.heap.size W w' := by
  have hsz := text_size hk
  have h := gread_any ((⟨(text ⟨t, h, l, z, d.data.toList⟩).toArray⟩ : ByteArray) ++ s) (by rw [app_size]; unfold maxLen; omega) W
  rw [app_toList, read_text hk] at h
  rw [size_of]
  exact h
end Gf
theorem back_walk (t h l z : Int) (d s : ByteArray) (_hd : d.size ≤ maxLen) (hs : s.size ≤ maxLen) (w : World) :
    Calls Try.prog 6 #[.agg #[.int .i64 t, .int .i64 h, .int .i64 l, .int .i64 z, .string d], .string s] w fun e w' => e = .returned (.bool true) ∧ Below w.heap.size w w' := by
  have bw := Gf.below1 w (.cells #[.int .i64 t, .int .i64 h, .int .i64 l, .int .i64 z, .string d] 23)
  have kw : Rg.Bk w.heap.size [.int .i64 t, .int .i64 h, .int .i64 l, .int .i64 z, .string d] 23 (w.alloc (.cells #[.int .i64 t, .int .i64 h, .int .i64 l, .int .i64 z, .string d] 23)) := Rg.Bk.new rfl
  have HA := keepF (C := [.int .i64 t, .int .i64 h, .int .i64 l, .int .i64 z, .string d]) (ty := 23) w gawake_any
  by_cases q1 : 5000 < d.size
  · exact back_big1 t h l z d s w bw kw HA (by simp; omega)
  have q1' : decide ((5000 : Int) < (d.size : Int)) = false := by simp; omega
  by_cases q2 : 9000 < s.size
  · exact back_big2 t h l z d s w bw kw HA q1' (by simp; omega)
  have q2' : decide ((9000 : Int) < (s.size : Int)) = false := by simp; omega
  have hm2 : s.size ≤ 9000 := by omega

  have HS := fun W => gread_any s hs W
  by_cases hk : Gf.ok ⟨t, h, l, z, d.data.toList⟩
  · have hX := (Gf.text_size hk).1
    have HW := keepF (C := [.int .i64 t, .int .i64 h, .int .i64 l, .int .i64 z, .string d]) (ty := 23) w (write_yes t h l z d hk)
    have HR := keepF (C := [.int .i64 t, .int .i64 h, .int .i64 l, .int .i64 z, .string d]) (ty := 23) w (Gf.reads_text hk hm2)
    cases hr : Gf.read s.data.toList with
    | ok fn =>
      obtain ⟨g, n⟩ := fn
      rw [hr] at HS
      obtain ⟨hg, htx, h6, hn⟩ := Gf.text_read hr
      rw [Gf.len_eq] at hn
      obtain ⟨t2, h2, l2, z2, d2⟩ := g
      have HV := write_yes t2 h2 l2 z2 ⟨d2.toArray⟩ hg
      refine back_11 t h l z d s w bw kw HA q1' q2' _ (by omega) hm2 t2 h2 l2 z2 ⟨d2.toArray⟩ _ n (by simp; omega) ?_ hn (by omega) HW HR (keepF w HS) (keepF w HV)
      rw [tl_eq, tl_eq, Gf.extract_eq s 0 n (by omega) hn]
      exact beq_iff_eq.2 htx
    | error e =>
      rw [hr] at HS
      by_cases he : e = 0
      · subst he
        exact absurd hr (Gf.read_err0 _)
      · exact back_10 t h l z d s w bw kw HA q1' q2' _ (by omega) hm2 e (beq_eq_false_iff_ne.2 (by omega)) HW HR (keepF w HS)
  · have HW := keepF (C := [.int .i64 t, .int .i64 h, .int .i64 l, .int .i64 z, .string d]) (ty := 23) w (write_no t h l z d hk)
    cases hr : Gf.read s.data.toList with
    | ok fn =>
      obtain ⟨g, n⟩ := fn
      rw [hr] at HS
      obtain ⟨hg, htx, h6, hn⟩ := Gf.text_read hr
      rw [Gf.len_eq] at hn
      obtain ⟨t2, h2, l2, z2, d2⟩ := g
      have HV := write_yes t2 h2 l2 z2 ⟨d2.toArray⟩ hg
      refine back_01 t h l z d s w bw kw HA q1' q2' t2 h2 l2 z2 ⟨d2.toArray⟩ _ n (by simp; omega) ?_ hn (by omega) HW (keepF w HS) (keepF w HV)
      rw [tl_eq, tl_eq, Gf.extract_eq s 0 n (by omega) hn]
      exact beq_iff_eq.2 htx
    | error e =>
      rw [hr] at HS
      by_cases he : e = 0
      · subst he
        exact absurd hr (Gf.read_err0 _)
      · exact back_00 t h l z d s w bw kw HA q1' q2' e (beq_eq_false_iff_ne.2 (by omega)) HW (keepF w HS)
end Go.Proofs.Ytpgjdobgfhhbiaa
