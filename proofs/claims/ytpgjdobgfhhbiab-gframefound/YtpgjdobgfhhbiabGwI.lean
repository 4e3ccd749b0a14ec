/-
  Walks of the laws of layer 11: GframeBack, whole.
-/
import Derived.Test.YtpgjdobgfhhbiabGwH
namespace Go.Proofs.Ytpgjdobgfhhbiab
open Go.RowKit
theorem keepF {f : FuncId} {args : Array Value} {r : Value} {C : List Value} {ty : TypeId} (w : World) (H : ∀ W, Calls Try.prog f args W fun e w' => e = .returned r ∧ Below W.heap.size W w') :
    Hid (∀ W, Below w.heap.size w W → Rg.Bk w.heap.size C ty W → Calls Try.prog f args W fun e w' => e = .returned r ∧ Below w.heap.size w w' ∧ Rg.Bk w.heap.size C ty w') :=
  fun W hW hk => (H W).mono fun _ _ ⟨a, b⟩ => ⟨a, hW.trans (b.mono hW.size), hk.below b hk.lt⟩
namespace Gf
theorem app_toList (x : List UInt8) (s : ByteArray) : ((⟨x.toArray⟩ : ByteArray) ++ s).data.toList = x ++ s.data.toList := by
  have := ba_app x s.data.toList
  rw [show s = ⟨s.data.toList.toArray⟩ from rfl, this]
theorem text_size {f : Fr} (h : ok f) : (⟨(text f).toArray⟩ : ByteArray).size ≤ 4102 ∧ 6 ≤ (⟨(text f).toArray⟩ : ByteArray).size := by
  rw [size_of, text_len]
  by_cases ht : f.ty = 0
  · rcases h.2 with h' | h' | h'
    · have : body f = [] := by unfold body; rw [if_neg (by rw [ht]; decide)]; exact h'.2.2
      rw [this]; decide
    · rw [ht] at h'; exact absurd h'.1 (by decide)
    · rw [ht] at h'; exact absurd h'.1 (by decide)
  · rw [body_len h ht]
    have hk := kd_range h
    unfold kd at hk
    rw [if_neg ht] at hk
    have := size_range hk.1 (code_le _)
    omega
theorem read_err0 (s : List UInt8) : ¬ read s = .error 0 := by
  intro h
  match s with
  | [] => cases h
  | [a] | [a, _] | [a, _, _] | [a, _, _, _] | [a, _, _, _, _] => unfold read at h; dsimp only at h; split at h <;> cases h
  | a :: k :: l :: hh :: c :: x :: r =>
    unfold read at h
    dsimp only at h
    split at h
    · cases h
    unfold readHead at h
    split at h
    · cases h
    split at h
    · split at h <;> cases h
    · unfold readBody at h
      split at h
      · cases h
      split at h
      · cases h
      split at h
      · cases h
      split at h <;> cases h
/-- A packet's text is read, whatever stands behind it. -/
theorem reads_text {t h l z : Int} {d s : ByteArray} (hk : ok ⟨t, h, l, z, d.data.toList⟩) (hs : s.size ≤ 9000) (W : World) :
    Calls Try.prog 14 #[.string ((⟨(text ⟨t, h, l, z, d.data.toList⟩).toArray⟩ : ByteArray) ++ s)] W fun e w' => e = .returned (.tuple #[.agg #[.int .i64 t, .int .i64 h, .int .i64 l, .int .i64 z, .string d], .int .i64 (⟨(text ⟨t, h, l, z, d.data.toList⟩).toArray⟩ : ByteArray).size, .int .i64 0]) ∧ Below W.heap.size W w' := by
  have hsz := text_size hk
  have h := gread_any ((⟨(text ⟨t, h, l, z, d.data.toList⟩).toArray⟩ : ByteArray) ++ s) (by rw [app_size]; unfold maxLen; omega) W
  rw [app_toList, read_text hk] at h
  rw [size_of]
  exact h
end Gf
end Go.Proofs.Ytpgjdobgfhhbiab
