/-
  Chats (layer 8) in plain mathematics: a word that is waited for, parted at strokes.
-/
import Derived.Test.YtpggnhnpphbaeaaDoorMathH
import Derived.Lib.Split
import Derived.Lib.CutLaws
namespace Go.Proofs.YtpggnhnpphbaeaaDoor
namespace Ch
/-- what stands between strokes -/
def dash (s : ByteArray) : List ByteArray := Lib.splitB ⟨#[45]⟩ 0 (Lib.countB s ⟨#[45]⟩) s
theorem split_size (sep : ByteArray) : ∀ (k : Nat) (s p : ByteArray), p ∈ Lib.splitB sep 0 k s → p.size ≤ s.size
  | 0, s, p, h => by rw [Lib.splitB_zero] at h; rw [List.mem_singleton.1 h]; exact Nat.le_refl _
  | k + 1, s, p, h => by
    unfold Lib.splitB at h
    split at h
    · rw [List.mem_singleton.1 h]; exact Nat.le_refl _
    · rcases List.mem_cons.1 h with e | e
      · rw [e, ByteArray.size_extract]; omega
      · have := split_size sep k _ p e
        rw [ByteArray.size_extract] at this
        omega
theorem dash_size {s p : ByteArray} (h : p ∈ dash s) : p.size ≤ s.size := split_size _ _ _ _ h
theorem split_len (sep : ByteArray) (h1 : 1 ≤ sep.size) : ∀ (k : Nat) (s : ByteArray), (Lib.splitB sep 0 k s).length ≤ s.size + 1
  | 0, s => by rw [Lib.splitB_zero]; simp
  | k + 1, s => by
    rcases Lib.indexB_cases s sep with h | ⟨i, h, hi⟩
    · rw [Lib.splitB_miss sep 0 _ s h]; simp
    · rw [Lib.splitB_hit sep 0 k s i h, List.length_cons]
      have := split_len sep h1 k (s.extract (i + sep.size) s.size)
      rw [ByteArray.size_extract] at this
      omega
theorem dash_len (s : ByteArray) : (dash s).length ≤ s.size + 1 := split_len _ (by decide) _ _
/-- part by part: what is waited for, and the nudges -/
def aw : Nat → List ByteArray → List ByteArray → List ByteArray → Option (List ByteArray × List ByteArray)
  | _, [], ws, ns => some (ws, ns)
  | i, p :: r, ws, ns => if i % 2 = 0 then (match text false p.data.toList with
      | none => none
      | some t => aw (i + 1) r (ws ++ [⟨t.toArray⟩]) ns) else (match text true p.data.toList with
      | none => none
      | some t => aw (i + 1) r ws (ns ++ [⟨t.toArray⟩]))
def awaited (s : ByteArray) : Option (List ByteArray × List ByteArray) := if (dash s).length % 2 = 0 then none else aw 0 (dash s) [] []
/-- word by word: the steps -/
def rd : Nat → List ByteArray → List St → Option (List St)
  | _, [], l => some l
  | i, x :: r, l => if i % 2 = 0 then (match awaited x with
      | none => none
      | some q => rd (i + 1) r (l ++ [⟨q.1, q.2, ⟨#[]⟩⟩])) else (match text true x.data.toList with
      | none => none
      | some t => rd (i + 1) r (l.set (i / 2) { l.getD (i / 2) ⟨[], [], ⟨#[]⟩⟩ with send := ⟨t.toArray⟩ }))
end Ch
end Go.Proofs.YtpggnhnpphbaeaaDoor
