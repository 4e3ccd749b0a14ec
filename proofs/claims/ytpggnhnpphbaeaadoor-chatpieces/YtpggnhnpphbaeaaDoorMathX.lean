/-
  Chats (layer 8) in plain mathematics: what Parse says.
-/
import Derived.Test.YtpggnhnpphbaeaaDoorMathI
import Derived.Shelf.GgClosure.StringsIndexFunc
import Derived.Laws.RangeString
import Derived.Laws.RangeAny
namespace Go.Proofs.YtpggnhnpphbaeaaDoor
namespace Ch
/-- what a script may not have -/
def odd (x : Nat) : Bool := decide (x < 32) || decide (126 < x)
theorem odd_from (s : ByteArray) : ∀ (f pos : Nat), s.size ≤ pos + f → decide (0 ≤ Lib.idxFuncFrom odd true s f pos) = (s.data.toList.drop pos).any (fun b => odd b.toNat)
  | 0, pos, h => by
    rw [List.drop_eq_nil_of_le (by show s.size ≤ pos; omega)]
    rfl
  | f + 1, pos, h => by
    unfold Lib.idxFuncFrom
    by_cases hp : pos < s.size
    · rw [if_pos hp]
      have hl : pos < s.data.toList.length := hp
      have hb : s.data.toList[pos] = s[pos] := rfl
      rw [List.drop_eq_getElem_cons hl, List.any_cons, hb]
      by_cases ha : s[pos].toNat < 128
      · rw [decode_ascii s pos hp ha]
        dsimp only
        by_cases ho : odd s[pos].toNat = true
        · rw [if_pos ho, ho, Bool.true_or]
          simp
        · rw [if_neg ho]
          have := odd_from s f (pos + 1) (by omega)
          rw [this]
          simp at ho
          rw [ho, Bool.false_or]
      · have hd := decode_high s pos hp (by omega)
        have h1 : odd (Utf8.decode s pos).1 = true := by unfold odd; rw [decide_eq_true (show 126 < (Utf8.decode s pos).1 by omega), Bool.or_true]
        have h2 : odd s[pos].toNat = true := by unfold odd; rw [decide_eq_true (show 126 < s[pos].toNat by omega), Bool.or_true]
        rw [if_pos h1, h2, Bool.true_or]
        simp
    · rw [if_neg hp, List.drop_eq_nil_of_le (by show s.size ≤ pos; omega)]
      rfl
theorem odd_idx (s : ByteArray) : decide (0 ≤ Lib.idxFunc odd true s) = s.data.toList.any (fun b => odd b.toNat) := by
  have := odd_from s s.size 0 (by omega)
  rw [List.drop_zero] at this
  exact this
/-- what stands between blanks -/
def words (s : ByteArray) : List ByteArray := (Lib.fields s.data.toList).map (fun l => ⟨l.toArray⟩)
theorem fieldsGo_size : ∀ (l cur x : List UInt8), x ∈ Lib.fieldsGo cur l → x.length ≤ cur.length + l.length
  | [], cur, x, h => by
    unfold Lib.fieldsGo at h
    split at h
    · cases h
    · rw [List.mem_singleton.1 h]; simp
  | b :: l, cur, x, h => by
    unfold Lib.fieldsGo at h
    split at h
    · split at h
      · have := fieldsGo_size l [] x h; simp at *; omega
      · rcases List.mem_cons.1 h with e | e
        · rw [e]; simp
        · have := fieldsGo_size l [] x e; simp at *; omega
    · have := fieldsGo_size l _ x h; simp at *; omega
theorem words_size {s p : ByteArray} (h : p ∈ words s) : p.size ≤ s.size := by
  unfold words at h
  obtain ⟨l, hl, rfl⟩ := List.mem_map.1 h
  have := fieldsGo_size _ _ l hl
  show l.toArray.size ≤ s.size
  rw [List.size_toArray]
  simpa using this
/-- Parse -/
def parse (s : ByteArray) : List St × Int :=
  if 300 < s.size then ([], 5) else if s.data.toList.any (fun b => odd b.toNat) = true then ([], 3) else if 40 < (words s).length then ([], 5) else match rd 0 (words s) [] with
    | none => ([], 3)
    | some l => (l, 0)
end Ch
end Go.Proofs.YtpggnhnpphbaeaaDoor
