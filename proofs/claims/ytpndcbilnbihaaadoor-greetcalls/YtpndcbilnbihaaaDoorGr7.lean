/-
  Layer 9: areLetters and Choose.
-/
import Derived.Test.YtpndcbilnbihaaaDoorGr6
import Derived.Test.YtpndcbilnbihaaaDoorGr3
import Derived.Test.YtpndcbilnbihaaaDoorMathGl
namespace Go.Proofs.YtpndcbilnbihaaaDoor
open Go.RowKit

theorem idx_any (R : Nat) (w : World) (h1 : R ≤ 1114111) (hv : ¬ (55296 ≤ R ∧ R ≤ 57343)) :
    Calls Tryd.prog 34 #[.string ⟨#[103, 71, 105, 101]⟩, .int .i32 R] w fun e w' => e = .returned (.int .i64 (Gr.ix R)) ∧ Below w.heap.size w w' := by
  by_cases h : R < 128
  · have := Tryd.strings_IndexRune_ascii ⟨#[103, 71, 105, 101]⟩ (R : Int) w (by omega) (by omega)
    refine this.mono fun e w' h2 => ⟨?_, h2.2 ▸ Below.refl _ _⟩
    rw [h2.1]
    show Ending.returned (.int .i64 (Lib.indexByte [103, 71, 105, 101] (R : Int).toNat.toUInt8)) = _
    rw [Int.toNat_natCast, Gr.ix_low R h]
  · rw [Gr.ix_high (by omega)]
    by_cases he : R = 65533
    · subst he; exact idx_error w
    · exact idx_wide R w (by omega) h1 he hv

/-- the four marks, and how far the string is gone through -/
structure LIn (w : World) (B I : Nat) (s : ByteArray) (pos : Nat) (W : World) : Prop where
  bel : Below w.heap.size w W
  arr : Rg.Bk B [.bool ((s.data.toList.take pos).contains 103), .bool ((s.data.toList.take pos).contains 71), .bool ((s.data.toList.take pos).contains 105), .bool ((s.data.toList.take pos).contains 101)] 67 W
  it : W.heap[I]? = some (.stringIter s pos)
theorem LIn.moved {w : World} {B I : Nat} {s : ByteArray} {pos : Nat} {W W' : World} (h : LIn w B I s pos W) (hI : w.heap.size ≤ I) (n : Nat) (hb : Below (W.iterAt I s (pos + n)).heap.size (W.iterAt I s (pos + n)) W') :
    Below w.heap.size w W' ∧ Rg.Bk B [.bool ((s.data.toList.take pos).contains 103), .bool ((s.data.toList.take pos).contains 71), .bool ((s.data.toList.take pos).contains 105), .bool ((s.data.toList.take pos).contains 101)] 67 W' ∧ W'.heap[I]? = some (.stringIter s (pos + n)) := by
  have hne : B ≠ I := fun e => by have h1 := h.arr; have h2 := h.it; unfold Rg.Bk at h1; rw [e, h2] at h1; cases h1
  have hlt : I < W.heap.size := (Array.getElem?_eq_some_iff.1 h.it).1
  have a1 := Lib.below_iterAt h.bel hI s (pos + n)
  have a2 : Rg.Bk B [.bool ((s.data.toList.take pos).contains 103), .bool ((s.data.toList.take pos).contains 71), .bool ((s.data.toList.take pos).contains 105), .bool ((s.data.toList.take pos).contains 101)] 67 (W.iterAt I s (pos + n)) := h.arr.same (Lib.iterAt_other W I B s (pos + n) hne)
  refine ⟨a1.trans (hb.mono a1.size), a2.below hb a2.lt, ?_⟩
  rw [hb.block I (by rw [Lib.iterAt_size]; exact hlt)]
  exact Lib.iterAt_heap W I s pos (pos + n) h.it
theorem LIn.skip {w : World} {B I : Nat} {s : ByteArray} {pos : Nat} {W : World} (n : Nat) (hall : ∀ j, pos ≤ j → j < pos + n → (h : j < s.size) → 128 ≤ s[j].toNat)
    (h : Below w.heap.size w W ∧ Rg.Bk B [.bool ((s.data.toList.take pos).contains 103), .bool ((s.data.toList.take pos).contains 71), .bool ((s.data.toList.take pos).contains 105), .bool ((s.data.toList.take pos).contains 101)] 67 W ∧ W.heap[I]? = some (.stringIter s (pos + n))) : LIn w B I s (pos + n) W := by
  refine ⟨h.1, ?_, h.2.2⟩
  rw [Gr.has_skip s 103 (by decide) pos n hall, Gr.has_skip s 71 (by decide) pos n hall, Gr.has_skip s 105 (by decide) pos n hall, Gr.has_skip s 101 (by decide) pos n hall]
  exact h.2.1
theorem LIn.unk {w : World} {B I : Nat} {s : ByteArray} {pos : Nat} {W : World} (hlt : pos < s.size) (hk : Gr.ix s[pos].toNat = -1)
    (h : Below w.heap.size w W ∧ Rg.Bk B [.bool ((s.data.toList.take pos).contains 103), .bool ((s.data.toList.take pos).contains 71), .bool ((s.data.toList.take pos).contains 105), .bool ((s.data.toList.take pos).contains 101)] 67 W ∧ W.heap[I]? = some (.stringIter s (pos + 1))) : LIn w B I s (pos + 1) W := by
  refine ⟨h.1, ?_, h.2.2⟩
  have e : ∀ x : UInt8, ¬ Gr.ix x.toNat = -1 → (s.data.toList.take (pos + 1)).contains x = (s.data.toList.take pos).contains x := fun x hx => by
    rw [Gr.has_snoc s pos hlt, show (x == s[pos]) = false by rw [beq_eq_false_iff_ne]; rintro rfl; exact hx hk, Bool.or_false]
  rw [e 103 (by decide), e 71 (by decide), e 105 (by decide), e 101 (by decide)]
  exact h.2.1
theorem LIn.put0 {w : World} {B I : Nat} {s : ByteArray} {pos : Nat} {W : World} (hlt : pos < s.size) (hc : s[pos] = 103) (hB : w.heap.size ≤ B) (hBI : B ≠ I)
    (h : Below w.heap.size w W ∧ Rg.Bk B [.bool ((s.data.toList.take pos).contains 103), .bool ((s.data.toList.take pos).contains 71), .bool ((s.data.toList.take pos).contains 105), .bool ((s.data.toList.take pos).contains 101)] 67 W ∧ W.heap[I]? = some (.stringIter s (pos + 1))) : LIn w B I s (pos + 1) (W.setCell ⟨B, 0, none⟩ (.bool true)) := by
  refine ⟨h.1.trans ((Rg.Only.setCell W B 0 _).bel hB), ?_, ?_⟩
  · have := h.2.1.set 0 (.bool true)
    rw [Gr.has_snoc s pos hlt, Gr.has_snoc s pos hlt, Gr.has_snoc s pos hlt, Gr.has_snoc s pos hlt, hc]
    simpa using this
  · rw [(Rg.Only.setCell W B 0 _).block I (Ne.symm hBI)]; exact h.2.2
theorem LIn.put1 {w : World} {B I : Nat} {s : ByteArray} {pos : Nat} {W : World} (hlt : pos < s.size) (hc : s[pos] = 71) (hB : w.heap.size ≤ B) (hBI : B ≠ I)
    (h : Below w.heap.size w W ∧ Rg.Bk B [.bool ((s.data.toList.take pos).contains 103), .bool ((s.data.toList.take pos).contains 71), .bool ((s.data.toList.take pos).contains 105), .bool ((s.data.toList.take pos).contains 101)] 67 W ∧ W.heap[I]? = some (.stringIter s (pos + 1))) : LIn w B I s (pos + 1) (W.setCell ⟨B, 1, none⟩ (.bool true)) := by
  refine ⟨h.1.trans ((Rg.Only.setCell W B 1 _).bel hB), ?_, ?_⟩
  · have := h.2.1.set 1 (.bool true)
    rw [Gr.has_snoc s pos hlt, Gr.has_snoc s pos hlt, Gr.has_snoc s pos hlt, Gr.has_snoc s pos hlt, hc]
    simpa using this
  · rw [(Rg.Only.setCell W B 1 _).block I (Ne.symm hBI)]; exact h.2.2
theorem LIn.put2 {w : World} {B I : Nat} {s : ByteArray} {pos : Nat} {W : World} (hlt : pos < s.size) (hc : s[pos] = 105) (hB : w.heap.size ≤ B) (hBI : B ≠ I)
    (h : Below w.heap.size w W ∧ Rg.Bk B [.bool ((s.data.toList.take pos).contains 103), .bool ((s.data.toList.take pos).contains 71), .bool ((s.data.toList.take pos).contains 105), .bool ((s.data.toList.take pos).contains 101)] 67 W ∧ W.heap[I]? = some (.stringIter s (pos + 1))) : LIn w B I s (pos + 1) (W.setCell ⟨B, 2, none⟩ (.bool true)) := by
  refine ⟨h.1.trans ((Rg.Only.setCell W B 2 _).bel hB), ?_, ?_⟩
  · have := h.2.1.set 2 (.bool true)
    rw [Gr.has_snoc s pos hlt, Gr.has_snoc s pos hlt, Gr.has_snoc s pos hlt, Gr.has_snoc s pos hlt, hc]
    simpa using this
  · rw [(Rg.Only.setCell W B 2 _).block I (Ne.symm hBI)]; exact h.2.2
theorem LIn.put3 {w : World} {B I : Nat} {s : ByteArray} {pos : Nat} {W : World} (hlt : pos < s.size) (hc : s[pos] = 101) (hB : w.heap.size ≤ B) (hBI : B ≠ I)
    (h : Below w.heap.size w W ∧ Rg.Bk B [.bool ((s.data.toList.take pos).contains 103), .bool ((s.data.toList.take pos).contains 71), .bool ((s.data.toList.take pos).contains 105), .bool ((s.data.toList.take pos).contains 101)] 67 W ∧ W.heap[I]? = some (.stringIter s (pos + 1))) : LIn w B I s (pos + 1) (W.setCell ⟨B, 3, none⟩ (.bool true)) := by
  refine ⟨h.1.trans ((Rg.Only.setCell W B 3 _).bel hB), ?_, ?_⟩
  · have := h.2.1.set 3 (.bool true)
    rw [Gr.has_snoc s pos hlt, Gr.has_snoc s pos hlt, Gr.has_snoc s pos hlt, Gr.has_snoc s pos hlt, hc]
    simpa using this
  · rw [(Rg.Only.setCell W B 3 _).block I (Ne.symm hBI)]; exact h.2.2
end Go.Proofs.YtpndcbilnbihaaaDoor
