/-
  Walks of the laws of layer 12: IframeTurned, the row of bytes.
-/
import Derived.Test.YtghelhcmecmldaaIfD
namespace Go.Proofs.Ytghelhcmecmldaa
open Go.RowKit
namespace If
/-- The bytes from K on, the first m of them turned. -/
def tn (X : List UInt8) (K : Nat) (y : Nat → UInt8) : Nat → List UInt8
  | 0 => X
  | m + 1 => (tn X K y m).set (K + m) ((tn X K y m).getD (K + m) 0 ^^^ y m)
theorem tn_len (X : List UInt8) (K : Nat) (y : Nat → UInt8) : ∀ m, (tn X K y m).length = X.length
  | 0 => rfl
  | m + 1 => by unfold tn; rw [List.length_set]; exact tn_len X K y m
theorem tn_mid (A l B : List UInt8) (y : Nat → UInt8) : ∀ m, m ≤ l.length → ∃ l' : List UInt8, l'.length = l.length ∧ tn (A ++ (l ++ B)) A.length y m = A ++ (l' ++ B)
  | 0, _ => ⟨l, rfl, rfl⟩
  | m + 1, h => by
    obtain ⟨l', h1, h2⟩ := tn_mid A l B y m (by omega)
    refine ⟨l'.set m ((tn (A ++ (l ++ B)) A.length y m).getD (A.length + m) 0 ^^^ y m), by rw [List.length_set]; exact h1, ?_⟩
    show (tn (A ++ (l ++ B)) A.length y m).set (A.length + m) ((tn (A ++ (l ++ B)) A.length y m).getD (A.length + m) 0 ^^^ y m) = _
    generalize (tn (A ++ (l ++ B)) A.length y m).getD (A.length + m) 0 ^^^ y m = v
    rw [h2, List.set_append_right _ _ (by omega), Nat.add_sub_cancel_left, List.set_append_left _ _ (by omega)]
/-- What is turned among the data of a packet is told, or nothing was turned. -/
theorem tn_read {f : Fr} (h : ok f) (p m : Nat) (y : Nat → UInt8) (hm : m ≤ 4) (hp : p + m ≤ f.data.length) :
    tn (text f) (6 + p) y m = text f ∨ (¬ tn (text f) (6 + p) y m = text f ∧ read (tn (text f) (6 + p) y m) = .error 4) := by
  by_cases hd0 : f.data = []
  · have h0 : f.data.length = 0 := by rw [hd0]; rfl
    obtain rfl : m = 0 := by omega
    exact Or.inl rfl
  generalize hH : hd f.kd.toNat f.nm.toNat f.ak.toNat f.ch.toNat f.ca f.data.length = Hd
  have hl6 : Hd.length = 6 := by rw [← hH]; rfl
  have e1 : f.data = f.data.take p ++ ((f.data.drop p).take m ++ f.data.drop (p + m)) := by
    rw [← List.drop_drop, List.take_append_drop, List.take_append_drop]
  generalize hP : f.data.take p = P at e1
  generalize hM : (f.data.drop p).take m = l at e1
  generalize hQ : f.data.drop (p + m) = Q at e1
  have hPl : P.length = p := by rw [← hP, List.length_take]; omega
  have hll : l.length = m := by rw [← hM, List.length_take, List.length_drop]; omega
  have ht : text f = (Hd ++ P) ++ (l ++ (Q ++ be4 (crc f.data))) := by
    unfold text body
    rw [if_neg hd0, hH]
    conv => lhs; rw [show f.data ++ be4 (crc f.data) = (P ++ (l ++ Q)) ++ be4 (crc f.data) by rw [← e1]]
    simp only [List.append_assoc]
  obtain ⟨l', h1, h2⟩ := tn_mid (Hd ++ P) l (Q ++ be4 (crc f.data)) y m (by omega)
  rw [List.length_append, hl6, hPl] at h2
  rw [ht, h2]
  by_cases hne : l = l'
  · left; rw [hne]
  · right
    refine ⟨fun e => hne (List.append_cancel_right (List.append_cancel_left e)).symm, ?_⟩
    have hh := data_turned h P l l' Q e1 h1.symm (by omega) hne
    rw [hH] at hh
    rw [← hh]
    simp only [List.append_assoc]
end If
def rowOf (l : List UInt8) (z : Nat) : Array Value := (l.map fun b => Value.int .u8 b.toNat).toArray ++ Array.replicate z (.int .u8 0)
theorem rowOf_get (l : List UInt8) (z i : Nat) (h : i < l.length) : (rowOf l z)[i]? = some (.int .u8 (l[i].toNat : Int)) := by
  unfold rowOf
  rw [Array.getElem?_append_left (by simpa using h)]
  simp [h]
theorem rowOf_set (l : List UInt8) (z i : Nat) (h : i < l.length) (c : UInt8) : (rowOf l z).setIfInBounds i (.int .u8 (c.toNat : Int)) = rowOf (l.set i c) z := by
  apply Array.ext
  · simp [rowOf]
  · intro j h1 h2
    rw [← Option.some_inj, ← Array.getElem?_eq_getElem, ← Array.getElem?_eq_getElem, Array.getElem?_setIfInBounds]
    unfold rowOf
    by_cases hj : j < l.length
    · rw [Array.getElem?_append_left (by simpa using hj), Array.getElem?_append_left (by simpa using hj)]
      by_cases hij : i = j
      · subst hij; simp [h]; omega
      · simp [hij, hj]
    · rw [if_neg (by omega), Array.getElem?_append_right (by simp; omega), Array.getElem?_append_right (by simp; omega)]
      simp
theorem bytesRow_eq (s : ByteArray) (cap : Nat) : bytesRow s cap = rowOf s.data.toList (cap - s.size) := by
  unfold bytesRow rowOf
  congr 1
  apply Array.ext'
  simp
theorem rowOf_size (l : List UInt8) (z : Nat) : (rowOf l z).size = l.length + z := by simp [rowOf]
theorem frozen_row {w : World} {b : Nat} {cs : Array Value} {T : TypeId} {n : Nat} (hb : w.heap[b]? = some (.cells cs T (n, n + 1))) (j : Nat) (hj : j < n) : w.frozen? ⟨b, j, none⟩ = false := by
  simp [World.frozen?, hb]; omega
theorem conv_row {w : World} {b z cap : Nat} {fr : Nat × Nat} {L : List UInt8} (hb : w.heap[b]? = some (.cells (rowOf L z) 5 fr)) :
    (convert 39 9 (.slice (some ⟨b, 0, none⟩) L.length cap)).run Try.prog w = .ok (.string ⟨L.toArray⟩) w :=
  run_convert_bytes_back w 39 9 5 ⟨b, 0, none⟩ cap L Try.underlying39 Try.underlying5 Try.underlying9 (fun j hj => by
    have e : (⟨b, 0, none⟩ : Addr).add j = ⟨b, j, none⟩ := by cases j <;> simp [Addr.add]
    rw [e, Lib.cell_of_heap hb j, rowOf_get L z j hj])
/-- A row with a limit. -/
def RowIn (W : World) (P : Nat) (L : List UInt8) (zz : Nat) : Prop := W.heap[P]? = some (.cells (rowOf L zz) 5 (L.length + zz, L.length + zz + 1))
theorem RowIn.lt {W : World} {P : Nat} {L : List UInt8} {zz : Nat} (h : RowIn W P L zz) : P < W.heap.size := by
  rcases Nat.lt_or_ge P W.heap.size with h' | h'
  · exact h'
  · unfold RowIn at h; rw [Array.getElem?_eq_none h'] at h; cases h
theorem RowIn.cell {W : World} {P : Nat} {L : List UInt8} {zz : Nat} (h : RowIn W P L zz) {i : Nat} (hi : i < L.length) : W.cell? ⟨P, i, none⟩ = some (.int .u8 ((L.getD i 0).toNat : Int)) := by
  rw [Lib.cell_of_heap h, rowOf_get L zz i hi, List.getD_eq_getElem?_getD, List.getElem?_eq_getElem hi]
  rfl
theorem RowIn.thaw {W : World} {P : Nat} {L : List UInt8} {zz : Nat} (h : RowIn W P L zz) {i : Nat} (hi : i < L.length) : W.frozen? ⟨P, i, none⟩ = false := frozen_row h _ (by omega)
theorem RowIn.set {W : World} {P : Nat} {L : List UInt8} {zz : Nat} (h : RowIn W P L zz) {i : Nat} (hi : i < L.length) (c : UInt8) : RowIn (W.setCell ⟨P, i, none⟩ (.int .u8 (c.toNat : Int))) P (L.set i c) zz := by
  unfold RowIn
  rw [List.length_set]
  exact (Lib.heap_setCell_same h _).trans (by rw [rowOf_set _ zz i hi c])
theorem RowIn.below {W W' : World} {P B : Nat} {L : List UInt8} {zz : Nat} (h : RowIn W P L zz) (hb : Below B W W') (hB : P < B) : RowIn W' P L zz := by
  unfold RowIn
  rw [hb.block P hB]; exact h
theorem RowIn.old {W : World} {P : Nat} {L : List UInt8} {zz : Nat} (h : RowIn W P L zz) (o : Obj) : RowIn (W.alloc o) P L zz := by
  unfold RowIn
  rw [Below.heap_alloc W o P h.lt]; exact h
theorem RowIn.conv {W : World} {P : Nat} {L : List UInt8} {zz cap : Nat} (h : RowIn W P L zz) : (convert 39 9 (.slice (some ⟨P, 0, none⟩) L.length cap)).run Try.prog W = .ok (.string ⟨L.toArray⟩) W := conv_row h
end Go.Proofs.Ytghelhcmecmldaa
