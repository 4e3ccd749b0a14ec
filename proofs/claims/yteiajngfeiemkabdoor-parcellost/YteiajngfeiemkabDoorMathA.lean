/-
  Plain mathematics of layer 1 (octet), first part: what Number and Get answer, as functions on lists of bytes. No program in it.
-/
import Derived.Lib.ItoaNum
namespace Go.Proofs.YteiajngfeiemkabDoor
namespace Oct

def isDig (c : UInt8) : Bool := decide (48 ≤ c.toNat ∧ c.toNat ≤ 57)
theorem isDig_true {c : UInt8} (h0 : 48 ≤ (c.toNat : Int)) (h1 : (c.toNat : Int) ≤ 57) : isDig c = true := by
  unfold isDig; exact decide_eq_true ⟨by omega, by omega⟩
theorem isDig_low {c : UInt8} (h : (c.toNat : Int) < 48) : isDig c = false := by
  unfold isDig; exact decide_eq_false (by omega)
theorem isDig_high {c : UInt8} (h : 57 < (c.toNat : Int)) : isDig c = false := by
  unfold isDig; exact decide_eq_false (by omega)
theorem isDig_le {c : UInt8} (h : isDig c = true) : 48 ≤ c.toNat ∧ c.toNat ≤ 57 := of_decide_eq_true h

def areDig (l : List UInt8) : Bool := l.all isDig && !l.isEmpty
def numTo (l : List UInt8) : Nat := l.foldl (fun n c => n * 10 + (c.toNat - 48)) 0
theorem numTo_snoc (l : List UInt8) (c : UInt8) : numTo (l ++ [c]) = numTo l * 10 + (c.toNat - 48) := by
  unfold numTo; rw [List.foldl_append]; rfl
theorem numTo_nil : numTo [] = 0 := rfl

theorem take_snoc (s : ByteArray) (k : Nat) (h : k < s.size) : s.data.toList.take (k + 1) = s.data.toList.take k ++ [s[k]] := by
  rw [List.take_succ_eq_append_getElem (by simpa using h)]; rfl
theorem take_all (s : ByteArray) (k : Nat) (h : s.size ≤ k) : s.data.toList.take k = s.data.toList := by
  rw [List.take_of_length_le (by simpa using h)]
theorem all_snoc (s : ByteArray) (k : Nat) (h : k < s.size) (h1 : (s.data.toList.take k).all isDig = true) (h2 : isDig s[k] = true) :
    (s.data.toList.take (k + 1)).all isDig = true := by
  rw [take_snoc s k h, List.all_append, h1]; simp [h2]
theorem mem_at (s : ByteArray) (k : Nat) (h : k < s.size) : s[k] ∈ s.data.toList := by
  have e : s[k] = s.data.toList[k]'(by simpa using h) := rfl
  rw [e]; exact List.getElem_mem _
theorem all_not (s : ByteArray) (k : Nat) (h : k < s.size) (h2 : isDig s[k] = false) : s.data.toList.all isDig = false := by
  rw [List.all_eq_false]; exact ⟨s[k], mem_at s k h, by simp [h2]⟩
theorem areDig_not (s : ByteArray) (k : Nat) (h : k < s.size) (h2 : isDig s[k] = false) : areDig s.data.toList = false := by
  unfold areDig; rw [all_not s k h h2]; rfl
theorem foldNum_lt : ∀ (l : List UInt8) (a : Nat), l.all isDig = true → l.foldl (fun n c => n * 10 + (c.toNat - 48)) a < (a + 1) * 10 ^ l.length
  | [], a, _ => by simp
  | c :: l, a, h => by
    rw [List.all_cons, Bool.and_eq_true] at h
    have h2 := isDig_le h.1
    have h1 := foldNum_lt l (a * 10 + (c.toNat - 48)) h.2
    rw [List.foldl_cons, List.length_cons, Nat.pow_succ]
    refine Nat.lt_of_lt_of_le h1 ?_
    rw [Nat.mul_comm (10 ^ l.length) 10, ← Nat.mul_assoc]
    exact Nat.mul_le_mul_right _ (by omega)
theorem numTo_lt (l : List UInt8) (h : l.all isDig = true) : numTo l < 10 ^ l.length := by
  have := foldNum_lt l 0 h
  unfold numTo; simpa using this
/-- P1.2: the number that a text says, and the error's number. -/
def number (l : List UInt8) : Nat × Nat :=
  if areDig l = false ∨ (1 < l.length ∧ l.headD 0 = 48) then (0, 3)
  else if 13 < l.length then (0, 5) else if 1099511627776 < numTo l then (0, 5) else (numTo l, 0)
theorem number_form {l : List UInt8} (h : areDig l = false) : number l = (0, 3) := by unfold number; rw [if_pos (Or.inl h)]
theorem number_zero {l : List UInt8} (h : 1 < l.length) (h0 : l.headD 0 = 48) : number l = (0, 3) := by unfold number; rw [if_pos (Or.inr ⟨h, h0⟩)]
theorem number_else {l : List UInt8} (h : areDig l = true) (h0 : ¬ (1 < l.length ∧ l.headD 0 = 48)) :
    number l = if 13 < l.length then (0, 5) else if 1099511627776 < numTo l then (0, 5) else (numTo l, 0) := by
  unfold number; rw [if_neg (by simp only [h, Bool.true_eq_false, false_or]; exact h0)]
theorem headD_getElem : ∀ (l : List UInt8) (h : 0 < l.length), l.headD 0 = l[0]
  | [], h => by simp at h
  | a :: r, _ => rfl
theorem headD_at (s : ByteArray) (h : 0 < s.size) : s.data.toList.headD 0 = s[0] :=
  headD_getElem s.data.toList (by simpa using h)
theorem len_eq (s : ByteArray) : s.data.toList.length = s.size := Array.length_toList
theorem areDig_pos {l : List UInt8} (h : areDig l = true) : 0 < l.length := by
  unfold areDig at h; cases l with
  | nil => simp at h
  | cons a r => simp
theorem areDig_all {l : List UInt8} (h : areDig l = true) : l.all isDig = true := by
  unfold areDig at h; rw [Bool.and_eq_true] at h; exact h.1
theorem areDig_mk {l : List UInt8} (h : l.all isDig = true) (h0 : 0 < l.length) : areDig l = true := by
  unfold areDig; rw [h]; cases l with
  | nil => simp at h0
  | cons a r => rfl
theorem take_dig (s : ByteArray) (k : Nat) (h : k < s.size) (ha : s.data.toList.all isDig = true) : isDig s[k] = true :=
  List.all_eq_true.1 ha _ (mem_at s k h)
theorem numTo_take (s : ByteArray) (k : Nat) (h : k < s.size) (ha : s.data.toList.all isDig = true) :
    (numTo (s.data.toList.take (k + 1)) : Int) = (numTo (s.data.toList.take k) : Int) * 10 + ((s[k].toNat : Int) - 48) := by
  have h1 := isDig_le (take_dig s k h ha)
  rw [take_snoc s k h, numTo_snoc]; omega
theorem numTo_take_lt (s : ByteArray) (k : Nat) (hk : k ≤ 13) (ha : s.data.toList.all isDig = true) : numTo (s.data.toList.take k) < 10000000000000 := by
  have h1 : (s.data.toList.take k).all isDig = true := by
    rw [List.all_eq_true] at ha ⊢; intro x hx; exact ha x (List.mem_of_mem_take hx)
  have h2 := numTo_lt _ h1
  have h3 : (s.data.toList.take k).length ≤ 13 := by simp; omega
  have h4 : (10 : Nat) ^ (s.data.toList.take k).length ≤ 10 ^ 13 := Nat.pow_le_pow_right (by omega) h3
  have h5 : (10 : Nat) ^ 13 = 10000000000000 := by decide
  omega
end Oct
end Go.Proofs.YteiajngfeiemkabDoor
