/-
  Chats (layer 8) in plain mathematics: what is printed.
-/
import Derived.Test.YteepfifglafjmaaDoorMathH
namespace Go.Proofs.YteepfifglafjmaaDoor
namespace Ch
/-- the sign of a byte -/
def put1 (b : UInt8) : List UInt8 := if 0 ≤ Lib.indexByte hid b then [92, lets.getD (Lib.indexByte hid b).toNat 0] else [b]
def putS (l : List UInt8) : List UInt8 := l.flatMap put1
def putT (l : List UInt8) : List UInt8 := if l = [] then [34, 34] else putS l
/-- does a text end with 13? -/
def ends (l : List UInt8) : Bool := l.getLast? == some 13
def putN (l : List UInt8) : List UInt8 := if ends l = true then putT l.dropLast else putS l ++ [92, 99]
/-- what is waited for from i on, with what is sent in its stead -/
def putW (ws ns : List ByteArray) (i : Nat) : List UInt8 := (if 0 < i then 45 :: putN (ns.getD (i - 1) ⟨#[]⟩).data.toList ++ [45] else []) ++ putT (ws.getD i ⟨#[]⟩).data.toList
def putWs (ws ns : List ByteArray) : Nat → List UInt8
  | 0 => []
  | i + 1 => putWs ws ns i ++ putW ws ns i
def putSt (x : St) : List UInt8 := putWs x.wants x.nudge x.wants.length ++ 32 :: putN x.send.data.toList ++ [32]
def putAll (l : List St) : List UInt8 := l.flatMap putSt
/-- a byte that some sign says -/
def said (b : UInt8) : Bool := decide (32 ≤ b.toNat ∧ b.toNat ≤ 126) || b == 13 || b == 10
def saidT (s : ByteArray) : Bool := s.data.toList.all said
def chkSt (x : St) : Nat := if x.wants.length < 1 ∨ 300 < x.wants.length ∨ x.nudge.length + 1 ≠ x.wants.length then 1 else if (x.wants.all saidT && x.nudge.all saidT && saidT x.send) = false then 3 else 0
def chkAll : List St → Nat
  | [] => 0
  | x :: r => if chkSt x ≠ 0 then chkSt x else chkAll r
/-- P8.2 -/
def print (l : List St) : List UInt8 × Nat := if 20 < l.length then ([], 5) else if chkAll l ≠ 0 then ([], chkAll l) else if 300 < (putAll l).length then ([], 5) else (putAll l, 0)
theorem put1_len (b : UInt8) : (put1 b).length ≤ 2 := by unfold put1; split <;> simp
theorem putS_len : ∀ l : List UInt8, (putS l).length ≤ 2 * l.length
  | [] => by simp [putS]
  | b :: l => by
    have h1 := put1_len b
    have h2 := putS_len l
    simp only [putS, List.flatMap_cons, List.length_append, List.length_cons] at *
    omega
theorem putS_snoc (l : List UInt8) (b : UInt8) : putS (l ++ [b]) = putS l ++ put1 b := by simp [putS]
theorem putT_len (l : List UInt8) : (putT l).length ≤ 2 * l.length + 2 := by
  have := putS_len l
  unfold putT; split
  · simp
  · omega
theorem putN_len (l : List UInt8) : (putN l).length ≤ 2 * l.length + 2 := by
  unfold putN; split
  · have := putT_len l.dropLast
    rw [List.length_dropLast] at this
    omega
  · have := putS_len l
    rw [List.length_append]; simp; omega
end Ch
end Go.Proofs.YteepfifglafjmaaDoor
