/-
  Layer 6: a disk in memory; roomOf, New, isName, spend.
-/
import Derived.Test.YtempiajepomajaaRet
import Derived.Test.YtempiajepomajaaMathF
import Derived.Test.YtempiajepomajaaRowG
import Derived.WalkMore
namespace Go.Proofs.Ytempiajepomajaa
open Go.RowKit

/-- a file's cells -/
def fileE : Rg.El Dsk.Fl := { enc := fun f => [.string f.n, .string f.d], m := 2, hm := fun _ => rfl, pos := by decide, one := fun x u hu => by simp at hu; rcases hu with rfl | rfl <;> rfl, ty := 53 }
/-- an operation's cells -/
def opE : Rg.El Dsk.Dop := { enc := fun o => [.int .i64 o.k, .string o.n, .string o.t, .string o.d], m := 4, hm := fun _ => rfl, pos := by decide, one := fun x u hu => by simp at hu; rcases hu with rfl | rfl | rfl | rfl <;> rfl, ty := 56 }

namespace Dsk
/-- a disk -/
structure Dk where
  safe : List Fl
  ops : List Dop
  cap : Int
  fuse : Int
  down : Bool
/-- P6.1: the room nearest to n -/
def room (n : Int) : Int := if n ≤ 0 then 0 else if 60000 ≤ n then 60000 else n
theorem room_bd (n : Int) : 0 ≤ room n ∧ room n ≤ 60000 := by unfold room; split; (· omega); split <;> omega
def new (n : Int) : Dk := ⟨[], [], room n, -1, false⟩
def okc (c : UInt8) : Bool := decide (33 ≤ c.toNat ∧ c.toNat ≤ 126 ∧ c.toNat ≠ 47)
/-- P6.1: a file's name -/
def isName (s : ByteArray) : Bool := s.data.toList.all okc && decide (1 ≤ s.size ∧ s.size ≤ 30)
/-- one operation less -/
def burn (d : Dk) : Dk := if d.fuse > 0 then { d with fuse := d.fuse - 1 } else d
end Dsk

/-- a disk as a value, its rows in memory -/
def dval (sa : Option Addr) (sn sc : Nat) (oa : Option Addr) (on oc : Nat) (cap fuse : Int) (down : Bool) : Value := .agg #[.slice sa sn sc, .slice oa on oc, .int .i64 cap, .int .i64 fuse, .bool down]
def DAt (W : World) (v : Value) (d : Dsk.Dk) : Prop := ∃ sa sc oa oc, v = dval sa d.safe.length sc oa d.ops.length oc d.cap d.fuse d.down ∧ fileE.Row W sa d.safe ∧ opE.Row W oa d.ops ∧ d.safe.length ≤ sc ∧ d.ops.length ≤ oc
theorem DAt.below {W W' : World} {v : Value} {d : Dsk.Dk} (h : DAt W v d) (hb : Below W.heap.size W W') : DAt W' v d := by
  obtain ⟨sa, sc, oa, oc, h1, h2, h3, h4, h5⟩ := h
  exact ⟨sa, sc, oa, oc, h1, h2.below hb, h3.below hb, h4, h5⟩

set_option maxHeartbeats 400000 in
theorem roomOf_any (n : Int) (w : World) : Calls Try.prog 23 #[.int .i64 n] w fun e w' => e = .returned (.int .i64 (Dsk.room n)) ∧ w' = w := by
  have hr : Hid (Dsk.room n = if n ≤ 0 then 0 else if 60000 ≤ n then 60000 else n) := rfl
  go_enter Try.func23, Try.ntmps23
  go_wp2
  all_goals
    go_ret
    refine ⟨ret_int ?_, rfl⟩
    rw [hr.out]
    (repeat' split) <;> omega

set_option maxHeartbeats 400000 in
theorem new_any (n : Int) (w : World) : Calls Try.prog 6 #[.int .i64 n] w fun e w' => e = .returned (dval none 0 0 none 0 0 (Dsk.room n) (-1) false) ∧ Below w.heap.size w w' := by
  have H := Rg.hid (roomOf_any n)
  go_enter Try.func6, Try.ntmps6
  go_wp2_with (go_at_call 23; refine (H.out _).mono ?_; rintro e w' ⟨rfl, rfl⟩)
  exact bodyPost_ret (v := dval none 0 0 none 0 0 (Dsk.room n) (-1) false) (by simp [results, Try.results6, go_sem, dval]) rfl ⟨rfl, Rg.al1 _ _⟩

namespace Dsk
theorem all_not (s : ByteArray) (k : Nat) (h : k < s.size) (h2 : okc s[k] = false) : s.data.toList.all okc = false := by
  rw [List.all_eq_false]
  have e : s[k] = s.data.toList[k]'(by simpa using h) := rfl
  exact ⟨s[k], by rw [e]; exact List.getElem_mem _, by simp [h2]⟩
theorem all_take (s : ByteArray) (k : Nat) (h : k < s.size) (h1 : (s.data.toList.take k).all okc = true) (h2 : okc s[k] = true) : (s.data.toList.take (k + 1)).all okc = true := by
  rw [List.take_succ_eq_append_getElem (by simpa using h), List.all_append, h1]
  have e : s[k] = s.data.toList[k]'(by simpa using h) := rfl
  rw [e] at h2
  simpa using h2
theorem isName_no {s : ByteArray} (h : s.data.toList.all okc = false) : isName s = false := by unfold isName; rw [h]; rfl
theorem isName_yes {s : ByteArray} (h : s.data.toList.all okc = true) : isName s = decide (1 ≤ s.size ∧ s.size ≤ 30) := by unfold isName; rw [h]; rfl
theorem empty_size {s : ByteArray} : (s.toList == []) = decide (s.size = 0) := by
  rw [tl_eq]
  have e : s.size = s.data.toList.length := rfl
  cases h : s.data.toList with
  | nil => rw [h] at e; simp at e; simp [e]
  | cons a l => rw [h] at e; simp at e; simp [e]
end Dsk

set_option maxHeartbeats 1000000 in
theorem isName_any (s : ByteArray) (w : World) (hs : s.size ≤ maxLen) :
    Calls Try.prog 49 #[.string s] w fun e w' => e = .returned (.bool (Dsk.isName s)) ∧ w' = w := by
  unfold maxLen at hs
  go_enter Try.func49, Try.ntmps49
  go_wp2
  go_loop [6] (fun i => ∃ k : Nat, k ≤ s.size ∧ i = .int .i64 k ∧ Hid ((s.data.toList.take k).all Dsk.okc = true)) (fun i => s.size - (intOf i).toNat)
  case atStart => exact ⟨0, Nat.zero_le _, rfl, rfl⟩
  case round =>
    obtain ⟨k, hk, rfl, hall⟩ := hrel
    by_cases hlt : k < s.size
    · cases ho : Dsk.okc s[k]
      · have hr : Hid (Dsk.isName s = false) := Dsk.isName_no (Dsk.all_not s k hlt ho)
        unfold Dsk.okc at ho
        rw [decide_eq_false_iff_not] at ho
        clear hall
        by_cases h1 : s[k].toNat < 33
        · have d1 : decide ((s[k].toNat : Int) < 33) = true := by simp; omega
          clear ho
          go_wp2
          go_ret
          exact ⟨ret_bool hr.out.symm, rfl⟩
        · have d1 : decide ((s[k].toNat : Int) < 33) = false := by simp; omega
          by_cases h2 : 126 < s[k].toNat
          · have d2 : decide ((126 : Int) < (s[k].toNat : Int)) = true := by simp; omega
            clear ho
            go_wp2
            go_ret
            exact ⟨ret_bool hr.out.symm, rfl⟩
          · have d2 : decide ((126 : Int) < (s[k].toNat : Int)) = false := by simp; omega
            have d3 : ((s[k].toNat : Int) == 47) = true := by simp; omega
            clear ho
            go_wp2
            go_ret
            exact ⟨ret_bool hr.out.symm, rfl⟩
      · have hn : Hid ((s.data.toList.take (k + 1)).all Dsk.okc = true) := Dsk.all_take s k hlt hall.out ho
        unfold Dsk.okc at ho
        rw [decide_eq_true_iff] at ho
        clear hall
        have d1 : decide ((s[k].toNat : Int) < 33) = false := by simp; omega
        have d2 : decide ((126 : Int) < (s[k].toNat : Int)) = false := by simp; omega
        have d3 : ((s[k].toNat : Int) == 47) = false := by simp; omega
        clear ho
        go_wp2
        go_round
        case rel => exact ⟨k + 1, by omega, by go_num, hn⟩
        case measure => simp [intOf]; omega
    · obtain rfl : k = s.size := by omega
      have hr : Hid (Dsk.isName s = decide (1 ≤ s.size ∧ s.size ≤ 30)) := by
        refine Dsk.isName_yes ?_
        have := hall.out
        rw [List.take_of_length_le (show s.data.toList.length ≤ s.size from Nat.le_refl _)] at this
        exact this
      clear hall
      by_cases h0 : s.size = 0
      · have d0 : (s.toList == []) = true := by rw [Dsk.empty_size]; simp [h0]
        have d0' : (s.toList != []) = false := by simp [bne, d0]
        have hr' : Hid (Dsk.isName s = false) := by show _ = _; rw [hr.out]; simp [h0]
        clear h0 hr
        go_wp2
        go_ret
        exact ⟨ret_bool hr'.out.symm, rfl⟩
      · have d0 : (s.toList == []) = false := by rw [Dsk.empty_size]; simp [h0]
        have d0' : (s.toList != []) = true := by simp [bne, d0]
        by_cases h1 : s.size ≤ 30
        · have d1 : decide ((s.size : Int) ≤ 30) = true := by simp; omega
          have hr' : Hid (Dsk.isName s = true) := by show _ = _; rw [hr.out]; simp; omega
          clear hr
          go_wp2
          go_ret
          exact ⟨ret_bool hr'.out.symm, rfl⟩
        · have d1 : decide ((s.size : Int) ≤ 30) = false := by simp; omega
          have hr' : Hid (Dsk.isName s = false) := by show _ = _; rw [hr.out]; simp; omega
          clear hr
          go_wp2
          go_ret
          exact ⟨ret_bool hr'.out.symm, rfl⟩

set_option maxHeartbeats 1000000 in
theorem spend_any (sa : Option Addr) (sn sc : Nat) (oa : Option Addr) (on oc : Nat) (cap fuse : Int) (down : Bool) (w : World) (hf : -1 ≤ fuse) (hf' : fuse ≤ 9223372036854775807) :
    Calls Try.prog 51 #[.agg #[.slice sa sn sc, .slice oa on oc, .int .i64 cap, .int .i64 fuse, .bool down]] w fun e w' =>
      e = .returned (.tuple #[.agg #[.slice sa sn sc, .slice oa on oc, .int .i64 cap, .int .i64 (if fuse > 0 then fuse - 1 else fuse), .bool (down || decide (fuse = 0))], .int .i64 (if fuse = 0 then 9 else 0)]) ∧ Below w.heap.size w w' := by
  by_cases h0 : fuse = 0
  · subst h0
    go_enter Try.func51, Try.ntmps51
    go_wp2
    exact bodyPost_ret (v := .tuple #[.agg #[.slice sa sn sc, .slice oa on oc, .int .i64 cap, .int .i64 0, .bool true], .int .i64 9]) (by simp [results, Try.results51, go_sem]) rfl ⟨rfl, Rg.al2 _ _ _⟩
  · have d0 : (fuse == 0) = false := by simp [h0]
    by_cases h1 : 0 < fuse
    · have d1 : decide (0 < fuse) = true := by simp [h1]
      have e1 : Hid ((if fuse > 0 then fuse - 1 else fuse) = fuse - 1) := if_pos h1
      have e2 : Hid ((down || decide (fuse = 0)) = down) := by show _ = _; simp [h0]
      have e3 : Hid ((if fuse = 0 then (9 : Int) else 0) = 0) := if_neg h0
      rw [e1.out, e2.out, e3.out]
      go_enter Try.func51, Try.ntmps51
      go_wp2
      exact bodyPost_ret (v := .tuple #[.agg #[.slice sa sn sc, .slice oa on oc, .int .i64 cap, .int .i64 (fuse - 1), .bool down], .int .i64 0]) (by simp [results, Try.results51, go_sem]) rfl ⟨rfl, Rg.al2 _ _ _⟩
    · have d1 : decide (0 < fuse) = false := by simp; omega
      have e1 : Hid ((if fuse > 0 then fuse - 1 else fuse) = fuse) := if_neg h1
      have e2 : Hid ((down || decide (fuse = 0)) = down) := by show _ = _; simp [h0]
      have e3 : Hid ((if fuse = 0 then (9 : Int) else 0) = 0) := if_neg h0
      rw [e1.out, e2.out, e3.out]
      go_enter Try.func51, Try.ntmps51
      go_wp2
      exact bodyPost_ret (v := .tuple #[.agg #[.slice sa sn sc, .slice oa on oc, .int .i64 cap, .int .i64 fuse, .bool down], .int .i64 0]) (by simp [results, Try.results51, go_sem]) rfl ⟨rfl, Rg.al2 _ _ _⟩
end Go.Proofs.Ytempiajepomajaa
