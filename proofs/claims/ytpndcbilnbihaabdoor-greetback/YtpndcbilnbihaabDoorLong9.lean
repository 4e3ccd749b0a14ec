/-
  Walks: long, of the package postchaiselaw09 (more than 3000 bytes).
-/
import Derived.Test.YtpndcbilnbihaabDoorGr9
import Derived.OpenShut
import Derived.Lib.Builder
namespace Go.Proofs.YtpndcbilnbihaabDoor
open Go.RowKit

theorem any_big {l : List ByteArray} {k : Nat} (h : k < l.length) (hb : 3000 < l[k].size) : l.any (fun s => decide (3000 < s.size)) = true :=
  List.any_eq_true.mpr ⟨l[k], List.getElem_mem h, by simpa using hb⟩
theorem any_take {l : List ByteArray} {k : Nat} (h : k < l.length) : (l.take (k + 1)).any (fun s => decide (3000 < s.size)) = ((l.take k).any (fun s => decide (3000 < s.size)) || decide (3000 < l[k].size)) := by
  rw [List.take_succ_eq_append_getElem h, List.any_append]; simp
set_option maxHeartbeats 400000 in
theorem long_any (l : List ByteArray) (b : Nat) (w : World) (hn : l.length ≤ 1000) (hc : ∀ (i : Nat) (h : i < l.length), w.cell? ⟨b, i, none⟩ = some (.string l[i])) :
    Calls Tryd.prog 4 #[.slice (some ⟨b, 0, none⟩) l.length l.length] w fun e w' => e = .returned (.bool (l.any fun s => decide (3000 < s.size))) ∧ w' = w := by
  have hc' : Hid (∀ (i : Nat) (h : i < l.length), w.cell? ⟨b, i, none⟩ = some (.string l[i])) := hc
  clear hc
  go_enter Tryd.func4, Tryd.ntmps4
  go_wp2
  go_loopw [7] (fun i wr => ∃ k : Nat, k ≤ l.length ∧ i = .int .i64 k ∧ Hid ((l.take k).any (fun s => decide (3000 < s.size)) = false) ∧ wr = w) (fun i _ => l.length - (intOf i).toNat)
  case atStart => exact ⟨0, Nat.zero_le _, rfl, rfl, rfl⟩
  case round =>
    obtain ⟨k, hk, rfl, hno, rfl⟩ := hrel
    by_cases hlt : k < l.length
    · have hcell := hc'.out k hlt
      by_cases hb : 3000 < l[k].size
      · have hr : Hid (l.any (fun s => decide (3000 < s.size)) = true) := any_big hlt hb
        have hb2 : decide ((3000 : Int) < (l[k].size : Int)) = true := by simp; omega
        clear hno
        go_wp2
        go_ret
        exact ⟨ret_bool hr.out.symm, rfl⟩
      · have hr : Hid ((l.take (k + 1)).any (fun s => decide (3000 < s.size)) = false) := by
          show _ = _; rw [any_take hlt, hno.out]; simpa using hb
        have hb2 : decide ((3000 : Int) < (l[k].size : Int)) = false := by simp; omega
        clear hno
        go_wp2
        go_roundw
        case rel => exact ⟨k + 1, by omega, by go_num, hr, trivial⟩
        case measure => simp [intOf]; omega
    · have hr : Hid (l.any (fun s => decide (3000 < s.size)) = false) := by
        have := hno.out; rw [List.take_of_length_le (by omega)] at this; exact this
      clear hno
      go_wp2
      go_ret
      exact ⟨ret_bool hr.out.symm, rfl⟩

theorem long_one (s : ByteArray) (w : World) (L : Bool) (hL : decide (3000 < s.size) = L) :
    Calls Tryd.prog 4 #[.slice (some ⟨w.heap.size, 0, none⟩) 1 1] (w.alloc (.cells #[.string s] 9)) fun e w' => e = .returned (.bool L) ∧ Below w.heap.size w w' := by
  have h := long_any [s] w.heap.size (w.alloc (.cells #[.string s] 9)) (by simp) (fun i hi => by
    obtain rfl : i = 0 := by simp at hi; omega
    rw [Lib.cell_of_heap (MapKept.heap_alloc w _).1 0]; rfl)
  have e : ([s].any fun s => decide (3000 < s.size)) = L := by simpa using hL
  rw [e] at h
  refine h.mono ?_
  rintro e w' ⟨rfl, rfl⟩
  exact ⟨rfl, (Below.refl _ w).alloc (Nat.le_refl _) _⟩

end Go.Proofs.YtpndcbilnbihaabDoor
