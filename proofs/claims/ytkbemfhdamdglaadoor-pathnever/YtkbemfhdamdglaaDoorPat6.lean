/-
  Walks of layer 4: Permit and the document's Permit; long.
-/
import Derived.Test.YtkbemfhdamdglaaDoorPat5
namespace Go.Proofs.YtkbemfhdamdglaaDoor
open Go.RowKit

/-- a slice of texts, wherever it lies; where there is none, the address says nothing -/
def Row (w : World) (a : Option Addr) (l : List ByteArray) : Prop :=
  l = [] ∨ ∃ b o : Nat, a = some ⟨b, o, none⟩ ∧ b < w.heap.size ∧ ∀ (i : Nat) (h : i < l.length), w.cell? ⟨b, o + i, none⟩ = some (.string l[i])
theorem Row.below {w w' : World} {B : Nat} {a : Option Addr} {l : List ByteArray} (h : Row w a l) (hb : Below B w w') (hB : w.heap.size ≤ B) : Row w' a l := by
  rcases h with h | ⟨b, o, h1, h2, h3⟩
  · exact .inl h
  · refine .inr ⟨b, o, h1, Nat.lt_of_lt_of_le h2 hb.size, fun i hi => ?_⟩
    rw [hb.cell (p := ⟨b, o + i, none⟩) (Nat.lt_of_lt_of_le h2 hB)]; exact h3 i hi

set_option maxHeartbeats 1000000 in
theorem permit_any (a : Option Addr) (c : Nat) (l : List ByteArray) (p : ByteArray) (w : World) (hm : MaxIn w) (hrow : Row w a l) (hl : ∀ s ∈ l, s.size ≤ maxLen) (hp : p.size ≤ maxLen) (hn : l.length ≤ 1000000) :
    Calls Tryd.prog 17 #[.slice a l.length c, .string p] w fun e w' => e = .returned (.bool (Pth.permit (l.map fun s : ByteArray => s.data.toList) p.data.toList)) ∧ Below w.heap.size w w' := by
  rcases hrow with rfl | ⟨b, o, rfl, hb, hc⟩
  · go_enter Tryd.func17, Tryd.ntmps17
    go_wp2
    go_loop [9] (fun i => i = .int .i64 0) (fun _ => 0)
    case atStart => rfl
    case round =>
      obtain rfl := hrel
      go_wp2
      go_ret
      exact ⟨rfl, Below.refl _ _⟩
  · have HU : Hid (∀ (r : ByteArray) (W : World), r.size ≤ maxLen → Below w.heap.size w W → Calls Tryd.prog 13 #[.string r, .string p] W fun e w' => e = .returned (.bool (Pth.under r.data.toList p.data.toList)) ∧ Below W.heap.size W w') := fun r W hr hW => under_any r p W (hm.below hW (Nat.le_refl _)) hr hp
    have hc' : Hid (∀ (i : Nat) (h : i < l.length), w.cell? ⟨b, o + i, none⟩ = some (.string l[i])) := hc
    have hl' : Hid (∀ s ∈ l, s.size ≤ maxLen) := hl
    clear hc hl hp
    go_enter Tryd.func17, Tryd.ntmps17
    go_wp2
    go_loopw [9] (fun i wr => ∃ k : Nat, k ≤ l.length ∧ i = .int .i64 k ∧ Hid (((l.map fun s : ByteArray => s.data.toList).take k).any (Pth.under · p.data.toList) = false) ∧ Below w.heap.size w wr) (fun i _ => l.length - (intOf i).toNat)
    case atStart => exact ⟨0, Nat.zero_le _, rfl, rfl, Below.refl _ _⟩
    case round =>
      obtain ⟨k, hk, rfl, hno, hbl⟩ := hrel
      by_cases hlt : k < l.length
      · have hcell : wr.cell? ⟨b, o + k, none⟩ = some (.string l[k]) := by rw [hbl.cell (p := ⟨b, o + k, none⟩) hb]; exact hc'.out k hlt
        have HI : Hid (Calls Tryd.prog 13 #[.string l[k], .string p] wr fun e w' => e = .returned (.bool (Pth.under l[k].data.toList p.data.toList)) ∧ Below wr.heap.size wr w') := HU.out l[k] wr (hl'.out _ (List.getElem_mem hlt)) hbl
        have hsz := hbl.size
        cases hu : Pth.under l[k].data.toList p.data.toList
        · rw [hu] at HI
          have hr : Hid (((l.map fun s : ByteArray => s.data.toList).take (k + 1)).any (Pth.under · p.data.toList) = false) := by
            show _ = _
            rw [List.take_succ_eq_append_getElem (by simpa using hlt), List.any_append, hno.out]; simp [hu]
          clear hno hu
          go_wp2_with (go_at_call 13; refine HI.out.mono ?_)
          rintro e w2 ⟨rfl, hb2⟩
          go_wp2
          go_roundw
          case rel => exact ⟨k + 1, by omega, by go_num, hr, hbl.trans (hb2.mono hsz)⟩
          case measure => simp [intOf]; omega
        · rw [hu] at HI
          have hr : Hid (Pth.permit (l.map fun s : ByteArray => s.data.toList) p.data.toList = true) := by
            show _ = _
            exact List.any_eq_true.2 ⟨l[k].data.toList, List.mem_map.2 ⟨l[k], List.getElem_mem hlt, rfl⟩, hu⟩
          clear hno hu
          go_wp2_with (go_at_call 13; refine HI.out.mono ?_)
          rintro e w2 ⟨rfl, hb2⟩
          go_wp2
          go_ret
          exact ⟨ret_bool hr.out.symm, hbl.trans (hb2.mono hsz)⟩
      · have hr : Hid (Pth.permit (l.map fun s : ByteArray => s.data.toList) p.data.toList = false) := by
          have := hno.out
          rw [List.take_of_length_le (by simp; omega)] at this
          exact this
        clear hno
        go_wp2
        go_ret
        exact ⟨ret_bool hr.out.symm, hbl⟩

set_option maxHeartbeats 1000000 in
theorem rpermit_any (a : Option Addr) (c : Nat) (l : List ByteArray) (p : ByteArray) (w : World) (hrow : Row w a l) (hl : ∀ s ∈ l, s.size ≤ maxLen) (hp : p.size ≤ maxLen) (hn : l.length ≤ 1000000) :
    Calls Tryd.prog 18 #[.slice a l.length c, .string p] w fun e w' => e = .returned (.bool (Pth.permit (l.map fun s : ByteArray => s.data.toList) p.data.toList)) ∧ Below w.heap.size w w' := by
  rcases hrow with rfl | ⟨b, o, rfl, hb, hc⟩
  · go_enter Tryd.func18, Tryd.ntmps18
    go_wp2
    go_loop [9] (fun i => i = .int .i64 0) (fun _ => 0)
    case atStart => rfl
    case round =>
      obtain rfl := hrel
      go_wp2
      go_ret
      exact ⟨rfl, Below.refl _ _⟩
  · have HU : Hid (∀ (r : ByteArray) (W : World), r.size ≤ maxLen → Below w.heap.size w W → Calls Tryd.prog 14 #[.string r, .string p] W fun e w' => e = .returned (.bool (Pth.under r.data.toList p.data.toList)) ∧ Below W.heap.size W w') := fun r W hr _ => runder_any r p W hr hp
    have hc' : Hid (∀ (i : Nat) (h : i < l.length), w.cell? ⟨b, o + i, none⟩ = some (.string l[i])) := hc
    have hl' : Hid (∀ s ∈ l, s.size ≤ maxLen) := hl
    clear hc hl hp
    go_enter Tryd.func18, Tryd.ntmps18
    go_wp2
    go_loopw [9] (fun i wr => ∃ k : Nat, k ≤ l.length ∧ i = .int .i64 k ∧ Hid (((l.map fun s : ByteArray => s.data.toList).take k).any (Pth.under · p.data.toList) = false) ∧ Below w.heap.size w wr) (fun i _ => l.length - (intOf i).toNat)
    case atStart => exact ⟨0, Nat.zero_le _, rfl, rfl, Below.refl _ _⟩
    case round =>
      obtain ⟨k, hk, rfl, hno, hbl⟩ := hrel
      by_cases hlt : k < l.length
      · have hcell : wr.cell? ⟨b, o + k, none⟩ = some (.string l[k]) := by rw [hbl.cell (p := ⟨b, o + k, none⟩) hb]; exact hc'.out k hlt
        have HI : Hid (Calls Tryd.prog 14 #[.string l[k], .string p] wr fun e w' => e = .returned (.bool (Pth.under l[k].data.toList p.data.toList)) ∧ Below wr.heap.size wr w') := HU.out l[k] wr (hl'.out _ (List.getElem_mem hlt)) hbl
        have hsz := hbl.size
        cases hu : Pth.under l[k].data.toList p.data.toList
        · rw [hu] at HI
          have hr : Hid (((l.map fun s : ByteArray => s.data.toList).take (k + 1)).any (Pth.under · p.data.toList) = false) := by
            show _ = _
            rw [List.take_succ_eq_append_getElem (by simpa using hlt), List.any_append, hno.out]; simp [hu]
          clear hno hu
          go_wp2_with (go_at_call 14; refine HI.out.mono ?_)
          rintro e w2 ⟨rfl, hb2⟩
          go_wp2
          go_roundw
          case rel => exact ⟨k + 1, by omega, by go_num, hr, hbl.trans (hb2.mono hsz)⟩
          case measure => simp [intOf]; omega
        · rw [hu] at HI
          have hr : Hid (Pth.permit (l.map fun s : ByteArray => s.data.toList) p.data.toList = true) := by
            show _ = _
            exact List.any_eq_true.2 ⟨l[k].data.toList, List.mem_map.2 ⟨l[k], List.getElem_mem hlt, rfl⟩, hu⟩
          clear hno hu
          go_wp2_with (go_at_call 14; refine HI.out.mono ?_)
          rintro e w2 ⟨rfl, hb2⟩
          go_wp2
          go_ret
          exact ⟨ret_bool hr.out.symm, hbl.trans (hb2.mono hsz)⟩
      · have hr : Hid (Pth.permit (l.map fun s : ByteArray => s.data.toList) p.data.toList = false) := by
          have := hno.out
          rw [List.take_of_length_le (by simp; omega)] at this
          exact this
        clear hno
        go_wp2
        go_ret
        exact ⟨ret_bool hr.out.symm, hbl⟩

theorem any_big {l : List ByteArray} {k : Nat} (h : k < l.length) (hb : 3000 < l[k].size) : l.any (fun s => decide (3000 < s.size)) = true :=
  List.any_eq_true.mpr ⟨l[k], List.getElem_mem h, by simpa using hb⟩
theorem any_take {l : List ByteArray} {k : Nat} (h : k < l.length) : (l.take (k + 1)).any (fun s => decide (3000 < s.size)) = ((l.take k).any (fun s => decide (3000 < s.size)) || decide (3000 < l[k].size)) := by
  rw [List.take_succ_eq_append_getElem h, List.any_append]; simp
set_option maxHeartbeats 400000 in
theorem long_any (a : Option Addr) (c : Nat) (l : List ByteArray) (w : World) (hn : l.length ≤ 1000000) (hrow : Row w a l) :
    Calls Tryd.prog 9 #[.slice a l.length c] w fun e w' => e = .returned (.bool (l.any fun s => decide (3000 < s.size))) ∧ w' = w := by
  rcases hrow with rfl | ⟨b, o, rfl, hb, hc⟩
  · go_enter Tryd.func9, Tryd.ntmps9
    go_wp2
    go_loop [7] (fun i => i = .int .i64 0) (fun _ => 0)
    case atStart => rfl
    case round =>
      obtain rfl := hrel
      go_wp2
      go_ret
      exact ⟨rfl, rfl⟩
  have hc' : Hid (∀ (i : Nat) (h : i < l.length), w.cell? ⟨b, o + i, none⟩ = some (.string l[i])) := hc
  clear hc
  go_enter Tryd.func9, Tryd.ntmps9
  go_wp2
  go_loopw [7] (fun i wr => ∃ k : Nat, k ≤ l.length ∧ i = .int .i64 k ∧ Hid ((l.take k).any (fun s => decide (3000 < s.size)) = false) ∧ wr = w) (fun i _ => l.length - (intOf i).toNat)
  case atStart => exact ⟨0, Nat.zero_le _, rfl, rfl, rfl⟩
  case round =>
    obtain ⟨k, hk, rfl, hno, rfl⟩ := hrel
    by_cases hlt : k < l.length
    · have hcell := hc'.out k hlt
      by_cases hb : 3000 < l[k].size
      · have hr : Hid (l.any (fun s => decide (3000 < s.size)) = true) := any_big hlt hb
        have hb2 : decide ((3000 : Int) < (l[k].size : Int)) = true := by simp; omega
        clear hno
        go_wp2
        go_ret
        exact ⟨ret_bool hr.out.symm, rfl⟩
      · have hr : Hid ((l.take (k + 1)).any (fun s => decide (3000 < s.size)) = false) := by
          show _ = _; rw [any_take hlt, hno.out]; simpa using hb
        have hb2 : decide ((3000 : Int) < (l[k].size : Int)) = false := by simp; omega
        clear hno
        go_wp2
        go_roundw
        case rel => exact ⟨k + 1, by omega, by go_num, hr, trivial⟩
        case measure => simp [intOf]; omega
    · have hr : Hid (l.any (fun s => decide (3000 < s.size)) = false) := by
        have := hno.out; rw [List.take_of_length_le (by omega)] at this; exact this
      clear hno
      go_wp2
      go_ret
      exact ⟨ret_bool hr.out.symm, rfl⟩

/-- 'long' at texts that are laid for the call -/
theorem long_new (l : List ByteArray) (w : World) (L : Bool) (hn : l.length ≤ 1000) (hL : (l.any fun s => decide (3000 < s.size)) = L) :
    Calls Tryd.prog 9 #[.slice (some ⟨w.heap.size, 0, none⟩) l.length l.length] (w.alloc (.cells (l.map Value.string).toArray 9)) fun e w' => e = .returned (.bool L) ∧ Below w.heap.size w w' := by
  have h := long_any (some ⟨w.heap.size, 0, none⟩) l.length l (w.alloc (.cells (l.map Value.string).toArray 9)) (by omega) (.inr ⟨w.heap.size, 0, rfl, by simp, fun i hi => by
    rw [Nat.zero_add, Lib.cell_of_heap (MapKept.heap_alloc w _).1 i]; simp [hi]⟩)
  rw [hL] at h
  refine h.mono ?_
  rintro e w' ⟨rfl, rfl⟩
  exact ⟨rfl, (Below.refl _ w).alloc (Nat.le_refl _) _⟩
end Go.Proofs.YtkbemfhdamdglaaDoor
