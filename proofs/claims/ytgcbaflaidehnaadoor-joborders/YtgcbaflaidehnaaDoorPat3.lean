/-
  Walks of layer 4: parts, isPath, Check.
-/
import Derived.Test.YtgcbaflaidehnaaDoorPat2
import Derived.Test.YtgcbaflaidehnaaDoorShelf
import Derived.WalkMore
import Derived.Deep.QuietTactic
import Derived.BigQuiet
namespace Go.Proofs.YtgcbaflaidehnaaDoor
open Go.RowKit

/-- the variable bytealg.MaxLen holds some number -/
def MaxIn (w : World) : Prop := ∃ m : Int, w.cell? ⟨0, 0, none⟩ = some (.int .i64 m)
theorem MaxIn.below {w w' : World} {B : Nat} (h : MaxIn w) (hb : Below B w w') (hB : w.heap.size ≤ B) : MaxIn w' := by
  obtain ⟨m, hm⟩ := h
  have hlt := World.block_lt_of_cell? _ _ hm
  exact ⟨m, by rw [hb.cell (p := ⟨0, 0, none⟩) (Nat.lt_of_lt_of_le hlt hB)]; exact hm⟩
theorem MaxIn.below2 {w w' : World} {B : Nat} (h : MaxIn w) (hb : Below B w w') (hB : 0 < B) : MaxIn w' := by
  obtain ⟨m, hm⟩ := h
  exact ⟨m, by rw [hb.cell (p := ⟨0, 0, none⟩) hB]; exact hm⟩
theorem MaxIn.pos {w : World} (h : MaxIn w) : 0 < w.heap.size := by
  obtain ⟨m, hm⟩ := h
  exact World.block_lt_of_cell? _ _ hm

/-- a row of texts stands at block b -/
def Texts (w : World) (b : Nat) (l : List ByteArray) : Prop := ∀ (i : Nat) (h : i < l.length), w.cell? ⟨b, i, none⟩ = some (.string l[i])
theorem Texts.below {w w' : World} {b B : Nat} {l : List ByteArray} (h : Texts w b l) (hb : Below B w w') (hB : b < B) : Texts w' b l := fun i hi => by
  rw [hb.cell (p := ⟨b, i, none⟩) hB]; exact h i hi

theorem hp_head (l : List UInt8) : Lib.hasPrefix l [47] = (l.head? == some 47) := by
  cases l with
  | nil => rfl
  | cons c t =>
    by_cases hc : c = 47
    · subst hc; simp [Lib.hasPrefix]
    · have h2 : ¬ (47 : UInt8) = c := fun h => hc h.symm
      have e1 : (47 == c) = false := beq_eq_false_iff_ne.2 h2
      have e2 : (some c == some (47 : UInt8)) = false := beq_eq_false_iff_ne.2 (fun h => hc (Option.some.inj h))
      rw [Lib.hasPrefix, List.isPrefixOf, e1, List.head?_cons, e2]; rfl

theorem prefix_stroke (s : ByteArray) (w : World) : Calls Tryd.prog 46 #[.string s, .string ⟨#[47]⟩] w fun e w' => e = .returned (.bool (s.data.toList.head? == some 47)) ∧ w' = w := by
  have h := Tryd.strings_HasPrefix s ⟨#[47]⟩ w
  rw [show (⟨#[47]⟩ : ByteArray).data.toList = [47] from rfl, hp_head] at h
  exact h

set_option maxHeartbeats 1000000 in
theorem parts_any (p : ByteArray) (w : World) (hm : MaxIn w) (hs : p.size ≤ 1000000) (h1 : 1 ≤ p.size) :
    Calls Tryd.prog 47 #[.string p] w fun e w' => ∃ l : List ByteArray, e = .returned (.slice (some ⟨w.heap.size, 0, none⟩) l.length l.length) ∧ l.map (fun s : ByteArray => s.data.toList) = Pth.spl p.data.toList.tail ∧ Texts w' w.heap.size l ∧ Below w.heap.size w w' ∧ w.heap.size < w'.heap.size := by
  obtain ⟨m, hm⟩ := hm
  have hlen := Oct.len_eq p
  have hx : (p.extract 1 p.size).data.toList = p.data.toList.tail := by
    rw [cut_data, List.drop_one]
    exact List.take_of_length_le (by simp)
  have hxs : (p.extract 1 p.size).size ≤ p.size := by
    rw [← Oct.len_eq, hx, ← hlen]; simp
  have HS : Hid (Calls Tryd.prog 61 #[.string (p.extract 1 p.size), .string ⟨#[47]⟩] w fun e w' => ∃ l : List ByteArray, e = .returned (.slice (some ⟨w.heap.size, 0, none⟩) l.length l.length) ∧ l.map (fun s : ByteArray => s.data.toList) = Pth.spl p.data.toList.tail ∧ Texts w' w.heap.size l ∧ Below w.heap.size w w' ∧ w.heap.size < w'.heap.size) := by
    refine (Tryd.strings_Split (p.extract 1 p.size) ⟨#[47]⟩ m w (by omega) hm (by decide)).mono ?_
    rintro e w' ⟨rfl, rfl⟩
    have hl := Lib.splitB_all ⟨#[47]⟩ (by decide) 0 _ (p.extract 1 p.size) rfl
    refine ⟨Lib.splitB ⟨#[47]⟩ 0 (Lib.countB (p.extract 1 p.size) ⟨#[47]⟩) (p.extract 1 p.size), by rw [hl], by rw [Pth.split_spl, hx], fun i hi => ?_, (Below.refl _ w).alloc (Nat.le_refl _) _, by simp⟩
    rw [Lib.cell_of_heap (MapKept.heap_alloc w _).1 i]
    simp [hi]
  have h1i : (1 : Int) ≤ (p.size : Int) := by omega
  clear hx hxs hm hlen
  go_enter Tryd.func47, Tryd.ntmps47
  go_wp2_with (go_at_call 61; refine HS.out.mono ?_)
  rintro e w' ⟨l, rfl, h2, h3, h4, h5⟩
  have H2 : Hid (l.map (fun s : ByteArray => s.data.toList) = Pth.spl p.data.toList.tail) := h2
  have H3 : Hid (Texts w' w.heap.size l) := h3
  clear h2 h3
  go_wp2
  go_ret
  exact ⟨l, rfl, H2.out, H3.out, h4, h5⟩

namespace Pth
theorem isPath_at (p : Bs) : isPath p = true ↔ p = [47] ∨ (p.head? = some 47 ∧ (spl p.tail).all isPart = true) := by
  simp only [isPath, Bool.or_eq_true, Bool.and_eq_true, beq_iff_eq]
theorem all_fail {l : List Bs} {k : Nat} (h : k < l.length) (hb : isPart l[k] = false) : l.all isPart = false := by
  rw [List.all_eq_false]; exact ⟨l[k], List.getElem_mem h, by simp [hb]⟩
theorem all_more {l : List Bs} {k : Nat} (h : k < l.length) (h1 : (l.take k).all isPart = true) (hb : isPart l[k] = true) : (l.take (k + 1)).all isPart = true := by
  rw [List.take_succ_eq_append_getElem h, List.all_append, h1]; simp [hb]
theorem isPath_not {p : Bs} (h1 : (p == [47]) = false) (h2 : (spl p.tail).all isPart = false) : isPath p = false := by simp only [isPath, h1, h2, Bool.and_false, Bool.or_false]
theorem isPath_yes {p : Bs} (h1 : (p.head? == some 47) = true) (h2 : (spl p.tail).all isPart = true) : isPath p = true := by simp only [isPath, h1, h2, Bool.and_true, Bool.or_true]
theorem isPath_head {p : Bs} (h1 : (p == [47]) = false) (h2 : (p.head? == some 47) = false) : isPath p = false := by simp only [isPath, h1, h2, Bool.false_and, Bool.or_false]
end Pth

/-- the sizes of what was cut -/
theorem part_size {p : ByteArray} {l : List ByteArray} (h : l.map (fun s : ByteArray => s.data.toList) = Pth.spl p.data.toList.tail) {k : Nat} (hk : k < l.length) : l[k].size ≤ p.size := by
  have hm : l[k].data.toList ∈ Pth.spl p.data.toList.tail := by rw [← h]; exact List.mem_map.2 ⟨l[k], List.getElem_mem hk, rfl⟩
  have := Pth.spl_size _ _ hm
  rw [Oct.len_eq, List.length_tail, Oct.len_eq] at this
  omega
theorem part_count {p : ByteArray} {l : List ByteArray} (h : l.map (fun s : ByteArray => s.data.toList) = Pth.spl p.data.toList.tail) : l.length ≤ p.size + 1 := by
  have := Pth.spl_length p.data.toList.tail
  rw [← h, List.length_map, List.length_tail, Oct.len_eq] at this
  omega

set_option maxHeartbeats 1000000 in
theorem isPath_any (p : ByteArray) (w : World) (hm : MaxIn w) (hs : p.size ≤ 1000000) :
    Calls Tryd.prog 37 #[.string p] w fun e w' => e = .returned (.bool (Pth.isPath p.data.toList)) ∧ Below w.heap.size w w' := by
  cases hz : (p.toList == [47])
  · have hz' : Hid ((p.data.toList == [47]) = false) := by show _ = _; rw [← tl_eq]; exact hz
    have HP : Hid (∀ w : World, Calls Tryd.prog 46 #[.string p, .string ⟨#[47]⟩] w fun e w' => e = .returned (.bool (p.data.toList.head? == some 47)) ∧ w' = w) := fun w => prefix_stroke p w
    cases hh : (p.data.toList.head? == some 47)
    · rw [hh] at HP
      have hr : Hid (Pth.isPath p.data.toList = false) := Pth.isPath_head hz'.out hh
      clear hz' hh
      go_enter Tryd.func37, Tryd.ntmps37
      go_wp2_with (go_at_call 46; refine (HP.out _).mono ?_; rintro e w' ⟨rfl, rfl⟩)
      go_ret
      exact ⟨ret_bool hr.out.symm, Below.refl _ _⟩
    · rw [hh] at HP
      have h1 : 1 ≤ p.size := by
        rw [← Oct.len_eq]
        cases h : p.data.toList with
        | nil => rw [h] at hh; cases hh
        | cons c t => simp
      have HA : Hid (Calls Tryd.prog 47 #[.string p] w fun e w' => ∃ l : List ByteArray, e = .returned (.slice (some ⟨w.heap.size, 0, none⟩) l.length l.length) ∧ l.map (fun s : ByteArray => s.data.toList) = Pth.spl p.data.toList.tail ∧ Texts w' w.heap.size l ∧ Below w.heap.size w w' ∧ w.heap.size < w'.heap.size) := parts_any p w hm hs h1
      have hh' : Hid ((p.data.toList.head? == some 47) = true) := hh
      clear hh hm
      go_enter Tryd.func37, Tryd.ntmps37
      go_wp2_with (first | (go_at_call 46; refine (HP.out _).mono ?_; rintro e w' ⟨rfl, hw'⟩; obtain rfl := hw'.symm) | (go_at_call 47; refine HA.out.mono ?_))
      rintro e w1 ⟨l, rfl, h2, h3, h4, h5⟩
      have H2 : Hid (l.map (fun s : ByteArray => s.data.toList) = Pth.spl p.data.toList.tail) := h2
      have H3 : Hid (Texts w1 w.heap.size l) := h3
      have hll := part_count h2
      clear h2 h3 HA HP
      go_wp2
      go_loopw [13] (fun i wr => ∃ k : Nat, k ≤ l.length ∧ i = .int .i64 k ∧ Hid (((l.map fun s : ByteArray => s.data.toList).take k).all Pth.isPart = true) ∧ wr = w1) (fun i _ => l.length - (intOf i).toNat)
      case atStart => exact ⟨0, Nat.zero_le _, rfl, rfl, rfl⟩
      case round =>
        obtain ⟨k, hk, rfl, hall, rfl⟩ := hrel
        by_cases hlt : k < l.length
        · have hcell := H3.out k hlt
          have hsz := part_size H2.out hlt
          have HI : Hid (Calls Tryd.prog 48 #[.string l[k]] wr fun e w' => e = .returned (.bool (Pth.isPart l[k].data.toList)) ∧ w' = wr) := isPart_any l[k] wr (by unfold maxLen; omega)
          cases hb : Pth.isPart l[k].data.toList
          · rw [hb] at HI
            have hr : Hid (Pth.isPath p.data.toList = false) := Pth.isPath_not hz'.out (by rw [← H2.out]; exact Pth.all_fail (k := k) (by simpa using hlt) (by simpa using hb))
            clear hall hb
            go_wp2_with (go_at_call 48; refine HI.out.mono ?_; rintro e w' ⟨rfl, rfl⟩)
            go_ret
            exact ⟨ret_bool hr.out.symm, h4⟩
          · rw [hb] at HI
            have hr : Hid (((l.map fun s : ByteArray => s.data.toList).take (k + 1)).all Pth.isPart = true) := Pth.all_more (by simpa using hlt) hall.out (by simpa using hb)
            clear hall hb
            go_wp2_with (go_at_call 48; refine HI.out.mono ?_; rintro e w' ⟨rfl, rfl⟩)
            go_roundw
            case rel => exact ⟨k + 1, by omega, by go_num, hr, trivial⟩
            case measure => simp [intOf]; omega
        · have hr : Hid (Pth.isPath p.data.toList = true) := by
            have := hall.out
            rw [List.take_of_length_le (by simp; omega), H2.out] at this
            exact Pth.isPath_yes hh'.out this
          clear hall
          go_wp2
          go_ret
          exact ⟨ret_bool hr.out.symm, h4⟩
  · have hr : Hid (Pth.isPath p.data.toList = true) := by
      show _ = _
      rw [tl_eq] at hz
      simp only [Pth.isPath, hz, Bool.true_or]
    go_enter Tryd.func37, Tryd.ntmps37
    go_wp2
    go_ret
    exact ⟨ret_bool hr.out.symm, Below.refl _ _⟩

set_option maxHeartbeats 1000000 in
theorem check_any (p : ByteArray) (w : World) (hm : MaxIn w) (hs : p.size ≤ maxLen) :
    Calls Tryd.prog 24 #[.string p] w fun e w' => e = .returned (.int .i64 (Pth.chk p.data.toList : Nat)) ∧ Below w.heap.size w w' := by
  unfold maxLen at hs
  have hlen := Oct.len_eq p
  by_cases hb : 40 < p.size
  · have hr : Hid ((5 : Int) = ((Pth.chk p.data.toList : Nat) : Int)) := by show _ = _; rw [Pth.chk, if_pos (by omega)]; rfl
    clear hm hlen
    go_enter Tryd.func24, Tryd.ntmps24
    go_wp2
    go_ret
    exact ⟨ret_int hr.out, Below.refl _ _⟩
  · have HP : Hid (Calls Tryd.prog 37 #[.string p] w fun e w' => e = .returned (.bool (Pth.isPath p.data.toList)) ∧ Below w.heap.size w w') := isPath_any p w hm (by omega)
    cases hq : Pth.isPath p.data.toList
    · rw [hq] at HP
      have hr : Hid ((3 : Int) = ((Pth.chk p.data.toList : Nat) : Int)) := by show _ = _; rw [Pth.chk, if_neg (by omega), hq]; rfl
      clear hm hlen hq
      go_enter Tryd.func24, Tryd.ntmps24
      go_wp2_with (go_at_call 37; refine HP.out.mono ?_; rintro e w' ⟨rfl, hbl⟩)
      go_ret
      exact ⟨ret_int hr.out, hbl⟩
    · rw [hq] at HP
      have hr : Hid ((0 : Int) = ((Pth.chk p.data.toList : Nat) : Int)) := by show _ = _; rw [Pth.chk, if_neg (by omega), hq]; rfl
      clear hm hlen hq
      go_enter Tryd.func24, Tryd.ntmps24
      go_wp2_with (go_at_call 37; refine HP.out.mono ?_; rintro e w' ⟨rfl, hbl⟩)
      go_ret
      exact ⟨ret_int hr.out, hbl⟩
end Go.Proofs.YtgcbaflaidehnaaDoor
