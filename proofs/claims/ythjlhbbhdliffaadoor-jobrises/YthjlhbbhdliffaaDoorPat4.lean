/-
  Walks of layer 4: the document's Check, Under and the document's Under.
-/
import Derived.Test.YthjlhbbhdliffaaDoorPat3
namespace Go.Proofs.YthjlhbbhdliffaaDoor
open Go.RowKit

theorem owned_texts {w : World} {B : Nat} {v : Value} {l : List ByteArray} (h : w.ownsRow B 9 1 v l.length (l.map Value.string)) (h0 : l ≠ []) :
    ∃ g cap : Nat, v = .slice (some ⟨g, 0, none⟩) l.length cap ∧ B ≤ g ∧ g < w.heap.size ∧ l.length ≤ cap ∧ cap ≤ maxLen ∧ Texts w g l := by
  rcases h.2 with ⟨_, hn⟩ | ⟨g, cap, cur, rfl, hB, hb, hn, hm, hcs, htk⟩
  · exact absurd (List.eq_nil_of_length_eq_zero hn) h0
  · refine ⟨g, cap, rfl, hB, ?_, hn, hm, fun i hi => ?_⟩
    · rcases Nat.lt_or_ge g w.heap.size with h' | h'
      · exact h'
      · simp [Array.getElem?_eq_none h'] at hb
    · rw [Lib.cell_of_heap hb i]
      have h2 : (cur.toList.take (l.length * 1))[i]? = (l.map Value.string)[i]? := by rw [htk]
      rw [List.getElem?_take_of_lt (by omega)] at h2
      rw [← Array.getElem?_toList, h2]
      simp [hi]

theorem cut_ne {p : ByteArray} {l : List ByteArray} (h : l.map (fun s : ByteArray => s.data.toList) = Pth.spl p.data.toList.tail) : l ≠ [] := by
  intro e; subst e; exact Pth.spl_ne _ h.symm

theorem rsplit_texts (p : ByteArray) (w : World) (hs : p.size ≤ 1000000) (h1 : 1 ≤ p.size) :
    Calls Tryd.prog 45 #[.string p] w fun e w' => ∃ (l : List ByteArray) (g cap : Nat), e = .returned (.slice (some ⟨g, 0, none⟩) l.length cap) ∧ l.map (fun s : ByteArray => s.data.toList) = Pth.spl p.data.toList.tail ∧ Texts w' g l ∧ Below w.heap.size w w' ∧ w.heap.size ≤ g ∧ g < w'.heap.size ∧ l.length ≤ cap ∧ cap ≤ maxLen := by
  refine (rsplit_any p w hs h1).mono ?_
  rintro e w' ⟨v, l, rfl, h2, h3, h4⟩
  obtain ⟨g, cap, rfl, h5, h6, h7, h8, h9⟩ := owned_texts h3 (cut_ne h2)
  exact ⟨l, g, cap, rfl, h2, h9, h4, h5, h6, h7, h8⟩

theorem part_no {p : ByteArray} {l : List ByteArray} (h : l.map (fun s : ByteArray => s.data.toList) = Pth.spl p.data.toList.tail) {k : Nat} (hk : k < l.length) : (47 : UInt8) ∉ l[k].data.toList := by
  have hm : l[k].data.toList ∈ Pth.spl p.data.toList.tail := by rw [← h]; exact List.mem_map.2 ⟨l[k], List.getElem_mem hk, rfl⟩
  exact Pth.spl_no _ _ hm

/-- the first byte of a text, as the document's functions ask for it -/
theorem head_at {p : ByteArray} (h : 0 < p.size) : p.data.toList.head? = some p[0] := by
  cases hp : p.data.toList with
  | nil => have := Oct.len_eq p; rw [hp] at this; simp at this; omega
  | cons c t =>
    have e : p[0] = p.data.toList[0]'(by simpa using h) := rfl
    rw [e]; simp [hp]

set_option maxHeartbeats 1000000 in
theorem rcheck_any (p : ByteArray) (w : World) (hs : p.size ≤ maxLen) :
    Calls Tryd.prog 28 #[.string p] w fun e w' => e = .returned (.int .i64 (Pth.chk p.data.toList : Nat)) ∧ Below w.heap.size w w' := by
  unfold maxLen at hs
  have hlen := Oct.len_eq p
  by_cases hb : 40 < p.size
  · have hr : Hid ((5 : Int) = ((Pth.chk p.data.toList : Nat) : Int)) := by show _ = _; rw [Pth.chk, if_pos (by omega)]; rfl
    clear hlen
    go_enter Tryd.func28, Tryd.ntmps28
    go_wp2
    go_ret
    exact ⟨ret_int hr.out, Below.refl _ _⟩
  have hC : Hid (((Pth.chk p.data.toList : Nat) : Int) = if Pth.isPath p.data.toList then 0 else 3) := by show _ = _; rw [Pth.chk, if_neg (by omega)]; split <;> rfl
  cases hz : (p.toList == [47])
  case true =>
    have hr : Hid ((0 : Int) = ((Pth.chk p.data.toList : Nat) : Int)) := by
      show _ = _
      rw [tl_eq] at hz
      rw [hC.out, show Pth.isPath p.data.toList = true by simp only [Pth.isPath, hz, Bool.true_or]]; rfl
    clear hlen hC
    go_enter Tryd.func28, Tryd.ntmps28
    go_wp2
    go_ret
    exact ⟨ret_int hr.out, Below.refl _ _⟩
  have hz' : Hid ((p.data.toList == [47]) = false) := by show _ = _; rw [← tl_eq]; exact hz
  by_cases h0 : p.size = 0
  · have he : (p.toList == []) = true := by
      rw [tl_eq, beq_iff_eq]; exact List.eq_nil_of_length_eq_zero (by omega)
    have hr : Hid ((3 : Int) = ((Pth.chk p.data.toList : Nat) : Int)) := by
      show _ = _
      rw [hC.out, Pth.isPath_head hz'.out (by rw [tl_eq, beq_iff_eq] at he; rw [he]; rfl)]; rfl
    clear hlen hC hz' h0
    go_enter Tryd.func28, Tryd.ntmps28
    go_wp2
    go_ret
    exact ⟨ret_int hr.out, Below.refl _ _⟩
  have hpos : 0 < p.size := by omega
  have he : (p.toList == []) = false := by
    rw [tl_eq, beq_eq_false_iff_ne]; intro h; rw [h] at hlen; simp at hlen; omega
  have hhead := head_at hpos
  by_cases hc : p[0] = 47
  case neg =>
    have hb0 : ((p[0].toNat : Int) != 47) = true := by
      rw [bne_iff_ne]; intro h; exact hc (UInt8.toNat_inj.1 (by show p[0].toNat = 47; omega))
    have hb1 : ((p[0].toNat : Int) == 47) = false := by
      rw [beq_eq_false_iff_ne]; intro h; exact hc (UInt8.toNat_inj.1 (by show p[0].toNat = 47; omega))
    have hr : Hid ((3 : Int) = ((Pth.chk p.data.toList : Nat) : Int)) := by
      show _ = _
      rw [hC.out, Pth.isPath_head hz'.out (by rw [hhead]; exact beq_eq_false_iff_ne.2 fun h => hc (Option.some.inj h))]; rfl
    clear hlen hC hz' h0 hc hhead
    go_enter Tryd.func28, Tryd.ntmps28
    go_wp2
    go_ret
    exact ⟨ret_int hr.out, Below.refl _ _⟩
  case pos =>
    have hb0 : ((p[0].toNat : Int) != 47) = false := by rw [hc]; rfl
    have hb1 : ((p[0].toNat : Int) == 47) = true := by rw [hc]; rfl
    have hh' : Hid ((p.data.toList.head? == some 47) = true) := by show _ = _; rw [hhead, hc]; rfl
    have HA : Hid (Calls Tryd.prog 45 #[.string p] w fun e w' => ∃ (l : List ByteArray) (g cap : Nat), e = .returned (.slice (some ⟨g, 0, none⟩) l.length cap) ∧ l.map (fun s : ByteArray => s.data.toList) = Pth.spl p.data.toList.tail ∧ Texts w' g l ∧ Below w.heap.size w w' ∧ w.heap.size ≤ g ∧ g < w'.heap.size ∧ l.length ≤ cap ∧ cap ≤ maxLen) := rsplit_texts p w (by omega) (by omega)
    clear hc hhead hlen
    go_enter Tryd.func28, Tryd.ntmps28
    go_wp2_with (go_at_call 45; refine HA.out.mono ?_)
    rintro e w1 ⟨l, g, cap, rfl, h2, h3, h4, h5, h6, h7, h8⟩
    have H2 : Hid (l.map (fun s : ByteArray => s.data.toList) = Pth.spl p.data.toList.tail) := h2
    have H3 : Hid (Texts w1 g l) := h3
    have hll := part_count h2
    clear h2 h3 HA
    go_wp2
    go_loopw [20] (fun i wr => ∃ k : Nat, k ≤ l.length ∧ i = .int .i64 k ∧ Hid (((l.map fun s : ByteArray => s.data.toList).take k).all Pth.isPart = true) ∧ wr = w1) (fun i _ => l.length - (intOf i).toNat)
    case atStart => exact ⟨0, Nat.zero_le _, rfl, rfl, rfl⟩
    case round =>
      obtain ⟨k, hk, rfl, hall, rfl⟩ := hrel
      by_cases hlt : k < l.length
      · have hcell := H3.out k hlt
        have hsz := part_size H2.out hlt
        have HI : Hid (Calls Tryd.prog 46 #[.string l[k]] wr fun e w' => e = .returned (.bool (Pth.isPart l[k].data.toList)) ∧ w' = wr) := by
          have := part_any l[k] wr (by unfold maxLen; omega)
          rw [Pth.isPartR_eq _ (part_no H2.out hlt)] at this
          exact this
        cases hb : Pth.isPart l[k].data.toList
        · rw [hb] at HI
          have hr : Hid ((3 : Int) = ((Pth.chk p.data.toList : Nat) : Int)) := by
            show _ = _
            rw [hC.out, Pth.isPath_not hz'.out (by rw [← H2.out]; exact Pth.all_fail (k := k) (by simpa using hlt) (by simpa using hb))]; rfl
          clear hall hb
          go_wp2_with (go_at_call 46; refine HI.out.mono ?_; rintro e w' ⟨rfl, rfl⟩)
          go_ret
          exact ⟨ret_int hr.out, h4⟩
        · rw [hb] at HI
          have hr : Hid (((l.map fun s : ByteArray => s.data.toList).take (k + 1)).all Pth.isPart = true) := Pth.all_more (by simpa using hlt) hall.out (by simpa using hb)
          clear hall hb
          go_wp2_with (go_at_call 46; refine HI.out.mono ?_; rintro e w' ⟨rfl, rfl⟩)
          go_roundw
          case rel => exact ⟨k + 1, by omega, by go_num, hr, trivial⟩
          case measure => simp [intOf]; omega
      · have hr : Hid ((0 : Int) = ((Pth.chk p.data.toList : Nat) : Int)) := by
          have := hall.out
          rw [List.take_of_length_le (by simp; omega), H2.out] at this
          show _ = _
          rw [hC.out, Pth.isPath_yes hh'.out this]; rfl
        clear hall
        go_wp2
        go_ret
        exact ⟨ret_int hr.out, h4⟩

namespace Pth
theorem under_no1 {r p : Bs} (h : chk r ≠ 0) : under r p = false := by simp [under, h]
theorem under_no2 {r p : Bs} (h : chk p ≠ 0) : under r p = false := by simp [under, h]
theorem under_at {r p : Bs} (h1 : chk r = 0) (h2 : chk p = 0) : under r p = (p == r || r == [47] || (r ++ [47]).isPrefixOf p) := by simp [under, h1, h2]
end Pth

/-- an Errno that is not 0 -/
theorem ne_facts {n : Nat} (h : n ≠ 0) : ((n : Int) != 0) = true ∧ ((n : Int) == 0) = false ∧ (n != 0) = true ∧ (n == 0) = false := by
  refine ⟨?_, ?_, ?_, ?_⟩
  · rw [bne_iff_ne]; omega
  · rw [beq_eq_false_iff_ne]; omega
  · rw [bne_iff_ne]; omega
  · rw [beq_eq_false_iff_ne]; omega

end Go.Proofs.YthjlhbbhdliffaaDoor
