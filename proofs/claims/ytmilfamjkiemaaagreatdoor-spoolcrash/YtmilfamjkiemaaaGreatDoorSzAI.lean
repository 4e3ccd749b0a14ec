/-
  Walks of layer 4: isPart, and the document's part. Walk of layer 4: the document's split. Walks of layer 4: parts, isPath, Check. Walks of layer 4: the document's Check, Under and the document's Under.
-/
import Derived.Test.YtmilfamjkiemaaaGreatDoorSzAD
import Derived.Test.YtmilfamjkiemaaaGreatDoorProg
import Derived.Test.YtmilfamjkiemaaaGreatDoorSzAA
import Derived.Test.YtmilfamjkiemaaaGreatDoorSzAC
import Derived.WalkKit
import Derived.WalkMore
import Derived.Laws.AppendOwn
import Derived.Test.YtmilfamjkiemaaaGreatDoorShelf
import Derived.Deep.QuietTactic
import Derived.BigQuiet
namespace Go.Proofs.YtmilfamjkiemaaaGreatDoor
open Go.RowKit


namespace Pth
theorem all_take {f : UInt8 → Bool} (s : ByteArray) (k : Nat) (h : k < s.size) (hk : (s.data.toList.take k).all f = true) (hc : f s[k] = true) : (s.data.toList.take (k + 1)).all f = true := by
  rw [Oct.take_snoc s k h, List.all_append, hk]; simp [hc]
theorem all_not {f : UInt8 → Bool} (s : ByteArray) (k : Nat) (h : k < s.size) (hc : f s[k] = false) : s.data.toList.all f = false := by
  rw [List.all_eq_false]
  exact ⟨s[k], Oct.mem_at s k h, by simp [hc]⟩
theorem isPart_no {s : Bs} (h : s.all okb = false) : isPart s = false := by rw [isPart, h]; rfl
theorem isPart_yes {s : Bs} (h : s.all okb = true) : isPart s = (!(s == []) && !(s == [46]) && !(s == [46, 46])) := by rw [isPart, h]; rfl
end Pth

set_option maxHeartbeats 1000000 in
theorem isPart_any (s : ByteArray) (w : World) (hs : s.size ≤ maxLen) :
    Calls Tryz.prog 161 #[.string s] w fun e w' => e = .returned (.bool (Pth.isPart s.data.toList)) ∧ w' = w := by
  unfold maxLen at hs
  go_enter Tryz.func161, Tryz.ntmps161
  go_wp2
  go_loop [6] (fun i => ∃ k : Nat, k ≤ s.size ∧ i = .int .i64 k ∧ Hid ((s.data.toList.take k).all Pth.okb = true)) (fun i => s.size - (intOf i).toNat)
  case atStart => exact ⟨0, Nat.zero_le _, rfl, rfl⟩
  case round =>
    obtain ⟨k, hk, rfl, hall⟩ := hrel
    by_cases hlt : k < s.size
    · by_cases h1 : s[k].toNat < 33
      · have hr : Hid (Pth.isPart s.data.toList = false) := Pth.isPart_no (Pth.all_not s k hlt (by simp [Pth.okb]; omega))
        have hd : decide ((s[k].toNat : Int) < 33) = true := by simp; omega
        clear hall
        go_wp2
        go_ret
        exact ⟨ret_bool hr.out.symm, rfl⟩
      · have hd : decide ((s[k].toNat : Int) < 33) = false := by simp; omega
        by_cases h2 : 126 < s[k].toNat
        · have hr : Hid (Pth.isPart s.data.toList = false) := Pth.isPart_no (Pth.all_not s k hlt (by simp [Pth.okb]; omega))
          have hd2 : decide ((126 : Int) < (s[k].toNat : Int)) = true := by simp; omega
          clear hall
          go_wp2
          go_ret
          exact ⟨ret_bool hr.out.symm, rfl⟩
        · have hn : Hid ((s.data.toList.take (k + 1)).all Pth.okb = true) := Pth.all_take s k hlt hall.out (by simp [Pth.okb]; omega)
          have hd2 : decide ((126 : Int) < (s[k].toNat : Int)) = false := by simp; omega
          clear hall
          go_wp2
          go_round
          case rel => exact ⟨k + 1, by omega, by go_num, hn⟩
          case measure => simp [intOf]; omega
    · obtain rfl : k = s.size := by omega
      have hr : Hid (Pth.isPart s.data.toList = (!(s.toList == []) && !(s.toList == [46]) && !(s.toList == [46, 46]))) := by
        show _ = _
        have := hall.out
        rw [Oct.take_all s s.size (Nat.le_refl _)] at this
        rw [tl_eq, Pth.isPart_yes this]
      clear hall
      cases h0 : (s.toList == [])
      · cases h1 : (s.toList == [46])
        · cases h2 : (s.toList == [46, 46])
          all_goals
            rw [h0, h1, h2] at hr
            go_wp2
            go_ret
            exact ⟨ret_bool hr.out.symm, rfl⟩
        · rw [h0, h1] at hr
          go_wp2
          go_ret
          exact ⟨ret_bool hr.out.symm, rfl⟩
      · rw [h0] at hr
        go_wp2
        go_ret
        exact ⟨ret_bool hr.out.symm, rfl⟩

end Go.Proofs.YtmilfamjkiemaaaGreatDoor

namespace Go.Proofs.YtmilfamjkiemaaaGreatDoor
open Go.RowKit

theorem cut_data (s : ByteArray) (a b : Nat) : (s.extract a b).data.toList = (s.data.toList.drop a).take (b - a) := by
  simp [List.extract]

namespace Pth
/-- where the document's split stands at place k: what lies behind 'fr' is still to be cut -/
def Cut (t : Bs) (fr k : Nat) (L : List Bs) : Prop :=
  (k ≤ t.length ∧ 1 ≤ fr ∧ fr ≤ k ∧ L ++ spl (t.drop fr) = spl (t.drop 1) ∧ (47 : UInt8) ∉ (t.drop fr).take (k - fr)) ∨ (k = t.length + 1 ∧ L = spl (t.drop 1))
theorem drop_at {t : Bs} {fr k : Nat} {c : UInt8} (hf : fr ≤ k) (hc : t[k]? = some c) : t.drop fr = (t.drop fr).take (k - fr) ++ c :: t.drop (k + 1) := by
  have hk : k < t.length := by
    rcases Nat.lt_or_ge k t.length with h | h
    · exact h
    · rw [List.getElem?_eq_none h] at hc; cases hc
  have e : t.drop k = c :: t.drop (k + 1) := by
    rw [List.getElem?_eq_getElem hk] at hc
    injection hc with hc
    rw [← hc, List.drop_eq_getElem_cons hk]
  have e2 := List.take_append_drop (k - fr) (t.drop fr)
  rw [List.drop_drop, show fr + (k - fr) = k by omega, e] at e2
  exact e2.symm
theorem cut_at {t : Bs} {fr k : Nat} {L : List Bs} (h : Cut t fr k L) (hc : t[k]? = some 47) : Cut t (k + 1) (k + 1) (L ++ [(t.drop fr).take (k - fr)]) := by
  have hk : k < t.length := by
    rcases Nat.lt_or_ge k t.length with h | h
    · exact h
    · rw [List.getElem?_eq_none h] at hc; cases hc
  rcases h with ⟨_, h0, h1, h3, h4⟩ | h
  · refine .inl ⟨hk, by omega, Nat.le_refl _, ?_, by simp⟩
    rw [drop_at h1 hc, spl_append, spl_one _ h4] at h3
    rw [← h3, List.append_assoc]
  · omega
end Pth

theorem infoStr : (Tryz.prog.info? 9).map (fun i => (i.zero, i.size, i.bytes)) = some (some (.string ByteArray.empty), 1, 16) := by kernel_rfl
theorem news9 (w : World) (x : Value) : ∀ (j : Nat) (u : Value), [x][j]? = some u → (w.alloc (.cells #[x] 9)).cell? ((⟨w.heap.size, 0, none⟩ : Addr).add j) = some u := by
  intro j u hj
  match j, hj with
  | 0, hj => simp at hj; subst hj; simp [Addr.add]
theorem below_own {B : Nat} {a w w' : World} {o : Obj} {e size n : Nat} {v : Value} {xs : List Value} (h : Below B a w) (hB : B ≤ w.heap.size) (hg : (w.alloc o).grownBy w' v.ownBlock) (ho : w.ownsRow B e size v n xs) : Below B a w' :=
  (h.alloc hB o).grown hg (by simp; omega) (fun k hk => by
    rcases ho.2 with ⟨rfl, _⟩ | ⟨g, cap, cur, rfl, hgB, _⟩
    · cases hk
    · simp [Value.ownBlock] at hk; omega)

end Go.Proofs.YtmilfamjkiemaaaGreatDoor

namespace Go.Proofs.YtmilfamjkiemaaaGreatDoor
open Go.RowKit

/-- the variable bytealg.MaxLen holds some number -/
def MaxIn (w : World) : Prop := ∃ m : Int, w.cell? ⟨0, 0, none⟩ = some (.int .i64 m)
theorem MaxIn.below {w w' : World} {B : Nat} (h : MaxIn w) (hb : Below B w w') (hB : w.heap.size ≤ B) : MaxIn w' := by
  obtain ⟨m, hm⟩ := h
  have hlt := World.block_lt_of_cell? _ _ hm
  exact ⟨m, by rw [hb.cell (p := ⟨0, 0, none⟩) (Nat.lt_of_lt_of_le hlt hB)]; exact hm⟩
theorem MaxIn.pos {w : World} (h : MaxIn w) : 0 < w.heap.size := by
  obtain ⟨m, hm⟩ := h
  exact World.block_lt_of_cell? _ _ hm

/-- a row of texts stands at block b -/
def Texts (w : World) (b : Nat) (l : List ByteArray) : Prop := ∀ (i : Nat) (h : i < l.length), w.cell? ⟨b, i, none⟩ = some (.string l[i])
theorem Texts.below {w w' : World} {b B : Nat} {l : List ByteArray} (h : Texts w b l) (hb : Below B w w') (hB : b < B) : Texts w' b l := fun i hi => by
  rw [hb.cell (p := ⟨b, i, none⟩) hB]; exact h i hi

theorem hp_head (l : List UInt8) : Lib.hasPrefix l [47] = (l.head? == some 47) := by
  cases l with
  | nil => rfl
  | cons c t =>
    by_cases hc : c = 47
    · subst hc; simp [Lib.hasPrefix]
    · have h2 : ¬ (47 : UInt8) = c := fun h => hc h.symm
      have e1 : (47 == c) = false := beq_eq_false_iff_ne.2 h2
      have e2 : (some c == some (47 : UInt8)) = false := beq_eq_false_iff_ne.2 (fun h => hc (Option.some.inj h))
      rw [Lib.hasPrefix, List.isPrefixOf, e1, List.head?_cons, e2]; rfl

theorem prefix_stroke (s : ByteArray) (w : World) : Calls Tryz.prog 159 #[.string s, .string ⟨#[47]⟩] w fun e w' => e = .returned (.bool (s.data.toList.head? == some 47)) ∧ w' = w := by
  have h := Tryz.strings_HasPrefix s ⟨#[47]⟩ w
  rw [show (⟨#[47]⟩ : ByteArray).data.toList = [47] from rfl, hp_head] at h
  exact h

set_option maxHeartbeats 1000000 in
theorem parts_any (p : ByteArray) (w : World) (hm : MaxIn w) (hs : p.size ≤ 1000000) (h1 : 1 ≤ p.size) :
    Calls Tryz.prog 160 #[.string p] w fun e w' => ∃ l : List ByteArray, e = .returned (.slice (some ⟨w.heap.size, 0, none⟩) l.length l.length) ∧ l.map (fun s : ByteArray => s.data.toList) = Pth.spl p.data.toList.tail ∧ Texts w' w.heap.size l ∧ Below w.heap.size w w' ∧ w.heap.size < w'.heap.size := by
  obtain ⟨m, hm⟩ := hm
  have hlen := Oct.len_eq p
  have hx : (p.extract 1 p.size).data.toList = p.data.toList.tail := by
    rw [cut_data, List.drop_one]
    exact List.take_of_length_le (by simp)
  have hxs : (p.extract 1 p.size).size ≤ p.size := by
    rw [← Oct.len_eq, hx, ← hlen]; simp
  have HS : Hid (Calls Tryz.prog 176 #[.string (p.extract 1 p.size), .string ⟨#[47]⟩] w fun e w' => ∃ l : List ByteArray, e = .returned (.slice (some ⟨w.heap.size, 0, none⟩) l.length l.length) ∧ l.map (fun s : ByteArray => s.data.toList) = Pth.spl p.data.toList.tail ∧ Texts w' w.heap.size l ∧ Below w.heap.size w w' ∧ w.heap.size < w'.heap.size) := by
    refine (Tryz.strings_Split (p.extract 1 p.size) ⟨#[47]⟩ m w (by omega) hm (by decide)).mono ?_
    rintro e w' ⟨rfl, rfl⟩
    have hl := Lib.splitB_all ⟨#[47]⟩ (by decide) 0 _ (p.extract 1 p.size) rfl
    refine ⟨Lib.splitB ⟨#[47]⟩ 0 (Lib.countB (p.extract 1 p.size) ⟨#[47]⟩) (p.extract 1 p.size), by rw [hl], by rw [Pth.split_spl, hx], fun i hi => ?_, (Below.refl _ w).alloc (Nat.le_refl _) _, by simp⟩
    rw [Lib.cell_of_heap (MapKept.heap_alloc w _).1 i]
    simp [hi]
  have h1i : (1 : Int) ≤ (p.size : Int) := by omega
  clear hx hxs hm hlen
  go_enter Tryz.func160, Tryz.ntmps160
  go_wp2_with (go_at_call 176; refine HS.out.mono ?_)
  rintro e w' ⟨l, rfl, h2, h3, h4, h5⟩
  have H2 : Hid (l.map (fun s : ByteArray => s.data.toList) = Pth.spl p.data.toList.tail) := h2
  have H3 : Hid (Texts w' w.heap.size l) := h3
  clear h2 h3
  go_wp2
  go_ret
  exact ⟨l, rfl, H2.out, H3.out, h4, h5⟩

namespace Pth
theorem all_fail {l : List Bs} {k : Nat} (h : k < l.length) (hb : isPart l[k] = false) : l.all isPart = false := by
  rw [List.all_eq_false]; exact ⟨l[k], List.getElem_mem h, by simp [hb]⟩
theorem all_more {l : List Bs} {k : Nat} (h : k < l.length) (h1 : (l.take k).all isPart = true) (hb : isPart l[k] = true) : (l.take (k + 1)).all isPart = true := by
  rw [List.take_succ_eq_append_getElem h, List.all_append, h1]; simp [hb]
theorem isPath_not {p : Bs} (h1 : (p == [47]) = false) (h2 : (spl p.tail).all isPart = false) : isPath p = false := by simp only [isPath, h1, h2, Bool.and_false, Bool.or_false]
theorem isPath_yes {p : Bs} (h1 : (p.head? == some 47) = true) (h2 : (spl p.tail).all isPart = true) : isPath p = true := by simp only [isPath, h1, h2, Bool.and_true, Bool.or_true]
theorem isPath_head {p : Bs} (h1 : (p == [47]) = false) (h2 : (p.head? == some 47) = false) : isPath p = false := by simp only [isPath, h1, h2, Bool.false_and, Bool.or_false]
end Pth

/-- the sizes of what was cut -/
theorem part_size {p : ByteArray} {l : List ByteArray} (h : l.map (fun s : ByteArray => s.data.toList) = Pth.spl p.data.toList.tail) {k : Nat} (hk : k < l.length) : l[k].size ≤ p.size := by
  have hm : l[k].data.toList ∈ Pth.spl p.data.toList.tail := by rw [← h]; exact List.mem_map.2 ⟨l[k], List.getElem_mem hk, rfl⟩
  have := Pth.spl_size _ _ hm
  rw [Oct.len_eq, List.length_tail, Oct.len_eq] at this
  omega
theorem part_count {p : ByteArray} {l : List ByteArray} (h : l.map (fun s : ByteArray => s.data.toList) = Pth.spl p.data.toList.tail) : l.length ≤ p.size + 1 := by
  have := Pth.spl_length p.data.toList.tail
  rw [← h, List.length_map, List.length_tail, Oct.len_eq] at this
  omega

set_option maxHeartbeats 1000000 in
theorem isPath_any (p : ByteArray) (w : World) (hm : MaxIn w) (hs : p.size ≤ 1000000) :
    Calls Tryz.prog 132 #[.string p] w fun e w' => e = .returned (.bool (Pth.isPath p.data.toList)) ∧ Below w.heap.size w w' := by
  cases hz : (p.toList == [47])
  · have hz' : Hid ((p.data.toList == [47]) = false) := by show _ = _; rw [← tl_eq]; exact hz
    have HP : Hid (∀ w : World, Calls Tryz.prog 159 #[.string p, .string ⟨#[47]⟩] w fun e w' => e = .returned (.bool (p.data.toList.head? == some 47)) ∧ w' = w) := fun w => prefix_stroke p w
    cases hh : (p.data.toList.head? == some 47)
    · rw [hh] at HP
      have hr : Hid (Pth.isPath p.data.toList = false) := Pth.isPath_head hz'.out hh
      clear hz' hh
      go_enter Tryz.func132, Tryz.ntmps132
      go_wp2_with (go_at_call 159; refine (HP.out _).mono ?_; rintro e w' ⟨rfl, rfl⟩)
      go_ret
      exact ⟨ret_bool hr.out.symm, Below.refl _ _⟩
    · rw [hh] at HP
      have h1 : 1 ≤ p.size := by
        rw [← Oct.len_eq]
        cases h : p.data.toList with
        | nil => rw [h] at hh; cases hh
        | cons c t => simp
      have HA : Hid (Calls Tryz.prog 160 #[.string p] w fun e w' => ∃ l : List ByteArray, e = .returned (.slice (some ⟨w.heap.size, 0, none⟩) l.length l.length) ∧ l.map (fun s : ByteArray => s.data.toList) = Pth.spl p.data.toList.tail ∧ Texts w' w.heap.size l ∧ Below w.heap.size w w' ∧ w.heap.size < w'.heap.size) := parts_any p w hm hs h1
      have hh' : Hid ((p.data.toList.head? == some 47) = true) := hh
      clear hh hm
      go_enter Tryz.func132, Tryz.ntmps132
      go_wp2_with (first | (go_at_call 159; refine (HP.out _).mono ?_; rintro e w' ⟨rfl, hw'⟩; obtain rfl := hw'.symm) | (go_at_call 160; refine HA.out.mono ?_))
      rintro e w1 ⟨l, rfl, h2, h3, h4, h5⟩
      have H2 : Hid (l.map (fun s : ByteArray => s.data.toList) = Pth.spl p.data.toList.tail) := h2
      have H3 : Hid (Texts w1 w.heap.size l) := h3
      have hll := part_count h2
      clear h2 h3 HA HP
      go_wp2
      go_loopw [13] (fun i wr => ∃ k : Nat, k ≤ l.length ∧ i = .int .i64 k ∧ Hid (((l.map fun s : ByteArray => s.data.toList).take k).all Pth.isPart = true) ∧ wr = w1) (fun i _ => l.length - (intOf i).toNat)
      case atStart => exact ⟨0, Nat.zero_le _, rfl, rfl, rfl⟩
      case round =>
        obtain ⟨k, hk, rfl, hall, rfl⟩ := hrel
        by_cases hlt : k < l.length
        · have hcell := H3.out k hlt
          have hsz := part_size H2.out hlt
          have HI : Hid (Calls Tryz.prog 161 #[.string l[k]] wr fun e w' => e = .returned (.bool (Pth.isPart l[k].data.toList)) ∧ w' = wr) := isPart_any l[k] wr (by unfold maxLen; omega)
          cases hb : Pth.isPart l[k].data.toList
          · rw [hb] at HI
            have hr : Hid (Pth.isPath p.data.toList = false) := Pth.isPath_not hz'.out (by rw [← H2.out]; exact Pth.all_fail (k := k) (by simpa using hlt) (by simpa using hb))
            clear hall hb
            go_wp2_with (go_at_call 161; refine HI.out.mono ?_; rintro e w' ⟨rfl, rfl⟩)
            go_ret
            exact ⟨ret_bool hr.out.symm, h4⟩
          · rw [hb] at HI
            have hr : Hid (((l.map fun s : ByteArray => s.data.toList).take (k + 1)).all Pth.isPart = true) := Pth.all_more (by simpa using hlt) hall.out (by simpa using hb)
            clear hall hb
            go_wp2_with (go_at_call 161; refine HI.out.mono ?_; rintro e w' ⟨rfl, rfl⟩)
            go_roundw
            case rel => exact ⟨k + 1, by omega, by go_num, hr, trivial⟩
            case measure => simp [intOf]; omega
        · have hr : Hid (Pth.isPath p.data.toList = true) := by
            have := hall.out
            rw [List.take_of_length_le (by simp; omega), H2.out] at this
            exact Pth.isPath_yes hh'.out this
          clear hall
          go_wp2
          go_ret
          exact ⟨ret_bool hr.out.symm, h4⟩
  · have hr : Hid (Pth.isPath p.data.toList = true) := by
      show _ = _
      rw [tl_eq] at hz
      simp only [Pth.isPath, hz, Bool.true_or]
    go_enter Tryz.func132, Tryz.ntmps132
    go_wp2
    go_ret
    exact ⟨ret_bool hr.out.symm, Below.refl _ _⟩

set_option maxHeartbeats 1000000 in
theorem check_any (p : ByteArray) (w : World) (hm : MaxIn w) (hs : p.size ≤ maxLen) :
    Calls Tryz.prog 99 #[.string p] w fun e w' => e = .returned (.int .i64 (Pth.chk p.data.toList : Nat)) ∧ Below w.heap.size w w' := by
  unfold maxLen at hs
  have hlen := Oct.len_eq p
  by_cases hb : 40 < p.size
  · have hr : Hid ((5 : Int) = ((Pth.chk p.data.toList : Nat) : Int)) := by show _ = _; rw [Pth.chk, if_pos (by omega)]; rfl
    clear hm hlen
    go_enter Tryz.func99, Tryz.ntmps99
    go_wp2
    go_ret
    exact ⟨ret_int hr.out, Below.refl _ _⟩
  · have HP : Hid (Calls Tryz.prog 132 #[.string p] w fun e w' => e = .returned (.bool (Pth.isPath p.data.toList)) ∧ Below w.heap.size w w') := isPath_any p w hm (by omega)
    cases hq : Pth.isPath p.data.toList
    · rw [hq] at HP
      have hr : Hid ((3 : Int) = ((Pth.chk p.data.toList : Nat) : Int)) := by show _ = _; rw [Pth.chk, if_neg (by omega), hq]; rfl
      clear hm hlen hq
      go_enter Tryz.func99, Tryz.ntmps99
      go_wp2_with (go_at_call 132; refine HP.out.mono ?_; rintro e w' ⟨rfl, hbl⟩)
      go_ret
      exact ⟨ret_int hr.out, hbl⟩
    · rw [hq] at HP
      have hr : Hid ((0 : Int) = ((Pth.chk p.data.toList : Nat) : Int)) := by show _ = _; rw [Pth.chk, if_neg (by omega), hq]; rfl
      clear hm hlen hq
      go_enter Tryz.func99, Tryz.ntmps99
      go_wp2_with (go_at_call 132; refine HP.out.mono ?_; rintro e w' ⟨rfl, hbl⟩)
      go_ret
      exact ⟨ret_int hr.out, hbl⟩
end Go.Proofs.YtmilfamjkiemaaaGreatDoor

namespace Go.Proofs.YtmilfamjkiemaaaGreatDoor
open Go.RowKit

theorem owned_texts {w : World} {B : Nat} {v : Value} {l : List ByteArray} (h : w.ownsRow B 9 1 v l.length (l.map Value.string)) (h0 : l ≠ []) :
    ∃ g cap : Nat, v = .slice (some ⟨g, 0, none⟩) l.length cap ∧ B ≤ g ∧ g < w.heap.size ∧ l.length ≤ cap ∧ cap ≤ maxLen ∧ Texts w g l := by
  rcases h.2 with ⟨_, hn⟩ | ⟨g, cap, cur, rfl, hB, hb, hn, hm, hcs, htk⟩
  · exact absurd (List.eq_nil_of_length_eq_zero hn) h0
  · refine ⟨g, cap, rfl, hB, ?_, hn, hm, fun i hi => ?_⟩
    · rcases Nat.lt_or_ge g w.heap.size with h' | h'
      · exact h'
      · simp [Array.getElem?_eq_none h'] at hb
    · rw [Lib.cell_of_heap hb i]
      have h2 : (cur.toList.take (l.length * 1))[i]? = (l.map Value.string)[i]? := by rw [htk]
      rw [List.getElem?_take_of_lt (by omega)] at h2
      rw [← Array.getElem?_toList, h2]
      simp [hi]

theorem cut_ne {p : ByteArray} {l : List ByteArray} (h : l.map (fun s : ByteArray => s.data.toList) = Pth.spl p.data.toList.tail) : l ≠ [] := by
  intro e; subst e; exact Pth.spl_ne _ h.symm

namespace Pth
end Pth

/-- an Errno that is not 0 -/
theorem ne_facts {n : Nat} (h : n ≠ 0) : ((n : Int) != 0) = true ∧ ((n : Int) == 0) = false ∧ (n != 0) = true ∧ (n == 0) = false := by
  refine ⟨?_, ?_, ?_, ?_⟩
  · rw [bne_iff_ne]; omega
  · rw [beq_eq_false_iff_ne]; omega
  · rw [bne_iff_ne]; omega
  · rw [beq_eq_false_iff_ne]; omega

end Go.Proofs.YtmilfamjkiemaaaGreatDoor
