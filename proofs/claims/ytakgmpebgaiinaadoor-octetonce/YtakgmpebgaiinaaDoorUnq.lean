/-
  Walks of layer 1: octet.unquoteFirst, octet.Unquote.
-/
import Derived.Test.YtakgmpebgaiinaaDoorMathU
namespace Go.Proofs.YtakgmpebgaiinaaDoor
open Go.RowKit

theorem ret_ubb {a b : Int} {c d : Int} {x y : Bool} (h : a = b) (h' : c = d) (h'' : x = y) : Ending.returned (.tuple #[.int .u8 a, .int .i64 c, .bool x]) = .returned (.tuple #[.int .u8 b, .int .i64 d, .bool y]) := by rw [h, h', h'']

def Oct.out (o : Option (UInt8 × Nat)) : Value := match o with
  | some (c, n) => .tuple #[.int .u8 (c.toNat : Int), .int .i64 (n : Int), .bool true]
  | none => .tuple #[.int .u8 0, .int .i64 0, .bool false]

theorem index_any (c : UInt8) (w : World) :
    Calls Tryd.prog 36 #[.string ⟨#[48, 49, 50, 51, 52, 53, 54, 55, 56, 57, 97, 98, 99, 100, 101, 102]⟩, .int .u8 (c.toNat : Int)] w fun e w' => e = .returned (.int .i64 (Oct.digit (c.toNat : Int))) ∧ w' = w := by
  have h := Tryd.strings_IndexByte ⟨#[48, 49, 50, 51, 52, 53, 54, 55, 56, 57, 97, 98, 99, 100, 101, 102]⟩ (c.toNat : Int) w
  have e : ((c.toNat : Int).toNat.toUInt8) = c := by rw [Int.toNat_natCast]; exact UInt8.ofNat_toNat
  rw [e] at h
  have e2 : Lib.indexByte (⟨#[48, 49, 50, 51, 52, 53, 54, 55, 56, 57, 97, 98, 99, 100, 101, 102]⟩ : ByteArray).data.toList c = Oct.digit (c.toNat : Int) := Oct.indexHex c
  rw [e2] at h
  exact h

theorem or_nib (a b : Int) (h0 : 0 ≤ a) (h1 : a ≤ 15) (h2 : 0 ≤ b) (h3 : b ≤ 15) : bits .or .i64 (a * 16) b = 16 * a + b := by
  obtain ⟨x, rfl⟩ := Int.eq_ofNat_of_zero_le h0
  obtain ⟨y, rfl⟩ := Int.eq_ofNat_of_zero_le h2
  have h := Oct.or_i64_nat (x * 16) y (by omega) (by omega)
  have h2 := Oct.or_low x y 4 (by omega)
  rw [show (2 : Nat) ^ 4 = 16 by decide] at h2
  rw [h2, Int.natCast_mul] at h
  have e : ((16 : Nat) : Int) = 16 := rfl
  rw [e] at h
  rw [h]; omega

set_option maxHeartbeats 1000000 in
theorem unquoteFirst_any (s : ByteArray) (w : World) (hs : s.size ≤ maxLen) (hpos : 0 < s.size) :
    Calls Tryd.prog 28 #[.string s] w fun e w' => e = .returned (Oct.out (Oct.unq1 s.data.toList)) ∧ w' = w := by
  unfold maxLen at hs
  cases hp : Oct.plainI (s[0].toNat : Int) with
  | true =>
    have HA := isPlain_yes (s[0].toNat : Int) w hp
    have hr : Hid (Oct.unq1 s.data.toList = some (s[0], 1)) := Oct.unq1_plain s hpos hp
    clear hp
    go_enter Tryd.func28, Tryd.ntmps28
    go_wp2_with (go_at_call 33; refine HA.mono ?_; rintro e w' ⟨rfl, rfl⟩)
    go_ret3
    exact ⟨by rw [hr.out]; rfl, rfl⟩
  | false =>
    have HA := isPlain_no (s[0].toNat : Int) w hp
    by_cases h92 : (s[0].toNat : Int) = 92
    rotate_left
    · have hr : Hid (Oct.unq1 s.data.toList = none) := Oct.unq1_other s hpos hp h92
      have d : ((s[0].toNat : Int) != 92) = true := by rw [bne_iff_ne]; exact h92
      clear hp h92
      go_enter Tryd.func28, Tryd.ntmps28
      go_wp2_with (go_at_call 33; refine HA.mono ?_; rintro e w' ⟨rfl, rfl⟩)
      go_ret3
      exact ⟨by rw [hr.out]; rfl, rfl⟩
    have d : ((s[0].toNat : Int) != 92) = false := by rw [bne_eq_false_iff_eq]; exact h92
    rcases Nat.lt_or_ge s.size 3 with h3 | h3'
    · have hr : Hid (Oct.unq1 s.data.toList = none) := Oct.unq1_short s hpos hp h3
      clear hp h92
      go_enter Tryd.func28, Tryd.ntmps28
      go_wp2_with (go_at_call 33; refine HA.mono ?_; rintro e w' ⟨rfl, rfl⟩)
      go_ret3
      exact ⟨by rw [hr.out]; rfl, rfl⟩
    · have hr : Hid (Oct.unq1 s.data.toList = Oct.pair s[1] s[2]) := Oct.unq1_pair s h3' hp h92
      clear hp h92
      have H1 := fun w => index_any s[1] w
      have H2 := fun w => index_any s[2] w
      have b1 := Oct.digit_bd (s[1].toNat : Int)
      have b2 := Oct.digit_bd (s[2].toNat : Int)
      have hr' : Hid (Oct.unq1 s.data.toList = if Oct.digit (s[1].toNat : Int) < 0 ∨ Oct.digit (s[2].toNat : Int) < 0 then none
        else if Oct.plainI (16 * Oct.digit (s[1].toNat : Int) + Oct.digit (s[2].toNat : Int)) = true then none
        else some (UInt8.ofNat (16 * Oct.digit (s[1].toNat : Int) + Oct.digit (s[2].toNat : Int)).toNat, 3)) := hr
      clear hr
      generalize Oct.digit (s[1].toNat : Int) = x at *
      generalize Oct.digit (s[2].toNat : Int) = y at *
      have H1' : Hid _ := H1
      have H2' : Hid _ := H2
      clear H1 H2
      by_cases hx : x < 0
      · have hr : Hid (Oct.unq1 s.data.toList = none) := by show _ = _; rw [hr'.out, if_pos (Or.inl hx)]
        go_enter Tryd.func28, Tryd.ntmps28
        go_wp2_with (first | (go_at_call 33; refine HA.mono ?_; rintro e w' ⟨rfl, rfl⟩) | (go_at_call 36; refine (H1'.out _).mono ?_))
        rintro e w1 ⟨rfl, rfl⟩
        go_wp2_with (go_at_call 36; refine (H2'.out _).mono ?_)
        rintro e w1 ⟨rfl, rfl⟩
        go_wp2
        go_ret3
        exact ⟨by rw [hr.out]; rfl, rfl⟩
      by_cases hy : y < 0
      · have hr : Hid (Oct.unq1 s.data.toList = none) := by show _ = _; rw [hr'.out, if_pos (Or.inr hy)]
        have hx' : 0 ≤ x := by omega
        clear hx
        go_enter Tryd.func28, Tryd.ntmps28
        go_wp2_with (first | (go_at_call 33; refine HA.mono ?_; rintro e w' ⟨rfl, rfl⟩) | (go_at_call 36; refine (H1'.out _).mono ?_))
        rintro e w1 ⟨rfl, rfl⟩
        go_wp2_with (go_at_call 36; refine (H2'.out _).mono ?_)
        rintro e w1 ⟨rfl, rfl⟩
        go_wp2
        go_ret3
        exact ⟨by rw [hr.out]; rfl, rfl⟩
      have hx' : 0 ≤ x := by omega
      have hy' : 0 ≤ y := by omega
      have hor := or_nib x y hx' (by omega) hy' (by omega)
      have hr2 : Hid (Oct.unq1 s.data.toList = if Oct.plainI (16 * x + y) = true then none else some (UInt8.ofNat (16 * x + y).toNat, 3)) := by show _ = _; rw [hr'.out, if_neg (by omega)]; rfl
      clear hx hy hr'
      go_enter Tryd.func28, Tryd.ntmps28
      go_wp2_with (first | (go_at_call 33; refine HA.mono ?_; rintro e w' ⟨rfl, rfl⟩) | (go_at_call 36; refine (H1'.out _).mono ?_))
      rintro e w1 ⟨rfl, rfl⟩
      go_wp2_with (go_at_call 36; refine (H2'.out _).mono ?_)
      rintro e w1 ⟨rfl, rfl⟩
      clear HA
      cases hq : Oct.plainI (16 * x + y) with
      | true =>
        have hr : Hid (Oct.unq1 s.data.toList = none) := by show _ = _; rw [hr2.out, if_pos hq]
        have HB := isPlain_yes (16 * x + y) w1 hq
        clear hq
        go_wp2_with (go_at_call 33; refine HB.mono ?_; rintro e w' ⟨rfl, rfl⟩)
        go_ret3
        exact ⟨by rw [hr.out]; rfl, rfl⟩
      | false =>
        have hr : Hid (Oct.unq1 s.data.toList = some (UInt8.ofNat (16 * x + y).toNat, 3)) := by show _ = _; rw [hr2.out, if_neg (by rw [hq]; simp)]
        have HB := isPlain_no (16 * x + y) w1 hq
        clear hq
        go_wp2_with (go_at_call 33; refine HB.mono ?_; rintro e w' ⟨rfl, rfl⟩)
        go_ret3
        refine ⟨?_, rfl⟩
        rw [hr.out]
        refine ret_ubb ?_ rfl rfl
        rw [UInt8.toNat_ofNat']
        omega

theorem ba_drop (l : List UInt8) (n : Nat) : (⟨l.toArray⟩ : ByteArray).extract n l.length = ⟨(l.drop n).toArray⟩ := by
  apply ByteArray.ext; rw [ByteArray.data_extract]; simp [List.take_of_length_le]

def Oct.outU (o : Option (List UInt8)) : Value := match o with
  | some l => .tuple #[.string ⟨l.toArray⟩, .int .i64 0]
  | none => .tuple #[.string ⟨#[]⟩, .int .i64 3]

set_option maxHeartbeats 1000000 in
theorem unquote_any (s : ByteArray) (w : World) (hs : s.size ≤ 1099511627776) :
    Calls Tryd.prog 21 #[.string s] w fun e w' => e = .returned (Oct.outU (Oct.unquote s.data.toList)) ∧ Below w.heap.size w w' := by
  have hlen := Oct.len_eq s
  have hsa : s = ⟨s.data.toList.toArray⟩ := by cases s; simp
  generalize s.data.toList = l0 at *
  subst hsa
  have hl0 : l0.length ≤ 1099511627776 := by rw [hlen]; exact hs
  clear hs hlen
  go_enter Tryd.func21, Tryd.ntmps21
  go_wp2
  go_loopw [5] (fun r wr => ∃ (l acc : List UInt8), r = .string ⟨l.toArray⟩ ∧ acc.length + l.length ≤ l0.length ∧ Hid ((Oct.unquote l).map (acc ++ ·) = Oct.unquote l0) ∧ Lib.IsBuilderF 47 5 w.heap.size w.heap.size (Lib.byteCells acc) wr ∧ Below w.heap.size w wr) (fun r _ => strLen r)
  case atStart => exact ⟨l0, [], rfl, by simp, by show _ = _; simp, Lib.IsBuilderF.of (Lib.fresh_isBuilder 47 5 w), (Below.refl _ w).alloc (Nat.le_refl _) _⟩
  case round =>
    obtain ⟨l, acc, rfl, hal, hu, hI, hbl⟩ := hrel
    have hsz := hbl.size
    by_cases h0 : l = []
    · have hr : Hid (Oct.unquote l0 = some acc) := by show _ = _; rw [← hu.out, h0]; simp [Oct.unquote]
      subst h0
      go_wp2_with (go_at_call 30; refine (Tryd.Builder_String_any_k w.heap.size w.heap.size _ _ hI hsz).mono ?_)
      rintro e W1 ⟨rfl, _, b1, _⟩
      go_wp2
      go_ret2
      exact ⟨by rw [hr.out]; rfl, hbl.trans b1⟩
    · have HF := unquoteFirst_any ⟨l.toArray⟩ wr (by show l.length ≤ _; unfold maxLen; omega) (by show 0 < l.length; exact List.length_pos_iff.2 h0)
      have he : l.isEmpty = false := by cases l with
        | nil => exact absurd rfl h0
        | cons a r => rfl
      cases hq : Oct.unq1 l with
      | none =>
        have hr : Hid (Oct.unquote l0 = none) := by show _ = _; rw [← hu.out, Oct.unquote_none h0 hq]; rfl
        rw [show Oct.unq1 (⟨l.toArray⟩ : ByteArray).data.toList = none from hq] at HF
        have HF' : Calls Tryd.prog 28 #[.string ⟨l.toArray⟩] wr fun e w' => e = .returned (.tuple #[.int .u8 0, .int .i64 0, .bool false]) ∧ w' = wr := HF
        clear hq HF h0
        go_wp2_with (go_at_call 28; refine HF'.mono ?_; rintro e w1 ⟨rfl, rfl⟩)
        go_ret2
        exact ⟨by rw [hr.out]; rfl, hbl⟩
      | some x =>
        obtain ⟨c, n⟩ := x
        rw [show Oct.unq1 (⟨l.toArray⟩ : ByteArray).data.toList = some (c, n) from hq] at HF
        have HF' : Calls Tryd.prog 28 #[.string ⟨l.toArray⟩] wr fun e w' => e = .returned (.tuple #[.int .u8 (c.toNat : Int), .int .i64 (n : Int), .bool true]) ∧ w' = wr := HF
        have hu2 : Hid ((Oct.unquote (l.drop n)).map ((acc ++ [c]) ++ ·) = Oct.unquote l0) := by
          show _ = _
          rw [← hu.out, Oct.unquote_step hq, Option.map_map]
          congr 1
          funext z
          simp
        have hn := Oct.unq1_pos hq
        have hbc : (Lib.byteCells acc).length = acc.length := Lib.byteCells_length _
        have hbc' : (Lib.byteCells acc).length + 1 ≤ 140737488355328 := by rw [hbc]; omega
        clear hq HF h0 hbc hu
        go_wp2_with (first | (go_at_call 28; refine HF'.mono ?_; rintro e w1 ⟨rfl, rfl⟩) | (go_at_call 29; refine (Bld.writeByte w.heap.size w.heap.size _ _ _ hI hbc' hsz).mono ?_))
        rintro e W1 ⟨rfl, h1, b1, k1⟩
        go_wp2
        rw [ba_drop l n]
        refine ⟨⟨l.drop n, acc ++ [c], rfl, ?_, hu2, ?_, hbl.trans b1⟩, ?_⟩
        · rw [List.length_append, List.length_drop, List.length_singleton]; omega
        · rw [Lib.byteCells_append]; exact Or.inr h1
        · show (l.drop n).length < l.length
          rw [List.length_drop]; omega
end Go.Proofs.YtakgmpebgaiinaaDoor
