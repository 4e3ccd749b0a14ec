/-
  Walk of layer 2's statement CheckNear.
-/
import Derived.Test.YtoaanfokbchalaaLawK2
import Derived.Laws.IdiomStrings
import Derived.Lib.BufferMore
import Derived.Deep.QuietTactic
import Derived.BigQuiet
namespace Go.Proofs.Ytoaanfokbchalaa
open Go.RowKit
namespace Chk
theorem xor_u8_byte (a b : Int) : ∃ c : UInt8, bits .xor .u8 a b = (c.toNat : Int) := by
  refine ⟨UInt8.ofNat (bits .xor .u8 a b).toNat, ?_⟩
  rw [UInt8.toNat_ofNat']
  show IntKind.u8.wrap _ = _
  have h : 0 ≤ bits .xor .u8 a b ∧ bits .xor .u8 a b < 256 := by
    show 0 ≤ IntKind.u8.wrap _ ∧ IntKind.u8.wrap _ < 256
    rw [IntKind.wrap_u8]; omega
  have e : IntKind.u8.wrap ((BitVec.ofInt IntKind.u8.bits a ^^^ BitVec.ofInt IntKind.u8.bits b).toNat : Int) = bits .xor .u8 a b := rfl
  rw [e]
  omega
/-- the two lists are alike but within [k, k + i) -/
def Alike (k i : Nat) (l m : List UInt8) : Prop := m.length = l.length ∧ ∀ j, j < k ∨ k + i ≤ j → m[j]? = l[j]?
theorem alike_refl (k : Nat) (l : List UInt8) : Alike k 0 l l := ⟨rfl, fun _ _ => rfl⟩
theorem alike_set {k i : Nat} {l m : List UInt8} (h : Alike k i l m) (c : UInt8) : Alike k (i + 1) l (m.set (k + i) c) := by
  refine ⟨by rw [List.length_set]; exact h.1, fun j hj => ?_⟩
  rw [List.getElem?_set_ne (by omega)]
  exact h.2 j (by omega)
theorem near_eq {k i : Nat} {l m : List UInt8} (h : Alike k i l m) (hi : i ≤ 4) : (more 0 l == more 0 m) = (l == m) := by
  rw [Bool.eq_iff_iff, beq_iff_eq, beq_iff_eq]
  constructor
  · intro he
    have hl : l = l.take k ++ ((l.drop k).take i ++ (l.drop k).drop i) := by rw [List.take_append_drop, List.take_append_drop]
    have hm : m = m.take k ++ ((m.drop k).take i ++ (m.drop k).drop i) := by rw [List.take_append_drop, List.take_append_drop]
    have h1 : m.take k = l.take k := by
      apply List.ext_getElem?
      intro j
      rw [List.getElem?_take, List.getElem?_take]
      split
      · exact h.2 j (by omega)
      · rfl
    have h2 : (m.drop k).drop i = (l.drop k).drop i := by
      apply List.ext_getElem?
      intro j
      rw [List.getElem?_drop, List.getElem?_drop, List.getElem?_drop, List.getElem?_drop]
      exact h.2 _ (by omega)
    rw [hl, hm, h1, h2] at he
    have hlen : ((l.drop k).take i).length = ((m.drop k).take i).length := by simp [h.1]
    have h3 := crc_near _ _ _ _ hlen (by rw [List.length_take]; omega) he
    rw [hl, hm, h1, h2, h3]
  · intro he; rw [he]
end Chk

def rowOf (l : List UInt8) (z : Nat) : Array Value := (l.map fun b => Value.int .u8 b.toNat).toArray ++ Array.replicate z (.int .u8 0)
theorem rowOf_get (l : List UInt8) (z i : Nat) (h : i < l.length) : (rowOf l z)[i]? = some (.int .u8 (l[i].toNat : Int)) := by
  unfold rowOf
  rw [Array.getElem?_append_left (by simpa using h)]
  simp [h]
theorem rowOf_set (l : List UInt8) (z i : Nat) (h : i < l.length) (c : UInt8) : (rowOf l z).setIfInBounds i (.int .u8 (c.toNat : Int)) = rowOf (l.set i c) z := by
  apply Array.ext
  · simp [rowOf]
  · intro j h1 h2
    rw [← Option.some_inj, ← Array.getElem?_eq_getElem, ← Array.getElem?_eq_getElem, Array.getElem?_setIfInBounds]
    unfold rowOf
    by_cases hj : j < l.length
    · rw [Array.getElem?_append_left (by simpa using hj), Array.getElem?_append_left (by simpa using hj)]
      by_cases hij : i = j
      · subst hij; simp [h]; omega
      · simp [hij, hj]
    · rw [if_neg (by omega), Array.getElem?_append_right (by simp; omega), Array.getElem?_append_right (by simp; omega)]
      simp
theorem bytesRow_eq (s : ByteArray) (cap : Nat) : bytesRow s cap = rowOf s.data.toList (cap - s.size) := by
  unfold bytesRow rowOf
  congr 1
  apply Array.ext'
  simp
theorem rowOf_size (l : List UInt8) (z : Nat) : (rowOf l z).size = l.length + z := by simp [rowOf]
theorem frozen_row {w : World} {b : Nat} {cs : Array Value} {T : TypeId} {n : Nat} (hb : w.heap[b]? = some (.cells cs T (n, n + 1))) (j : Nat) (hj : j < n) : w.frozen? ⟨b, j, none⟩ = false := by
  simp [World.frozen?, hb]; omega
theorem conv_row {w : World} {b z cap : Nat} {fr : Nat × Nat} {L : List UInt8} (hb : w.heap[b]? = some (.cells (rowOf L z) 5 fr)) :
    (convert 33 9 (.slice (some ⟨b, 0, none⟩) L.length cap)).run Try.prog w = .ok (.string ⟨L.toArray⟩) w :=
  run_convert_bytes_back w 33 9 5 ⟨b, 0, none⟩ cap L Try.underlying33 Try.underlying5 Try.underlying9 (fun j hj => by
    have e : (⟨b, 0, none⟩ : Addr).add j = ⟨b, j, none⟩ := by cases j <;> simp [Addr.add]
    rw [e, Lib.cell_of_heap hb j, rowOf_get L z j hj])
theorem below_drewN {B : Nat} {w w' : World} (h : Below B w w') (q : Nat) : Below B w (w'.drewN q) := ⟨h.1, h.2, h.3, h.4, h.5⟩
theorem nat_beq (a b : Nat) : ((a : Int) == (b : Int)) = (a == b) := by
  rw [Bool.eq_iff_iff, beq_iff_eq, beq_iff_eq]; omega

set_option maxRecDepth 100000 in
set_option maxHeartbeats 1000000 in
theorem near_walk (s : ByteArray) (hs : s.size ≤ maxLen) (at' : Int) (_h0 : -9223372036854775808 ≤ at') (_h1 : at' ≤ 9223372036854775807) (by' : Int) (_h2 : -9223372036854775808 ≤ by') (_h3 : by' ≤ 9223372036854775807) (w : World) :
    Calls Try.prog 7 #[.string s, .int .i64 at', .int .i64 by'] w fun e w' => e = .returned (.bool true) ∧ Below w.heap.size w w' := by
  have HL := fun L hL => long_one s w L hL
  by_cases hb : 5000 < s.size
  · have HL1 : Hid (Calls Try.prog 9 #[.slice (some ⟨w.heap.size, 0, none⟩) 1 1] (w.alloc (.cells #[.string s] 9)) fun e w' => e = .returned (.bool true) ∧ Below w.heap.size w w') := HL true (decide_eq_true hb)
    clear HL hb
    go_enter Try.func7, Try.ntmps7
    go_wp2_with (go_at_call 9; refine HL1.out.mono ?_)
    rintro e w1 ⟨rfl, b1⟩
    go_wp2_with (go_at_call 10; refine (awake_any _).mono ?_; rintro e w3 ⟨rfl, rfl⟩)
    go_ret
    exact ⟨rfl, b1⟩
  have HL1 : Hid (Calls Try.prog 9 #[.slice (some ⟨w.heap.size, 0, none⟩) 1 1] (w.alloc (.cells #[.string s] 9)) fun e w' => e = .returned (.bool false) ∧ Below w.heap.size w w') := HL false (decide_eq_false hb)
  clear HL
  have hs5 : s.size ≤ 5000 := by omega
  clear hb
  by_cases hz : s.size = 0
  · have hz1 : ((s.size : Int) == 0) = true := by rw [beq_iff_eq]; omega
    go_enter Try.func7, Try.ntmps7
    go_wp2_with (go_at_call 9; refine HL1.out.mono ?_)
    rintro e w1 ⟨rfl, b1⟩
    go_wp2_with (go_at_call 10; refine (awake_any _).mono ?_; rintro e w3 ⟨rfl, rfl⟩)
    go_ret
    exact ⟨rfl, b1⟩
  have hz1 : ((s.size : Int) == 0) = false := by rw [beq_eq_false_iff_ne]; omega
  have hpos : 0 < s.size := by omega
  obtain ⟨A, hA⟩ : ∃ A : Nat, IntKind.u64.wrap at' = (A : Int) := ⟨(IntKind.u64.wrap at').toNat, by rw [IntKind.wrap_u64]; omega⟩
  have hS : IntKind.u64.wrap (s.size : Int) = (s.size : Int) := by rw [IntKind.wrap_u64]; omega
  obtain ⟨k, hk⟩ : ∃ k : Nat, (A : Int).tmod (s.size : Int) = (k : Int) := ⟨A % s.size, by rw [Int.tmod_eq_emod_of_nonneg (by omega), Int.natCast_emod]⟩
  have hkl : k < s.size := by
    have := Nat.mod_lt A hpos
    rw [Int.tmod_eq_emod_of_nonneg (by omega), ← Int.natCast_emod] at hk
    omega
  have hK : wrap64 (k : Int) = (k : Int) := by unfold wrap64; omega
  clear hz
  have HC : Hid (∀ w : World, Calls Try.prog 15 #[.string s] w fun e w' => e = .returned (.int .i64 (Chk.more 0 s.data.toList)) ∧ w' = w) := fun w => crc_any s w hs
  go_enter Try.func7, Try.ntmps7
  go_wp2_with (go_at_call 9; refine HL1.out.mono ?_)
  rintro e w1 ⟨rfl, b1⟩
  have hcv := run_bytes_of_string (P := Try.prog) w1 9 33 5 s Try.underlying9 Try.underlying33 Try.underlying5
  have hrow := bytesRow_eq s (grownCap w1 s.size 0 5)
  rw [hrow, rowOf_size, Array.length_toList] at hcv
  generalize grownCap w1 s.size 0 5 = cap at *
  generalize cap - s.size = z at *
  go_wp2
  clear hcv hrow
  go_loopw [9] (fun i wr => ∃ (n : Nat) (L : List UInt8), n ≤ 4 ∧ i = .int .i64 n ∧ Hid (Chk.Alike k n s.data.toList L) ∧ Hid (wr.heap[w1.heap.size]? = some (.cells (rowOf L z) 5 (s.data.size + z, s.data.size + z + 1))) ∧ Below w.heap.size w wr) (fun i _ => 4 - (intOf i).toNat)
  case atStart => exact ⟨0, s.data.toList, by omega, rfl, Chk.alike_refl k _, (MapKept.heap_alloc w1.drew _).1, b1.drew.alloc b1.size _⟩
  case round =>
    obtain ⟨n, L, hn, rfl, hal, hrow, hbl⟩ := hrel
    have hLl : L.length = s.size := hal.out.1
    by_cases hgo : n < 4 ∧ k + n < s.size
    · obtain ⟨hn4, hkn⟩ := hgo
      have hin : k + n < L.length := by omega
      have hcell : wr.cell? ⟨w1.heap.size, k + n, none⟩ = some (.int .u8 (L[k + n].toNat : Int)) := by
        rw [Lib.cell_of_heap hrow.out, rowOf_get L z (k + n) hin]
      have hfz : wr.frozen? ⟨w1.heap.size, k + n, none⟩ = false := frozen_row hrow.out _ (by show k + n < s.size + z; omega)
      have hd1 : decide ((n : Int) < 4) = true := by simp; omega
      have hd2 : decide ((k : Int) + (n : Int) < (s.size : Int)) = true := by simp; omega
      have hw8 : IntKind.u64.wrap (8 * (n : Int)) = 8 * (n : Int) := by rw [IntKind.wrap_u64]; omega
      obtain ⟨c, hc⟩ := Chk.xor_u8_byte (L[k + n].toNat : Int) (by' / 2 ^ (8 * n) % 256)
      have hal' : Hid (Chk.Alike k (n + 1) s.data.toList (L.set (k + n) c)) := Chk.alike_set hal.out c
      go_wp2
      exact ⟨⟨n + 1, L.set (k + n) c, by omega, by go_num, hal', (Lib.heap_setCell_same hrow.out _).trans (by rw [rowOf_set L z (k + n) hin c]), hbl.setCell (p := ⟨w1.heap.size, k + n, none⟩) b1.size _⟩, by simp [intOf]; omega⟩
    · have hcv : ∀ q : Nat, (convert 33 9 (.slice (some ⟨w1.heap.size, 0, none⟩) s.size cap)).run Try.prog (wr.drewN q) = .ok (.string ⟨L.toArray⟩) (wr.drewN q) := fun q => by
        have hr : (wr.drewN q).heap[w1.heap.size]? = some (.cells (rowOf L z) 5 (s.data.size + z, s.data.size + z + 1)) := hrow.out
        have h := conv_row (cap := cap) hr
        rw [hLl] at h; exact h
      have HC2 : Hid (∀ w : World, Calls Try.prog 15 #[.string ⟨L.toArray⟩] w fun e w' => e = .returned (.int .i64 (Chk.more 0 L)) ∧ w' = w) := fun w => crc_any ⟨L.toArray⟩ w (by show L.toArray.size ≤ _; rw [List.size_toArray, hLl]; exact hs)
      have hfin := Chk.near_eq hal.out hn
      clear hal
      have hg : (((Chk.more 0 s.data.toList : Int) == (Chk.more 0 L : Int)) == (s.toList == L)) = true := by rw [ByteArray.toList_eq, nat_beq, hfin]; exact beq_self_eq_true _
      clear hfin
      go_wp2
      all_goals
        go_quiet ((first | (go_at_call 15; first | exact Calls.quiet_of_same (HC.out _) | exact Calls.quiet_of_same (HC2.out _)) | (go_at_call 10; exact Calls.quiet_of_same (awake_any _))))
        go_wp2
        go_ret
        exact ⟨rfl, below_drewN hbl _⟩
end Go.Proofs.Ytoaanfokbchalaa
