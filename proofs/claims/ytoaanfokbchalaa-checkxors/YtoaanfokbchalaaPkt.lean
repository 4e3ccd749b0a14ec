/-
  Walks of layer 2: lowByte, Packet, Control and the document's; the statements' awake and long.
-/
import Derived.Test.YtoaanfokbchalaaSums2
namespace Go.Proofs.Ytoaanfokbchalaa
open Go.RowKit

theorem lowByte_any (c : Int) (w : World) :
    Calls Try.prog 23 #[.int .i64 c] w fun e w' => e = .returned (.int .i64 (c % 256)) ∧ w' = w := by
  have h := Bit.and_i64_255 c
  go_enter Try.func23, Try.ntmps23
  go_wp2
  go_ret
  exact ⟨ret_i (by first | rfl | rw [h]), rfl⟩
theorem control_any (c : Int) (w : World) :
    Calls Try.prog 19 #[.int .i64 c] w fun e w' => e = .returned (.int .i64 (Chk.control c)) ∧ w' = w := by
  have HA := lowByte_any c w
  have h1 : 0 ≤ c % 256 := by omega
  have h2 : c % 256 < 256 := by omega
  have hr : Hid (43690 - c % 256 = Chk.control c) := rfl
  generalize c % 256 = d at *
  go_enter Try.func19, Try.ntmps19
  go_wp2_with (go_at_call 23; refine HA.mono ?_; rintro e w' ⟨rfl, rfl⟩)
  go_ret
  exact ⟨ret_i hr.out, rfl⟩
theorem refControl_any (c : Int) (w : World) :
    Calls Try.prog 20 #[.int .i64 c] w fun e w' => e = .returned (.int .i64 (Chk.control c)) ∧ w' = w := by
  have h := Bit.and_i64_255 c
  have h1 : 0 ≤ c % 256 := by omega
  have h2 : c % 256 < 256 := by omega
  have hr : Hid (43690 - c % 256 = Chk.control c) := rfl
  generalize c % 256 = d at *
  have hs := Bit.and_i64_65535 (43690 - d)
  have hs' : (43690 - d) % 65536 = 43690 - d := by omega
  rw [hs'] at hs
  clear hs'
  go_enter Try.func20, Try.ntmps20
  go_wp2
  go_ret
  exact ⟨ret_i (by first | exact hr.out | (rw [hs]; exact hr.out)), rfl⟩
theorem packet_any (s : ByteArray) (c : Int) (w : World) (hs : s.size ≤ maxLen) :
    Calls Try.prog 17 #[.string s, .int .i64 c] w fun e w' => e = .returned (.int .i64 (Chk.packet s.data.toList c)) ∧ w' = w := by
  have HA := sum_any s w hs
  have HB := lowByte_any c w
  have hr : Hid ((43690 - ((Chk.sum s.data.toList ^^^ (c % 256).toNat : Nat) : Int)) % 65536 = Chk.packet s.data.toList c) := rfl
  have ha := Chk.sum_lt s.data.toList
  obtain ⟨d, hd⟩ : ∃ d : Nat, c % 256 = (d : Int) := ⟨(c % 256).toNat, by omega⟩
  have hdl : d < 256 := by omega
  rw [hd] at HB hr
  rw [Int.toNat_natCast] at hr
  clear hd
  generalize Chk.sum s.data.toList = a at *
  have f1 : IntKind.u16.wrap (a : Int) = (a : Int) := by rw [IntKind.wrap_u16]; omega
  have f2 : IntKind.u16.wrap (d : Int) = (d : Int) := by rw [IntKind.wrap_u16]; omega
  have f3 := Bit.xor_u16 a d ha (by omega)
  have f4 := Chk.xor16 ha (show d < 65536 by omega)
  generalize a ^^^ d = q at *
  have f5 := IntKind.wrap_u16 (43690 - (q : Int))
  have f6 : Hid (wrap64 ((43690 - (q : Int)) % 65536) = (43690 - (q : Int)) % 65536) := by show _ = _; unfold wrap64; omega
  go_enter Try.func17, Try.ntmps17
  go_wp2_with (first | (go_at_call 11; refine HA.mono ?_; rintro e w' ⟨rfl, rfl⟩) | (go_at_call 23; refine HB.mono ?_; rintro e w' ⟨rfl, rfl⟩))
  go_ret
  exact ⟨ret_i (by first | exact hr.out | (rw [f6.out]; exact hr.out)), rfl⟩
theorem refPacket_any (s : ByteArray) (c : Int) (w : World) (hs : s.size ≤ maxLen) :
    Calls Try.prog 18 #[.string s, .int .i64 c] w fun e w' => e = .returned (.int .i64 (Chk.packet s.data.toList c)) ∧ w' = w := by
  have HA := refSum_any s w hs
  have hb := Bit.and_i64_255 c
  have hr : Hid ((43690 - ((Chk.sum s.data.toList ^^^ (c % 256).toNat : Nat) : Int)) % 65536 = Chk.packet s.data.toList c) := rfl
  have ha := Chk.sum_lt s.data.toList
  obtain ⟨d, hd⟩ : ∃ d : Nat, c % 256 = (d : Int) := ⟨(c % 256).toNat, by omega⟩
  have hdl : d < 256 := by omega
  rw [hd] at hb hr
  rw [Int.toNat_natCast] at hr
  clear hd
  generalize Chk.sum s.data.toList = a at *
  have f3 := Bit.xor_i64 a d (by omega) (by omega)
  have f4 := Chk.xor16 ha (show d < 65536 by omega)
  generalize a ^^^ d = q at *
  have f5 := Bit.and_i64_65535 (43690 - (q : Int))
  go_enter Try.func18, Try.ntmps18
  go_wp2_with (go_at_call 12; refine HA.mono ?_; rintro e w' ⟨rfl, rfl⟩)
  go_ret
  exact ⟨ret_i (by first | exact hr.out | (rw [f5]; exact hr.out)), rfl⟩

theorem any_take {l : List ByteArray} {k : Nat} (h : k < l.length) : (l.take (k + 1)).any (fun s => decide (5000 < s.size)) = ((l.take k).any (fun s => decide (5000 < s.size)) || decide (5000 < l[k].size)) := by
  rw [List.take_succ_eq_append_getElem h, List.any_append]; simp
theorem any_big {l : List ByteArray} {k : Nat} (h : k < l.length) (hb : 5000 < l[k].size) : l.any (fun s => decide (5000 < s.size)) = true :=
  List.any_eq_true.mpr ⟨l[k], List.getElem_mem h, by simpa using hb⟩
theorem ret_b {a b : Bool} (h : a = b) : Ending.returned (.bool a) = .returned (.bool b) := by rw [h]

set_option maxHeartbeats 400000 in
theorem long_any (l : List ByteArray) (b : Nat) (w : World) (hn : l.length ≤ 1000) (hc : ∀ (i : Nat) (h : i < l.length), w.cell? ⟨b, i, none⟩ = some (.string l[i])) :
    Calls Try.prog 9 #[.slice (some ⟨b, 0, none⟩) l.length l.length] w fun e w' => e = .returned (.bool (l.any fun s => decide (5000 < s.size))) ∧ w' = w := by
  have hc' : Hid (∀ (i : Nat) (h : i < l.length), w.cell? ⟨b, i, none⟩ = some (.string l[i])) := hc
  clear hc
  go_enter Try.func9, Try.ntmps9
  go_wp2
  go_loopw [7] (fun i wr => ∃ k : Nat, k ≤ l.length ∧ i = .int .i64 k ∧ Hid ((l.take k).any (fun s => decide (5000 < s.size)) = false) ∧ wr = w) (fun i _ => l.length - (intOf i).toNat)
  case atStart => exact ⟨0, Nat.zero_le _, rfl, rfl, rfl⟩
  case round =>
    obtain ⟨k, hk, rfl, hno, rfl⟩ := hrel
    by_cases hlt : k < l.length
    · have hcell := hc'.out k hlt
      by_cases hb : 5000 < l[k].size
      · have hr : Hid (l.any (fun s => decide (5000 < s.size)) = true) := any_big hlt hb
        have hb2 : decide ((5000 : Int) < (l[k].size : Int)) = true := by simp; omega
        clear hno
        go_wp2
        go_ret
        exact ⟨ret_b hr.out.symm, rfl⟩
      · have hr : Hid ((l.take (k + 1)).any (fun s => decide (5000 < s.size)) = false) := by
          show _ = _; rw [any_take hlt, hno.out]; simpa using hb
        have hb2 : decide ((5000 : Int) < (l[k].size : Int)) = false := by simp; omega
        clear hno
        go_wp2
        go_roundw
        case rel => exact ⟨k + 1, by omega, by go_num, hr, trivial⟩
        case measure => simp [intOf]; omega
    · have hr : Hid (l.any (fun s => decide (5000 < s.size)) = false) := by
        have := hno.out; rw [List.take_of_length_le (by omega)] at this; exact this
      clear hno
      go_wp2
      go_ret
      exact ⟨ret_b hr.out.symm, rfl⟩
end Go.Proofs.Ytoaanfokbchalaa
