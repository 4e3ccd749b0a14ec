/-
  Walks of layer 2: lowByte, Packet, Control and the document's; the statements' awake and long.
-/
import Derived.Test.YtpgjdobgfhhbiaaSums2
namespace Go.Proofs.Ytpgjdobgfhhbiaa
open Go.RowKit

theorem lowByte_any (c : Int) (w : World) :
    Calls Try.prog 34 #[.int .i64 c] w fun e w' => e = .returned (.int .i64 (c % 256)) ∧ w' = w := by
  have h := Bit.and_i64_255 c
  go_enter Try.func34, Try.ntmps34
  go_wp2
  go_ret
  exact ⟨ret_i (by first | rfl | rw [h]), rfl⟩
theorem control_any (c : Int) (w : World) :
    Calls Try.prog 20 #[.int .i64 c] w fun e w' => e = .returned (.int .i64 (Chk.control c)) ∧ w' = w := by
  have HA := lowByte_any c w
  have h1 : 0 ≤ c % 256 := by omega
  have h2 : c % 256 < 256 := by omega
  have hr : Hid (43690 - c % 256 = Chk.control c) := rfl
  generalize c % 256 = d at *
  go_enter Try.func20, Try.ntmps20
  go_wp2_with (go_at_call 34; refine HA.mono ?_; rintro e w' ⟨rfl, rfl⟩)
  go_ret
  exact ⟨ret_i hr.out, rfl⟩
theorem refControl_any (c : Int) (w : World) :
    Calls Try.prog 26 #[.int .i64 c] w fun e w' => e = .returned (.int .i64 (Chk.control c)) ∧ w' = w := by
  have h := Bit.and_i64_255 c
  have h1 : 0 ≤ c % 256 := by omega
  have h2 : c % 256 < 256 := by omega
  have hr : Hid (43690 - c % 256 = Chk.control c) := rfl
  generalize c % 256 = d at *
  have hs := Bit.and_i64_65535 (43690 - d)
  have hs' : (43690 - d) % 65536 = 43690 - d := by omega
  rw [hs'] at hs
  clear hs'
  go_enter Try.func26, Try.ntmps26
  go_wp2
  go_ret
  exact ⟨ret_i (by first | exact hr.out | (rw [hs]; exact hr.out)), rfl⟩
theorem packet_any (s : ByteArray) (c : Int) (w : World) (hs : s.size ≤ maxLen) :
    Calls Try.prog 36 #[.string s, .int .i64 c] w fun e w' => e = .returned (.int .i64 (Chk.packet s.data.toList c)) ∧ w' = w := by
  have HA := sum_any s w hs
  have HB := lowByte_any c w
  have hr : Hid ((43690 - ((Chk.sum s.data.toList ^^^ (c % 256).toNat : Nat) : Int)) % 65536 = Chk.packet s.data.toList c) := rfl
  have ha := Chk.sum_lt s.data.toList
  obtain ⟨d, hd⟩ : ∃ d : Nat, c % 256 = (d : Int) := ⟨(c % 256).toNat, by omega⟩
  have hdl : d < 256 := by omega
  rw [hd] at HB hr
  rw [Int.toNat_natCast] at hr
  clear hd
  generalize Chk.sum s.data.toList = a at *
  have f1 : IntKind.u16.wrap (a : Int) = (a : Int) := by rw [IntKind.wrap_u16]; omega
  have f2 : IntKind.u16.wrap (d : Int) = (d : Int) := by rw [IntKind.wrap_u16]; omega
  have f3 := Bit.xor_u16 a d ha (by omega)
  have f4 := Chk.xor16 ha (show d < 65536 by omega)
  generalize a ^^^ d = q at *
  have f5 := IntKind.wrap_u16 (43690 - (q : Int))
  have f6 : Hid (wrap64 ((43690 - (q : Int)) % 65536) = (43690 - (q : Int)) % 65536) := by show _ = _; unfold wrap64; omega
  go_enter Try.func36, Try.ntmps36
  go_wp2_with (first | (go_at_call 40; refine HA.mono ?_; rintro e w' ⟨rfl, rfl⟩) | (go_at_call 34; refine HB.mono ?_; rintro e w' ⟨rfl, rfl⟩))
  go_ret
  exact ⟨ret_i (by first | exact hr.out | (rw [f6.out]; exact hr.out)), rfl⟩
theorem refPacket_any (s : ByteArray) (c : Int) (w : World) (hs : s.size ≤ maxLen) :
    Calls Try.prog 27 #[.string s, .int .i64 c] w fun e w' => e = .returned (.int .i64 (Chk.packet s.data.toList c)) ∧ w' = w := by
  have HA := refSum_any s w hs
  have hb := Bit.and_i64_255 c
  have hr : Hid ((43690 - ((Chk.sum s.data.toList ^^^ (c % 256).toNat : Nat) : Int)) % 65536 = Chk.packet s.data.toList c) := rfl
  have ha := Chk.sum_lt s.data.toList
  obtain ⟨d, hd⟩ : ∃ d : Nat, c % 256 = (d : Int) := ⟨(c % 256).toNat, by omega⟩
  have hdl : d < 256 := by omega
  rw [hd] at hb hr
  rw [Int.toNat_natCast] at hr
  clear hd
  generalize Chk.sum s.data.toList = a at *
  have f3 := Bit.xor_i64 a d (by omega) (by omega)
  have f4 := Chk.xor16 ha (show d < 65536 by omega)
  generalize a ^^^ d = q at *
  have f5 := Bit.and_i64_65535 (43690 - (q : Int))
  go_enter Try.func27, Try.ntmps27
  go_wp2_with (go_at_call 38; refine HA.mono ?_; rintro e w' ⟨rfl, rfl⟩)
  go_ret
  exact ⟨ret_i (by first | exact hr.out | (rw [f5]; exact hr.out)), rfl⟩

theorem any_take {l : List ByteArray} {k : Nat} (h : k < l.length) : (l.take (k + 1)).any (fun s => decide (5000 < s.size)) = ((l.take k).any (fun s => decide (5000 < s.size)) || decide (5000 < l[k].size)) := by
  rw [List.take_succ_eq_append_getElem h, List.any_append]; simp
theorem any_big {l : List ByteArray} {k : Nat} (h : k < l.length) (hb : 5000 < l[k].size) : l.any (fun s => decide (5000 < s.size)) = true :=
  List.any_eq_true.mpr ⟨l[k], List.getElem_mem h, by simpa using hb⟩
theorem ret_b {a b : Bool} (h : a = b) : Ending.returned (.bool a) = .returned (.bool b) := by rw [h]

end Go.Proofs.Ytpgjdobgfhhbiaa
