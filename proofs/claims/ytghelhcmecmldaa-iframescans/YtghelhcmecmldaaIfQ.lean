/-
  Walks of layer 12: the document's Read of whatever bytes; IframeReads.
-/
import Derived.Test.YtghelhcmecmldaaIfO
import Derived.Test.YtghelhcmecmldaaIfP
import Derived.Test.YtghelhcmecmldaaIfM
import Derived.Test.YtghelhcmecmldaaIfC
import Derived.Test.YtghelhcmecmldaaIfD
namespace Go.Proofs.Ytghelhcmecmldaa
open Go.RowKit
namespace If
theorem xor_five (s : ByteArray) (h : 6 ≤ s.size) : Chk.xor (s.extract 1 6).data.toList = s[1].toNat ^^^ s[2].toNat ^^^ s[3].toNat ^^^ s[4].toNat ^^^ s[5].toNat := by
  have e : (s.extract 1 6).data.toList = [s[1], s[2], s[3], s[4], s[5]] := by
    rw [extract_eq s 1 6 (by omega) h, six s h]
    rfl
  rw [e]
  simp [Chk.xor]
theorem xor_last {a b : Nat} : a ^^^ b = 0 ↔ a = b := ⟨Chk.xor_zero_eq, fun h => by rw [h, Nat.xor_self]⟩
theorem sums {z : Nat} (h : z < 4096) (h0 : ¬ z = 0) : wrap64 (10 + (z : Int)) = ((10 + z : Nat) : Int) ∧ IntKind.i64.wrap (10 + (z : Int)) = ((10 + z : Nat) : Int) ∧ wrap64 (6 + (z : Int)) = ((6 + z : Nat) : Int) ∧ IntKind.i64.wrap (6 + (z : Int)) = ((6 + z : Nat) : Int) ∧ ((z : Int) == 0) = false := by
  refine ⟨by unfold wrap64; omega, by rw [IntKind.wrap_i64]; omega, by unfold wrap64; omega, by rw [IntKind.wrap_i64]; omega, beq_eq_false_iff_ne.2 (by omega)⟩
theorem div32 (x : Nat) : (x : Int) / 32 = ((x / 32 : Nat) : Int) := by omega
theorem div8 (x : Nat) : (x : Int) / 8 = ((x / 8 : Nat) : Int) := by omega
theorem z_lt {x d : Nat} (hd : d < 256) : x % 16 * 256 + d < 4096 := by omega
theorem less_iff {L n z b : Nat} (hL : L = n - 6) (h6 : 6 ≤ n) (hb : b = z + 4) : L < b ↔ n < 10 + z := by omega
theorem lessT {n z : Nat} (h : n < 10 + z) : decide ((n : Int) < ((10 + z : Nat) : Int)) = true ∧ decide (n < 10 + z) = true := ⟨decide_eq_true (by omega), decide_eq_true h⟩
theorem lessF {n z : Nat} (h : ¬ n < 10 + z) : decide ((n : Int) < ((10 + z : Nat) : Int)) = false ∧ decide (n < 10 + z) = false ∧ (6 : Int) ≤ ((6 + z : Nat) : Int) ∧ ((6 + z : Nat) : Int) ≤ (n : Int) ∧ 6 + z + 4 ≤ n ∧ 6 + z ≤ n ∧ z + 4 ≤ n - 6 := ⟨decide_eq_false (by omega), decide_eq_false h, by omega, by omega, by omega, by omega, by omega⟩
theorem ne_cast {a b : Nat} (h : ¬ a = b) : ((a : Int) == (b : Int)) = false ∧ ((a : Int) != (b : Int)) = true := ⟨beq_eq_false_iff_ne.2 (by omega), bne_iff_ne.2 (by omega)⟩
theorem readBody_0 (a b c : Nat) (r : List UInt8) : readBody a b c 0 r = .ok (⟨(c / 32 : Nat), (a / 8 : Nat), (b / 8 : Nat), (a % 8 : Nat), decide (c / 16 % 2 = 1), []⟩, 6) := by
  unfold readBody
  rw [show bsz 0 = 0 from rfl, if_neg (Nat.not_lt_zero _), List.take_zero, if_pos (show body [] = [] from rfl)]
theorem body_iff {r : List UInt8} {z : Nat} (hz : ¬ z = 0) (hl : z + 4 ≤ r.length) : body (r.take z) = r.take (bsz z) ↔ be ((r.drop z).take 4) = crc (r.take z) := by
  have hb : bsz z = z + 4 := by unfold bsz; rw [if_neg hz]
  have hn : ¬ r.take z = [] := by
    intro e
    have := congrArg List.length e
    rw [List.length_take, Nat.min_eq_left (by omega)] at this
    exact hz this
  rw [hb, List.take_add, be_iff (by rw [List.length_take, List.length_drop]; omega) (crc_lt _)]
  unfold body
  rw [if_neg hn]
  exact ⟨fun h => List.append_cancel_left h, fun h => by rw [h]⟩
end If
set_option maxHeartbeats 1000000 in
set_option maxRecDepth 100000 in
theorem rread_any (s : ByteArray) (hs : s.size ≤ maxLen) (w : World) :
    Calls Try.prog 13 #[.string s] w fun e w' => e = .returned (If.resV (If.read s.data.toList)) ∧ Below w.heap.size w w' := by
  by_cases h0 : s.size = 0
  · obtain rfl := If.empty_of h0
    exact rread_empty w
  have h0 : 0 < s.size := by omega
  by_cases h7 : s[0].toNat = 7
  · have e7 : s[0] = 7 := UInt8.toNat_inj.1 h7
    by_cases h6 : s.size < 6
    · rw [If.read_few (by rw [If.len_eq]; exact h6) (Or.inr (by rw [If.getD_at s 0 h0]; exact e7))]
      exact rread_short s h0 h7 h6 w
    have h6 : 6 ≤ s.size := by omega
    rw [If.read_six s h6 e7]
    have b1 := UInt8.toNat_lt s[1]
    have b2 := UInt8.toNat_lt s[2]
    have b3 := UInt8.toNat_lt s[3]
    have b4 := UInt8.toNat_lt s[4]
    have q1 := If.ne_nil h0
    have q2 : ((s[0].toNat : Int) == 7) = true := by rw [h7]; rfl
    have q3 : decide ((s.size : Int) < 6) = false := by simp; omega
    have q4 : (6 : Int) ≤ (s.size : Int) := by omega
    have i1 : (1 : Int) < (s.size : Int) := by omega
    have i2 : (2 : Int) < (s.size : Int) := by omega
    have i3 : (3 : Int) < (s.size : Int) := by omega
    have i4 : (4 : Int) < (s.size : Int) := by omega
    have hml : s.size ≤ 9223372036854775807 := hs
    have HX := fun W => refXor_any (s.extract 1 6) W (by rw [If.extract_size s 1 6 (by omega) h6]; decide)
    rw [If.xor_five s h6] at HX
    have HK := fun W => rkind_any (s[3].toNat / 32 : Nat) W
    have f1 := If.div32 s[3].toNat
    by_cases hx : ¬ (s[1].toNat ^^^ s[2].toNat ^^^ s[3].toNat ^^^ s[4].toNat) = s[5].toNat
    · have e : If.readHead s[1].toNat s[2].toNat s[3].toNat s[4].toNat s[5].toNat (s.data.toList.drop 6) = .error 3 := by
        unfold If.readHead; rw [if_pos (Or.inl hx)]
      rw [e]
      have hne : ¬ s[1].toNat ^^^ s[2].toNat ^^^ s[3].toNat ^^^ s[4].toNat ^^^ s[5].toNat = 0 := fun h => hx (If.xor_last.1 h)
      exact rread_xor s w h6 hs q1 q2 q3 i1 i2 i3 i4 q4 b1 b2 b3 b4 _ hne (beq_eq_false_iff_ne.2 (fun h => hne (Int.ofNat.inj h))) (bne_iff_ne.2 (fun h => hne (Int.ofNat.inj h))) HX
    have hx := Decidable.not_not.1 hx
    rw [If.xor_last.2 hx] at HX
    cases hk : If.kind (s[3].toNat / 32 : Nat) with
    | false =>
      rw [hk] at HK
      have e : If.readHead s[1].toNat s[2].toNat s[3].toNat s[4].toNat s[5].toNat (s.data.toList.drop 6) = .error 3 := by
        unfold If.readHead; rw [if_pos (Or.inr (Or.inl hk))]
      rw [e]
      exact rread_kind s w h6 hs q1 q2 q3 i1 i2 i3 i4 q4 b1 b2 b3 b4 HX _ f1 HK
    | true =>
      rw [hk] at HK
      by_cases hc : ¬ s[1].toNat % 8 = s[2].toNat % 8
      · have e : If.readHead s[1].toNat s[2].toNat s[3].toNat s[4].toNat s[5].toNat (s.data.toList.drop 6) = .error 3 := by
          unfold If.readHead; rw [if_pos (Or.inr (Or.inr hc))]
        rw [e]
        exact rread_chan s w h6 hs q1 q2 q3 i1 i2 i3 i4 q4 b1 b2 b3 b4 HX _ f1 HK _ _ (If.and7 _) (If.and7 _) hc (If.ne_cast hc).1 (If.ne_cast hc).2
      have hc := Decidable.not_not.1 hc
      have e : If.readHead s[1].toNat s[2].toNat s[3].toNat s[4].toNat s[5].toNat (s.data.toList.drop 6) = If.readBody s[1].toNat s[2].toNat s[3].toNat (s[3].toNat % 16 * 256 + s[4].toNat) (s.data.toList.drop 6) := by
        unfold If.readHead; rw [if_neg (by rw [hk]; simp [hx, hc])]
      rw [e]
      have f2 := If.div8 s[1].toNat
      have f3 := If.div8 s[2].toNat
      have f4 := If.and7 s[1].toNat
      have f5 := If.and7 s[2].toNat
      rw [← hc] at f5
      have f6 := If.and16_all _ b3
      have f6' : (((s[3].toNat / 16 % 2 * 16 : Nat) : Int) != 0) = decide (s[3].toNat / 16 % 2 = 1) := by
        generalize s[3].toNat / 16 = q
        rcases Nat.mod_two_eq_zero_or_one q with h | h
        · rw [h]; rfl
        · rw [h]; rfl
      have f7 := If.and15 s[3].toNat
      have f8 := If.or256 (z := s[3].toNat % 16) (d := s[4].toNat) (Nat.mod_lt _ (by decide)) b4
      have hz4 := If.z_lt (x := s[3].toNat) b4
      have hz16 : s[3].toNat % 16 < 16 := Nat.mod_lt _ (by decide)
      generalize s[3].toNat % 16 * 256 + s[4].toNat = z at *
      by_cases hz0 : z = 0
      · subst hz0
        rw [If.readBody_0]
        exact rread_bare s w h6 hs q1 q2 q3 i1 i2 i3 i4 q4 b1 b2 b3 b4 HX _ f1 HK _ _ _ _ _ _ f2 f3 f4 f5 f6 f6' f7 hz16 f8
      have hbz : If.bsz z = z + 4 := by unfold If.bsz; rw [if_neg hz0]
      have hdl : (s.data.toList.drop 6).length = s.size - 6 := by rw [List.length_drop, If.len_eq]
      obtain ⟨p1, p2, p4, p5, z2⟩ := If.sums hz4 hz0
      unfold If.readBody
      by_cases hl : s.size < 10 + z
      · rw [if_pos ((If.less_iff hdl h6 hbz).2 hl)]
        exact rread_less s w h6 hs q1 q2 q3 i1 i2 i3 i4 q4 b1 b2 b3 b4 HX _ f1 HK _ _ _ _ _ _ f2 f3 f4 f5 f6 f6' f7 hz16 _ _ _ f8 hz0 z2 p1 p2 p4 p5 (If.lessT hl).1 (If.lessT hl).2
      · rw [if_neg (fun h => hl ((If.less_iff hdl h6 hbz).1 h))]
        obtain ⟨m1, m2, m3, m4, m5, m6, m7⟩ := If.lessF hl
        have HG := fun W => rget4_any s (6 + z) m5 hs W
        have HC := fun W => refCrc_any (s.extract 6 (6 + z)) W (by rw [If.extract_size s 6 (6 + z) (Nat.le_add_right 6 z) m6]; exact Nat.le_trans (Nat.sub_le _ _) (Nat.le_trans m6 hs))
        have hex : (s.extract 6 (6 + z)).data.toList = (s.data.toList.drop 6).take z := by
          rw [If.extract_eq s 6 (6 + z) (Nat.le_add_right 6 z) m6, Nat.add_sub_cancel_left]
        have hdd : s.data.toList.drop (6 + z) = (s.data.toList.drop 6).drop z := by rw [List.drop_drop]
        rw [hdd] at HG
        rw [hex] at HC
        have hiff := If.body_iff (r := s.data.toList.drop 6) hz0 (by rw [hdl]; exact m7)
        have HC : ∀ W, Calls Try.prog 22 #[.string (s.extract 6 (6 + z))] W fun e w' => e = .returned (.int .i64 (If.crc ((s.data.toList.drop 6).take z) : Nat)) ∧ w' = W := HC
        by_cases hq : If.be (((s.data.toList.drop 6).drop z).take 4) = If.crc ((s.data.toList.drop 6).take z)
        · rw [if_pos (hiff.2 hq)]
          rw [hq] at HG
          have hr := rread_full s w h6 hs q1 q2 q3 i1 i2 i3 i4 q4 b1 b2 b3 b4 HX _ f1 HK _ _ _ _ _ _ f2 f3 f4 f5 f6 f6' f7 hz16 _ _ _ f8 hz0 z2 p1 p2 p4 p5 _ m1 m2 m3 m4 HG HC (s.extract 6 (6 + z)) rfl
          rw [hex] at hr
          rw [hbz, show 6 + (z + 4) = 10 + z by rw [Nat.add_comm z 4, ← Nat.add_assoc]]
          exact hr
        · rw [if_neg (fun h => hq (hiff.1 h))]
          exact rread_sum s w h6 hs q1 q2 q3 i1 i2 i3 i4 q4 b1 b2 b3 b4 HX _ f1 HK _ _ _ _ _ _ f2 f3 f4 f5 f6 f6' f7 hz16 _ _ _ f8 hz0 z2 p1 p2 p4 p5 _ _ m1 m2 m3 m4 HG HC hq (If.ne_cast hq).1 (If.ne_cast hq).2
  · have e : s.data.toList = s[0] :: s.data.toList.drop 1 := by
      have := List.drop_eq_getElem_cons (l := s.data.toList) (i := 0) (by rw [If.len_eq]; exact h0)
      rw [List.drop_zero] at this
      exact this
    rw [e, If.read_7 (fun h => h7 (by rw [h]; rfl))]
    exact rread_form s h0 h7 hs w
set_option linter.unusedVariables false in
set_option maxHeartbeats 4000000 in
set_option maxRecDepth 100000 in
theorem ireads_big (s : ByteArray) (w : World) (q1 : decide ((9000 : Int) < (s.size : Int)) = true) (HA : Hid (∀ W, Below w.heap.size w W → Calls Try.prog 9 #[] W fun e w' => e = .returned (.bool true) ∧ Below w.heap.size w w')) :
    Calls Try.prog 4 #[.string s] w fun e w' => e = .returned (.bool true) ∧ Below w.heap.size w w' := by
  have bw := Below.refl w.heap.size w
  go_enter Try.func4, Try.ntmps4
  go_wp2_with (go_at_call 9; refine (HA.out _ bw).mono ?_; rintro e w' ⟨rfl, b'⟩)
  go_ret
  exact ⟨rfl, b'⟩
set_option linter.unusedVariables false in
set_option maxHeartbeats 4000000 in
set_option maxRecDepth 100000 in
theorem ireads_core (s : ByteArray) (w : World) (q1 : decide ((9000 : Int) < (s.size : Int)) = false) (k2 n2 a2 c2 : Int) (b2 : Bool) (d2 : ByteArray) (N : Nat) (E : Nat)
    (HA : Hid (∀ W, Below w.heap.size w W → Calls Try.prog 9 #[] W fun e w' => e = .returned (.bool true) ∧ Below w.heap.size w w'))
    (HR : Hid (∀ W, Below w.heap.size w W → Calls Try.prog 12 #[.string s] W fun e w' => e = .returned (.tuple #[.agg #[.int .i64 k2, .int .i64 n2, .int .i64 a2, .int .i64 c2, .bool b2, .string d2], .int .i64 N, .int .i64 E]) ∧ Below w.heap.size w w'))
    (HV : Hid (∀ W, Calls Try.prog 13 #[.string s] W fun e w' => e = .returned (.tuple #[.agg #[.int .i64 k2, .int .i64 n2, .int .i64 a2, .int .i64 c2, .bool b2, .string d2], .int .i64 N, .int .i64 E]) ∧ Below W.heap.size W w')) :
    Calls Try.prog 4 #[.string s] w fun e w' => e = .returned (.bool true) ∧ Below w.heap.size w w' := by
  have bw := Below.refl w.heap.size w
  go_enter Try.func4, Try.ntmps4
  go_upto_region 4 with (go_at_call 12; refine (HR.out _ bw).mono ?_; rintro e w1 ⟨rfl, b1⟩)
  have kA : Rg.Bk w1.heap.size [.int .i64 k2, .int .i64 n2, .int .i64 a2, .int .i64 c2, .bool b2, .string d2] 23 (w1.alloc (.cells #[.int .i64 k2, .int .i64 n2, .int .i64 a2, .int .i64 c2, .bool b2, .string d2] 23)) := Rg.Bk.new rfl
  have bA := If.more b1 (.cells #[.int .i64 k2, .int .i64 n2, .int .i64 a2, .int .i64 c2, .bool b2, .string d2] 23)
  generalize w1.alloc (.cells #[.int .i64 k2, .int .i64 n2, .int .i64 a2, .int .i64 c2, .bool b2, .string d2] 23) = W1 at *
  generalize hP1 : w1.heap.size = P1 at *
  clear hP1 b1
  go_upto_region 5 with (go_at_call 13; refine (HV.out _).mono ?_; rintro e w2 ⟨rfl, b2'⟩)
  have kA2 := (kA.below b2' kA.lt).old (.cells #[.int .i64 k2, .int .i64 n2, .int .i64 a2, .int .i64 c2, .bool b2, .string d2] 23)
  have kB : Rg.Bk w2.heap.size [.int .i64 k2, .int .i64 n2, .int .i64 a2, .int .i64 c2, .bool b2, .string d2] 23 (w2.alloc (.cells #[.int .i64 k2, .int .i64 n2, .int .i64 a2, .int .i64 c2, .bool b2, .string d2] 23)) := Rg.Bk.new rfl
  have bB := If.more (bA.trans (b2'.mono bA.size)) (.cells #[.int .i64 k2, .int .i64 n2, .int .i64 a2, .int .i64 c2, .bool b2, .string d2] 23)
  generalize w2.alloc (.cells #[.int .i64 k2, .int .i64 n2, .int .i64 a2, .int .i64 c2, .bool b2, .string d2] 23) = W2 at *
  generalize hP2 : w2.heap.size = P2 at *
  clear hP2 b2' kA bA
  have cA := kA2.cell; have zA := kA2.lt; have cB := kB.cell; have zB := kB.lt
  go_wp2_with (go_at_call 9; refine (HA.out _ bB).mono ?_; rintro e w3 ⟨rfl, b3⟩)
  go_ret
  exact ⟨rfl, b3⟩
theorem ireads_walk (s : ByteArray) (hs : s.size ≤ maxLen) (w : World) :
    Calls Try.prog 4 #[.string s] w fun e w' => e = .returned (.bool true) ∧ Below w.heap.size w w' := by
  have HA := upF w iawake_any
  by_cases q1 : 9000 < s.size
  · exact ireads_big s w (by simp; omega) HA
  have q1' : decide ((9000 : Int) < (s.size : Int)) = false := by simp; omega
  have HR := fun W => iread_any s hs W
  have HV := fun W => rread_any s hs W
  cases hr : If.read s.data.toList with
  | ok g =>
    rw [hr] at HR HV
    exact ireads_core s w q1' g.1.kd g.1.nm g.1.ak g.1.ch g.1.ca ⟨g.1.data.toArray⟩ g.2 0 HA (upF w HR) HV
  | error e =>
    rw [hr] at HR HV
    exact ireads_core s w q1' 0 0 0 0 false ⟨#[]⟩ 0 e HA (upF w HR) HV
end Go.Proofs.Ytghelhcmecmldaa
