/-
  Walks of layer 13: the document's Read.
-/
import Derived.Test.YteiajngfeiemkaaDoorPa4
namespace Go.Proofs.YteiajngfeiemkaaDoor
open Go.RowKit
set_option maxHeartbeats 1000000 in
theorem rread_none (w : World) :
    Calls Tryd.prog 13 #[.string ⟨#[]⟩] w fun x w' => x = .returned (Pa.resV (.error 2)) ∧ Below w.heap.size w w' := by
  have bw := Rg.al2 w (.cells #[.int .i64 0, .string ⟨#[]⟩] 23) (.cells #[.int .i64 0, .string ⟨#[]⟩] 23)
  go_enter Tryd.func13, Tryd.ntmps13
  go_wp2
  exact bodyPost_ret (v := Pa.resV (.error 2)) (by simp [results, Tryd.results13, go_sem, Pa.resV]) rfl ⟨rfl, bw⟩
set_option maxHeartbeats 1000000 in
theorem rread_tag (s : ByteArray) (hs : s.size ≤ maxLen) (h0 : 0 < s.size) (w : World)
    (HK : Hid (∀ W, Calls Tryd.prog 22 #[.int .i64 (s[0].toNat : Int)] W fun e w' => e = .returned (.bool false) ∧ w' = W)) :
    Calls Tryd.prog 13 #[.string s] w fun x w' => x = .returned (Pa.resV (.error 3)) ∧ Below w.heap.size w w' := by
  have hml : s.size ≤ 9223372036854775807 := hs
  have e0 := If.ne_nil h0
  have hb := UInt8.toNat_lt s[0]
  have bw := Rg.al2 w (.cells #[.int .i64 0, .string ⟨#[]⟩] 23) (.cells #[.int .i64 0, .string ⟨#[]⟩] 23)
  clear hs
  go_enter Tryd.func13, Tryd.ntmps13
  go_wp2_with (go_at_call 22; refine (HK.out _).mono ?_; rintro e w2 ⟨rfl, rfl⟩)
  exact bodyPost_ret (v := Pa.resV (.error 3)) (by simp [results, Tryd.results13, go_sem, Pa.resV]) rfl ⟨rfl, bw⟩
namespace Pa
theorem rng {n z : Nat} (hn : n < 10000) (hz : z ≤ 9223372036854775807) : IntKind.i64.wrap (5 + (n : Int)) = ((5 + n : Nat) : Int) ∧ wrap64 (5 + (n : Int)) = ((5 + n : Nat) : Int) ∧ IntKind.i64.wrap ((z : Int) - 5) = (z : Int) - 5 ∧ wrap64 ((z : Int) - 5) = (z : Int) - 5 := by
  refine ⟨by rw [IntKind.wrap_i64]; omega, by unfold wrap64; omega, by rw [IntKind.wrap_i64]; omega, by unfold wrap64; omega⟩
end Pa
set_option maxHeartbeats 2000000 in
theorem rread_go (s : ByteArray) (hs : s.size ≤ maxLen) (h0 : 0 < s.size) (w : World) (OUT : Pa.Res) (hO : Hid (Pa.readBody s[0].toNat (Pa.sz 4 0 (s.data.toList.drop 1)) = OUT))
    (HK : Hid (∀ W, Calls Tryd.prog 22 #[.int .i64 (s[0].toNat : Int)] W fun e w' => e = .returned (.bool true) ∧ w' = W)) :
    Calls Tryd.prog 13 #[.string s] w fun x w' => x = .returned (Pa.resV OUT) ∧ Below w.heap.size w w' := by
  have hml : s.size ≤ 9223372036854775807 := hs
  have e0 := If.ne_nil h0
  have hb := UInt8.toNat_lt s[0]
  have bw := Rg.al2 w (.cells #[.int .i64 0, .string ⟨#[]⟩] 23) (.cells #[.int .i64 0, .string ⟨#[]⟩] 23)
  clear hs
  go_enter Tryd.func13, Tryd.ntmps13
  go_wp2_with (go_at_call 22; refine (HK.out _).mono ?_; rintro e w2 ⟨rfl, rfl⟩)
  go_loop [6, 18] (fun n i => ∃ k m : Nat, k ≤ 4 ∧ k + 1 ≤ s.size ∧ i = .int .i64 k ∧ n = .int .i64 m ∧ Hid (m < 10 ^ k) ∧ Hid (Pa.readBody s[0].toNat (Pa.sz (4 - k) m (s.data.toList.drop (k + 1))) = OUT)) (fun _ i => 4 - (intOf i).toNat)
  case atStart => exact ⟨0, 0, by omega, by omega, rfl, rfl, Nat.one_pos, hO⟩
  case round =>
    obtain ⟨k, m, hk, hks, rfl, rfl, hm, hz⟩ := hrel
    have hm4 := Pa.small hk hm.out
    by_cases h4 : k = 4
    · subst h4
      have hz2 := Pa.sz_zero m (s.data.toList.drop (4 + 1))
      by_cases hb : 4096 < m
      · have hr : Hid (OUT = .error 3) := by have := hz.out; rw [← this, hz2, if_pos hb]; rfl
        have d1 : decide ((4096 : Int) < (m : Int)) = true := by simp; omega
        clear hz hm hz2
        go_wp2
        rw [hr.out]
        exact bodyPost_ret (v := Pa.resV (.error 3)) (by simp [results, Tryd.results13, go_sem, Pa.resV]) rfl ⟨rfl, bw⟩
      · have d1 : decide ((4096 : Int) < (m : Int)) = false := by simp; omega
        have hz3 : Hid (OUT = if (s.data.toList.drop (4 + 1)).length < m then .error 2 else .ok (⟨(s[0].toNat : Int), (s.data.toList.drop (4 + 1)).take m⟩, 5 + m)) := by have := hz.out; rw [← this, hz2, if_neg hb]; rfl
        have hlen : (s.data.toList.drop (4 + 1)).length = s.size - 5 := by rw [List.length_drop, If.len_eq]
        obtain ⟨r1, r2, r3, r4⟩ := Pa.rng (n := m) (z := s.size) hm4 hml
        by_cases hl : s.size < 5 + m
        · have hr : Hid (OUT = .error 2) := by have := hz3.out; rw [this, if_pos (by omega)]; rfl
          have d2 : decide ((s.size : Int) - 5 < (m : Int)) = true := by simp; omega
          clear hz hm hz2 hz3 hlen r1 r2 r3 r4
          go_wp2
          rw [hr.out]
          exact bodyPost_ret (v := Pa.resV (.error 2)) (by simp [results, Tryd.results13, go_sem, Pa.resV]) rfl ⟨rfl, bw⟩
        · have hr : Hid (OUT = .ok (⟨(s[0].toNat : Int), (s.data.toList.drop 5).take m⟩, 5 + m)) := by have := hz3.out; rw [this, if_neg (by omega)]; rfl
          have d2 : decide ((s.size : Int) - 5 < (m : Int)) = false := by simp; omega
          have hcut := Rg.hid (Pa.cut_eq s m (by omega))
          have hP : ∃ P : Nat, P = 5 + m := ⟨_, rfl⟩
          obtain ⟨P, hP⟩ := hP
          have q1 : (5 : Int) ≤ (P : Int) := by omega
          have q2 : (P : Int) ≤ (s.size : Int) := by omega
          have q3 : (0 : Int) < (s.size : Int) := by omega
          rw [← hP] at r1 r2 hcut
          replace hP := Rg.hid hP
          have bw' := Rg.hid (Rg.al2 w (.cells #[.int .i64 (s[0].toNat : Int), .string (s.extract 5 P)] 23) (.cells #[.int .i64 0, .string ⟨#[]⟩] 23))
          clear hz hm hz2 hz3 hlen r3 r4 hl bw
          go_upto_region 20 with fail
          go_big_region
          go_wp2
          rw [hr.out]
          have hO : Pa.resV (.ok (⟨(s[0].toNat : Int), (s.data.toList.drop 5).take m⟩, 5 + m)) = .tuple #[.agg #[.int .i64 (s[0].toNat : Int), .string (s.extract 5 P)], .int .i64 (P : Int), .int .i64 0] := by
            rw [hcut.out, hP.out]; rfl
          rw [hO]
          exact bodyPost_ret (v := .tuple #[.agg #[.int .i64 (s[0].toNat : Int), .string (s.extract 5 P)], .int .i64 (P : Int), .int .i64 0]) (by simp [results, Tryd.results13, go_sem]) rfl ⟨rfl, bw'.out.drew⟩
    · have hk4 : k < 4 := by omega
      have d4 : decide ((k : Int) < 4) = true := by simp; omega
      by_cases he : k + 1 = s.size
      · have hr : Hid (OUT = .error 2) := by have := hz.out; rw [← this, Pa.drop_end s (k + 1) (by omega), Pa.sz_end (by omega)]; rfl
        have d1 : decide ((s.size : Int) ≤ (k : Int) + 1) = true := by simp; omega
        have d2 : decide (s.size ≤ k + 1) = true := by simp; omega
        clear hz hm
        go_wp2
        rw [hr.out]
        exact bodyPost_ret (v := Pa.resV (.error 2)) (by simp [results, Tryd.results13, go_sem, Pa.resV]) rfl ⟨rfl, bw⟩
      · have hlt : k + 1 < s.size := by omega
        have d1 : decide ((s.size : Int) ≤ (k : Int) + 1) = false := by simp; omega
        have d2 : decide (s.size ≤ k + 1) = false := by simp; omega
        have hz' : Hid (Pa.readBody s[0].toNat (Pa.sz (4 - k) m (s[k + 1] :: s.data.toList.drop (k + 1 + 1))) = OUT) := by have := hz.out; rwa [Pa.drop_at s (k + 1) hlt] at this
        clear hz
        by_cases h0' : 48 ≤ (s[k + 1].toNat : Int)
        · by_cases h1 : (s[k + 1].toNat : Int) ≤ 57
          · have hn : Hid (Pa.readBody s[0].toNat (Pa.sz (4 - (k + 1)) (m * 10 + (s[k + 1].toNat - 48)) (s.data.toList.drop (k + 1 + 1))) = OUT) := by
              have := hz'.out; rwa [Pa.sz_step (by omega) (Pa.dig_yes (by omega) (by omega)), show 4 - k - 1 = 4 - (k + 1) by omega] at this
            have hg : Hid (m * 10 + (s[k + 1].toNat - 48) < 10 ^ (k + 1)) := Pa.grow hm.out (by omega)
            clear hz' hm
            go_wp2
            go_round
            case rel => exact ⟨k + 1, m * 10 + (s[k + 1].toNat - 48), by omega, by omega, by go_num, congrArg (Value.int .i64) (by omega), hg, hn⟩
            case measure => simp [intOf]; omega
          · have hr : Hid (OUT = .error 3) := by have := hz'.out; rw [← this, Pa.sz_form (by omega) (Pa.dig_high (by omega))]; rfl
            clear hz' hm
            go_wp2
            rw [hr.out]
            exact bodyPost_ret (v := Pa.resV (.error 3)) (by simp [results, Tryd.results13, go_sem, Pa.resV]) rfl ⟨rfl, bw⟩
        · have hr : Hid (OUT = .error 3) := by have := hz'.out; rw [← this, Pa.sz_form (by omega) (Pa.dig_low (by omega))]; rfl
          clear hz' hm
          go_wp2
          rw [hr.out]
          exact bodyPost_ret (v := Pa.resV (.error 3)) (by simp [results, Tryd.results13, go_sem, Pa.resV]) rfl ⟨rfl, bw⟩
theorem rread_any (s : ByteArray) (hs : s.size ≤ maxLen) (w : World) :
    Calls Tryd.prog 13 #[.string s] w fun x w' => x = .returned (Pa.resV (Pa.read s.data.toList)) ∧ Below w.heap.size w w' := by
  by_cases h0 : s.size = 0
  · obtain rfl := Pa.empty h0
    exact rread_none w
  have h1 : 0 < s.size := by omega
  rw [Pa.read_at s h1]
  have HK := fun W => rtag_any (s[0].toNat : Int) W
  cases ht : Pa.tag (s[0].toNat : Int) with
  | false =>
    rw [if_neg (by simp)]
    rw [ht] at HK
    exact rread_tag s hs h1 w HK
  | true =>
    rw [if_pos rfl]
    rw [ht] at HK
    exact rread_go s hs h1 w _ rfl HK
end Go.Proofs.YteiajngfeiemkaaDoor
