/-
  Layer 9: the document's ParseCall.
-/
import Derived.Test.YtpndcbilnbihaaaDoorGc2
namespace Go.Proofs.YtpndcbilnbihaaaDoor
open Go.RowKit

set_option maxHeartbeats 2000000 in
set_option maxRecDepth 100000 in
theorem refPcall_any (s : ByteArray) (w : World) (hs : s.size ≤ 4000000) :
    Calls Tryd.prog 10 #[.string s] w fun e w' => e = .returned (.tuple #[.agg #[.string ⟨(Gr.pcl s.data.toList).1.toArray⟩, .int .i64 (Gr.pcl s.data.toList).2.1], .int .i64 (Gr.pcl s.data.toList).2.2]) ∧ Below w.heap.size w w' := by
  obtain ⟨R, hR⟩ : ∃ R, Gr.pcl s.data.toList = R := ⟨_, rfl⟩
  have hRh : Hid (Gr.pcl s.data.toList = R) := hR
  rw [hR]
  clear hR
  go_enter Tryd.func10, Tryd.ntmps10
  go_wp2
  go_loop [9] (fun iv => ∃ k : Nat, k ≤ s.size ∧ iv = .int .i64 k ∧ Hid (∀ (j : Nat) (_ : j < k) (h : j < s.size), s[j] ≠ 32)) (fun iv => s.size - (intOf iv).toNat)
  case atStart => exact ⟨0, Nat.zero_le _, rfl, fun j h _ => by omega⟩
  case round =>
    obtain ⟨k, hk, rfl, hno⟩ := hrel
    by_cases hlt : k < s.size
    · by_cases h32 : (s[k].toNat : Int) = 32
      · have hb : s[k] = 32 := Gr.u8_eq (n := 32) (by omega) h32
        have c32 : ((s[k].toNat : Int) != 32) = false := by rw [h32]; rfl
        have h0 : 0 < s.size := by omega
        have e1 : wrap64 ((s.size : Int) - k) = (s.size : Int) - k := by unfold wrap64; omega
        have e2 : IntKind.i64.wrap ((s.size : Int) - k) = (s.size : Int) - k := by rw [IntKind.wrap_i64]; omega
        by_cases h4 : s.size < k + 4
        · have hr : Hid (R = ([], 0, 3)) := by show _ = _; rw [← hRh.out]; exact Gr.pcl_short s k hlt h0 hb hno.out h4
          have d4 : decide ((s.size : Int) - k < 4) = true := by simp only [decide_eq_true_eq]; omega
          clear hno hb h32
          go_wp2
          exact bodyPost_ret (v := .tuple #[.agg #[.string ⟨#[]⟩, .int .i64 0], .int .i64 3]) (by simp [results, Tryd.results10, go_sem]) rfl ⟨ret_aggc (by rw [hr.out]) (by rw [hr.out] <;> rfl) (by rw [hr.out] <;> rfl), Rg.al1 _ _⟩
        · have d4 : decide ((s.size : Int) - k < 4) = false := by simp only [decide_eq_false_iff_not]; omega
          have q0 : (0 : Int) < (s.size : Int) := by omega
          by_cases h83 : (s[0].toNat : Int) = 83
          · have hS : s[0] = 83 := Gr.u8_eq (n := 83) (by omega) h83
            have c83 : ((s[0].toNat : Int) != 83) = false := by rw [h83]; rfl
            have q1 : (0 : Int) ≤ (k : Int) := by omega
            have q2 : (k : Int) ≤ (k : Int) + 3 := by omega
            have q3 : (k : Int) + 3 ≤ (s.size : Int) := by omega
            have q4 : ((k : Int) + 3).toNat = k + 3 := by omega
            have q5 : (0 : Int) ≤ (k : Int) + 3 := by omega
            have e3 : IntKind.i64.wrap ((k : Int) + 3) = (k : Int) + 3 := by rw [IntKind.wrap_i64]; omega
            by_cases hx : (s.extract k (k + 3)).data.toList = Gr.sep
            · have cx : (s.extract k (k + 3)).toList = [32, 45, 81] := by rw [ByteArray.toList_eq]; exact hx
              have hgot := Gr.pcl_got s k hlt h0 hb hno.out hS hx
              rw [hRh.out] at hgot
              have hk1 : 1 ≤ k := by
                rcases Nat.eq_zero_or_pos k with rfl | h
                · rw [hS] at hb; exact absurd hb (by decide)
                · exact h
              have q6 : (1 : Int) ≤ (k : Int) := by omega
              have q7 : (k : Int) ≤ (s.size : Int) := by omega
              have hdl : (s.extract (k + 3) s.size).data.toList = s.data.toList.drop (k + 3) := by rw [ba_drop]
              have hz1 : (s.extract (k + 3) s.size).size ≤ maxLen := by rw [ba_drop]; show (s.data.toList.drop (k + 3)).toArray.size ≤ maxLen; rw [List.size_toArray, List.length_drop, Array.length_toList]; have : s.data.size = s.size := rfl; unfold maxLen; omega
              have hz2 : (s.extract 1 k).size ≤ maxLen := by rw [ByteArray.size_extract]; unfold maxLen; omega
              have HN : Hid (∀ W, Calls Tryd.prog 28 #[.string (s.extract (k + 3) s.size)] W fun e w' => e = .returned (.tuple #[.int .i64 (Oct.number (s.data.toList.drop (k + 3))).1, .int .i64 (Oct.number (s.data.toList.drop (k + 3))).2]) ∧ W = w') := fun W => by
                have := refNumber_any (s.extract (k + 3) s.size) W hz1
                rw [hdl] at this
                exact this.mono fun e w' h => ⟨h.1, h.2.symm⟩
              have HS : Hid (∀ W, Calls Tryd.prog 23 #[.string (s.extract 1 k)] W fun e w' => e = .returned (.bool (Nam.system (s.extract 1 k).data.toList)) ∧ W = w') := fun W => (refSystem_any (s.extract 1 k) W hz2).mono fun e w' h => ⟨h.1, h.2.symm⟩
              have hya : Hid ((⟨(s.extract 1 k).data.toList.toArray⟩ : ByteArray) = s.extract 1 k) := rfl
              clear hdl hz1 hz2 hno hb h32 h83 hS hx
              generalize Nam.system (s.extract 1 k).data.toList = y at *
              generalize (s.extract 1 k).data.toList = yl at *
              generalize (Oct.number (s.data.toList.drop (k + 3))).1 = m at *
              generalize (Oct.number (s.data.toList.drop (k + 3))).2 = q at *
              by_cases hq : q = 0
              · subst hq
                cases y with
                | false =>
                  have hr : Hid (R = ([], 0, 3)) := by show _ = _; rw [hgot, if_neg (by simp)]
                  clear hgot hRh
                  go_wp2_with (first | (go_at_call 28; refine (HN.out _).mono ?_; rintro e w' ⟨rfl, rfl⟩) | (go_at_call 23; refine (HS.out _).mono ?_; rintro e w' ⟨rfl, rfl⟩))
                  exact bodyPost_ret (v := .tuple #[.agg #[.string ⟨#[]⟩, .int .i64 0], .int .i64 3]) (by simp [results, Tryd.results10, go_sem]) rfl ⟨ret_aggc (by rw [hr.out]) (by rw [hr.out] <;> rfl) (by rw [hr.out] <;> rfl), Rg.al1 _ _⟩
                | true =>
                  have hr : Hid (R = (yl, m, 0)) := by show _ = _; rw [hgot, if_pos ⟨rfl, rfl⟩]
                  clear hgot hRh
                  go_wp2_with (first | (go_at_call 28; refine (HN.out _).mono ?_; rintro e w' ⟨rfl, rfl⟩) | (go_at_call 23; refine (HS.out _).mono ?_; rintro e w' ⟨rfl, rfl⟩))
                  exact bodyPost_ret (v := .tuple #[.agg #[.string (s.extract 1 k), .int .i64 m], .int .i64 0]) (by simp [results, Tryd.results10, go_sem]) rfl ⟨ret_aggc (by rw [hr.out, hya.out]) (by rw [hr.out] <;> rfl) (by rw [hr.out] <;> rfl), Rg.al1 _ _⟩
              · have c0 : ((q : Int) != 0) = true := by rw [bne_iff_ne]; omega
                have c1 : (q != 0) = true := by rw [bne_iff_ne]; exact hq
                have hr : Hid (R = ([], 0, 3)) := by show _ = _; rw [hgot, if_neg (fun h => hq h.2)]
                clear hgot hRh hq
                go_wp2_with (first | (go_at_call 28; refine (HN.out _).mono ?_; rintro e w' ⟨rfl, rfl⟩) | (go_at_call 23; refine (HS.out _).mono ?_; rintro e w' ⟨rfl, rfl⟩))
                exact bodyPost_ret (v := .tuple #[.agg #[.string ⟨#[]⟩, .int .i64 0], .int .i64 3]) (by simp [results, Tryd.results10, go_sem]) rfl ⟨ret_aggc (by rw [hr.out]) (by rw [hr.out] <;> rfl) (by rw [hr.out] <;> rfl), Rg.al1 _ _⟩
            · have hr : Hid (R = ([], 0, 3)) := by show _ = _; rw [← hRh.out]; exact Gr.pcl_parts s k hlt h0 hb hno.out hS hx
              have cx : ((s.extract k (k + 3)).toList == [32, 45, 81]) = false := by rw [beq_eq_false_iff_ne, ByteArray.toList_eq]; exact hx
              have cx2 : ((s.extract k (k + 3)).toList != [32, 45, 81]) = true := by rw [bne, cx]; rfl
              clear hno hb h32 h83 hS hx
              go_wp2
              exact bodyPost_ret (v := .tuple #[.agg #[.string ⟨#[]⟩, .int .i64 0], .int .i64 3]) (by simp [results, Tryd.results10, go_sem]) rfl ⟨ret_aggc (by rw [hr.out]) (by rw [hr.out] <;> rfl) (by rw [hr.out] <;> rfl), Rg.al1 _ _⟩
          · have hr : Hid (R = ([], 0, 3)) := by show _ = _; rw [← hRh.out]; exact Gr.pcl_nohead s h0 (fun e => h83 (by rw [e]; rfl))
            have c83 : ((s[0].toNat : Int) != 83) = true := by rw [bne_iff_ne]; exact h83
            clear hno hb h32 h83
            go_wp2
            exact bodyPost_ret (v := .tuple #[.agg #[.string ⟨#[]⟩, .int .i64 0], .int .i64 3]) (by simp [results, Tryd.results10, go_sem]) rfl ⟨ret_aggc (by rw [hr.out]) (by rw [hr.out] <;> rfl) (by rw [hr.out] <;> rfl), Rg.al1 _ _⟩
      · have c32 : ((s[k].toNat : Int) != 32) = true := by rw [bne_iff_ne]; exact h32
        have hno2 : Hid (∀ (j : Nat) (_ : j < k + 1) (h : j < s.size), s[j] ≠ 32) := fun j hj h => by
          by_cases hjk : j < k
          · exact hno.out j hjk h
          · obtain rfl : j = k := by omega
            exact fun e => h32 (by rw [e]; rfl)
        clear hno h32
        go_wp2
        go_round
        case rel => exact ⟨k + 1, by omega, by go_num, hno2⟩
        case measure => simp [intOf]; omega
    · have hr : Hid (R = ([], 0, 3)) := by show _ = _; rw [← hRh.out]; exact Gr.pcl_end s (fun j h => hno.out j (by omega) h)
      clear hno
      go_wp2
      exact bodyPost_ret (v := .tuple #[.agg #[.string ⟨#[]⟩, .int .i64 0], .int .i64 3]) (by simp [results, Tryd.results10, go_sem]) rfl ⟨ret_aggc (by rw [hr.out]) (by rw [hr.out] <;> rfl) (by rw [hr.out] <;> rfl), Rg.al1 _ _⟩
end Go.Proofs.YtpndcbilnbihaaaDoor
