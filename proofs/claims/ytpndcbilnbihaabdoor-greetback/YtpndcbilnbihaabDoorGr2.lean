/-
  Layer 9: Scan, the program's and the document's.
-/
import Derived.Test.YtpndcbilnbihaabDoorGr1
import Derived.OwnWalk
namespace Go.Proofs.YtpndcbilnbihaabDoor
open Go.RowKit
theorem bel_dN {B : Nat} {w w' : World} (h : Below B w w') (q : Nat) : Below B w (w'.drewN q) := ⟨h.1, h.2, h.3, h.4, h.5⟩

theorem isText_no (f t : Int) (w : World) (hf : -1 ≤ f) (hf' : f ≤ 9007199254740992) (ht : 0 ≤ t) (ht' : t ≤ 9007199254740992) (h : ¬ (0 ≤ f ∧ t - f ≤ 300)) :
    Calls Tryd.prog 16 #[.int .i64 f, .int .i64 t] w fun e w' => e = .returned (.bool false) ∧ w' = w := by
  by_cases h0 : 0 ≤ f
  · have h3 : ¬ t - f ≤ 300 := fun h3 => h ⟨h0, h3⟩
    have d0 : decide (0 ≤ f) = true := by simp [h0]
    have d1 : decide (t - f ≤ 300) = false := by simp; omega
    have e1 : wrap64 (t - f) = t - f := by unfold wrap64; omega
    have e2 : IntKind.i64.wrap (t - f) = t - f := by rw [IntKind.wrap_i64]; omega
    clear h
    go_enter Tryd.func16, Tryd.ntmps16
    go_wp2
    go_ret
    exact ⟨rfl, rfl⟩
  · have d0 : decide (0 ≤ f) = false := by simp; omega
    clear h
    go_enter Tryd.func16, Tryd.ntmps16
    go_wp2
    go_ret
    exact ⟨rfl, rfl⟩
theorem isText_yes (f t : Int) (w : World) (hf' : f ≤ 9007199254740992) (ht : 0 ≤ t) (ht' : t ≤ 9007199254740992) (h0 : 0 ≤ f) (h3 : t - f ≤ 300) :
    Calls Tryd.prog 16 #[.int .i64 f, .int .i64 t] w fun e w' => e = .returned (.bool true) ∧ w' = w := by
  have d0 : decide (0 ≤ f) = true := by simp [h0]
  have d1 : decide (t - f ≤ 300) = true := by simp [h3]
  have e1 : wrap64 (t - f) = t - f := by unfold wrap64; omega
  have e2 : IntKind.i64.wrap (t - f) = t - f := by rw [IntKind.wrap_i64]; omega
  go_enter Tryd.func16, Tryd.ntmps16
  go_wp2
  go_ret
  exact ⟨rfl, rfl⟩

set_option maxHeartbeats 2000000 in
set_option maxRecDepth 100000 in
theorem scan_any (s : ByteArray) (w : World) (hs : s.size ≤ 9007199254740990) :
    Calls Tryd.prog 7 #[.string s] w fun e w' => e = .returned (.tuple #[.string (Gr.scan s).1, .string (Gr.scan s).2.1, .bool (Gr.scan s).2.2]) ∧ Below w.heap.size w w' := by
  obtain ⟨R, hR⟩ : ∃ R, Gr.scan s = R := ⟨_, rfl⟩
  have hst : Hid (Gr.scanR s (s.size - 0) 0 (-1) = R) := hR
  rw [hR]
  clear hR
  go_enter Tryd.func7, Tryd.ntmps7
  go_wp2
  go_step3
  go_wp2
  go_step3
  go_wp2
  go_loop [5, 9] (fun fv i => ∃ (k : Nat) (f : Int), k ≤ s.size ∧ i = .int .i64 k ∧ fv = .int .i64 f ∧ -1 ≤ f ∧ f ≤ k ∧ Hid (f ≠ 0) ∧ Hid (Gr.scanR s (s.size - k) k f = R)) (fun _ i => s.size - (intOf i).toNat)
  case atStart => exact ⟨0, -1, Nat.zero_le _, rfl, rfl, by omega, by omega, (by show _ ≠ _; omega), hst⟩
  case round =>
    obtain ⟨k, f, hk, rfl, rfl, hf0, hf1, hfp, hinv⟩ := hrel
    by_cases hlt : k < s.size
    · have hstep := Gr.scan_step (f := f) hlt
      rw [hinv.out] at hstep
      by_cases h16 : (s[k].toNat : Int) = 16
      · have hn : Hid (Gr.scanR s (s.size - (k + 1)) (k + 1) ((k : Int) + 1) = R) := by rw [if_pos (Gr.is16 h16)] at hstep; exact hstep.symm
        have d0 : ((s[k].toNat : Int) == 16) = true := by rw [beq_iff_eq]; exact h16
        clear hstep hinv h16
        go_wp2
        go_round
        case rel => exact ⟨k + 1, (k : Int) + 1, by omega, by go_num, rfl, by omega, by omega, (by show _ ≠ _; omega), hn⟩
        case measure => simp [intOf]; omega
      · have d0 : ((s[k].toNat : Int) == 16) = false := by rw [beq_eq_false_iff_ne]; exact h16
        rw [if_neg (Gr.not16 h16)] at hstep
        by_cases h0 : (s[k].toNat : Int) = 0
        · have d1 : ((s[k].toNat : Int) == 0) = true := by rw [beq_iff_eq]; exact h0
          by_cases ht : 0 ≤ f ∧ (k : Int) - f ≤ 300
          · rw [if_pos ⟨Gr.is0 h0, ht⟩] at hstep
            have hr : Hid (R = (s.extract f.toNat k, s.extract (k + 1) s.size, true)) := hstep
            have HT : Hid (∀ W, Calls Tryd.prog 16 #[.int .i64 f, .int .i64 k] W fun e w' => e = .returned (.bool true) ∧ W = w') := fun W => (isText_yes f k W (by omega) (by omega) (by omega) ht.1 ht.2).mono fun e w' h => ⟨h.1, h.2.symm⟩
            obtain ⟨g, rfl⟩ := Int.eq_ofNat_of_zero_le ht.1
            clear hstep hinv h16 h0
            go_wp2_with (go_at_call 16; refine (HT.out _).mono ?_; rintro e w' ⟨rfl, rfl⟩)
            have z0 : (0 : Int) ≤ (g : Int) := by omega
            have z1 : (g : Int) ≤ (k : Int) := hf1
            have z2 : (k : Int) ≤ (s.size : Int) := by omega
            have z3 : (k : Int) + 1 ≤ (s.size : Int) := by omega
            have z4 : (0 : Int) ≤ (k : Int) + 1 := by omega
            have e1 : ((k : Int) + 1).toNat = k + 1 := by omega
            clear ht
            go_quiet (skip)
            go_wp2
            (try rw [Exit.noGoto_ret])
            go_ret3
            exact ⟨ret_ssb (by rw [hr.out]; rfl) (by rw [hr.out]) (by rw [hr.out]), bel_dN (Below.refl _ _) _⟩
          · rw [if_neg (fun h => ht h.2)] at hstep
            have hn : Hid (Gr.scanR s (s.size - (k + 1)) (k + 1) f = R) := hstep.symm
            have HT : Hid (∀ W, Calls Tryd.prog 16 #[.int .i64 f, .int .i64 k] W fun e w' => e = .returned (.bool false) ∧ W = w') := fun W => (isText_no f k W hf0 (by omega) (by omega) (by omega) ht).mono fun e w' h => ⟨h.1, h.2.symm⟩
            clear hstep hinv h16 h0 ht
            go_wp2_with (go_at_call 16; refine (HT.out _).mono ?_; rintro e w' ⟨rfl, rfl⟩)
            go_round
            case rel => exact ⟨k + 1, f, by omega, by go_num, rfl, hf0, by omega, hfp, hn⟩
            case measure => simp [intOf]; omega
        · have d1 : ((s[k].toNat : Int) == 0) = false := by rw [beq_eq_false_iff_ne]; exact h0
          rw [if_neg (fun h => Gr.not0 h0 h.1)] at hstep
          have hn : Hid (Gr.scanR s (s.size - (k + 1)) (k + 1) f = R) := hstep.symm
          clear hstep hinv h16 h0
          go_wp2
          go_round
          case rel => exact ⟨k + 1, f, by omega, by go_num, rfl, hf0, by omega, hfp, hn⟩
          case measure => simp [intOf]; omega
    · have hend := Gr.scan_end (f := f) hlt
      rw [hinv.out] at hend
      by_cases ht : 0 ≤ f ∧ (k : Int) - f ≤ 300
      · rw [if_pos ht] at hend
        have hr : Hid (R = (⟨#[]⟩, s.extract (f - 1).toNat s.size, false)) := hend
        have HT : Hid (∀ W, Calls Tryd.prog 16 #[.int .i64 f, .int .i64 s.size] W fun e w' => e = .returned (.bool true) ∧ W = w') := fun W => (isText_yes f s.size W (by omega) (by omega) (by omega) ht.1 (by omega)).mono fun e w' h => ⟨h.1, h.2.symm⟩
        have hf2 : 1 ≤ f ∨ f = 0 := by omega
        obtain ⟨g, hg⟩ : ∃ g : Nat, (g : Int) = f - 1 := ⟨(f - 1).toNat, by have := hfp.out; omega⟩
        have z0 : (0 : Int) ≤ f - 1 := by omega
        have z1 : f - 1 ≤ (s.size : Int) := by omega
        have e1 : wrap64 (f - 1) = f - 1 := by unfold wrap64; omega
        have e2 : IntKind.i64.wrap (f - 1) = f - 1 := by rw [IntKind.wrap_i64]; omega
        have e3 : (f - 1).toNat = g := by omega
        rw [← hg] at z0 z1 e1 e2
        have hr : Hid (R = (⟨#[]⟩, s.extract g s.size, false)) := by rw [e3] at hend; exact hend
        have e4 : f - 1 = (g : Int) := hg.symm
        clear hend hinv ht hf2 e3 hg
        go_wp2_with (go_at_call 16; refine (HT.out _).mono ?_; rintro e w' ⟨rfl, rfl⟩)
        go_quiet (skip)
        go_wp2
        (try rw [Exit.noGoto_ret])
        go_ret3
        exact ⟨ret_ssb (by rw [hr.out]) (by rw [hr.out]) (by rw [hr.out]), bel_dN (Below.refl _ _) _⟩
      · rw [if_neg ht] at hend
        have hr : Hid (R = (⟨#[]⟩, ⟨#[]⟩, false)) := hend
        have HT : Hid (∀ W, Calls Tryd.prog 16 #[.int .i64 f, .int .i64 s.size] W fun e w' => e = .returned (.bool false) ∧ W = w') := fun W => (isText_no f s.size W hf0 (by omega) (by omega) (by omega) (by omega)).mono fun e w' h => ⟨h.1, h.2.symm⟩
        clear hend hinv ht
        go_wp2_with (go_at_call 16; refine (HT.out _).mono ?_; rintro e w' ⟨rfl, rfl⟩)
        (try rw [Exit.noGoto_ret])
        go_ret3
        exact ⟨ret_ssb (by rw [hr.out]) (by rw [hr.out]) (by rw [hr.out]), Below.refl _ _⟩

end Go.Proofs.YtpndcbilnbihaabDoor
