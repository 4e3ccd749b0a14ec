/-
  Walks of layer 13's statements: ParcelLost.
-/
import Derived.Test.YteiajngfeiemkabDoorPaH
namespace Go.Proofs.YteiajngfeiemkabDoor
open Go.RowKit
namespace Pa
theorem le_int {a b : Nat} (h : a ≤ b) : (a : Int) ≤ (b : Int) := by omega
/-- The size that the statement takes. -/
theorem sized100 (z : Int) : ∃ U m Z : Nat, IntKind.u64.wrap z = (U : Int) ∧ (U : Int) % 100 = (m : Int) ∧ (U : Int).tmod 100 = (m : Int) ∧ IntKind.i64.wrap (m : Int) = (m : Int) ∧ wrap64 (m : Int) = (m : Int) ∧ IntKind.i64.wrap (1 + (m : Int)) = (Z : Int) ∧ wrap64 (1 + (m : Int)) = (Z : Int) ∧ 1 ≤ Z ∧ Z ≤ 100 := by
  obtain ⟨U, hU⟩ : ∃ U : Nat, IntKind.u64.wrap z = (U : Int) := ⟨(IntKind.u64.wrap z).toNat, by rw [IntKind.wrap_u64]; omega⟩
  refine ⟨U, U % 100, 1 + U % 100, hU, by omega, ?_, ?_, ?_, ?_, ?_, by omega, by omega⟩
  · rw [Int.tmod_eq_emod_of_nonneg (by omega)]; omega
  · rw [IntKind.wrap_i64]; omega
  · unfold wrap64; omega
  · rw [IntKind.wrap_i64]; omega
  · unfold wrap64; omega
end Pa
theorem flat_take_drop (r : List Pa.Pc) (k : Nat) {b o : Nat} {W : World} (h : Rg.At W b o (parE.flat r)) (hk : k ≤ r.length) : Rg.At W b o (parE.flat (r.take k)) ∧ Rg.At W b (o + k * 2) (parE.flat (r.drop k)) := by
  have e : parE.flat r = parE.flat (r.take k) ++ parE.flat (r.drop k) := by rw [← parE.flat_append, List.take_append_drop]
  rw [e] at h
  exact ⟨h.left, h.right (parE.flat_take r k hk)⟩
/-- The first append: what stands ahead of the piece. -/
theorem lost_a1 (r : List Pa.Pc) (n k : Nat) (hn : Hid (n = r.length)) (hk : k ≤ n) (hn2 : n ≤ 10000) (w1 : World) (b o cap : Nat) (hb : b < w1.heap.size) (hat : Hid (Rg.At w1 b o (parE.flat r))) :
    Hid (∀ W v, Below w1.heap.size w1 W → W.ownsRow w1.heap.size 34 2 v 0 [] → ∃ v' W', (Builtin.append_ #[24, 24] 24 #[v, .slice (some ⟨b, o, none⟩) k cap]).run Tryd.prog W = .ok v' W' ∧ (Hid (W'.ownsRow w1.heap.size 34 2 v' k (parE.flat (r.take k))) ∧ Below w1.heap.size w1 W')) := by
  intro W v hW ho
  obtain ⟨i0, hi, hz0, hz1, hz2⟩ := infoPar'
  have hkr : k ≤ r.length := by rw [← hn.out]; exact hk
  have h1 := ((flat_take_drop r k hat.out hkr).1).below hW hb
  have hl : (parE.flat (r.take k)).length = k * 2 := parE.flat_take r k hkr
  obtain ⟨v', W', hrun, hown, hgr, _⟩ := run_append_own (P := Tryd.prog) (w := W) w1.heap.size 24 24 34 i0 _ 2 24 Tryd.underlying24 hi hz0 hz1 hz2 rfl (by decide) v 0 [] ho ⟨b, o, none⟩ k cap (parE.flat (r.take k)) hl h1.add (parE.flat_cells _) (by unfold maxLen; omega) (by omega) hW.size
  rw [Nat.zero_add, List.nil_append] at hown
  exact ⟨v', W', hrun, hown, hW.grown hgr hW.size (fun j hj => (ho.lt j hj).1)⟩
/-- The second one: what stands behind it. -/
theorem lost_a2 (r : List Pa.Pc) (n k k1 M : Nat) (hn : Hid (n = r.length)) (hk : k < k1) (hk1 : k1 ≤ n) (hM : Hid (M = (r.take k ++ r.drop k1).length)) (hn2 : n ≤ 10000) (w1 : World) (b o : Nat) (hb : b < w1.heap.size) (hat : Hid (Rg.At w1 b o (parE.flat r))) :
    Hid (∀ W v ad j c, Below w1.heap.size w1 W → Hid (W.ownsRow w1.heap.size 34 2 v k (parE.flat (r.take k))) → n - k1 = j → (ad = (⟨b, o + k1 * 2, none⟩ : Addr) ∨ n - k1 = 0) → ∃ v' W', (Builtin.append_ #[24, 24] 24 #[v, .slice (some ad) j c]).run Tryd.prog W = .ok v' W' ∧ (∃ A' cap', v' = .slice A' M cap' ∧ Hid (PRow W' A' (r.take k ++ r.drop k1)) ∧ Below w1.heap.size w1 W')) := by
  intro W v ad j c hW ho hj had
  subst hj
  obtain ⟨i0, hi, hz0, hz1, hz2⟩ := infoPar'
  have hnr := hn.out
  have h2 := ((flat_take_drop r k1 hat.out (by omega)).2).below hW hb
  have hdl : (r.drop k1).length = n - k1 := by rw [List.length_drop]; omega
  have hl : (parE.flat (r.drop k1)).length = (n - k1) * 2 := by rw [parE.flat_length, hdl]; rfl
  have hnews : ∀ j u, (parE.flat (r.drop k1))[j]? = some u → W.cell? (ad.add j) = some u := by
    rcases had with rfl | h0
    · exact h2.add
    · intro j u hj
      rw [List.eq_nil_of_length_eq_zero (show (parE.flat (r.drop k1)).length = 0 by rw [hl, h0])] at hj
      simp at hj
  obtain ⟨v', W', hrun, hown, hgr, _⟩ := run_append_own (P := Tryd.prog) (w := W) w1.heap.size 24 24 34 i0 _ 2 24 Tryd.underlying24 hi hz0 hz1 hz2 rfl (by decide) v k (parE.flat (r.take k)) ho.out ad (n - k1) c (parE.flat (r.drop k1)) hl hnews (parE.flat_cells _) (by unfold maxLen; omega) (by omega) hW.size
  have hMl : k + (n - k1) = M := by rw [hM.out, List.length_append, List.length_take, hdl]; omega
  rw [← parE.flat_append, hMl] at hown
  have hb' : Below w1.heap.size w1 W' := hW.grown hgr hW.size (fun j hj => (ho.out.lt j hj).1)
  rcases hown.2 with ⟨hv, h0⟩ | ⟨g, cp, cur, hv, hg, hc, hle, hm, hs, ht⟩
  · refine ⟨v', W', hrun, none, 0, by rw [hv, h0], .inl (List.eq_nil_of_length_eq_zero (by rw [← hM.out, h0])), hb'⟩
  · refine ⟨v', W', hrun, some ⟨g, 0, none⟩, cp, hv, ?_, hb'⟩
    refine .inr ⟨g, 0, rfl, ?_, fun t u htu => ?_⟩
    · rcases Nat.lt_or_ge g W'.heap.size with h' | h'
      · exact h'
      · rw [Array.getElem?_eq_none h'] at hc; cases hc
    · rw [← ht] at htu
      rw [Nat.zero_add]
      have e : W'.cell? ⟨g, t, none⟩ = cur[t]? := by simp [World.cell?, hc]
      rw [e]
      rw [List.getElem?_take] at htu
      split at htu
      · rw [← Array.getElem?_toList]; exact htu
      · cases htu
set_option linter.unusedVariables false in
set_option maxHeartbeats 4000000 in
set_option maxRecDepth 100000 in
theorem plost_big (s : ByteArray) (z q : Int) (w : World) (q1 : decide ((600 : Int) < (s.size : Int)) = true)
    (HA : Hid (∀ W, Below w.heap.size w W → Calls Tryd.prog 4 #[] W fun e w' => e = .returned (.bool true) ∧ Below w.heap.size w w')) :
    Calls Tryd.prog 3 #[.string s, .int .i64 z, .int .i64 q] w fun e w' => e = .returned (.bool true) ∧ Below w.heap.size w w' := by
  go_enter Tryd.func3, Tryd.ntmps3
  go_wp2_with (go_at_call 4; refine (HA.out _ (Below.refl _ _)).mono ?_; rintro e wA ⟨rfl, bA⟩)
  go_ret
  exact ⟨rfl, bA⟩
set_option linter.unusedVariables false in
set_option maxHeartbeats 4000000 in
set_option maxRecDepth 100000 in
theorem plost_end (s : ByteArray) (z q : Int) (w : World) (q1 : decide ((600 : Int) < (s.size : Int)) = false)
    (U m Z : Nat) (u1 : IntKind.u64.wrap z = (U : Int)) (u2 : (U : Int) % 100 = (m : Int)) (u3 : (U : Int).tmod 100 = (m : Int)) (u4 : IntKind.i64.wrap (m : Int) = (m : Int)) (u5 : wrap64 (m : Int) = (m : Int)) (u6 : IntKind.i64.wrap (1 + (m : Int)) = (Z : Int)) (u7 : wrap64 (1 + (m : Int)) = (Z : Int))
    (V n n1 k k1 : Nat) (n0 : ((n : Int) == 0) = false) (n00 : (n == 0) = false) (nz : ¬ n = 0) (y1 : IntKind.u64.wrap q = (V : Int)) (y2 : IntKind.u64.wrap (n : Int) = (n : Int)) (y3 : (V : Int) % (n : Int) = (k : Int)) (y4 : (V : Int).tmod (n : Int) = (k : Int)) (y5 : IntKind.i64.wrap (k : Int) = (k : Int)) (y6 : wrap64 (k : Int) = (k : Int)) (x1 : IntKind.i64.wrap ((k : Int) + 1) = (k1 : Int)) (x2 : wrap64 ((k : Int) + 1) = (k1 : Int)) (v1 : wrap64 ((n : Int) - 1) = (n1 : Int)) (v2 : IntKind.i64.wrap ((n : Int) - 1) = (n1 : Int)) (hk0 : (0 : Int) ≤ (k : Int)) (hk1 : (0 : Int) ≤ (k1 : Int)) (hkn : (k1 : Int) ≤ (n : Int)) (hkk : k < k1) (hk1n : k1 ≤ n) (hn2 : n ≤ 10000) (r : List Pa.Pc) (hn : Hid (n = r.length)) (M : Nat) (hM : Hid (M = (r.take k ++ r.drop k1).length))
    (l1 : ((k : Int) == (n1 : Int)) = true) (l2 : (k == n1) = true)
    (HC : Hid (∀ W, Below w.heap.size w W → Calls Tryd.prog 5 #[.string s, .int .i64 (Z : Int)] W fun e w' => ∃ b o cap, e = .returned (.tuple #[.slice (some ⟨b, o, none⟩) n cap, .int .i64 0]) ∧ n ≤ cap ∧ b < w'.heap.size ∧ Hid (Rg.At w' b o (parE.flat r)) ∧ Below W.heap.size W w'))
    (HJ : Hid (∀ W A cap, Below w.heap.size w W → Hid (PRow W A (r.take k ++ r.drop k1)) → Calls Tryd.prog 6 #[.slice A M cap] W fun e w' => e = .returned (.tuple #[.string ⟨#[]⟩, .int .i64 2]) ∧ Below W.heap.size W w'))
    (HA : Hid (∀ W, Below w.heap.size w W → Calls Tryd.prog 4 #[] W fun e w' => e = .returned (.bool true) ∧ Below w.heap.size w w')) :
    Calls Tryd.prog 3 #[.string s, .int .i64 z, .int .i64 q] w fun e w' => e = .returned (.bool true) ∧ Below w.heap.size w w' := by
  go_enter Tryd.func3, Tryd.ntmps3
  go_upto_region 8 with (go_at_call 5; refine (HC.out _ (Below.refl _ _)).mono ?_; rintro e w1 ⟨b, o, cap, rfl, hcap, hb, hat, b1⟩)
  have hkc : (k : Int) ≤ (cap : Int) := Pa.le_int (Nat.le_trans (Nat.le_of_lt hkk) (Nat.le_trans hk1n hcap))
  have hkc1 : (k1 : Int) ≤ (cap : Int) := Pa.le_int (Nat.le_trans hk1n hcap)
  have hnc : (n : Int) ≤ (cap : Int) := Pa.le_int hcap
  have HA1 := lost_a1 r n k hn (Nat.le_trans (Nat.le_of_lt hkk) hk1n) hn2 w1 b o cap hb hat
  have HA2 := lost_a2 r n k k1 M hn hkk hk1n hM hn2 w1 b o hb hat
  have HJ1 : Hid (∀ W A c, Below w1.heap.size w1 W → Hid (PRow W A (r.take k ++ r.drop k1)) → Calls Tryd.prog 6 #[.slice A M c] W fun e w' => e = .returned (.tuple #[.string ⟨#[]⟩, .int .i64 2]) ∧ Below w.heap.size w w') := fun W A c hW hr => (HJ.out W A c (Rg.chain b1 hW) hr).mono fun _ _ ⟨x, y⟩ => ⟨x, Rg.chain (Rg.chain b1 hW) y⟩
  clear hat HC HJ
  have hdr : Below w1.heap.size w1 w1 := Below.refl _ _
  go_cut [10, 11] (fun s1 s2 wx => s1 = .string ⟨#[]⟩ ∧ s2 = .int .i64 2 ∧ Below w.heap.size w wx)
  case first =>
    by_cases hce : k1 = cap
    · have hz : n - k1 = 0 := Nat.sub_eq_zero_of_le (by rw [hce]; exact hcap)
      subst hce
      go_region_held3 (Rg.Free) (exact Rg.free _) (first
        | (refine Rg.step_append_ex (by rfl) (.tmp 42) (.tmp 45) 24 (by rfl) _ _ (by rfl) (by rfl) _ (HA1.out _ _ ?_ ?_) ?_; (first | exact Rg.al1 _ _ | exact (Rg.al1 _ _).drew); (first | exact World.ownsRow_made w1 #[] 0 (Nat.le_refl _) (Nat.zero_le _) rfl); rintro v' W1 ⟨ho1, bb1⟩)
        | (refine Rg.step_append_ex (by rfl) (.tmp 46) (.tmp 50) 24 (by rfl) _ _ (by rfl) (by rfl) _ (HA2.out _ _ _ _ _ bb1 ho1 ?_ ?_) ?_; (first | exact hz | rfl); exact Or.inr hz; rintro v' W2 ⟨A', cap', rfl, hr2, bb2⟩)
        | (go_at_call 6; refine (HJ1.out _ _ _ bb2 hr2).mono ?_; rintro e w9 ⟨rfl, b9⟩))
      all_goals (go_wp2_with fail; go_meet; exact ⟨rfl, rfl, b9⟩)
    · have hcc : ¬ cap = k1 := fun e => hce e.symm
      go_region_held3 (Rg.Free) (exact Rg.free _) (first
        | (refine Rg.step_append_ex (by rfl) (.tmp 42) (.tmp 45) 24 (by rfl) _ _ (by rfl) (by rfl) _ (HA1.out _ _ ?_ ?_) ?_; (first | exact Rg.al1 _ _ | exact (Rg.al1 _ _).drew); (first | exact World.ownsRow_made w1 #[] 0 (Nat.le_refl _) (Nat.zero_le _) rfl); rintro v' W1 ⟨ho1, bb1⟩)
        | (refine Rg.step_append_ex (by rfl) (.tmp 46) (.tmp 50) 24 (by rfl) _ _ (by rfl) (by rfl) _ (HA2.out _ _ _ _ _ bb1 ho1 ?_ ?_) ?_; rfl; exact Or.inl rfl; rintro v' W2 ⟨A', cap', rfl, hr2, bb2⟩)
        | (go_at_call 6; refine (HJ1.out _ _ _ bb2 hr2).mono ?_; rintro e w9 ⟨rfl, b9⟩))
      all_goals (go_wp2_with fail; go_meet; exact ⟨rfl, rfl, b9⟩)
  case rest =>
    obtain ⟨rfl, rfl, b9⟩ := hcut
    clear HA1 HA2 HJ1
    go_wp2_with (go_at_call 4; refine (HA.out _ b9).mono ?_; rintro e wA ⟨rfl, bA⟩)
    go_ret
    exact ⟨rfl, bA⟩
set_option linter.unusedVariables false in
set_option maxHeartbeats 4000000 in
set_option maxRecDepth 100000 in
theorem plost_err (s : ByteArray) (z q : Int) (w : World) (q1 : decide ((600 : Int) < (s.size : Int)) = false)
    (U m Z : Nat) (u1 : IntKind.u64.wrap z = (U : Int)) (u2 : (U : Int) % 100 = (m : Int)) (u3 : (U : Int).tmod 100 = (m : Int)) (u4 : IntKind.i64.wrap (m : Int) = (m : Int)) (u5 : wrap64 (m : Int) = (m : Int)) (u6 : IntKind.i64.wrap (1 + (m : Int)) = (Z : Int)) (u7 : wrap64 (1 + (m : Int)) = (Z : Int))
    (V n n1 k k1 : Nat) (n0 : ((n : Int) == 0) = false) (n00 : (n == 0) = false) (nz : ¬ n = 0) (y1 : IntKind.u64.wrap q = (V : Int)) (y2 : IntKind.u64.wrap (n : Int) = (n : Int)) (y3 : (V : Int) % (n : Int) = (k : Int)) (y4 : (V : Int).tmod (n : Int) = (k : Int)) (y5 : IntKind.i64.wrap (k : Int) = (k : Int)) (y6 : wrap64 (k : Int) = (k : Int)) (x1 : IntKind.i64.wrap ((k : Int) + 1) = (k1 : Int)) (x2 : wrap64 ((k : Int) + 1) = (k1 : Int)) (v1 : wrap64 ((n : Int) - 1) = (n1 : Int)) (v2 : IntKind.i64.wrap ((n : Int) - 1) = (n1 : Int)) (hk0 : (0 : Int) ≤ (k : Int)) (hk1 : (0 : Int) ≤ (k1 : Int)) (hkn : (k1 : Int) ≤ (n : Int)) (hkk : k < k1) (hk1n : k1 ≤ n) (hn2 : n ≤ 10000) (r : List Pa.Pc) (hn : Hid (n = r.length)) (Y : ByteArray) (M : Nat) (hM : Hid (M = (r.take k ++ r.drop k1).length))
    (l1 : ((k : Int) == (n1 : Int)) = false) (l2 : (k == n1) = false)
    (HC : Hid (∀ W, Below w.heap.size w W → Calls Tryd.prog 5 #[.string s, .int .i64 (Z : Int)] W fun e w' => ∃ b o cap, e = .returned (.tuple #[.slice (some ⟨b, o, none⟩) n cap, .int .i64 0]) ∧ n ≤ cap ∧ b < w'.heap.size ∧ Hid (Rg.At w' b o (parE.flat r)) ∧ Below W.heap.size W w'))
    (HJ : Hid (∀ W A cap, Below w.heap.size w W → Hid (PRow W A (r.take k ++ r.drop k1)) → Calls Tryd.prog 6 #[.slice A M cap] W fun e w' => e = .returned (.tuple #[.string Y, .int .i64 4]) ∧ Below W.heap.size W w'))
    (HA : Hid (∀ W, Below w.heap.size w W → Calls Tryd.prog 4 #[] W fun e w' => e = .returned (.bool true) ∧ Below w.heap.size w w')) :
    Calls Tryd.prog 3 #[.string s, .int .i64 z, .int .i64 q] w fun e w' => e = .returned (.bool true) ∧ Below w.heap.size w w' := by
  go_enter Tryd.func3, Tryd.ntmps3
  go_upto_region 8 with (go_at_call 5; refine (HC.out _ (Below.refl _ _)).mono ?_; rintro e w1 ⟨b, o, cap, rfl, hcap, hb, hat, b1⟩)
  have hkc : (k : Int) ≤ (cap : Int) := Pa.le_int (Nat.le_trans (Nat.le_of_lt hkk) (Nat.le_trans hk1n hcap))
  have hkc1 : (k1 : Int) ≤ (cap : Int) := Pa.le_int (Nat.le_trans hk1n hcap)
  have hnc : (n : Int) ≤ (cap : Int) := Pa.le_int hcap
  have HA1 := lost_a1 r n k hn (Nat.le_trans (Nat.le_of_lt hkk) hk1n) hn2 w1 b o cap hb hat
  have HA2 := lost_a2 r n k k1 M hn hkk hk1n hM hn2 w1 b o hb hat
  have HJ1 : Hid (∀ W A c, Below w1.heap.size w1 W → Hid (PRow W A (r.take k ++ r.drop k1)) → Calls Tryd.prog 6 #[.slice A M c] W fun e w' => e = .returned (.tuple #[.string Y, .int .i64 4]) ∧ Below w.heap.size w w') := fun W A c hW hr => (HJ.out W A c (Rg.chain b1 hW) hr).mono fun _ _ ⟨x, y⟩ => ⟨x, Rg.chain (Rg.chain b1 hW) y⟩
  clear hat HC HJ
  have hdr : Below w1.heap.size w1 w1 := Below.refl _ _
  go_cut [10, 11] (fun s1 s2 wx => s1 = .string Y ∧ s2 = .int .i64 4 ∧ Below w.heap.size w wx)
  case first =>
    by_cases hce : k1 = cap
    · have hz : n - k1 = 0 := Nat.sub_eq_zero_of_le (by rw [hce]; exact hcap)
      subst hce
      go_region_held3 (Rg.Free) (exact Rg.free _) (first
        | (refine Rg.step_append_ex (by rfl) (.tmp 42) (.tmp 45) 24 (by rfl) _ _ (by rfl) (by rfl) _ (HA1.out _ _ ?_ ?_) ?_; (first | exact Rg.al1 _ _ | exact (Rg.al1 _ _).drew); (first | exact World.ownsRow_made w1 #[] 0 (Nat.le_refl _) (Nat.zero_le _) rfl); rintro v' W1 ⟨ho1, bb1⟩)
        | (refine Rg.step_append_ex (by rfl) (.tmp 46) (.tmp 50) 24 (by rfl) _ _ (by rfl) (by rfl) _ (HA2.out _ _ _ _ _ bb1 ho1 ?_ ?_) ?_; (first | exact hz | rfl); exact Or.inr hz; rintro v' W2 ⟨A', cap', rfl, hr2, bb2⟩)
        | (go_at_call 6; refine (HJ1.out _ _ _ bb2 hr2).mono ?_; rintro e w9 ⟨rfl, b9⟩))
      all_goals (go_wp2_with fail; go_meet; exact ⟨rfl, rfl, b9⟩)
    · have hcc : ¬ cap = k1 := fun e => hce e.symm
      go_region_held3 (Rg.Free) (exact Rg.free _) (first
        | (refine Rg.step_append_ex (by rfl) (.tmp 42) (.tmp 45) 24 (by rfl) _ _ (by rfl) (by rfl) _ (HA1.out _ _ ?_ ?_) ?_; (first | exact Rg.al1 _ _ | exact (Rg.al1 _ _).drew); (first | exact World.ownsRow_made w1 #[] 0 (Nat.le_refl _) (Nat.zero_le _) rfl); rintro v' W1 ⟨ho1, bb1⟩)
        | (refine Rg.step_append_ex (by rfl) (.tmp 46) (.tmp 50) 24 (by rfl) _ _ (by rfl) (by rfl) _ (HA2.out _ _ _ _ _ bb1 ho1 ?_ ?_) ?_; rfl; exact Or.inl rfl; rintro v' W2 ⟨A', cap', rfl, hr2, bb2⟩)
        | (go_at_call 6; refine (HJ1.out _ _ _ bb2 hr2).mono ?_; rintro e w9 ⟨rfl, b9⟩))
      all_goals (go_wp2_with fail; go_meet; exact ⟨rfl, rfl, b9⟩)
  case rest =>
    obtain ⟨rfl, rfl, b9⟩ := hcut
    clear HA1 HA2 HJ1
    go_wp2_with (go_at_call 4; refine (HA.out _ b9).mono ?_; rintro e wA ⟨rfl, bA⟩)
    go_ret
    exact ⟨rfl, bA⟩
set_option linter.unusedVariables false in
set_option maxHeartbeats 4000000 in
set_option maxRecDepth 100000 in
theorem plost_ok (s : ByteArray) (z q : Int) (w : World) (q1 : decide ((600 : Int) < (s.size : Int)) = false)
    (U m Z : Nat) (u1 : IntKind.u64.wrap z = (U : Int)) (u2 : (U : Int) % 100 = (m : Int)) (u3 : (U : Int).tmod 100 = (m : Int)) (u4 : IntKind.i64.wrap (m : Int) = (m : Int)) (u5 : wrap64 (m : Int) = (m : Int)) (u6 : IntKind.i64.wrap (1 + (m : Int)) = (Z : Int)) (u7 : wrap64 (1 + (m : Int)) = (Z : Int))
    (V n n1 k k1 : Nat) (n0 : ((n : Int) == 0) = false) (n00 : (n == 0) = false) (nz : ¬ n = 0) (y1 : IntKind.u64.wrap q = (V : Int)) (y2 : IntKind.u64.wrap (n : Int) = (n : Int)) (y3 : (V : Int) % (n : Int) = (k : Int)) (y4 : (V : Int).tmod (n : Int) = (k : Int)) (y5 : IntKind.i64.wrap (k : Int) = (k : Int)) (y6 : wrap64 (k : Int) = (k : Int)) (x1 : IntKind.i64.wrap ((k : Int) + 1) = (k1 : Int)) (x2 : wrap64 ((k : Int) + 1) = (k1 : Int)) (v1 : wrap64 ((n : Int) - 1) = (n1 : Int)) (v2 : IntKind.i64.wrap ((n : Int) - 1) = (n1 : Int)) (hk0 : (0 : Int) ≤ (k : Int)) (hk1 : (0 : Int) ≤ (k1 : Int)) (hkn : (k1 : Int) ≤ (n : Int)) (hkk : k < k1) (hk1n : k1 ≤ n) (hn2 : n ≤ 10000) (r : List Pa.Pc) (hn : Hid (n = r.length)) (Y : ByteArray) (M : Nat) (hM : Hid (M = (r.take k ++ r.drop k1).length))
    (l1 : ((k : Int) == (n1 : Int)) = false) (l2 : (k == n1) = false) (C : Nat) (HK1 : Hid (∀ W, Calls Tryd.prog 7 #[.string Y] W fun e w' => e = .returned (.int .i64 (C : Int)) ∧ w' = W)) (HK2 : Hid (∀ W, Calls Tryd.prog 7 #[.string s] W fun e w' => e = .returned (.int .i64 (C : Int)) ∧ w' = W))
    (HC : Hid (∀ W, Below w.heap.size w W → Calls Tryd.prog 5 #[.string s, .int .i64 (Z : Int)] W fun e w' => ∃ b o cap, e = .returned (.tuple #[.slice (some ⟨b, o, none⟩) n cap, .int .i64 0]) ∧ n ≤ cap ∧ b < w'.heap.size ∧ Hid (Rg.At w' b o (parE.flat r)) ∧ Below W.heap.size W w'))
    (HJ : Hid (∀ W A cap, Below w.heap.size w W → Hid (PRow W A (r.take k ++ r.drop k1)) → Calls Tryd.prog 6 #[.slice A M cap] W fun e w' => e = .returned (.tuple #[.string Y, .int .i64 0]) ∧ Below W.heap.size W w'))
    (HA : Hid (∀ W, Below w.heap.size w W → Calls Tryd.prog 4 #[] W fun e w' => e = .returned (.bool true) ∧ Below w.heap.size w w')) :
    Calls Tryd.prog 3 #[.string s, .int .i64 z, .int .i64 q] w fun e w' => e = .returned (.bool true) ∧ Below w.heap.size w w' := by
  go_enter Tryd.func3, Tryd.ntmps3
  go_upto_region 8 with (go_at_call 5; refine (HC.out _ (Below.refl _ _)).mono ?_; rintro e w1 ⟨b, o, cap, rfl, hcap, hb, hat, b1⟩)
  have hkc : (k : Int) ≤ (cap : Int) := Pa.le_int (Nat.le_trans (Nat.le_of_lt hkk) (Nat.le_trans hk1n hcap))
  have hkc1 : (k1 : Int) ≤ (cap : Int) := Pa.le_int (Nat.le_trans hk1n hcap)
  have hnc : (n : Int) ≤ (cap : Int) := Pa.le_int hcap
  have HA1 := lost_a1 r n k hn (Nat.le_trans (Nat.le_of_lt hkk) hk1n) hn2 w1 b o cap hb hat
  have HA2 := lost_a2 r n k k1 M hn hkk hk1n hM hn2 w1 b o hb hat
  have HJ1 : Hid (∀ W A c, Below w1.heap.size w1 W → Hid (PRow W A (r.take k ++ r.drop k1)) → Calls Tryd.prog 6 #[.slice A M c] W fun e w' => e = .returned (.tuple #[.string Y, .int .i64 0]) ∧ Below w.heap.size w w') := fun W A c hW hr => (HJ.out W A c (Rg.chain b1 hW) hr).mono fun _ _ ⟨x, y⟩ => ⟨x, Rg.chain (Rg.chain b1 hW) y⟩
  clear hat HC HJ
  have hdr : Below w1.heap.size w1 w1 := Below.refl _ _
  go_cut [10, 11] (fun s1 s2 wx => s1 = .string Y ∧ s2 = .int .i64 0 ∧ Below w.heap.size w wx)
  case first =>
    by_cases hce : k1 = cap
    · have hz : n - k1 = 0 := Nat.sub_eq_zero_of_le (by rw [hce]; exact hcap)
      subst hce
      go_region_held3 (Rg.Free) (exact Rg.free _) (first
        | (refine Rg.step_append_ex (by rfl) (.tmp 42) (.tmp 45) 24 (by rfl) _ _ (by rfl) (by rfl) _ (HA1.out _ _ ?_ ?_) ?_; (first | exact Rg.al1 _ _ | exact (Rg.al1 _ _).drew); (first | exact World.ownsRow_made w1 #[] 0 (Nat.le_refl _) (Nat.zero_le _) rfl); rintro v' W1 ⟨ho1, bb1⟩)
        | (refine Rg.step_append_ex (by rfl) (.tmp 46) (.tmp 50) 24 (by rfl) _ _ (by rfl) (by rfl) _ (HA2.out _ _ _ _ _ bb1 ho1 ?_ ?_) ?_; (first | exact hz | rfl); exact Or.inr hz; rintro v' W2 ⟨A', cap', rfl, hr2, bb2⟩)
        | (go_at_call 6; refine (HJ1.out _ _ _ bb2 hr2).mono ?_; rintro e w9 ⟨rfl, b9⟩))
      all_goals (go_wp2_with fail; go_meet; exact ⟨rfl, rfl, b9⟩)
    · have hcc : ¬ cap = k1 := fun e => hce e.symm
      go_region_held3 (Rg.Free) (exact Rg.free _) (first
        | (refine Rg.step_append_ex (by rfl) (.tmp 42) (.tmp 45) 24 (by rfl) _ _ (by rfl) (by rfl) _ (HA1.out _ _ ?_ ?_) ?_; (first | exact Rg.al1 _ _ | exact (Rg.al1 _ _).drew); (first | exact World.ownsRow_made w1 #[] 0 (Nat.le_refl _) (Nat.zero_le _) rfl); rintro v' W1 ⟨ho1, bb1⟩)
        | (refine Rg.step_append_ex (by rfl) (.tmp 46) (.tmp 50) 24 (by rfl) _ _ (by rfl) (by rfl) _ (HA2.out _ _ _ _ _ bb1 ho1 ?_ ?_) ?_; rfl; exact Or.inl rfl; rintro v' W2 ⟨A', cap', rfl, hr2, bb2⟩)
        | (go_at_call 6; refine (HJ1.out _ _ _ bb2 hr2).mono ?_; rintro e w9 ⟨rfl, b9⟩))
      all_goals (go_wp2_with fail; go_meet; exact ⟨rfl, rfl, b9⟩)
  case rest =>
    obtain ⟨rfl, rfl, b9⟩ := hcut
    clear HA1 HA2 HJ1
    go_wp2_with (first
      | (go_at_call 7; (first | with_reducible refine (HK1.out _).mono ?_ | with_reducible refine (HK2.out _).mono ?_); rintro e w' ⟨rfl, rfl⟩)
      | (go_at_call 4; refine (HA.out _ b9).mono ?_; rintro e wA ⟨rfl, bA⟩))
    go_ret
    exact ⟨rfl, bA⟩
end Go.Proofs.YteiajngfeiemkabDoor
