/-
  Walks of the laws of layer 5: JobRises of nothing; JobRises.
-/
import Derived.Test.YthjlhbbhdliffaaDoorLawJ6
namespace Go.Proofs.YthjlhbbhdliffaaDoor
open Go.RowKit

set_option maxHeartbeats 4000000 in
set_option maxRecDepth 100000 in
theorem rises_some (ad : Addr) (cap : Nat) (w : World) (hw : Ok w) :
    Calls Tryd.prog 7 #[.slice (some ad) 0 cap] w fun e w' => e = .returned (.bool true) ∧ Below w.heap.size w w' := by
  have HL := hide (long_none (some ad) cap w)
  have HA : Hid (∀ W, Below w.heap.size w W → Calls Tryd.prog 9 #[] W fun e w' => e = .returned (.bool true) ∧ Below w.heap.size w w') := fun W hW => (awake_any W (hw.below hW)).mono fun e w' ⟨h1, h2⟩ => ⟨h1, hW.trans (h2.mono hW.size)⟩
  obtain ⟨i0, hi, hz0, hz1, hz2⟩ := infoJob'
  clear hw
  go_enter Tryd.func7, Tryd.ntmps7
  go_wp2_with (go_at_call 8; refine HL.out.mono ?_)
  intro e w1 h1
  obtain ⟨L, rfl, _, b1⟩ := h1
  cases L
  · have hb0 := below_alloc1 w1 (.cells #[] 25)
    go_wp2_with (at_builtin; refine wpList_append_own _ rfl _ _ 38 rfl w1.heap.size 25 i0 (.agg zcells) 8 96 Tryd.underlying38 hi hz0 hz1 hz2 rfl (by decide) _ _ _ rfl (World.ownsRow_made w1 #[] 0 (Nat.le_refl _) (Nat.zero_le _) (by simp)) ad 0 cap [] rfl ?c0 ?c1 ?c2 ?c3 ?c4 ?c5 ?_)
    case c0 => rfl
    case c1 => intro j u hu; simp at hu
    case c2 => intro u hu; cases hu
    case c3 => unfold maxLen; omega
    case c4 => omega
    case c5 => simp
    intro v' w2 hown hgrow hne
    obtain ⟨gi, ci, ri, hvi, hgi, hSi⟩ := own_some (l := []) hown (hb0.grown hgrow (by simp) (fun k hk => by simp [Value.ownBlock] at hk; omega)) hne
    subst hvi
    clear hown hgrow hne
    have b2 := b1.trans (hSi.bel.mono b1.size)
    have HO := hide (order_some gi ri ci [] w1 w2 (by simp) hSi)
    clear hSi
    go_wp2_with (go_at_call 16; refine HO.out.mono ?_)
    intro e w3 h3
    obtain ⟨g1, c1, r1, S, rfl, hSt, hg1, hS1⟩ := h3
    have b3 := b2.trans (hS1.bel.mono b2.size)
    have hSl := hSt.len
    have h60 : (0 : Nat) ≤ 60 := by omega
    have hSl : S.length = 0 := hSl
    replace hSt := hide hSt
    replace hS1 := hide hS1
    replace hSl := hide hSl
    clear HO HL
    go_wp2
    go_loopw [23] (fun vi wr => ∃ i : Nat, i ≤ 0 ∧ vi = .int .i64 i ∧ Below w3.heap.size w3 wr) (fun _ _ => 0)
    case atStart => exact ⟨0, Nat.zero_le _, rfl, Below.refl _ _⟩
    case round =>
      obtain ⟨i, hin, rfl, hbw⟩ := hrel
      obtain rfl : i = 0 := by omega
      have b4 := b3.trans (hbw.mono b3.size)
      have hS4 := hS1.out.below hbw
      have hbn := below_alloc1 wr (.cells #[] 25)
      have hlenS := flat_length S
      have honeS := hide (flat_one S)
      have hcS : ∀ (j : Nat) (h : j < S.length), JAt wr g1 (0 + j * 8) S[j] := fun j h => by rw [Nat.zero_add]; exact hS4.job h
      obtain ⟨nS, hnS⟩ : ∃ x, x = flat S := ⟨_, rfl⟩
      have hcellS : Hid (∀ (t : Nat) (u : Value), nS[t]? = some u → (wr.alloc (.cells #[] 25)).cell? ⟨g1, 0 + t, none⟩ = some u) := fun t u hu => by
        rw [hbn.cell (p := ⟨g1, 0 + t, none⟩) hS4.lt]; exact row_cells hcS t u (by rw [← hnS]; exact hu)
      rw [← hnS] at hlenS honeS
      rw [hSl.out] at hlenS
      replace hnS := hide hnS
      have hSsrt := hide hSt.out.srt
      have hS4' := hide hS4
      clear hcS hS4
      go_wp2_with (at_builtin; refine wpList_append_own _ rfl _ _ 38 rfl wr.heap.size 25 i0 (.agg zcells) 8 96 Tryd.underlying38 hi hz0 hz1 hz2 rfl (by decide) _ _ _ rfl (World.ownsRow_made wr #[] 0 (Nat.le_refl _) (Nat.zero_le _) (by simp)) ⟨g1, 0, none⟩ 0 c1 nS rfl ?c0 ?c1 ?c2 ?c3 ?c4 ?c5 ?_)
      case c0 => exact hlenS
      case c1 => intro j u hu; have := hcellS.out j u hu; cases j <;> simpa [Addr.add] using this
      case c2 => exact honeS.out
      case c3 => unfold maxLen; omega
      case c4 => omega
      case c5 => simp
      intro v' w5 hown hgrow hne
      rw [hnS.out, ← hSl.out] at hown
      obtain ⟨gj, cj', rj, hvj, hgj, hSj⟩ := own_some hown (hbn.grown hgrow (by simp) (fun k hk => by simp [Value.ownBlock] at hk; omega)) hne
      subst hvj
      have b5 := b4.trans (hSj.bel.mono b4.size)
      have HO := hide (order_some gj rj cj' S wr w5 (by rw [hSl.out]; exact h60) hSj)
      have hS5 := hide (hS4'.out.below hSj.bel)
      rw [hSl.out] at HO
      clear hown hgrow hne hcellS hSj hlenS honeS
      rw [hSl.out]
      go_wp2_with (go_at_call 16; refine HO.out.mono ?_)
      intro e w6 h6
      obtain ⟨g2, c2, r2, S2, he6, hSt2, hg2, hS6⟩ := h6
      rw [hSl.out] at he6
      subst he6
      have hSS : S2 = S := hSt2.uniq (Job.St.refl hSsrt.out)
      subst hSS
      have b6 := b5.trans (hS6.bel.mono b5.size)
      have hS6' := hide hS6
      have hS7 := hide (hS5.out.below hS6.bel)
      clear hS6 HO
      go_wp2
      go_loopw [113] (fun vk wr' => ∃ k : Nat, k ≤ 0 ∧ vk = .int .i64 k ∧ Below w6.heap.size w6 wr') (fun _ _ => 0)
      case atStart => exact ⟨0, Nat.zero_le _, rfl, Below.refl _ _⟩
      case round =>
        obtain ⟨k, hk, rfl, hbk⟩ := hrel
        obtain rfl : k = 0 := by omega
        have b7 := b6.trans (hbk.mono b6.size)
        go_wp2_with (go_at_call 9; refine (HA.out _ b7).mono ?_; rintro e w' ⟨rfl, b'⟩)
        go_ret
        exact ⟨rfl, b'⟩
  · go_wp2_with (go_at_call 9; refine (HA.out _ (by assumption)).mono ?_; rintro e w' ⟨rfl, b'⟩)
    go_ret
    exact ⟨rfl, b'⟩

set_option maxHeartbeats 4000000 in
set_option maxRecDepth 100000 in
theorem rises_none (cap : Nat) (w : World) (hw : Ok w) :
    Calls Tryd.prog 7 #[.slice none 0 cap] w fun e w' => e = .returned (.bool true) ∧ Below w.heap.size w w' := by
  have HL := hide (long_none none cap w)
  have HA : Hid (∀ W, Below w.heap.size w W → Calls Tryd.prog 9 #[] W fun e w' => e = .returned (.bool true) ∧ Below w.heap.size w w') := fun W hW => (awake_any W (hw.below hW)).mono fun e w' ⟨h1, h2⟩ => ⟨h1, hW.trans (h2.mono hW.size)⟩
  obtain ⟨i0, hi, hz0, hz1, hz2⟩ := infoJob'
  clear hw
  go_enter Tryd.func7, Tryd.ntmps7
  go_wp2_with (go_at_call 8; refine HL.out.mono ?_)
  intro e w1 h1
  obtain ⟨L, rfl, _, b1⟩ := h1
  cases L
  · have hb0 := below_alloc1 w1 (.cells #[] 25)
    obtain ⟨gi, hgi⟩ : ∃ gi, gi = w1.heap.size := ⟨_, rfl⟩
    obtain ⟨w2, hw2⟩ : ∃ w2, w2 = w1.alloc (.cells #[] 25) := ⟨_, rfl⟩
    have hSi : SW gi [] w1 [] w2 := ⟨by rw [hgi, hw2]; exact heap_alloc_new w1 _, by rw [hw2]; exact hb0⟩
    subst hgi hw2
    have b2 := b1.trans (hSi.bel.mono b1.size)
    have HO := hide (order_some w1.heap.size [] 0 [] w1 (w1.alloc (.cells #[] 25)) (by simp) hSi)
    clear hSi
    go_wp2_with (go_at_call 16; refine HO.out.mono ?_)
    intro e w3 h3
    obtain ⟨g1, c1, r1, S, rfl, hSt, hg1, hS1⟩ := h3
    have b3 := b2.trans (hS1.bel.mono b2.size)
    have hSl := hSt.len
    have h60 : (0 : Nat) ≤ 60 := by omega
    have hSl : S.length = 0 := hSl
    replace hSt := hide hSt
    replace hS1 := hide hS1
    replace hSl := hide hSl
    clear HO HL
    go_wp2
    go_loopw [23] (fun vi wr => ∃ i : Nat, i ≤ 0 ∧ vi = .int .i64 i ∧ Below w3.heap.size w3 wr) (fun _ _ => 0)
    case atStart => exact ⟨0, Nat.zero_le _, rfl, Below.refl _ _⟩
    case round =>
      obtain ⟨i, hin, rfl, hbw⟩ := hrel
      obtain rfl : i = 0 := by omega
      have b4 := b3.trans (hbw.mono b3.size)
      have hS4 := hS1.out.below hbw
      have hbn := below_alloc1 wr (.cells #[] 25)
      have hlenS := flat_length S
      have honeS := hide (flat_one S)
      have hcS : ∀ (j : Nat) (h : j < S.length), JAt wr g1 (0 + j * 8) S[j] := fun j h => by rw [Nat.zero_add]; exact hS4.job h
      obtain ⟨nS, hnS⟩ : ∃ x, x = flat S := ⟨_, rfl⟩
      have hcellS : Hid (∀ (t : Nat) (u : Value), nS[t]? = some u → (wr.alloc (.cells #[] 25)).cell? ⟨g1, 0 + t, none⟩ = some u) := fun t u hu => by
        rw [hbn.cell (p := ⟨g1, 0 + t, none⟩) hS4.lt]; exact row_cells hcS t u (by rw [← hnS]; exact hu)
      rw [← hnS] at hlenS honeS
      rw [hSl.out] at hlenS
      replace hnS := hide hnS
      have hSsrt := hide hSt.out.srt
      have hS4' := hide hS4
      clear hcS hS4
      go_wp2_with (at_builtin; refine wpList_append_own _ rfl _ _ 38 rfl wr.heap.size 25 i0 (.agg zcells) 8 96 Tryd.underlying38 hi hz0 hz1 hz2 rfl (by decide) _ _ _ rfl (World.ownsRow_made wr #[] 0 (Nat.le_refl _) (Nat.zero_le _) (by simp)) ⟨g1, 0, none⟩ 0 c1 nS rfl ?c0 ?c1 ?c2 ?c3 ?c4 ?c5 ?_)
      case c0 => exact hlenS
      case c1 => intro j u hu; have := hcellS.out j u hu; cases j <;> simpa [Addr.add] using this
      case c2 => exact honeS.out
      case c3 => unfold maxLen; omega
      case c4 => omega
      case c5 => simp
      intro v' w5 hown hgrow hne
      rw [hnS.out, ← hSl.out] at hown
      obtain ⟨gj, cj', rj, hvj, hgj, hSj⟩ := own_some hown (hbn.grown hgrow (by simp) (fun k hk => by simp [Value.ownBlock] at hk; omega)) hne
      subst hvj
      have b5 := b4.trans (hSj.bel.mono b4.size)
      have HO := hide (order_some gj rj cj' S wr w5 (by rw [hSl.out]; exact h60) hSj)
      have hS5 := hide (hS4'.out.below hSj.bel)
      rw [hSl.out] at HO
      clear hown hgrow hne hcellS hSj hlenS honeS
      rw [hSl.out]
      go_wp2_with (go_at_call 16; refine HO.out.mono ?_)
      intro e w6 h6
      obtain ⟨g2, c2, r2, S2, he6, hSt2, hg2, hS6⟩ := h6
      rw [hSl.out] at he6
      subst he6
      have hSS : S2 = S := hSt2.uniq (Job.St.refl hSsrt.out)
      subst hSS
      have b6 := b5.trans (hS6.bel.mono b5.size)
      have hS6' := hide hS6
      have hS7 := hide (hS5.out.below hS6.bel)
      clear hS6 HO
      go_wp2
      go_loopw [113] (fun vk wr' => ∃ k : Nat, k ≤ 0 ∧ vk = .int .i64 k ∧ Below w6.heap.size w6 wr') (fun _ _ => 0)
      case atStart => exact ⟨0, Nat.zero_le _, rfl, Below.refl _ _⟩
      case round =>
        obtain ⟨k, hk, rfl, hbk⟩ := hrel
        obtain rfl : k = 0 := by omega
        have b7 := b6.trans (hbk.mono b6.size)
        go_wp2_with (go_at_call 9; refine (HA.out _ b7).mono ?_; rintro e w' ⟨rfl, b'⟩)
        go_ret
        exact ⟨rfl, b'⟩
  · go_wp2_with (go_at_call 9; refine (HA.out _ (by assumption)).mono ?_; rintro e w' ⟨rfl, b'⟩)
    go_ret
    exact ⟨rfl, b'⟩

end Go.Proofs.YthjlhbbhdliffaaDoor
