/-
  Layer 9: the document's Choose.
-/
import Derived.Test.YtpndcbilnbihaaaGf2
namespace Go.Proofs.Ytpndcbilnbihaaa
open Go.RowKit

set_option maxHeartbeats 2000000 in
set_option maxRecDepth 100000 in
theorem refChoose_any (offer hav : ByteArray) (w : World) (ho : offer.size ≤ 3000) (hh : hav.size ≤ 3000) :
    Calls Try.prog 22 #[.string offer, .string hav] w fun e w' => e = .returned (.int .i64 (Gr.choose offer.data.toList hav.data.toList)) ∧ Below w.heap.size w w' := by
  obtain ⟨T, hT⟩ : ∃ T, Gr.choose offer.data.toList hav.data.toList = T := ⟨_, rfl⟩
  have hTh : Hid (T = Gr.chosen ((hav.data.toList.drop 0).find? (Gr.pick offer.data.toList))) := by show _ = _; rw [← hT]; rfl
  rw [hT]
  clear hT
  go_enter Try.func22, Try.ntmps22
  go_wp2
  go_loopw [9] (fun iv W => ∃ i : Nat, i ≤ hav.size ∧ iv = .int .i64 i ∧ Hid (T = Gr.chosen ((hav.data.toList.drop i).find? (Gr.pick offer.data.toList))) ∧ Below w.heap.size w W) (fun iv _ => hav.size - (intOf iv).toNat)
  case atStart => exact ⟨0, Nat.zero_le _, rfl, hTh, Below.refl _ _⟩
  case round =>
    clear hTh
    obtain ⟨i, hi, rfl, hfin, hbw⟩ := hrel
    by_cases hlt : i < hav.size
    · have HK : Hid (∀ W, Calls Try.prog 35 #[.int .u8 (hav[i].toNat : Int)] W fun e w' => e = .returned (.bool (Gr.known hav[i])) ∧ W = w') := fun W => (known_any hav[i] W).mono fun e w' h => ⟨h.1, h.2.symm⟩
      have hpick : Hid (Gr.pick offer.data.toList hav[i] = false → T = Gr.chosen ((hav.data.toList.drop (i + 1)).find? (Gr.pick offer.data.toList))) := fun h => by rw [hfin.out, Gr.drop_at hav i hlt, List.find?_cons, h]
      have hgot : Hid (Gr.pick offer.data.toList hav[i] = true → T = (hav[i].toNat : Int)) := fun h => by rw [hfin.out, Gr.drop_at hav i hlt, List.find?_cons, h]; rfl
      clear hfin
      cases hk : Gr.known hav[i] with
      | false =>
        have hp : Hid (T = Gr.chosen ((hav.data.toList.drop (i + 1)).find? (Gr.pick offer.data.toList))) := hpick.out (by unfold Gr.pick; rw [hk]; rfl)
        rw [hk] at HK
        clear hk hpick hgot
        go_wp2
        go_loopw [14] (fun kv W => ∃ k : Nat, k ≤ offer.size ∧ kv = .int .i64 k ∧ Below w.heap.size w W) (fun kv _ => offer.size - (intOf kv).toNat)
        case atStart => exact ⟨0, Nat.zero_le _, rfl, hbw⟩
        case round =>
          clear hbw
          obtain ⟨k, hki, rfl, hbw⟩ := hrel
          by_cases hkl : k < offer.size
          · by_cases he : (offer[k].toNat : Int) = (hav[i].toNat : Int)
            · have d0 : ((offer[k].toNat : Int) == (hav[i].toNat : Int)) = true := by rw [beq_iff_eq]; exact he
              clear he
              go_upto_region 7 with fail
              go_region_held3 (Rg.Free) (exact Rg.free _) (first
                | (go_at_call 35; refine (HK.out _).mono ?_; rintro e w' ⟨rfl, rfl⟩))
              all_goals
                go_wp2
                go_roundw
                case rel => exact ⟨k + 1, by omega, by go_num, hbw.drew⟩
                case measure => simp [intOf]; omega
            · have d0 : ((offer[k].toNat : Int) == (hav[i].toNat : Int)) = false := by rw [beq_eq_false_iff_ne]; exact he
              clear he
              go_wp2
              go_quiet ((first | (go_at_call 35; exact Calls.quiet_of_same (HK.out _))))
              go_wp2
              go_roundw
              case rel => exact ⟨k + 1, by omega, by go_num, bel_dN hbw _⟩
              case measure => simp [intOf]; omega
          · go_wp2
            go_roundw
            case rel => exact ⟨i + 1, by omega, by go_num, hp, hbw⟩
            case measure => simp [intOf]; omega
      | true =>
        rw [hk] at HK
        have hkh : Hid (Gr.known hav[i] = true) := hk
        clear hk
        go_wp2
        go_loopw [14] (fun kv W => ∃ k : Nat, k ≤ offer.size ∧ kv = .int .i64 k ∧ Hid (¬ hav[i] ∈ offer.data.toList.take k) ∧ Below w.heap.size w W) (fun kv _ => offer.size - (intOf kv).toNat)
        case atStart => exact ⟨0, Nat.zero_le _, rfl, (by show ¬ _; simp), hbw⟩
        case round =>
          clear hbw
          obtain ⟨k, hki, rfl, hno, hbw⟩ := hrel
          by_cases hkl : k < offer.size
          · by_cases he : (offer[k].toNat : Int) = (hav[i].toNat : Int)
            · have d0 : ((offer[k].toNat : Int) == (hav[i].toNat : Int)) = true := by rw [beq_iff_eq]; exact he
              have hr : Hid (T = (hav[i].toNat : Int)) := hgot.out (by
                unfold Gr.pick
                rw [hkh.out, Bool.true_and, List.contains_iff_mem, ← Gr.byte_eq he]
                exact Oct.mem_at offer k hkl)
              have hwr : wrap64 (hav[i].toNat : Int) = (hav[i].toNat : Int) := by have := hav[i].toNat_lt; unfold wrap64; omega
              replace hwr := Rg.hid hwr
              clear he hno hpick hgot hkh
              go_upto_region 7 with fail
              go_region_held3 (Rg.Free) (exact Rg.free _) (first
                | (go_at_call 35; refine (HK.out _).mono ?_; rintro e w' ⟨rfl, rfl⟩))
              all_goals
                go_wp2
                go_ret
                exact ⟨ret_int (hwr.out.trans hr.out.symm), hbw.drew⟩
            · have d0 : ((offer[k].toNat : Int) == (hav[i].toNat : Int)) = false := by rw [beq_eq_false_iff_ne]; exact he
              have hn2 : Hid (¬ hav[i] ∈ offer.data.toList.take (k + 1)) := Gr.not_take_snoc offer k hkl hav[i] hno.out (fun e => he (by rw [e]))
              clear he hno hpick hgot hkh
              go_wp2
              go_quiet ((first | (go_at_call 35; exact Calls.quiet_of_same (HK.out _))))
              go_wp2
              go_roundw
              case rel => exact ⟨k + 1, by omega, by go_num, hn2, bel_dN hbw _⟩
              case measure => simp [intOf]; omega
          · have hp : Hid (T = Gr.chosen ((hav.data.toList.drop (i + 1)).find? (Gr.pick offer.data.toList))) := hpick.out (by
              unfold Gr.pick
              have h1 := hno.out
              rw [Oct.take_all offer k (by omega)] at h1
              rw [hkh.out, Bool.true_and]
              simpa using h1)
            clear hno hpick hgot hkh
            go_wp2
            go_roundw
            case rel => exact ⟨i + 1, by omega, by go_num, hp, hbw⟩
            case measure => simp [intOf]; omega
    · have hr : Hid (T = 0) := by show _ = _; rw [hfin.out, Gr.drop_end hav i hlt]; rfl
      clear hfin
      go_wp2
      go_ret
      exact ⟨ret_int hr.out.symm, hbw⟩
end Go.Proofs.Ytpndcbilnbihaaa
