/-
  Walk of layer 4: the document's Clean.
-/
import Derived.Test.YtkbemfhdamdglaaDoorPat7
namespace Go.Proofs.YtkbemfhdamdglaaDoor
open Go.RowKit

namespace Pth
def flat (l : List Bs) : Bs := (l.map (47 :: ·)).flatten
theorem flat_take {l : List Bs} {k : Nat} (h : k < l.length) : flat (l.take (k + 1)) = flat (l.take k) ++ 47 :: l[k] := by
  rw [List.take_succ_eq_append_getElem h, flat, List.map_append, List.flatten_append]
  show _ ++ ((47 :: l[k]) ++ []) = _
  rw [List.append_nil]; rfl
theorem flat_jn : ∀ (l : List Bs), l ≠ [] → flat l = out l
  | [], h => absurd rfl h
  | [x], _ => by simp [flat, out, jn]
  | x :: y :: r, _ => by
    have ih := flat_jn (y :: r) (by simp)
    unfold out at ih ⊢
    rw [jn, ← ih]; simp [flat]
end Pth

set_option maxHeartbeats 4000000 in
theorem rclean_any (p : ByteArray) (w : World) (hs : p.size ≤ maxLen) :
    Calls Tryd.prog 16 #[.string p] w fun e w' => e = .returned (.tuple #[.string ⟨(Pth.clean p.data.toList).1.toArray⟩, .int .i64 ((Pth.clean p.data.toList).2 : Nat)]) ∧ Below w.heap.size w w' := by
  unfold maxLen at hs
  have hlen := Oct.len_eq p
  obtain ⟨i0, hi, hz0, hz1, hz2⟩ := info_parts infoStr
  by_cases hb : 300 < p.size
  case pos =>
    have hr : Hid (Pth.clean p.data.toList = ([], 5)) := Pth.clean_long (by omega)
    clear hlen hi hz0 hz1 hz2
    go_enter Tryd.func16, Tryd.ntmps16
    go_wp2
    go_step3
    go_wp2
    try rw [Exit.noGoto_ret]
    go_ret2
    exact ⟨ret_se (by rw [hr.out]) (by rw [hr.out]; rfl), Below.refl _ _⟩
  by_cases h0 : p.size = 0
  case pos =>
    have he : (p.toList == []) = true := by
      rw [tl_eq, beq_iff_eq]; exact List.eq_nil_of_length_eq_zero (by omega)
    have hr : Hid (Pth.clean p.data.toList = ([], 3)) := Pth.clean_head (by omega) (by rw [tl_eq, beq_iff_eq] at he; rw [he]; rfl)
    clear hlen hi hz0 hz1 hz2 h0
    go_enter Tryd.func16, Tryd.ntmps16
    go_wp2
    go_step3
    go_wp2
    try rw [Exit.noGoto_ret]
    go_ret2
    exact ⟨ret_se (by rw [hr.out]) (by rw [hr.out]; rfl), Below.refl _ _⟩
  have hpos : 0 < p.size := by omega
  have he : (p.toList == []) = false := by
    rw [tl_eq, beq_eq_false_iff_ne]; intro h; rw [h] at hlen; simp at hlen; omega
  have hhead := head_at hpos
  by_cases hc : p[0] = 47
  case neg =>
    have hb0 : ((p[0].toNat : Int) != 47) = true := by
      rw [bne_iff_ne]; intro h; exact hc (UInt8.toNat_inj.1 (by show p[0].toNat = 47; omega))
    have hb1 : ((p[0].toNat : Int) == 47) = false := by
      rw [beq_eq_false_iff_ne]; intro h; exact hc (UInt8.toNat_inj.1 (by show p[0].toNat = 47; omega))
    have hr : Hid (Pth.clean p.data.toList = ([], 3)) := Pth.clean_head (by omega) (by rw [hhead]; exact beq_eq_false_iff_ne.2 fun h => hc (Option.some.inj h))
    clear hlen hi hz0 hz1 hz2 h0 hc hhead
    go_enter Tryd.func16, Tryd.ntmps16
    go_wp2
    go_step3
    go_wp2
    try rw [Exit.noGoto_ret]
    go_ret2
    exact ⟨ret_se (by rw [hr.out]) (by rw [hr.out]; rfl), Below.refl _ _⟩
  have hb0 : ((p[0].toNat : Int) != 47) = false := by rw [hc]; rfl
  have hb1 : ((p[0].toNat : Int) == 47) = true := by rw [hc]; rfl
  have hh : (p.data.toList.head? == some 47) = true := by rw [hhead, hc]; rfl
  have HA : Hid (Calls Tryd.prog 20 #[.string p] w fun e w' => ∃ (l : List ByteArray) (g cap : Nat), e = .returned (.slice (some ⟨g, 0, none⟩) l.length cap) ∧ l.map (fun s : ByteArray => s.data.toList) = Pth.spl p.data.toList.tail ∧ Texts w' g l ∧ Below w.heap.size w w' ∧ w.heap.size ≤ g ∧ g < w'.heap.size ∧ l.length ≤ cap ∧ cap ≤ maxLen) := rsplit_texts p w (by omega) (by omega)
  have HN : Hid (Pth.run [] (Pth.spl p.data.toList.tail) = none → Pth.clean p.data.toList = ([], 3)) := Pth.clean_none (by omega) hh
  have HS : Hid (∀ K, Pth.run [] (Pth.spl p.data.toList.tail) = some K → Pth.clean p.data.toList = if (Pth.out K).length > 40 then ([], 5) else (Pth.out K, 0)) := fun K => Pth.clean_some (by omega) hh
  clear hh hc hhead hlen
  go_enter Tryd.func16, Tryd.ntmps16
  go_wp2
  go_step3
  go_wp2
  go_step3
  go_wp2_with (go_at_call 20; refine HA.out.mono ?_)
  rintro e w1 ⟨l, g0', cap0, rfl, h2, h3, h4, h6, h5, h7, h8⟩
  have H2 : Hid (l.map (fun s : ByteArray => s.data.toList) = Pth.spl p.data.toList.tail) := h2
  have H3 : Hid (Texts w1 g0' l) := h3
  have hll := part_count h2
  clear h2 h3 HA
  go_wp2
  go_loopw [4, 23] (fun v i wr => ∃ (k : Nat) (ks : List ByteArray), k ≤ l.length ∧ i = .int .i64 k ∧ ks.length ≤ k ∧ Hid (Pth.run [] ((l.map fun s : ByteArray => s.data.toList).take k) = some (ks.map fun s : ByteArray => s.data.toList)) ∧ Hid (∀ s ∈ ks, s.size ≤ p.size) ∧ wr.ownsRow w1.heap.size 9 1 v ks.length (ks.map Value.string) ∧ Below w1.heap.size w1 wr) (fun _ i _ => l.length - (intOf i).toNat)
  case atStart => exact ⟨0, [], Nat.zero_le _, rfl, Nat.le_refl _, rfl, (fun _ h => absurd h (by simp)), World.ownsRow_nil _ _ _ _, Below.refl _ _⟩
  case round =>
    obtain ⟨k, ks, hk, rfl, hkl, hrun, hsm, hown, hbl⟩ := hrel
    have hsz := hbl.size
    by_cases hlt : k < l.length
    · have hcell : wr.cell? ⟨g0', k, none⟩ = some (.string l[k]) := by rw [hbl.cell (p := ⟨g0', k, none⟩) h5]; exact H3.out k hlt
      have hps := part_size H2.out hlt
      have hT : Hid (Pth.run [] ((l.map fun s : ByteArray => s.data.toList).take (k + 1)) = Pth.step (ks.map fun s : ByteArray => s.data.toList) l[k].data.toList) := by
        show _ = _
        rw [Pth.run_take (by simpa using hlt) hrun.out]; simp
      have hF : Hid (Pth.step (ks.map fun s : ByteArray => s.data.toList) l[k].data.toList = none → Pth.clean p.data.toList = ([], 3)) := fun hst => HN.out (by
        rw [← H2.out]; exact Pth.run_fail (by simpa using hlt) hrun.out (by simpa using hst))
      have HI : Hid (∀ W : World, Calls Tryd.prog 21 #[.string l[k]] W fun e w' => e = .returned (.bool (Pth.isPart l[k].data.toList)) ∧ w' = W) := fun W => by
        have := part_any l[k] W (by unfold maxLen; omega)
        rw [Pth.isPartR_eq _ (part_no H2.out hlt)] at this
        exact this
      clear hrun
      generalize l[k] = s at *
      cases g0 : (s.toList == [])
      case true =>
        have hn : Hid (Pth.run [] ((l.map fun s : ByteArray => s.data.toList).take (k + 1)) = some (ks.map fun s : ByteArray => s.data.toList)) := by
          show _ = _; rw [hT.out, Pth.step_skip (.inl (by rw [tl_eq, beq_iff_eq] at g0; exact g0))]
        clear hT hF HI
        go_wp2
        go_roundw
        case rel => exact ⟨k + 1, ks, by omega, by go_num, by omega, hn, hsm, hown, hbl⟩
        case measure => simp [intOf]; omega
      cases g1 : (s.toList == [46])
      case true =>
        have hn : Hid (Pth.run [] ((l.map fun s : ByteArray => s.data.toList).take (k + 1)) = some (ks.map fun s : ByteArray => s.data.toList)) := by
          show _ = _; rw [hT.out, Pth.step_skip (.inr (by rw [tl_eq, beq_iff_eq] at g1; exact g1))]
        clear hT hF HI
        go_wp2
        go_roundw
        case rel => exact ⟨k + 1, ks, by omega, by go_num, by omega, hn, hsm, hown, hbl⟩
        case measure => simp [intOf]; omega
      cases g2 : (s.toList == [46, 46])
      case true =>
        have hn : Hid (Pth.run [] ((l.map fun s : ByteArray => s.data.toList).take (k + 1)) = some (ks.dropLast.map fun s : ByteArray => s.data.toList)) := by
          show _ = _; rw [hT.out, Pth.step_up (by rw [tl_eq, beq_iff_eq] at g2; exact g2), List.map_dropLast]
        clear hT hF HI
        by_cases hk0 : ks = []
        · subst hk0
          obtain ⟨a, cap, rfl, _, _⟩ := owned_form hown
          go_wp2
          go_roundw
          case rel => exact ⟨k + 1, [], by omega, by go_num, by simp, hn, hsm, hown, hbl⟩
          case measure => simp [intOf]; omega
        · obtain ⟨g, cap, rfl, _, _, hcc, hcm, _⟩ := owned_texts hown hk0
          obtain ⟨n, hn1⟩ : ∃ n, ks.length = n + 1 := ⟨ks.length - 1, by have := List.length_pos_iff.2 hk0; omega⟩
          have hdl : ks.dropLast.length = n := by rw [List.length_dropLast, hn1]; rfl
          have hsm2 : Hid (∀ s ∈ ks.dropLast, s.size ≤ p.size) := fun s h => hsm.out s ((List.dropLast_sublist ks).subset h)
          rw [hn1] at hown hkl hcc ⊢
          have hown2 := owned_less hown
          rw [← List.map_dropLast, ← hdl] at hown2
          unfold maxLen at hcm
          clear hown hn1 hsm hk0
          go_wp2
          go_roundw
          case rel => exact ⟨k + 1, ks.dropLast, by omega, by go_num, by omega, hn, hsm2, by rw [hdl] at hown2 ⊢; exact hown2, hbl⟩
          case measure => simp [intOf]; omega
      cases g3 : Pth.isPart s.data.toList
      case false =>
        rw [g3] at HI
        have hr : Hid (Pth.clean p.data.toList = ([], 3)) := by
          rw [tl_eq, beq_eq_false_iff_ne] at g0 g1 g2
          exact hF.out (Pth.step_bad g0 g1 g2 g3)
        clear hT hF g3
        go_wp2_with (go_at_call 21; refine (HI.out _).mono ?_; rintro e w' ⟨rfl, rfl⟩)
        try rw [Exit.noGoto_ret]
        go_ret2
        exact ⟨ret_se (by rw [hr.out]) (by rw [hr.out]; rfl), h4.trans (hbl.mono h4.size)⟩
      case true =>
        rw [g3] at HI
        have hn : Hid (Pth.run [] ((l.map fun s : ByteArray => s.data.toList).take (k + 1)) = some ((ks ++ [s]).map fun s : ByteArray => s.data.toList)) := by
          show _ = _; rw [hT.out, Pth.step_part g3, List.map_append]; rfl
        have hsm2 : Hid (∀ x ∈ ks ++ [s], x.size ≤ p.size) := fun x hx => by
          rcases List.mem_append.1 hx with hx | hx
          · exact hsm.out x hx
          · simp at hx; subst hx; exact hps
        clear hT hF g3 hsm
        go_wp2_with (first | (go_at_call 21; refine (HI.out _).mono ?_; rintro e w' ⟨rfl, hw'⟩; obtain rfl := hw'.symm) | (at_builtin; refine wpList_append_own _ rfl _ _ 30 rfl w1.heap.size 9 i0 (.string ByteArray.empty) 1 16 Tryd.underlying30 hi hz0 hz1 hz2 rfl (by decide) _ _ _ rfl (hown.alloc _) ⟨_, 0, none⟩ 1 1 [.string s] rfl rfl (news9 _ _) ?c2 ?c3 ?c4 ?c5 ?_))
        case c2 => intro u hu; simp at hu; subst hu; rfl
        case c3 => unfold maxLen; omega
        case c4 => omega
        case c5 => simp; omega
        intro v' w2 hown' hgrow _
        go_wp2
        go_roundw
        case rel => exact ⟨k + 1, ks ++ [s], by omega, by go_num, by simp; omega, hn, hsm2, by rw [List.map_append, List.length_append]; exact hown', below_own hbl hsz hgrow hown⟩
        case measure => simp [intOf]; omega
    · have hK : Hid (Pth.clean p.data.toList = if (Pth.out (ks.map fun s : ByteArray => s.data.toList)).length > 40 then ([], 5) else (Pth.out (ks.map fun s : ByteArray => s.data.toList), 0)) := HS.out _ (by
        have := hrun.out
        rw [List.take_of_length_le (by simp; omega), H2.out] at this
        exact this)
      have hbl1 := h4.trans (hbl.mono h4.size)
      clear hrun
      by_cases hk0 : ks = []
      · subst hk0
        have hr : Hid (Pth.clean p.data.toList = ([47], 0)) := hK.out
        obtain ⟨a, cap, rfl, _, _⟩ := owned_form hown
        clear hK hsm hown hbl
        have hem : ((⟨#[]⟩ : ByteArray).toList == []) = true := by rw [tl_eq]; rfl
        go_wp2
        go_loop [7, 56] (fun v i => v = .string ⟨#[]⟩ ∧ i = .int .i64 0) (fun _ _ => 0)
        case atStart => exact ⟨rfl, rfl⟩
        case round =>
          obtain ⟨rfl, rfl⟩ := hrel
          go_wp2
          try rw [Exit.noGoto_ret]
          go_ret2
          exact ⟨ret_se (by rw [hr.out]) (by rw [hr.out]; rfl), hbl1⟩
      · obtain ⟨g, cap, rfl, _, hgl, hcc, hcm, htx⟩ := owned_texts hown hk0
        have H5 : Hid (Texts wr g ks) := htx
        have hout : Hid (Pth.out (ks.map fun s : ByteArray => s.data.toList) = Pth.flat (ks.map fun s : ByteArray => s.data.toList)) := (Pth.flat_jn _ (by simpa using hk0)).symm
        rw [hout.out] at hK
        have hne : Hid (Pth.flat (ks.map fun s : ByteArray => s.data.toList) ≠ []) := by show _ ≠ _; rw [← hout.out]; simp [Pth.out]
        clear hout htx hown hbl hk0
        unfold maxLen at hcm
        go_wp2
        go_loop [7, 56] (fun v i => ∃ (k : Nat) (ob : ByteArray), k ≤ ks.length ∧ i = .int .i64 k ∧ v = .string ob ∧ ob.size ≤ 301 * k ∧ Hid (ob.data.toList = Pth.flat ((ks.map fun s : ByteArray => s.data.toList).take k))) (fun _ i => ks.length - (intOf i).toNat)
        case atStart => exact ⟨0, ⟨#[]⟩, Nat.zero_le _, rfl, rfl, Nat.le_refl _, rfl⟩
        case round =>
          obtain ⟨q, ob, hq, rfl, rfl, hob, hof⟩ := hrel
          by_cases hlq : q < ks.length
          · have hcell := H5.out q hlq
            have hqs := hsm.out _ (List.getElem_mem hlq)
            have hn : Hid ((ob ++ ((⟨#[47]⟩ : ByteArray) ++ ks[q])).data.toList = Pth.flat ((ks.map fun s : ByteArray => s.data.toList).take (q + 1))) := by
              show _ = _
              rw [Pth.flat_take (by simpa using hlq), ← hof.out]; simp
            have hsz2 : (ob ++ ((⟨#[47]⟩ : ByteArray) ++ ks[q])).size ≤ 301 * (q + 1) := by
              rw [ByteArray.size_append, ByteArray.size_append]
              have : (⟨#[47]⟩ : ByteArray).size = 1 := rfl
              omega
            have hq301 : 301 * q ≤ 200000 := by omega
            clear hof
            generalize ks[q] = s at *
            go_wp2
            go_round
            case rel => exact ⟨q + 1, ob ++ ((⟨#[47]⟩ : ByteArray) ++ s), by omega, by go_num, rfl, hsz2, hn⟩
            case measure => simp [intOf]; omega
          · have hfull : ob.data.toList = Pth.flat (ks.map fun s : ByteArray => s.data.toList) := by
              have := hof.out
              rwa [List.take_of_length_le (by simp; omega)] at this
            rw [← hfull] at hK hne
            have he2 : (ob.toList == []) = false := by rw [tl_eq, beq_eq_false_iff_ne]; exact hne.out
            have hobl := Oct.len_eq ob
            clear hof hfull hne
            by_cases hbig : 40 < ob.size
            · have hr : Hid (Pth.clean p.data.toList = ([], 5)) := by show _ = _; rw [hK.out, if_pos (by omega)]
              clear hK hobl
              go_wp2
              try rw [Exit.noGoto_ret]
              go_ret2
              exact ⟨ret_se (by rw [hr.out]) (by rw [hr.out]; rfl), hbl1⟩
            · have hr : Hid (Pth.clean p.data.toList = (ob.data.toList, 0)) := by show _ = _; rw [hK.out, if_neg (by omega)]
              clear hK hobl
              go_wp2
              try rw [Exit.noGoto_ret]
              go_ret2
              exact ⟨ret_se (by rw [hr.out]) (by rw [hr.out]; rfl), hbl1⟩
end Go.Proofs.YtkbemfhdamdglaaDoor
