/-
  Walk of layer 4: Clean.
-/
import Derived.Test.YtkbemfhdamdglaaDoorJoinS
import Derived.Test.YtkbemfhdamdglaaDoorPat6
namespace Go.Proofs.YtkbemfhdamdglaaDoor
open Go.RowKit

namespace Pth
theorem run_take {L K : List Bs} {k : Nat} (hk : k < L.length) (h : run [] (L.take k) = some K) : run [] (L.take (k + 1)) = step K L[k] := by
  rw [List.take_succ_eq_append_getElem hk, run_append, h]
  show run K [L[k]] = _
  rw [run]
  cases step K L[k] <;> rfl
theorem run_fail {L K : List Bs} {k : Nat} (hk : k < L.length) (h : run [] (L.take k) = some K) (hs : step K L[k] = none) : run [] L = none := by
  have e := List.take_append_drop (k + 1) L
  rw [← e, run_append, run_take hk h, hs]; rfl
theorem step_skip {K : List Bs} {s : Bs} (h : s = [] ∨ s = [46]) : step K s = some K := by rw [step, if_pos h]
theorem step_up {K : List Bs} {s : Bs} (h : s = [46, 46]) : step K s = some K.dropLast := by
  rw [step, if_neg (by rw [h]; simp), if_pos h]
theorem step_bad {K : List Bs} {s : Bs} (h0 : s ≠ []) (h1 : s ≠ [46]) (h2 : s ≠ [46, 46]) (h : isPart s = false) : step K s = none := by
  rw [step, if_neg (by simp [h0, h1]), if_neg h2, if_neg (by simp [h])]
theorem lens_le : ∀ (l : List Bs) (m : Nat), (∀ x ∈ l, x.length ≤ m) → Lib.lens l ≤ l.length * m
  | [], _, _ => by simp [Lib.lens]
  | x :: l, m, h => by
    have ih := lens_le l m (fun y hy => h y (by simp [hy]))
    have h1 := h x (by simp)
    simp only [Lib.lens, List.map_cons, List.sum_cons, List.length_cons, Nat.add_mul, Nat.one_mul] at ih ⊢
    omega
theorem clean_long {p : Bs} (h : 300 < p.length) : clean p = ([], 5) := by rw [clean, if_pos h]
theorem clean_head {p : Bs} (h : p.length ≤ 300) (h2 : (p.head? == some 47) = false) : clean p = ([], 3) := by
  rw [clean, if_neg (by omega), if_neg (by simpa using h2)]
theorem clean_none {p : Bs} (h : p.length ≤ 300) (h2 : (p.head? == some 47) = true) (h3 : run [] (spl p.tail) = none) : clean p = ([], 3) := by
  rw [clean, if_neg (by omega), if_pos (by simpa using h2), h3]
theorem clean_some {p : Bs} {K : List Bs} (h : p.length ≤ 300) (h2 : (p.head? == some 47) = true) (h3 : run [] (spl p.tail) = some K) : clean p = if (out K).length > 40 then ([], 5) else (out K, 0) := by
  rw [clean, if_neg (by omega), if_pos (by simpa using h2), h3]
end Pth

/-- the shape of a row of the call's own -/
theorem owned_form {w : World} {B : Nat} {e : TypeId} {v : Value} {n : Nat} {xs : List Value} (h : w.ownsRow B e 1 v n xs) : ∃ (a : Option Addr) (cap : Nat), v = .slice a n cap ∧ n ≤ cap ∧ cap ≤ maxLen := by
  rcases h.2 with ⟨rfl, rfl⟩ | ⟨g, cap, cur, rfl, _, _, h1, h2, _⟩
  · exact ⟨none, 0, rfl, Nat.le_refl _, by unfold maxLen; omega⟩
  · exact ⟨_, cap, rfl, h1, h2⟩
/-- one less -/
theorem owned_less {w : World} {B : Nat} {e : TypeId} {g cap n : Nat} {xs : List Value} (h : w.ownsRow B e 1 (.slice (some ⟨g, 0, none⟩) (n + 1) cap) (n + 1) xs) : w.ownsRow B e 1 (.slice (some ⟨g, 0, none⟩) n cap) n xs.dropLast := by
  obtain ⟨h0, h⟩ := h
  refine ⟨by rw [List.length_dropLast, h0]; omega, ?_⟩
  rcases h with ⟨h, _⟩ | ⟨g', cap', cur, hv, hB, hb, h1, h2, h3, h4⟩
  · cases h
  · injection hv with e1 e2 e3
    injection e1 with e1
    injection e1 with e4 _ _
    subst e3; subst e4
    refine .inr ⟨g, cap, cur, rfl, hB, hb, by omega, h2, h3, ?_⟩
    rw [← h4, List.dropLast_eq_take, List.take_take, List.length_take, Array.length_toList, h3]
    congr 1
    omega

/-- strings.Join of a row of the call's own -/
theorem join_own (v : Value) (B : Nat) (xs : List ByteArray) (w : World) (h : w.ownsRow B 9 1 v xs.length (xs.map Value.string)) (hn : xs.length ≤ 100000) (hlen : Lib.lens (xs.map (·.data.toList)) ≤ 100000) :
    Calls Tryd.prog 25 #[v, .string ⟨#[47]⟩] w fun e w' => e = .returned (.string ⟨(Pth.jn (xs.map (·.data.toList))).toArray⟩) ∧ Below w.heap.size w w' := by
  by_cases h0 : xs = []
  · subst h0
    obtain ⟨a, cap, rfl, _, _⟩ := owned_form h
    exact (join_none a cap _ w).mono fun e w' ⟨he, hw⟩ => ⟨he, hw ▸ Below.refl _ _⟩
  · obtain ⟨g, cap, rfl, _, hg, hc, hm, ht⟩ := owned_texts h h0
    match xs, ht, h0 with
    | [], _, h0 => exact absurd rfl h0
    | [x], ht, _ => exact (join_one g cap x _ w (ht 0 (by simp))).mono fun e w' ⟨he, hw⟩ => ⟨he, hw ▸ Below.refl _ _⟩
    | x :: y :: r, ht, _ => exact join_many g cap (x :: y :: r) _ w ht hg (by simp) hn hc hm rfl hlen

set_option maxHeartbeats 4000000 in
theorem clean_any (p : ByteArray) (w : World) (hm : MaxIn w) (hs : p.size ≤ maxLen) :
    Calls Tryd.prog 15 #[.string p] w fun e w' => e = .returned (.tuple #[.string ⟨(Pth.clean p.data.toList).1.toArray⟩, .int .i64 ((Pth.clean p.data.toList).2 : Nat)]) ∧ Below w.heap.size w w' := by
  unfold maxLen at hs
  have hlen := Oct.len_eq p
  obtain ⟨i0, hi, hz0, hz1, hz2⟩ := info_parts infoStr
  by_cases hb : 300 < p.size
  case pos =>
    have hr : Hid (Pth.clean p.data.toList = ([], 5)) := Pth.clean_long (by omega)
    clear hm hlen hi hz0 hz1 hz2
    go_enter Tryd.func15, Tryd.ntmps15
    go_wp2
    go_step3
    go_wp2
    try rw [Exit.noGoto_ret]
    go_ret2
    exact ⟨ret_se (by rw [hr.out]) (by rw [hr.out]; rfl), Below.refl _ _⟩
  have HP : Hid (∀ w : World, Calls Tryd.prog 22 #[.string p, .string ⟨#[47]⟩] w fun e w' => e = .returned (.bool (p.data.toList.head? == some 47)) ∧ w' = w) := fun w => prefix_stroke p w
  cases hh : (p.data.toList.head? == some 47)
  case false =>
    rw [hh] at HP
    have hr : Hid (Pth.clean p.data.toList = ([], 3)) := Pth.clean_head (by omega) hh
    clear hm hlen hi hz0 hz1 hz2 hh
    go_enter Tryd.func15, Tryd.ntmps15
    go_wp2
    go_step3
    go_wp2_with (go_at_call 22; refine (HP.out _).mono ?_; rintro e w' ⟨rfl, rfl⟩)
    try rw [Exit.noGoto_ret]
    go_ret2
    exact ⟨ret_se (by rw [hr.out]) (by rw [hr.out]; rfl), Below.refl _ _⟩
  rw [hh] at HP
  have h1 : 1 ≤ p.size := by
    rw [← hlen]
    cases h : p.data.toList with
    | nil => rw [h] at hh; cases hh
    | cons c t => simp
  have HA : Hid (Calls Tryd.prog 23 #[.string p] w fun e w' => ∃ l : List ByteArray, e = .returned (.slice (some ⟨w.heap.size, 0, none⟩) l.length l.length) ∧ l.map (fun s : ByteArray => s.data.toList) = Pth.spl p.data.toList.tail ∧ Texts w' w.heap.size l ∧ Below w.heap.size w w' ∧ w.heap.size < w'.heap.size) := parts_any p w hm (by omega) h1
  have HN : Hid (Pth.run [] (Pth.spl p.data.toList.tail) = none → Pth.clean p.data.toList = ([], 3)) := Pth.clean_none (by omega) hh
  have HS : Hid (∀ K, Pth.run [] (Pth.spl p.data.toList.tail) = some K → Pth.clean p.data.toList = if (Pth.out K).length > 40 then ([], 5) else (Pth.out K, 0)) := fun K => Pth.clean_some (by omega) hh
  clear hh hm
  go_enter Tryd.func15, Tryd.ntmps15
  go_wp2
  go_step3
  go_wp2_with (go_at_call 22; refine (HP.out _).mono ?_; rintro e w' ⟨rfl, hw'⟩; obtain rfl := hw'.symm)
  go_step3
  go_wp2_with (go_at_call 23; refine HA.out.mono ?_)
  rintro e w1 ⟨l, rfl, h2, h3, h4, h5⟩
  have H2 : Hid (l.map (fun s : ByteArray => s.data.toList) = Pth.spl p.data.toList.tail) := h2
  have H3 : Hid (Texts w1 w.heap.size l) := h3
  have hll := part_count h2
  clear h2 h3 HA HP
  go_wp2
  go_loopw [4, 17] (fun v i wr => ∃ (k : Nat) (ks : List ByteArray), k ≤ l.length ∧ i = .int .i64 k ∧ ks.length ≤ k ∧ Hid (Pth.run [] ((l.map fun s : ByteArray => s.data.toList).take k) = some (ks.map fun s : ByteArray => s.data.toList)) ∧ Hid (∀ s ∈ ks, s.size ≤ p.size) ∧ wr.ownsRow w1.heap.size 9 1 v ks.length (ks.map Value.string) ∧ Below w1.heap.size w1 wr) (fun _ i _ => l.length - (intOf i).toNat)
  case atStart => exact ⟨0, [], Nat.zero_le _, rfl, Nat.le_refl _, rfl, (fun _ h => absurd h (by simp)), World.ownsRow_nil _ _ _ _, Below.refl _ _⟩
  case round =>
    obtain ⟨k, ks, hk, rfl, hkl, hrun, hsm, hown, hbl⟩ := hrel
    have hsz := hbl.size
    by_cases hlt : k < l.length
    · have hcell : wr.cell? ⟨w.heap.size, k, none⟩ = some (.string l[k]) := by rw [hbl.cell (p := ⟨w.heap.size, k, none⟩) h5]; exact H3.out k hlt
      have hps := part_size H2.out hlt
      have hT : Hid (Pth.run [] ((l.map fun s : ByteArray => s.data.toList).take (k + 1)) = Pth.step (ks.map fun s : ByteArray => s.data.toList) l[k].data.toList) := by
        show _ = _
        rw [Pth.run_take (by simpa using hlt) hrun.out]; simp
      have hF : Hid (Pth.step (ks.map fun s : ByteArray => s.data.toList) l[k].data.toList = none → Pth.clean p.data.toList = ([], 3)) := fun hst => HN.out (by
        rw [← H2.out]; exact Pth.run_fail (by simpa using hlt) hrun.out (by simpa using hst))
      have HI : Hid (∀ W : World, Calls Tryd.prog 24 #[.string l[k]] W fun e w' => e = .returned (.bool (Pth.isPart l[k].data.toList)) ∧ w' = W) := fun W => isPart_any l[k] W (by unfold maxLen; omega)
      clear hrun
      generalize l[k] = s at *
      cases g0 : (s.toList == [])
      case true =>
        have hn : Hid (Pth.run [] ((l.map fun s : ByteArray => s.data.toList).take (k + 1)) = some (ks.map fun s : ByteArray => s.data.toList)) := by
          show _ = _; rw [hT.out, Pth.step_skip (.inl (by rw [tl_eq, beq_iff_eq] at g0; exact g0))]
        clear hT hF HI
        go_wp2
        go_roundw
        case rel => exact ⟨k + 1, ks, by omega, by go_num, by omega, hn, hsm, hown, hbl⟩
        case measure => simp [intOf]; omega
      cases g1 : (s.toList == [46])
      case true =>
        have hn : Hid (Pth.run [] ((l.map fun s : ByteArray => s.data.toList).take (k + 1)) = some (ks.map fun s : ByteArray => s.data.toList)) := by
          show _ = _; rw [hT.out, Pth.step_skip (.inr (by rw [tl_eq, beq_iff_eq] at g1; exact g1))]
        clear hT hF HI
        go_wp2
        go_roundw
        case rel => exact ⟨k + 1, ks, by omega, by go_num, by omega, hn, hsm, hown, hbl⟩
        case measure => simp [intOf]; omega
      cases g2 : (s.toList == [46, 46])
      case true =>
        have hn : Hid (Pth.run [] ((l.map fun s : ByteArray => s.data.toList).take (k + 1)) = some (ks.dropLast.map fun s : ByteArray => s.data.toList)) := by
          show _ = _; rw [hT.out, Pth.step_up (by rw [tl_eq, beq_iff_eq] at g2; exact g2), List.map_dropLast]
        clear hT hF HI
        by_cases hk0 : ks = []
        · subst hk0
          obtain ⟨a, cap, rfl, _, _⟩ := owned_form hown
          go_wp2
          go_roundw
          case rel => exact ⟨k + 1, [], by omega, by go_num, by simp, hn, hsm, hown, hbl⟩
          case measure => simp [intOf]; omega
        · obtain ⟨g, cap, rfl, _, _, hcc, hcm, _⟩ := owned_texts hown hk0
          obtain ⟨n, hn1⟩ : ∃ n, ks.length = n + 1 := ⟨ks.length - 1, by have := List.length_pos_iff.2 hk0; omega⟩
          have hdl : ks.dropLast.length = n := by rw [List.length_dropLast, hn1]; rfl
          have hsm2 : Hid (∀ s ∈ ks.dropLast, s.size ≤ p.size) := fun s h => hsm.out s ((List.dropLast_sublist ks).subset h)
          rw [hn1] at hown hkl hcc ⊢
          have hown2 := owned_less hown
          rw [← List.map_dropLast, ← hdl] at hown2
          unfold maxLen at hcm
          clear hown hn1 hsm hk0
          go_wp2
          go_roundw
          case rel => exact ⟨k + 1, ks.dropLast, by omega, by go_num, by omega, hn, hsm2, by rw [hdl] at hown2 ⊢; exact hown2, hbl⟩
          case measure => simp [intOf]; omega
      cases g3 : Pth.isPart s.data.toList
      case false =>
        rw [g3] at HI
        have hr : Hid (Pth.clean p.data.toList = ([], 3)) := by
          rw [tl_eq, beq_eq_false_iff_ne] at g0 g1 g2
          exact hF.out (Pth.step_bad g0 g1 g2 g3)
        clear hT hF g3
        go_wp2_with (go_at_call 24; refine (HI.out _).mono ?_; rintro e w' ⟨rfl, rfl⟩)
        try rw [Exit.noGoto_ret]
        go_ret2
        exact ⟨ret_se (by rw [hr.out]) (by rw [hr.out]; rfl), h4.trans (hbl.mono (Nat.le_of_lt h5))⟩
      case true =>
        rw [g3] at HI
        have hn : Hid (Pth.run [] ((l.map fun s : ByteArray => s.data.toList).take (k + 1)) = some ((ks ++ [s]).map fun s : ByteArray => s.data.toList)) := by
          show _ = _; rw [hT.out, Pth.step_part g3, List.map_append]; rfl
        have hsm2 : Hid (∀ x ∈ ks ++ [s], x.size ≤ p.size) := fun x hx => by
          rcases List.mem_append.1 hx with hx | hx
          · exact hsm.out x hx
          · simp at hx; subst hx; exact hps
        clear hT hF g3 hsm
        go_wp2_with (first | (go_at_call 24; refine (HI.out _).mono ?_; rintro e w' ⟨rfl, hw'⟩; obtain rfl := hw'.symm) | (at_builtin; refine wpList_append_own _ rfl _ _ 30 rfl w1.heap.size 9 i0 (.string ByteArray.empty) 1 16 Tryd.underlying30 hi hz0 hz1 hz2 rfl (by decide) _ _ _ rfl (hown.alloc _) ⟨_, 0, none⟩ 1 1 [.string s] rfl rfl (news9 _ _) ?c2 ?c3 ?c4 ?c5 ?_))
        case c2 => intro u hu; simp at hu; subst hu; rfl
        case c3 => unfold maxLen; omega
        case c4 => omega
        case c5 => simp; omega
        intro v' w2 hown' hgrow _
        go_wp2
        go_roundw
        case rel => exact ⟨k + 1, ks ++ [s], by omega, by go_num, by simp; omega, hn, hsm2, by rw [List.map_append, List.length_append]; exact hown', below_own hbl hsz hgrow hown⟩
        case measure => simp [intOf]; omega
    · have hK : Hid (Pth.clean p.data.toList = if (Pth.out (ks.map fun s : ByteArray => s.data.toList)).length > 40 then ([], 5) else (Pth.out (ks.map fun s : ByteArray => s.data.toList), 0)) := HS.out _ (by
        have := hrun.out
        rw [List.take_of_length_le (by simp; omega), H2.out] at this
        exact this)
      have hlens : Lib.lens (ks.map fun s : ByteArray => s.data.toList) ≤ 100000 := by
        have := Pth.lens_le (ks.map fun s : ByteArray => s.data.toList) 300 (fun x hx => by
          obtain ⟨s, hs', rfl⟩ := List.mem_map.1 hx
          have := hsm.out s hs'
          rw [Oct.len_eq]; omega)
        rw [List.length_map] at this
        omega
      have HJ : Hid (Calls Tryd.prog 25 #[_, .string ⟨#[47]⟩] wr fun e w' => e = .returned (.string ⟨(Pth.jn (ks.map fun s : ByteArray => s.data.toList)).toArray⟩) ∧ Below wr.heap.size wr w') := join_own _ _ ks wr hown (by omega) hlens
      have hjl : (Pth.jn (ks.map fun s : ByteArray => s.data.toList)).length ≤ 200000 := by
        have := Pth.jn_take_le (ks.map fun s : ByteArray => s.data.toList) ks.length
        rw [List.take_of_length_le (by simp), List.length_map] at this
        omega
      have hout : Hid (Pth.out (ks.map fun s : ByteArray => s.data.toList) = 47 :: Pth.jn (ks.map fun s : ByteArray => s.data.toList)) := rfl
      generalize Pth.out (ks.map fun s : ByteArray => s.data.toList) = O at *
      generalize Pth.jn (ks.map fun s : ByteArray => s.data.toList) = J at *
      have hJ : (⟨J.toArray⟩ : ByteArray).size = J.length := by simp [ByteArray.size]
      have hO : Hid ((⟨#[47]⟩ : ByteArray) ++ ⟨J.toArray⟩ = ⟨O.toArray⟩) := by
        show _ = _; rw [hout.out]; apply ByteArray.ext; simp
      have hOl : O.length = J.length + 1 := by rw [hout.out]; rfl
      generalize (⟨J.toArray⟩ : ByteArray) = JB at *
      have hbl1 := h4.trans (hbl.mono (Nat.le_of_lt h5))
      clear hrun hsm hlens hout hown hbl
      by_cases hbig : 40 < O.length
      · have hr : Hid (Pth.clean p.data.toList = ([], 5)) := by show _ = _; rw [hK.out, if_pos hbig]
        have hsb : 40 < 1 + JB.size := by omega
        clear hK
        go_wp2_with (go_at_call 25; refine HJ.out.mono ?_)
        rintro e w3 ⟨rfl, hb3⟩
        go_wp2
        try rw [Exit.noGoto_ret]
        go_ret2
        exact ⟨ret_se (by rw [hr.out]) (by rw [hr.out]; rfl), hbl1.trans (hb3.mono hbl1.size)⟩
      · have hr : Hid (Pth.clean p.data.toList = (O, 0)) := by show _ = _; rw [hK.out, if_neg hbig]
        have hsb : ¬ 40 < 1 + JB.size := by omega
        clear hK
        go_wp2_with (go_at_call 25; refine HJ.out.mono ?_)
        rintro e w3 ⟨rfl, hb3⟩
        go_wp2
        try rw [Exit.noGoto_ret]
        go_ret2
        exact ⟨ret_se (by rw [hr.out, hO.out]) (by rw [hr.out]; rfl), hbl1.trans (hb3.mono hbl1.size)⟩
end Go.Proofs.YtkbemfhdamdglaaDoor
