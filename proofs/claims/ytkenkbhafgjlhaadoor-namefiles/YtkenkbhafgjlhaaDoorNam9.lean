/-
  Walk of layer 3: the document's ParseFile.
-/
import Derived.Test.YtkenkbhafgjlhaaDoorNam8
namespace Go.Proofs.YtkenkbhafgjlhaaDoor
open Go.RowKit

namespace Nam
theorem fk46 : fk ((46 : UInt8).toNat : Int) = false := by decide
theorem pfile_at (c : UInt8) (Y I : List UInt8) (hY : Y.all np = true) :
    pfile (c :: 46 :: (Y ++ 46 :: I)) = if fk (c.toNat : Int) = true ∧ system Y = true ∧ (pid I).2.2 = 0 then ((c.toNat : Int), Y, (pid I).1, (pid I).2.1, 0) else (0, [], 0, 0, 3) := by
  by_cases hc : np c = true
  · have p1 : pre (c :: 46 :: (Y ++ 46 :: I)) = [c] := pre_app (a := [c]) (by simp [hc])
    have p2 : post (c :: 46 :: (Y ++ 46 :: I)) = Y ++ 46 :: I := post_app (a := [c]) (by simp [hc])
    have p3 : pre (Y ++ 46 :: I) = Y := pre_app hY
    have p4 : post (Y ++ 46 :: I) = I := post_app hY
    by_cases h : fk (c.toNat : Int) = true ∧ system Y = true ∧ (pid I).2.2 = 0
    · rw [if_pos h, pfile_yes (by rw [p1, p2, p3, p4]; exact ⟨rfl, h⟩), p1, p2, p3, p4]; rfl
    · rw [if_neg h, pfile_no (by rw [p1, p2, p3, p4]; exact fun x => h x.2)]
  · have hx : c = 46 := by simpa [np] using hc
    subst hx
    have p1 : pre (46 :: 46 :: (Y ++ 46 :: I)) = [] := pre_app (a := []) rfl
    rw [if_neg (fun h => by have := h.1; rw [fk46] at this; cases this), pfile_no (by rw [p1]; exact fun x => absurd x.1 (by decide))]
theorem list_at (s : ByteArray) (k : Nat) (h : k < s.size) : s.data.toList.drop k = s[k] :: s.data.toList.drop (k + 1) :=
  List.drop_eq_getElem_cons (by rw [Oct.len_eq]; exact h)
theorem list_split (s : ByteArray) (k : Nat) (h2 : 2 ≤ k) (hlt : k < s.size) (h1 : s[1] = 46) (hk : s[k] = 46) :
    s.data.toList = s[0] :: 46 :: ((s.data.toList.drop 2).take (k - 2) ++ 46 :: s.data.toList.drop (k + 1)) := by
  have a0 := list_at s 0 (by omega)
  have a1 := list_at s 1 (by omega)
  have ak := list_at s k hlt
  rw [h1] at a1
  rw [hk] at ak
  have e : (s.data.toList.drop 2).take (k - 2) ++ s.data.toList.drop k = s.data.toList.drop 2 := by
    have hd : s.data.toList.drop k = (s.data.toList.drop 2).drop (k - 2) := by rw [List.drop_drop]; congr 1; omega
    rw [hd, List.take_append_drop]
  rw [← ak, e, ← a1]
  rw [List.drop_zero] at a0
  exact a0
theorem mid_np (s : ByteArray) (k : Nat) (h : k ≤ s.size) (hall : ∀ j (hj : j < s.size), 2 ≤ j → j < k → s[j] ≠ 46) : ((s.data.toList.drop 2).take (k - 2)).all np = true := by
  rw [List.all_eq_true]
  intro x hx
  obtain ⟨i, hi, rfl⟩ := List.mem_iff_getElem.1 hx
  rw [List.length_take, List.length_drop, Oct.len_eq] at hi
  have := hall (2 + i) (by omega) (by omega) (by omega)
  rw [List.getElem_take, List.getElem_drop]
  have e : s.data.toList[2 + i]'(by rw [Oct.len_eq]; omega) = s[2 + i]'(by omega) := rfl
  simp only [np, bne_iff_ne]
  rw [e]; exact this
theorem pfile_form {s : ByteArray} (h : ¬ (3 ≤ s.size ∧ ∀ h : 1 < s.size, s[1] = 46)) : pfile s.data.toList = (0, [], 0, 0, 3) := by
  rcases pfile_fail s.data.toList with h0 | h0
  · exfalso; apply h
    obtain ⟨_, hs, _, hl⟩ := file_pfile h0
    have hlen := Oct.len_eq s
    have h1 := (system_len hs).1
    generalize pfile s.data.toList = F at *
    constructor
    · rw [← hlen, ← hl]; unfold fileT sysT; simp; omega
    · intro h1
      have e : s.data.toList[1]'(by rw [Oct.len_eq]; exact h1) = s[1] := rfl
      rw [← e]
      have : s.data.toList[1]? = some 46 := by rw [← hl]; rfl
      rw [List.getElem?_eq_getElem (by rw [Oct.len_eq]; exact h1)] at this
      exact Option.some.inj this
  · exact h0
theorem pfile_nopoint {s : ByteArray} (hall : ∀ j (hj : j < s.size), 2 ≤ j → s[j] ≠ 46) : pfile s.data.toList = (0, [], 0, 0, 3) := by
  rcases pfile_fail s.data.toList with h0 | h0
  · exfalso
    obtain ⟨_, hs, _, hl⟩ := file_pfile h0
    have hlen := Oct.len_eq s
    generalize pfile s.data.toList = F at *
    have hq : s.data.toList[F.2.1.length + 2]? = some 46 := by
      rw [← hl]; unfold fileT sysT
      show (byteOf F.1 :: 46 :: (F.2.1 ++ 46 :: idT F.2.2.1 F.2.2.2.1))[F.2.1.length + 2]? = some 46
      simp
    obtain ⟨hj, he⟩ := List.getElem?_eq_some_iff.1 hq
    rw [hlen] at hj
    exact hall _ hj (by omega) he
  · exact h0
end Nam
theorem extract_mid (s : ByteArray) (k : Nat) : s.extract 2 k = ⟨((s.data.toList.drop 2).take (k - 2)).toArray⟩ := by
  apply ByteArray.ext; rw [ByteArray.data_extract]; apply Array.ext'
  rw [Array.toList_extract, List.extract_eq_take_drop]
theorem hz_of {w w1 : World} {a : Obj} (b1 : Below (w.alloc a).heap.size (w.alloc a) w1) : w.heap.size < w1.heap.size := by have := b1.size; simp at this; omega
theorem refKind_byte (c : UInt8) (w : World) : Calls Tryd.prog 36 #[.int .i64 (wrap64 (c.toNat : Int))] w fun e w' => e = .returned (.bool (Nam.fk (c.toNat : Int))) ∧ w' = w := by
  rw [wrap_byte]; exact refKind_any _ w
theorem refSystem_list (l : List UInt8) (w : World) (hl : l.length ≤ maxLen) :
    Calls Tryd.prog 12 #[.string ⟨l.toArray⟩] w fun e w' => e = .returned (.bool (Nam.system l)) ∧ w' = w :=
  refSystem_any ⟨l.toArray⟩ w hl
theorem refParseId_list (l : List UInt8) (w : World) (hl : l.length ≤ maxLen) :
    Calls Tryd.prog 18 #[.string ⟨l.toArray⟩] w fun e w' => e = .returned (.tuple #[.agg #[.int .i64 (Nam.pid l).1, .int .i64 (Nam.pid l).2.1], .int .i64 (Nam.pid l).2.2]) ∧ Below w.heap.size w w' :=
  refParseId_any ⟨l.toArray⟩ w hl

set_option maxRecDepth 100000 in
set_option maxHeartbeats 2000000 in
theorem refParseFile_any (s : ByteArray) (w : World) (hs : s.size ≤ maxLen) :
    Calls Tryd.prog 24 #[.string s] w fun e w' => e = .returned (.tuple #[.int .i64 (Nam.pfile s.data.toList).1, .string ⟨(Nam.pfile s.data.toList).2.1.toArray⟩, .agg #[.int .i64 (Nam.pfile s.data.toList).2.2.1, .int .i64 (Nam.pfile s.data.toList).2.2.2.1], .int .i64 (Nam.pfile s.data.toList).2.2.2.2]) ∧ Below w.heap.size w w' := by
  have hs' := hs
  unfold maxLen at hs
  have b0 := below_alloc1 w (.cells #[.int .i64 0, .int .i64 0] 28)
  have ENDNO : Hid (Nam.pfile s.data.toList = (0, [], 0, 0, 3) → Ending.returned (.tuple #[.int .i64 0, .string ⟨#[]⟩, .agg #[.int .i64 0, .int .i64 0], .int .i64 3]) = .returned (.tuple #[.int .i64 (Nam.pfile s.data.toList).1, .string ⟨(Nam.pfile s.data.toList).2.1.toArray⟩, .agg #[.int .i64 (Nam.pfile s.data.toList).2.2.1, .int .i64 (Nam.pfile s.data.toList).2.2.2.1], .int .i64 (Nam.pfile s.data.toList).2.2.2.2])) := fun h => by rw [h]
  by_cases h3 : s.size < 3
  · have hr : Hid (Nam.pfile s.data.toList = (0, [], 0, 0, 3)) := Nam.pfile_form (fun h => by omega)
    go_enter Tryd.func24, Tryd.ntmps24
    go_wp2
    go_step3
    go_wp2
    try rw [Exit.noGoto_ret]
    exact bodyPost_ret (v := .tuple #[.int .i64 0, .string ⟨#[]⟩, .agg #[.int .i64 0, .int .i64 0], .int .i64 3]) (by simp [results, Tryd.results24, go_sem]) rfl ⟨ENDNO.out hr.out, b0⟩
  · have hp1 : 1 < s.size := by omega
    by_cases h1 : s[1] = 46
    · have d1 : ((s[1].toNat : Int) != 46) = false := by rw [h1]; rfl
      have H1 : Hid (s[1] = 46) := h1
      clear h1
      go_enter Tryd.func24, Tryd.ntmps24
      go_wp2
      go_step3
      go_wp2
      go_step3
      go_wp2
      go_loop [6] (fun i => ∃ k : Nat, 2 ≤ k ∧ k ≤ s.size ∧ i = .int .i64 k ∧ Hid (∀ j (hj : j < s.size), 2 ≤ j → j < k → s[j] ≠ 46)) (fun i => s.size - (intOf i).toNat)
      case atStart => exact ⟨2, Nat.le_refl _, by omega, rfl, fun j hj h2 h3 => absurd h3 (by omega)⟩
      case round =>
        obtain ⟨k, hk2, hk, rfl, hall⟩ := hrel
        by_cases hlt : k < s.size
        · by_cases hc : s[k] = 46
          · have dc : ((s[k].toNat : Int) != 46) = false := by rw [hc]; rfl
            have he : ((k : Int) == (s.size : Int)) = false := by rw [beq_eq_false_iff_ne]; omega
            have he' : (k == s.size) = false := by rw [beq_eq_false_iff_ne]; omega
            have hsp := Nam.list_split s k hk2 hlt H1.out hc
            have hmid := Nam.mid_np s k hk hall.out
            have hpf : Nam.pfile s.data.toList = _ := (congrArg Nam.pfile hsp).trans (Nam.pfile_at _ _ _ hmid)
            have hp0 : 0 < s.size := by omega
            have HP : Hid (∀ w : World, Calls Tryd.prog 18 #[.string (s.extract (k + 1) s.size)] w fun e w' => e = .returned (.tuple #[.agg #[.int .i64 (Nam.pid (s.data.toList.drop (k + 1))).1, .int .i64 (Nam.pid (s.data.toList.drop (k + 1))).2.1], .int .i64 (Nam.pid (s.data.toList.drop (k + 1))).2.2]) ∧ Below w.heap.size w w') := fun w => by
              rw [extract_drop]; exact refParseId_list _ w (by rw [List.length_drop, Oct.len_eq]; unfold maxLen; omega)
            have HS : Hid (∀ w : World, Calls Tryd.prog 12 #[.string (s.extract 2 k)] w fun e w' => e = .returned (.bool (Nam.system ((s.data.toList.drop 2).take (k - 2)))) ∧ w' = w) := fun w => by
              rw [extract_mid]; exact refSystem_list _ w (by rw [List.length_take, List.length_drop, Oct.len_eq]; unfold maxLen; omega)
            have HK : Hid (∀ w : World, Calls Tryd.prog 36 #[.int .i64 (wrap64 (s[0].toNat : Int))] w fun e w' => e = .returned (.bool (Nam.fk (s[0].toNat : Int))) ∧ w' = w) := fun w => refKind_byte _ w
            have HW : Hid (wrap64 (s[0].toNat : Int) = (s[0].toNat : Int)) := wrap_byte _
            have HX : Hid (s.extract 2 k = ⟨((s.data.toList.drop 2).take (k - 2)).toArray⟩) := extract_mid s k
            have hpd := Nam.pid_fail (s.data.toList.drop (k + 1))
            generalize Nam.pid (s.data.toList.drop (k + 1)) = X at *
            obtain ⟨g, n, e⟩ := X
            dsimp only at HP hpf hpd
            clear hsp hmid hall hc
            have q1 : (2 : Int) ≤ (k : Int) := by omega
            have q2 : (k : Int) ≤ (s.size : Int) := by omega
            by_cases hez : e = 0
            · subst hez
              cases hkk : Nam.fk (s[0].toNat : Int) with
              | false =>
                have hr : Hid (Nam.pfile s.data.toList = (0, [], 0, 0, 3)) := by show _ = _; rw [hpf, if_neg (fun h => by have := h.1; rw [hkk] at this; cases this)]
                rw [hkk] at HK
                clear hpf hpd hkk
                go_wp2_with (go_at_call 18; refine (HP.out _).mono ?_; rintro e w1 ⟨rfl, b1⟩; obtain ⟨hc1, hf1⟩ := bcell b1; have hz1 : w.heap.size < w1.heap.size := hz_of b1)
                go_wp2_with (go_at_call 36; refine (HK.out _).mono ?_; rintro e w3 ⟨rfl, rfl⟩)
                try rw [Exit.noGoto_ret]
                obtain ⟨f0, f1, f2⟩ := two_cells (cells_z b1).1 (cells_z b1).2 (.int .i64 0) (.int .i64 0)
                have bb := ((b0.trans (b1.mono b0.size)).setCell (p := ⟨w.heap.size, 0, none⟩) (by simp) (.int .i64 0)).setCell (p := ⟨w.heap.size, 1, none⟩) (by simp) (.int .i64 0)
                exact bodyPost_ret (v := .tuple #[.int .i64 0, .string ⟨#[]⟩, .agg #[.int .i64 0, .int .i64 0], .int .i64 3]) (by simp [results, Tryd.results24, go_sem, f0, f1, hz1]) rfl ⟨ENDNO.out hr.out, bb.alloc bb.size _⟩
              | true =>
                rw [hkk] at HK
                cases hy : Nam.system ((s.data.toList.drop 2).take (k - 2)) with
                | false =>
                  have hr : Hid (Nam.pfile s.data.toList = (0, [], 0, 0, 3)) := by show _ = _; rw [hpf, if_neg (fun h => by have := h.2.1; rw [hy] at this; cases this)]
                  rw [hy] at HS
                  clear hpf hpd hkk hy
                  go_wp2_with (go_at_call 18; refine (HP.out _).mono ?_; rintro e w1 ⟨rfl, b1⟩; obtain ⟨hc1, hf1⟩ := bcell b1; have hz1 : w.heap.size < w1.heap.size := hz_of b1)
                  go_wp2_with (go_at_call 36; refine (HK.out _).mono ?_; rintro e w3 ⟨rfl, rfl⟩)
                  go_wp2_with (go_at_call 12; refine (HS.out _).mono ?_; rintro e w3 ⟨rfl, rfl⟩)
                  try rw [Exit.noGoto_ret]
                  obtain ⟨f0, f1, f2⟩ := two_cells (cells_z b1).1 (cells_z b1).2 (.int .i64 0) (.int .i64 0)
                  have bb := ((b0.trans (b1.mono b0.size)).setCell (p := ⟨w.heap.size, 0, none⟩) (by simp) (.int .i64 0)).setCell (p := ⟨w.heap.size, 1, none⟩) (by simp) (.int .i64 0)
                  exact bodyPost_ret (v := .tuple #[.int .i64 0, .string ⟨#[]⟩, .agg #[.int .i64 0, .int .i64 0], .int .i64 3]) (by simp [results, Tryd.results24, go_sem, f0, f1, hz1]) rfl ⟨ENDNO.out hr.out, bb.alloc bb.size _⟩
                | true =>
                  have hr : Hid (Nam.pfile s.data.toList = ((s[0].toNat : Int), (s.data.toList.drop 2).take (k - 2), g, n, 0)) := by show _ = _; rw [hpf, if_pos ⟨hkk, hy, rfl⟩]
                  rw [hy] at HS
                  clear hpf hpd hkk hy
                  go_wp2_with (go_at_call 18; refine (HP.out _).mono ?_; rintro e w1 ⟨rfl, b1⟩; obtain ⟨hc1, hf1⟩ := bcell b1; have hz1 : w.heap.size < w1.heap.size := hz_of b1)
                  go_wp2_with (go_at_call 36; refine (HK.out _).mono ?_; rintro e w3 ⟨rfl, rfl⟩)
                  go_wp2_with (go_at_call 12; refine (HS.out _).mono ?_; rintro e w3 ⟨rfl, rfl⟩)
                  go_region
                  go_wp2
                  try rw [Exit.noGoto_ret]
                  obtain ⟨f0, f1, f2⟩ := two_cells (cells_z b1).1 (cells_z b1).2 (.int .i64 g) (.int .i64 n)
                  have bb := ((b0.trans (b1.mono b0.size)).setCell (p := ⟨w.heap.size, 0, none⟩) (by simp) (.int .i64 g)).setCell (p := ⟨w.heap.size, 1, none⟩) (by simp) (.int .i64 n)
                  exact bodyPost_ret (v := .tuple #[.int .i64 (wrap64 (s[0].toNat : Int)), .string (s.extract 2 k), .agg #[.int .i64 g, .int .i64 n], .int .i64 0]) (by simp [results, Tryd.results24, go_sem, f0, f1, hz1]) rfl ⟨ret_file (by rw [hr.out, HW.out]) (by rw [hr.out, HX.out]) (by rw [hr.out]) (by rw [hr.out]) (by rw [hr.out]), (bb.alloc bb.size _).drew⟩
            · have hr : Hid (Nam.pfile s.data.toList = (0, [], 0, 0, 3)) := by show _ = _; rw [hpf, if_neg (fun h => hez h.2.2)]
              have hX : (g, n, e) = (0, 0, 3) := by rcases hpd with h | h; exact absurd h hez; exact h
              obtain ⟨rfl, rfl, rfl⟩ : g = 0 ∧ n = 0 ∧ e = 3 := by simpa using hX
              clear hpf hpd hez hX
              go_wp2_with (go_at_call 18; refine (HP.out _).mono ?_; rintro e w1 ⟨rfl, b1⟩; obtain ⟨hc1, hf1⟩ := bcell b1; have hz1 : w.heap.size < w1.heap.size := hz_of b1)
              go_wp2
              try rw [Exit.noGoto_ret]
              obtain ⟨f0, f1, f2⟩ := two_cells (cells_z b1).1 (cells_z b1).2 (.int .i64 0) (.int .i64 0)
              have bb := ((b0.trans (b1.mono b0.size)).setCell (p := ⟨w.heap.size, 0, none⟩) (by simp) (.int .i64 0)).setCell (p := ⟨w.heap.size, 1, none⟩) (by simp) (.int .i64 0)
              exact bodyPost_ret (v := .tuple #[.int .i64 0, .string ⟨#[]⟩, .agg #[.int .i64 0, .int .i64 0], .int .i64 3]) (by simp [results, Tryd.results24, go_sem, f0, f1, hz1]) rfl ⟨ENDNO.out hr.out, bb.alloc bb.size _⟩
          · have dc : ((s[k].toNat : Int) != 46) = true := by
              rw [bne_iff_ne]; intro h; exact hc (UInt8.toNat_inj.1 (by show s[k].toNat = 46; omega))
            have hn : Hid (∀ j (hj : j < s.size), 2 ≤ j → j < k + 1 → s[j] ≠ 46) := fun j hj h2 hjk => by
              by_cases e : j = k
              · subst e; exact hc
              · exact hall.out j hj h2 (by omega)
            clear hc
            go_wp2
            go_round
            case rel => exact ⟨k + 1, by omega, by omega, by go_num, hn⟩
            case measure => simp [intOf]; omega
        · obtain rfl : k = s.size := by omega
          have hr : Hid (Nam.pfile s.data.toList = (0, [], 0, 0, 3)) := Nam.pfile_nopoint (fun j hj h2 => hall.out j hj h2 hj)
          go_wp2
          try rw [Exit.noGoto_ret]
          exact bodyPost_ret (v := .tuple #[.int .i64 0, .string ⟨#[]⟩, .agg #[.int .i64 0, .int .i64 0], .int .i64 3]) (by simp [results, Tryd.results24, go_sem]) rfl ⟨ENDNO.out hr.out, b0⟩
    · have hr : Hid (Nam.pfile s.data.toList = (0, [], 0, 0, 3)) := Nam.pfile_form (fun h => h1 (h.2 hp1))
      have d1 : ((s[1].toNat : Int) != 46) = true := by
        rw [bne_iff_ne]; intro h; exact h1 (UInt8.toNat_inj.1 (by show s[1].toNat = 46; omega))
      clear h1
      go_enter Tryd.func24, Tryd.ntmps24
      go_wp2
      go_step3
      go_wp2
      try rw [Exit.noGoto_ret]
      exact bodyPost_ret (v := .tuple #[.int .i64 0, .string ⟨#[]⟩, .agg #[.int .i64 0, .int .i64 0], .int .i64 3]) (by simp [results, Tryd.results24, go_sem]) rfl ⟨ENDNO.out hr.out, b0⟩
end Go.Proofs.YtkenkbhafgjlhaaDoor
