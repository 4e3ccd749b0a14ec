/-
  Walks of layer 3: ParseFile.
-/
import Derived.Test.YtkenkbhafgjlhabDoorNam7
namespace Go.Proofs.YtkenkbhafgjlhabDoor
open Go.RowKit

theorem cells_z {w W : World} (B : Below (w.alloc (.cells #[.int .i64 0, .int .i64 0] 23)).heap.size (w.alloc (.cells #[.int .i64 0, .int .i64 0] 23)) W) :
    W.cell? ⟨w.heap.size, 0, none⟩ = some (.int .i64 0) ∧ W.cell? ⟨w.heap.size, 1, none⟩ = some (.int .i64 0) := by
  have h : W.heap[w.heap.size]? = some (.cells #[.int .i64 0, .int .i64 0] 23) := by
    rw [B.block w.heap.size (by simp)]; exact (MapKept.heap_alloc w _).1
  exact ⟨by rw [Lib.cell_of_heap h 0]; rfl, by rw [Lib.cell_of_heap h 1]; rfl⟩
theorem cut_list (l : List UInt8) (w : World) (hl : l.length ≤ maxLen) :
    Calls Tryd.prog 12 #[.string ⟨l.toArray⟩] w fun e w' => e = .returned (.tuple #[.string ⟨(Nam.pre l).toArray⟩, .string ⟨(Nam.post l).toArray⟩]) ∧ Below w.heap.size w w' :=
  cut_any ⟨l.toArray⟩ w hl
theorem system_list (l : List UInt8) (w : World) (hl : l.length ≤ maxLen) :
    Calls Tryd.prog 9 #[.string ⟨l.toArray⟩] w fun e w' => e = .returned (.bool (Nam.system l)) ∧ w' = w :=
  system_any ⟨l.toArray⟩ w hl
theorem parseId_list (l : List UInt8) (w : World) (hl : l.length ≤ maxLen) :
    Calls Tryd.prog 13 #[.string ⟨l.toArray⟩] w fun e w' => e = .returned (.tuple #[.agg #[.int .i64 (Nam.pid l).1, .int .i64 (Nam.pid l).2.1], .int .i64 (Nam.pid l).2.2]) ∧ Below w.heap.size w w' :=
  parseId_any ⟨l.toArray⟩ w hl
theorem isFileKind_byte (c : UInt8) (w : World) : Calls Tryd.prog 8 #[.int .i64 (wrap64 (c.toNat : Int))] w fun e w' => e = .returned (.bool (Nam.fk (c.toNat : Int))) ∧ w' = w := by
  rw [wrap_byte]; exact isFileKind_any _ w
theorem ret_file {a a' g g' n n' e e' : Int} {s s' : ByteArray} (h1 : a = a') (h2 : s = s') (h3 : g = g') (h4 : n = n') (h5 : e = e') :
    Ending.returned (.tuple #[.int .i64 a, .string s, .agg #[.int .i64 g, .int .i64 n], .int .i64 e]) = .returned (.tuple #[.int .i64 a', .string s', .agg #[.int .i64 g', .int .i64 n'], .int .i64 e']) := by rw [h1, h2, h3, h4, h5]
namespace Nam
theorem pre_len (l : List UInt8) : (pre l).length ≤ l.length := (List.takeWhile_sublist np).length_le
theorem post_len (l : List UInt8) : (post l).length ≤ l.length := by
  unfold post
  rw [List.length_drop]
  have := (List.dropWhile_sublist np : (l.dropWhile np).Sublist l).length_le
  omega
theorem pfile_no {l : List UInt8} (h : ¬ ((pre l).length = 1 ∧ fk (((pre l).headD 0).toNat : Int) = true ∧ system (pre (post l)) = true ∧ (pid (post (post l))).2.2 = 0)) : pfile l = (0, [], 0, 0, 3) := by
  unfold pfile; rw [if_neg h]
theorem pfile_yes {l : List UInt8} (h : (pre l).length = 1 ∧ fk (((pre l).headD 0).toNat : Int) = true ∧ system (pre (post l)) = true ∧ (pid (post (post l))).2.2 = 0) : pfile l = ((((pre l).headD 0).toNat : Int), pre (post l), (pid (post (post l))).1, (pid (post (post l))).2.1, 0) := by
  unfold pfile; rw [if_pos h]
end Nam

set_option maxHeartbeats 1000000 in
theorem parseFile_any (s : ByteArray) (w : World) (hs : s.size ≤ maxLen) :
    Calls Tryd.prog 7 #[.string s] w fun e w' => e = .returned (.tuple #[.int .i64 (Nam.pfile s.data.toList).1, .string ⟨(Nam.pfile s.data.toList).2.1.toArray⟩, .agg #[.int .i64 (Nam.pfile s.data.toList).2.2.1, .int .i64 (Nam.pfile s.data.toList).2.2.2.1], .int .i64 (Nam.pfile s.data.toList).2.2.2.2]) ∧ Below w.heap.size w w' := by
  have hl : s.data.toList.length ≤ maxLen := by rw [Oct.len_eq]; exact hs
  have l1 := Nam.pre_len s.data.toList
  have l2 := Nam.post_len s.data.toList
  have l3 := Nam.pre_len (Nam.post s.data.toList)
  have l4 := Nam.post_len (Nam.post s.data.toList)
  have HC1 : Hid (∀ w : World, Calls Tryd.prog 12 #[.string s] w fun e w' => e = .returned (.tuple #[.string ⟨(Nam.pre s.data.toList).toArray⟩, .string ⟨(Nam.post s.data.toList).toArray⟩]) ∧ Below w.heap.size w w') := fun w => cut_any s w hs
  have HC2 : Hid (∀ w : World, Calls Tryd.prog 12 #[.string ⟨(Nam.post s.data.toList).toArray⟩] w fun e w' => e = .returned (.tuple #[.string ⟨(Nam.pre (Nam.post s.data.toList)).toArray⟩, .string ⟨(Nam.post (Nam.post s.data.toList)).toArray⟩]) ∧ Below w.heap.size w w') := fun w => cut_list _ w (by omega)
  have HS : Hid (∀ w : World, Calls Tryd.prog 9 #[.string ⟨(Nam.pre (Nam.post s.data.toList)).toArray⟩] w fun e w' => e = .returned (.bool (Nam.system (Nam.pre (Nam.post s.data.toList)))) ∧ w' = w) := fun w => system_list _ w (by omega)
  have HP : Hid (∀ w : World, Calls Tryd.prog 13 #[.string ⟨(Nam.post (Nam.post s.data.toList)).toArray⟩] w fun e w' => e = .returned (.tuple #[.agg #[.int .i64 (Nam.pid (Nam.post (Nam.post s.data.toList))).1, .int .i64 (Nam.pid (Nam.post (Nam.post s.data.toList))).2.1], .int .i64 (Nam.pid (Nam.post (Nam.post s.data.toList))).2.2]) ∧ Below w.heap.size w w') := fun w => parseId_list _ w (by omega)
  have hno := Nam.pfile_no (l := s.data.toList)
  have hyes := Nam.pfile_yes (l := s.data.toList)
  have hpf := Nam.pid_fail (Nam.post (Nam.post s.data.toList))
  have b0 := below_alloc1 w (.cells #[.int .i64 0, .int .i64 0] 23)
  generalize Nam.pfile s.data.toList = F at *
  generalize Nam.pid (Nam.post (Nam.post s.data.toList)) = X at *
  generalize Nam.post (Nam.post s.data.toList) = I at *
  generalize Nam.pre (Nam.post s.data.toList) = Y at *
  generalize Nam.post s.data.toList = R at *
  generalize Nam.pre s.data.toList = K at *
  have hmx : s.data.toList.length ≤ 9223372036854775807 := hl
  by_cases hK : K.length = 1
  · obtain ⟨c, rfl⟩ := List.length_eq_one_iff.1 hK
    have HK : Hid (∀ w : World, Calls Tryd.prog 8 #[.int .i64 (wrap64 (c.toNat : Int))] w fun e w' => e = .returned (.bool (Nam.fk (c.toNat : Int))) ∧ w' = w) := fun w => isFileKind_byte c w
    have hw : Hid (wrap64 (c.toNat : Int) = (c.toNat : Int)) := wrap_byte c
    cases hk : Nam.fk (c.toNat : Int) with
    | false =>
      have hF : F = (0, [], 0, 0, 3) := hno (fun h => by have := h.2.1; rw [show (([c] : List UInt8).headD 0) = c from rfl, hk] at this; cases this)
      subst hF
      rw [hk] at HK
      clear hno hyes hpf hK hs hl HS HP l1 l2 l3 l4 hmx hk
      go_enter Tryd.func7, Tryd.ntmps7
      go_wp2_with (go_at_call 12; refine (HC1.out _).mono ?_)
      rintro e w1 ⟨rfl, b1⟩
      obtain ⟨hc1, hf1⟩ := bcell b1
      have hz1 : w.heap.size < w1.heap.size := by have := b1.size; simp at this; omega
      go_wp2_with (go_at_call 12; refine (HC2.out _).mono ?_)
      rintro e w2 ⟨rfl, b2⟩
      have B2 := b1.trans (b2.mono b1.size)
      clear b2 hc1 hf1 hz1
      obtain ⟨hc2, hf2⟩ := bcell B2
      have hz2 : w.heap.size < w2.heap.size := by have := B2.size; simp at this; omega
      go_wp2_with (go_at_call 8; refine (HK.out _).mono ?_; rintro e w3 ⟨rfl, rfl⟩)
      obtain ⟨f0, f1, f2⟩ := two_cells (cells_z B2).1 (cells_z B2).2 (.int .i64 0) (.int .i64 0)
      exact bodyPost_ret (v := .tuple #[.int .i64 0, .string ⟨#[]⟩, .agg #[.int .i64 0, .int .i64 0], .int .i64 3]) (by simp [results, Tryd.results7, go_sem, f0, f1]) rfl ⟨rfl, ((b0.trans (B2.mono b0.size)).setCell (by simp) _).setCell (by simp) _⟩
    | true =>
      rw [hk] at HK
      cases hy : Nam.system Y with
      | false =>
        have hF : F = (0, [], 0, 0, 3) := hno (fun h => by have := h.2.2.1; rw [hy] at this; cases this)
        subst hF
        rw [hy] at HS
        clear hno hyes hpf hK hs hl HP l1 l2 l3 l4 hmx hk hy
        go_enter Tryd.func7, Tryd.ntmps7
        go_wp2_with (go_at_call 12; refine (HC1.out _).mono ?_)
        rintro e w1 ⟨rfl, b1⟩
        obtain ⟨hc1, hf1⟩ := bcell b1
        have hz1 : w.heap.size < w1.heap.size := by have := b1.size; simp at this; omega
        go_wp2_with (go_at_call 12; refine (HC2.out _).mono ?_)
        rintro e w2 ⟨rfl, b2⟩
        have B2 := b1.trans (b2.mono b1.size)
        clear b2 hc1 hf1 hz1
        obtain ⟨hc2, hf2⟩ := bcell B2
        have hz2 : w.heap.size < w2.heap.size := by have := B2.size; simp at this; omega
        go_wp2_with (go_at_call 8; refine (HK.out _).mono ?_; rintro e w3 ⟨rfl, rfl⟩)
        go_wp2_with (go_at_call 9; refine (HS.out _).mono ?_; rintro e w3 ⟨rfl, rfl⟩)
        obtain ⟨f0, f1, f2⟩ := two_cells (cells_z B2).1 (cells_z B2).2 (.int .i64 0) (.int .i64 0)
        exact bodyPost_ret (v := .tuple #[.int .i64 0, .string ⟨#[]⟩, .agg #[.int .i64 0, .int .i64 0], .int .i64 3]) (by simp [results, Tryd.results7, go_sem, f0, f1]) rfl ⟨rfl, ((b0.trans (B2.mono b0.size)).setCell (by simp) _).setCell (by simp) _⟩
      | true =>
        rw [hy] at HS
        obtain ⟨g, n, e⟩ := X
        dsimp only at HP hno hyes hpf
        by_cases he : e = 0
        · subst he
          have hF := hyes ⟨rfl, hk, hy, rfl⟩
          rw [show (([c] : List UInt8).headD 0) = c from rfl] at hF
          subst hF
          clear hno hyes hpf hK hs hl l1 l2 l3 l4 hmx hk hy
          go_enter Tryd.func7, Tryd.ntmps7
          go_wp2_with (go_at_call 12; refine (HC1.out _).mono ?_)
          rintro e w1 ⟨rfl, b1⟩
          obtain ⟨hc1, hf1⟩ := bcell b1
          have hz1 : w.heap.size < w1.heap.size := by have := b1.size; simp at this; omega
          go_wp2_with (go_at_call 12; refine (HC2.out _).mono ?_)
          rintro e w2 ⟨rfl, b2⟩
          have B2 := b1.trans (b2.mono b1.size)
          clear b2 hc1 hf1 hz1
          obtain ⟨hc2, hf2⟩ := bcell B2
          have hz2 : w.heap.size < w2.heap.size := by have := B2.size; simp at this; omega
          go_wp2_with (go_at_call 8; refine (HK.out _).mono ?_; rintro e w3 ⟨rfl, rfl⟩)
          go_wp2_with (go_at_call 9; refine (HS.out _).mono ?_; rintro e w3 ⟨rfl, rfl⟩)
          go_wp2_with (go_at_call 13; refine (HP.out _).mono ?_)
          rintro e w3 ⟨rfl, b3⟩
          have B3 := B2.trans (b3.mono B2.size)
          clear b3 hc2 hf2 hz2
          obtain ⟨hc3, hf3⟩ := bcell B3
          have hz3 : w.heap.size < w3.heap.size := by have := B3.size; simp at this; omega
          go_wp2
          go_region
          go_wp2
          obtain ⟨f0, f1, f2⟩ := two_cells (cells_z B3).1 (cells_z B3).2 (.int .i64 g) (.int .i64 n)
          have bb := ((b0.trans (B3.mono b0.size)).setCell (p := ⟨w.heap.size, 0, none⟩) (by simp) (.int .i64 g)).setCell (p := ⟨w.heap.size, 1, none⟩) (by simp) (.int .i64 n)
          have hw' : Hid (wrap64 (((⟨#[c]⟩ : ByteArray)[0]'(Nat.zero_lt_one)).toNat : Int) = (c.toNat : Int)) := hw.out
          exact bodyPost_ret (v := .tuple #[.int .i64 (wrap64 (((⟨#[c]⟩ : ByteArray)[0]'(Nat.zero_lt_one)).toNat : Int)), .string ⟨Y.toArray⟩, .agg #[.int .i64 g, .int .i64 n], .int .i64 0]) (by simp [results, Tryd.results7, go_sem, f0, f1, hz3]) rfl ⟨ret_file hw'.out rfl rfl rfl rfl, (bb.alloc bb.size _).drew⟩
        · have hX : (g, n, e) = (0, 0, 3) := by rcases hpf with h | h; exact absurd h he; exact h
          obtain ⟨rfl, rfl, rfl⟩ : g = 0 ∧ n = 0 ∧ e = 3 := by simpa using hX
          have hF : F = (0, [], 0, 0, 3) := hno (fun h => absurd h.2.2.2 (by decide))
          subst hF
          clear hno hyes hpf hK hs hl l1 l2 l3 l4 hmx hk hy he hX
          go_enter Tryd.func7, Tryd.ntmps7
          go_wp2_with (go_at_call 12; refine (HC1.out _).mono ?_)
          rintro e w1 ⟨rfl, b1⟩
          obtain ⟨hc1, hf1⟩ := bcell b1
          have hz1 : w.heap.size < w1.heap.size := by have := b1.size; simp at this; omega
          go_wp2_with (go_at_call 12; refine (HC2.out _).mono ?_)
          rintro e w2 ⟨rfl, b2⟩
          have B2 := b1.trans (b2.mono b1.size)
          clear b2 hc1 hf1 hz1
          obtain ⟨hc2, hf2⟩ := bcell B2
          have hz2 : w.heap.size < w2.heap.size := by have := B2.size; simp at this; omega
          go_wp2_with (go_at_call 8; refine (HK.out _).mono ?_; rintro e w3 ⟨rfl, rfl⟩)
          go_wp2_with (go_at_call 9; refine (HS.out _).mono ?_; rintro e w3 ⟨rfl, rfl⟩)
          go_wp2_with (go_at_call 13; refine (HP.out _).mono ?_)
          rintro e w3 ⟨rfl, b3⟩
          have B3 := B2.trans (b3.mono B2.size)
          clear b3 hc2 hf2 hz2
          obtain ⟨hc3, hf3⟩ := bcell B3
          have hz3 : w.heap.size < w3.heap.size := by have := B3.size; simp at this; omega
          go_wp2
          obtain ⟨f0, f1, f2⟩ := two_cells (cells_z B3).1 (cells_z B3).2 (.int .i64 0) (.int .i64 0)
          have bb := ((b0.trans (B3.mono b0.size)).setCell (p := ⟨w.heap.size, 0, none⟩) (by simp) (.int .i64 0)).setCell (p := ⟨w.heap.size, 1, none⟩) (by simp) (.int .i64 0)
          exact bodyPost_ret (v := .tuple #[.int .i64 0, .string ⟨#[]⟩, .agg #[.int .i64 0, .int .i64 0], .int .i64 3]) (by simp [results, Tryd.results7, go_sem, f0, f1, hz3]) rfl ⟨rfl, bb.alloc bb.size _⟩
  · have hF : F = (0, [], 0, 0, 3) := hno (fun h => hK h.1)
    have d1 : ((K.length : Int) != 1) = true := by rw [bne_iff_ne]; omega
    have d2 : (K.length != 1) = true := by rw [bne_iff_ne]; exact hK
    subst hF
    have hKl : K.length ≤ 9223372036854775807 := by omega
    clear hno hyes hpf hK hs hl HS HP l1 l2 l3 l4 hmx
    go_enter Tryd.func7, Tryd.ntmps7
    go_wp2_with (go_at_call 12; refine (HC1.out _).mono ?_)
    rintro e w1 ⟨rfl, b1⟩
    obtain ⟨hc1, hf1⟩ := bcell b1
    have hz1 : w.heap.size < w1.heap.size := by have := b1.size; simp at this; omega
    go_wp2_with (go_at_call 12; refine (HC2.out _).mono ?_)
    rintro e w2 ⟨rfl, b2⟩
    have B2 := b1.trans (b2.mono b1.size)
    clear b2 hc1 hf1 hz1
    obtain ⟨hc2, hf2⟩ := bcell B2
    have hz2 : w.heap.size < w2.heap.size := by have := B2.size; simp at this; omega
    go_wp2
    obtain ⟨f0, f1, f2⟩ := two_cells (cells_z B2).1 (cells_z B2).2 (.int .i64 0) (.int .i64 0)
    exact bodyPost_ret (v := .tuple #[.int .i64 0, .string ⟨#[]⟩, .agg #[.int .i64 0, .int .i64 0], .int .i64 3]) (by simp [results, Tryd.results7, go_sem, f0, f1]) rfl ⟨rfl, ((b0.trans (B2.mono b0.size)).setCell (by simp) _).setCell (by simp) _⟩
end Go.Proofs.YtkenkbhafgjlhabDoor
