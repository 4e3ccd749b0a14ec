/-
  Walks of layer 3: ParseFile. strings.Builder's copyCheck and WriteByte at this program (the shelf's own contracts do not fit: the panic of copyCheck is cut away here). After the shelf's forms '_k'. strings.Builder's WriteString and Grow, and strings.Join at a stroke, at this program (the shelf's own contracts do not fit: the panic of copyCheck is cut away here).
-/
import Derived.Test.YtmilfamjkiemaaaGreatDoorSzAH
import Derived.Test.YtmilfamjkiemaaaGreatDoorProg
import Derived.Shelf.Strings.BuilderK
import Derived.WalkKit
import Derived.Test.YtmilfamjkiemaaaGreatDoorSzAI
import Derived.Test.YtmilfamjkiemaaaGreatDoorShelf
import Derived.Shelf.Strings.Builder2
import Derived.Lib.Join
namespace Go.Proofs.YtmilfamjkiemaaaGreatDoor
open Go.RowKit

theorem cells_z {w W : World} (B : Below (w.alloc (.cells #[.int .i64 0, .int .i64 0] 31)).heap.size (w.alloc (.cells #[.int .i64 0, .int .i64 0] 31)) W) :
    W.cell? ⟨w.heap.size, 0, none⟩ = some (.int .i64 0) ∧ W.cell? ⟨w.heap.size, 1, none⟩ = some (.int .i64 0) := by
  have h : W.heap[w.heap.size]? = some (.cells #[.int .i64 0, .int .i64 0] 31) := by
    rw [B.block w.heap.size (by simp)]; exact (MapKept.heap_alloc w _).1
  exact ⟨by rw [Lib.cell_of_heap h 0]; rfl, by rw [Lib.cell_of_heap h 1]; rfl⟩
theorem cut_list (l : List UInt8) (w : World) (hl : l.length ≤ maxLen) :
    Calls Tryz.prog 126 #[.string ⟨l.toArray⟩] w fun e w' => e = .returned (.tuple #[.string ⟨(Nam.pre l).toArray⟩, .string ⟨(Nam.post l).toArray⟩]) ∧ Below w.heap.size w w' :=
  cut_any ⟨l.toArray⟩ w hl
theorem system_list (l : List UInt8) (w : World) (hl : l.length ≤ maxLen) :
    Calls Tryz.prog 67 #[.string ⟨l.toArray⟩] w fun e w' => e = .returned (.bool (Nam.system l)) ∧ w' = w :=
  system_any ⟨l.toArray⟩ w hl
theorem parseId_list (l : List UInt8) (w : World) (hl : l.length ≤ maxLen) :
    Calls Tryz.prog 127 #[.string ⟨l.toArray⟩] w fun e w' => e = .returned (.tuple #[.agg #[.int .i64 (Nam.pid l).1, .int .i64 (Nam.pid l).2.1], .int .i64 (Nam.pid l).2.2]) ∧ Below w.heap.size w w' :=
  parseId_any ⟨l.toArray⟩ w hl
theorem isFileKind_byte (c : UInt8) (w : World) : Calls Tryz.prog 66 #[.int .i64 (wrap64 (c.toNat : Int))] w fun e w' => e = .returned (.bool (Nam.fk (c.toNat : Int))) ∧ w' = w := by
  rw [wrap_byte]; exact isFileKind_any _ w
theorem ret_file {a a' g g' n n' e e' : Int} {s s' : ByteArray} (h1 : a = a') (h2 : s = s') (h3 : g = g') (h4 : n = n') (h5 : e = e') :
    Ending.returned (.tuple #[.int .i64 a, .string s, .agg #[.int .i64 g, .int .i64 n], .int .i64 e]) = .returned (.tuple #[.int .i64 a', .string s', .agg #[.int .i64 g', .int .i64 n'], .int .i64 e']) := by rw [h1, h2, h3, h4, h5]
namespace Nam
theorem pre_len (l : List UInt8) : (pre l).length ≤ l.length := (List.takeWhile_sublist np).length_le
theorem post_len (l : List UInt8) : (post l).length ≤ l.length := by
  unfold post
  rw [List.length_drop]
  have := (List.dropWhile_sublist np : (l.dropWhile np).Sublist l).length_le
  omega
theorem pfile_no {l : List UInt8} (h : ¬ ((pre l).length = 1 ∧ fk (((pre l).headD 0).toNat : Int) = true ∧ system (pre (post l)) = true ∧ (pid (post (post l))).2.2 = 0)) : pfile l = (0, [], 0, 0, 3) := by
  unfold pfile; rw [if_neg h]
theorem pfile_yes {l : List UInt8} (h : (pre l).length = 1 ∧ fk (((pre l).headD 0).toNat : Int) = true ∧ system (pre (post l)) = true ∧ (pid (post (post l))).2.2 = 0) : pfile l = ((((pre l).headD 0).toNat : Int), pre (post l), (pid (post (post l))).1, (pid (post (post l))).2.1, 0) := by
  unfold pfile; rw [if_pos h]
end Nam

set_option maxHeartbeats 1000000 in
theorem parseFile_any (s : ByteArray) (w : World) (hs : s.size ≤ maxLen) :
    Calls Tryz.prog 95 #[.string s] w fun e w' => e = .returned (.tuple #[.int .i64 (Nam.pfile s.data.toList).1, .string ⟨(Nam.pfile s.data.toList).2.1.toArray⟩, .agg #[.int .i64 (Nam.pfile s.data.toList).2.2.1, .int .i64 (Nam.pfile s.data.toList).2.2.2.1], .int .i64 (Nam.pfile s.data.toList).2.2.2.2]) ∧ Below w.heap.size w w' := by
  have hl : s.data.toList.length ≤ maxLen := by rw [Oct.len_eq]; exact hs
  have l1 := Nam.pre_len s.data.toList
  have l2 := Nam.post_len s.data.toList
  have l3 := Nam.pre_len (Nam.post s.data.toList)
  have l4 := Nam.post_len (Nam.post s.data.toList)
  have HC1 : Hid (∀ w : World, Calls Tryz.prog 126 #[.string s] w fun e w' => e = .returned (.tuple #[.string ⟨(Nam.pre s.data.toList).toArray⟩, .string ⟨(Nam.post s.data.toList).toArray⟩]) ∧ Below w.heap.size w w') := fun w => cut_any s w hs
  have HC2 : Hid (∀ w : World, Calls Tryz.prog 126 #[.string ⟨(Nam.post s.data.toList).toArray⟩] w fun e w' => e = .returned (.tuple #[.string ⟨(Nam.pre (Nam.post s.data.toList)).toArray⟩, .string ⟨(Nam.post (Nam.post s.data.toList)).toArray⟩]) ∧ Below w.heap.size w w') := fun w => cut_list _ w (by omega)
  have HS : Hid (∀ w : World, Calls Tryz.prog 67 #[.string ⟨(Nam.pre (Nam.post s.data.toList)).toArray⟩] w fun e w' => e = .returned (.bool (Nam.system (Nam.pre (Nam.post s.data.toList)))) ∧ w' = w) := fun w => system_list _ w (by omega)
  have HP : Hid (∀ w : World, Calls Tryz.prog 127 #[.string ⟨(Nam.post (Nam.post s.data.toList)).toArray⟩] w fun e w' => e = .returned (.tuple #[.agg #[.int .i64 (Nam.pid (Nam.post (Nam.post s.data.toList))).1, .int .i64 (Nam.pid (Nam.post (Nam.post s.data.toList))).2.1], .int .i64 (Nam.pid (Nam.post (Nam.post s.data.toList))).2.2]) ∧ Below w.heap.size w w') := fun w => parseId_list _ w (by omega)
  have hno := Nam.pfile_no (l := s.data.toList)
  have hyes := Nam.pfile_yes (l := s.data.toList)
  have hpf := Nam.pid_fail (Nam.post (Nam.post s.data.toList))
  have b0 := below_alloc1 w (.cells #[.int .i64 0, .int .i64 0] 31)
  generalize Nam.pfile s.data.toList = F at *
  generalize Nam.pid (Nam.post (Nam.post s.data.toList)) = X at *
  generalize Nam.post (Nam.post s.data.toList) = I at *
  generalize Nam.pre (Nam.post s.data.toList) = Y at *
  generalize Nam.post s.data.toList = R at *
  generalize Nam.pre s.data.toList = K at *
  have hmx : s.data.toList.length ≤ 9223372036854775807 := hl
  by_cases hK : K.length = 1
  · obtain ⟨c, rfl⟩ := List.length_eq_one_iff.1 hK
    have HK : Hid (∀ w : World, Calls Tryz.prog 66 #[.int .i64 (wrap64 (c.toNat : Int))] w fun e w' => e = .returned (.bool (Nam.fk (c.toNat : Int))) ∧ w' = w) := fun w => isFileKind_byte c w
    have hw : Hid (wrap64 (c.toNat : Int) = (c.toNat : Int)) := wrap_byte c
    cases hk : Nam.fk (c.toNat : Int) with
    | false =>
      have hF : F = (0, [], 0, 0, 3) := hno (fun h => by have := h.2.1; rw [show (([c] : List UInt8).headD 0) = c from rfl, hk] at this; cases this)
      subst hF
      rw [hk] at HK
      clear hno hyes hpf hK hs hl HS HP l1 l2 l3 l4 hmx hk
      go_enter Tryz.func95, Tryz.ntmps95
      go_wp2_with (go_at_call 126; refine (HC1.out _).mono ?_)
      rintro e w1 ⟨rfl, b1⟩
      obtain ⟨hc1, hf1⟩ := bcell b1
      have hz1 : w.heap.size < w1.heap.size := by have := b1.size; simp at this; omega
      go_wp2_with (go_at_call 126; refine (HC2.out _).mono ?_)
      rintro e w2 ⟨rfl, b2⟩
      have B2 := b1.trans (b2.mono b1.size)
      clear b2 hc1 hf1 hz1
      obtain ⟨hc2, hf2⟩ := bcell B2
      have hz2 : w.heap.size < w2.heap.size := by have := B2.size; simp at this; omega
      go_wp2_with (go_at_call 66; refine (HK.out _).mono ?_; rintro e w3 ⟨rfl, rfl⟩)
      obtain ⟨f0, f1, f2⟩ := two_cells (cells_z B2).1 (cells_z B2).2 (.int .i64 0) (.int .i64 0)
      exact bodyPost_ret (v := .tuple #[.int .i64 0, .string ⟨#[]⟩, .agg #[.int .i64 0, .int .i64 0], .int .i64 3]) (by simp [results, Tryz.results95, go_sem, f0, f1]) rfl ⟨rfl, ((b0.trans (B2.mono b0.size)).setCell (by simp) _).setCell (by simp) _⟩
    | true =>
      rw [hk] at HK
      cases hy : Nam.system Y with
      | false =>
        have hF : F = (0, [], 0, 0, 3) := hno (fun h => by have := h.2.2.1; rw [hy] at this; cases this)
        subst hF
        rw [hy] at HS
        clear hno hyes hpf hK hs hl HP l1 l2 l3 l4 hmx hk hy
        go_enter Tryz.func95, Tryz.ntmps95
        go_wp2_with (go_at_call 126; refine (HC1.out _).mono ?_)
        rintro e w1 ⟨rfl, b1⟩
        obtain ⟨hc1, hf1⟩ := bcell b1
        have hz1 : w.heap.size < w1.heap.size := by have := b1.size; simp at this; omega
        go_wp2_with (go_at_call 126; refine (HC2.out _).mono ?_)
        rintro e w2 ⟨rfl, b2⟩
        have B2 := b1.trans (b2.mono b1.size)
        clear b2 hc1 hf1 hz1
        obtain ⟨hc2, hf2⟩ := bcell B2
        have hz2 : w.heap.size < w2.heap.size := by have := B2.size; simp at this; omega
        go_wp2_with (go_at_call 66; refine (HK.out _).mono ?_; rintro e w3 ⟨rfl, rfl⟩)
        go_wp2_with (go_at_call 67; refine (HS.out _).mono ?_; rintro e w3 ⟨rfl, rfl⟩)
        obtain ⟨f0, f1, f2⟩ := two_cells (cells_z B2).1 (cells_z B2).2 (.int .i64 0) (.int .i64 0)
        exact bodyPost_ret (v := .tuple #[.int .i64 0, .string ⟨#[]⟩, .agg #[.int .i64 0, .int .i64 0], .int .i64 3]) (by simp [results, Tryz.results95, go_sem, f0, f1]) rfl ⟨rfl, ((b0.trans (B2.mono b0.size)).setCell (by simp) _).setCell (by simp) _⟩
      | true =>
        rw [hy] at HS
        obtain ⟨g, n, e⟩ := X
        dsimp only at HP hno hyes hpf
        by_cases he : e = 0
        · subst he
          have hF := hyes ⟨rfl, hk, hy, rfl⟩
          rw [show (([c] : List UInt8).headD 0) = c from rfl] at hF
          subst hF
          clear hno hyes hpf hK hs hl l1 l2 l3 l4 hmx hk hy
          go_enter Tryz.func95, Tryz.ntmps95
          go_wp2_with (go_at_call 126; refine (HC1.out _).mono ?_)
          rintro e w1 ⟨rfl, b1⟩
          obtain ⟨hc1, hf1⟩ := bcell b1
          have hz1 : w.heap.size < w1.heap.size := by have := b1.size; simp at this; omega
          go_wp2_with (go_at_call 126; refine (HC2.out _).mono ?_)
          rintro e w2 ⟨rfl, b2⟩
          have B2 := b1.trans (b2.mono b1.size)
          clear b2 hc1 hf1 hz1
          obtain ⟨hc2, hf2⟩ := bcell B2
          have hz2 : w.heap.size < w2.heap.size := by have := B2.size; simp at this; omega
          go_wp2_with (go_at_call 66; refine (HK.out _).mono ?_; rintro e w3 ⟨rfl, rfl⟩)
          go_wp2_with (go_at_call 67; refine (HS.out _).mono ?_; rintro e w3 ⟨rfl, rfl⟩)
          go_wp2_with (go_at_call 127; refine (HP.out _).mono ?_)
          rintro e w3 ⟨rfl, b3⟩
          have B3 := B2.trans (b3.mono B2.size)
          clear b3 hc2 hf2 hz2
          obtain ⟨hc3, hf3⟩ := bcell B3
          have hz3 : w.heap.size < w3.heap.size := by have := B3.size; simp at this; omega
          go_wp2
          go_region
          go_wp2
          obtain ⟨f0, f1, f2⟩ := two_cells (cells_z B3).1 (cells_z B3).2 (.int .i64 g) (.int .i64 n)
          have bb := ((b0.trans (B3.mono b0.size)).setCell (p := ⟨w.heap.size, 0, none⟩) (by simp) (.int .i64 g)).setCell (p := ⟨w.heap.size, 1, none⟩) (by simp) (.int .i64 n)
          have hw' : Hid (wrap64 (((⟨#[c]⟩ : ByteArray)[0]'(Nat.zero_lt_one)).toNat : Int) = (c.toNat : Int)) := hw.out
          exact bodyPost_ret (v := .tuple #[.int .i64 (wrap64 (((⟨#[c]⟩ : ByteArray)[0]'(Nat.zero_lt_one)).toNat : Int)), .string ⟨Y.toArray⟩, .agg #[.int .i64 g, .int .i64 n], .int .i64 0]) (by simp [results, Tryz.results95, go_sem, f0, f1, hz3]) rfl ⟨ret_file hw'.out rfl rfl rfl rfl, (bb.alloc bb.size _).drew⟩
        · have hX : (g, n, e) = (0, 0, 3) := by rcases hpf with h | h; exact absurd h he; exact h
          obtain ⟨rfl, rfl, rfl⟩ : g = 0 ∧ n = 0 ∧ e = 3 := by simpa using hX
          have hF : F = (0, [], 0, 0, 3) := hno (fun h => absurd h.2.2.2 (by decide))
          subst hF
          clear hno hyes hpf hK hs hl l1 l2 l3 l4 hmx hk hy he hX
          go_enter Tryz.func95, Tryz.ntmps95
          go_wp2_with (go_at_call 126; refine (HC1.out _).mono ?_)
          rintro e w1 ⟨rfl, b1⟩
          obtain ⟨hc1, hf1⟩ := bcell b1
          have hz1 : w.heap.size < w1.heap.size := by have := b1.size; simp at this; omega
          go_wp2_with (go_at_call 126; refine (HC2.out _).mono ?_)
          rintro e w2 ⟨rfl, b2⟩
          have B2 := b1.trans (b2.mono b1.size)
          clear b2 hc1 hf1 hz1
          obtain ⟨hc2, hf2⟩ := bcell B2
          have hz2 : w.heap.size < w2.heap.size := by have := B2.size; simp at this; omega
          go_wp2_with (go_at_call 66; refine (HK.out _).mono ?_; rintro e w3 ⟨rfl, rfl⟩)
          go_wp2_with (go_at_call 67; refine (HS.out _).mono ?_; rintro e w3 ⟨rfl, rfl⟩)
          go_wp2_with (go_at_call 127; refine (HP.out _).mono ?_)
          rintro e w3 ⟨rfl, b3⟩
          have B3 := B2.trans (b3.mono B2.size)
          clear b3 hc2 hf2 hz2
          obtain ⟨hc3, hf3⟩ := bcell B3
          have hz3 : w.heap.size < w3.heap.size := by have := B3.size; simp at this; omega
          go_wp2
          obtain ⟨f0, f1, f2⟩ := two_cells (cells_z B3).1 (cells_z B3).2 (.int .i64 0) (.int .i64 0)
          have bb := ((b0.trans (B3.mono b0.size)).setCell (p := ⟨w.heap.size, 0, none⟩) (by simp) (.int .i64 0)).setCell (p := ⟨w.heap.size, 1, none⟩) (by simp) (.int .i64 0)
          exact bodyPost_ret (v := .tuple #[.int .i64 0, .string ⟨#[]⟩, .agg #[.int .i64 0, .int .i64 0], .int .i64 3]) (by simp [results, Tryz.results95, go_sem, f0, f1, hz3]) rfl ⟨rfl, bb.alloc bb.size _⟩
  · have hF : F = (0, [], 0, 0, 3) := hno (fun h => hK h.1)
    have d1 : ((K.length : Int) != 1) = true := by rw [bne_iff_ne]; omega
    have d2 : (K.length != 1) = true := by rw [bne_iff_ne]; exact hK
    subst hF
    have hKl : K.length ≤ 9223372036854775807 := by omega
    clear hno hyes hpf hK hs hl HS HP l1 l2 l3 l4 hmx
    go_enter Tryz.func95, Tryz.ntmps95
    go_wp2_with (go_at_call 126; refine (HC1.out _).mono ?_)
    rintro e w1 ⟨rfl, b1⟩
    obtain ⟨hc1, hf1⟩ := bcell b1
    have hz1 : w.heap.size < w1.heap.size := by have := b1.size; simp at this; omega
    go_wp2_with (go_at_call 126; refine (HC2.out _).mono ?_)
    rintro e w2 ⟨rfl, b2⟩
    have B2 := b1.trans (b2.mono b1.size)
    clear b2 hc1 hf1 hz1
    obtain ⟨hc2, hf2⟩ := bcell B2
    have hz2 : w.heap.size < w2.heap.size := by have := B2.size; simp at this; omega
    go_wp2
    obtain ⟨f0, f1, f2⟩ := two_cells (cells_z B2).1 (cells_z B2).2 (.int .i64 0) (.int .i64 0)
    exact bodyPost_ret (v := .tuple #[.int .i64 0, .string ⟨#[]⟩, .agg #[.int .i64 0, .int .i64 0], .int .i64 3]) (by simp [results, Tryz.results95, go_sem, f0, f1]) rfl ⟨rfl, ((b0.trans (B2.mono b0.size)).setCell (by simp) _).setCell (by simp) _⟩
end Go.Proofs.YtmilfamjkiemaaaGreatDoor

namespace Go.Proofs.YtmilfamjkiemaaaGreatDoor
open Go.RowKit
namespace Bld
theorem sizeB : (Tryz.prog.info? 119).map (·.size) = some 2 := by kernel_rfl
theorem liesB : liesAt Tryz.prog Tryz.prog.depth 119 (2 / Tryz.prog.cellsOf 119) 0 119 1 = true := by kernel_rfl
theorem infoByte : (Tryz.prog.info? 5).map (fun i => (i.zero, i.size, i.bytes)) = some (some (.int .u8 0), 1, 1) := by kernel_rfl

set_option maxHeartbeats 1000000 in
set_option maxRecDepth 100000 in
theorem check_used (b : Nat) (w : World) (h0 : w.cell? ⟨b, 0, none⟩ = some (.pointer (some ⟨b, 0, none⟩))) :
    Calls Tryz.prog 136 #[.pointer (some ⟨b, 0, none⟩)] w fun e w' => e = .returned (.tuple #[]) ∧ w' = w := by
  obtain ⟨j, hj, _⟩ := Option.map_eq_some_iff.1 sizeB
  go_enter Tryz.func136, Tryz.ntmps136
  go_wp2
  rw [Lib.run_neq_ptr_same w _ Tryz.underlying117 hj]
  go_wp2
  go_end0
  exact ⟨rfl, rfl⟩

set_option maxHeartbeats 1000000 in
set_option maxRecDepth 100000 in
theorem check_fresh (b : Nat) (w : World) (h0 : w.cell? ⟨b, 0, none⟩ = some (.pointer none)) (hsh : w.shape? b = some (119, 2)) (hfz : w.frozen? ⟨b, 0, none⟩ = false) :
    Calls Tryz.prog 136 #[.pointer (some ⟨b, 0, none⟩)] w fun e w' => e = .returned (.tuple #[]) ∧ w' = w.setCell ⟨b, 0, none⟩ (.pointer (some ⟨b, 0, none⟩)) := by
  obtain ⟨j, hj, hjs⟩ := Option.map_eq_some_iff.1 sizeB
  go_enter Tryz.func136, Tryz.ntmps136
  go_wp2
  rw [Lib.run_to_unsafe w ⟨b, 0, none⟩ Tryz.underlying117 Tryz.underlying162 hj (by rw [hjs]; decide) hsh (Nat.zero_lt_succ 1)]
  simp only [Result.andThen]
  rw [Oper.upon_value]
  go_wp2
  rw [run_callFunc_extern Tryz.func165 (by kernel_rfl) (by kernel_rfl) (by kernel_rfl) (e := Extern.AbiNoEscape.same) (by kernel_rfl)]
  rw [Lib.run_noEscape]
  simp only [Result.andThen]
  rw [Oper.upon_value]
  go_wp2
  rw [Lib.run_from_unsafe w ⟨b, 0, none⟩ Tryz.underlying162 Tryz.underlying117 hj hsh liesB]
  simp only [Result.andThen]
  rw [Oper.upon_value]
  go_wp2
  go_end0
  exact ⟨rfl, rfl⟩

theorem check (B b : Nat) (bs : List Value) (w : World) (h : Lib.IsBuilderF 119 5 B b bs w) :
    Calls Tryz.prog 136 #[.pointer (some ⟨b, 0, none⟩)] w fun e w' => e = .returned (.tuple #[]) ∧ (Lib.BuilderAtF 119 5 B b (.pointer (some ⟨b, 0, none⟩)) bs w' ∧ Below B w w' ∧ Lib.OthersKept 5 (some b) w w') := by
  rcases h with h | h
  · refine (check_fresh b w h.cell0 h.shape h.frozen0).mono ?_
    rintro e w' ⟨rfl, rfl⟩
    exact ⟨rfl, h.used _, (Below.refl B w).setCell (p := ⟨b, 0, none⟩) h.1 _, (Lib.OthersKept.refl _ _ w).setCell ⟨b, 0, none⟩ rfl _⟩
  · refine (check_used b w h.cell0).mono ?_
    rintro e w' ⟨rfl, rfl⟩
    exact ⟨rfl, h, Below.refl B _, Lib.OthersKept.refl _ _ _⟩

end Bld
end Go.Proofs.YtmilfamjkiemaaaGreatDoor

namespace Go.Proofs.YtmilfamjkiemaaaGreatDoor
open Go.RowKit
namespace Bld
theorem neB5 : (119 : TypeId) ≠ 5 := by decide

set_option maxHeartbeats 2000000 in
set_option maxRecDepth 100000 in
theorem writeString (B b : Nat) (bs : List Value) (s : ByteArray) (w : World) (h : Lib.IsBuilderF 119 5 B b bs w) (hlen : bs.length + s.size ≤ 140737488355328) (hBw : B ≤ w.heap.size) :
    Calls Tryz.prog 104 #[.pointer (some ⟨b, 0, none⟩), .string s] w fun e w' => e = .returned (.tuple #[.int .i64 s.size, .nilIface]) ∧ (Lib.BuilderAtF 119 5 B b (.pointer (some ⟨b, 0, none⟩)) (bs ++ Lib.strCells s) w' ∧ Below B w w') := by
  obtain ⟨i0, hi, hz0, hz1, hz2⟩ := info_parts infoByte
  go_enter Tryz.func104, Tryz.ntmps104
  go_wp2_with (go_at_call 136; refine (check B b bs _ h).mono ?_)
  rintro e w1 ⟨rfl, h1, hb1, _⟩
  obtain ⟨hB, v, hbk, hown, hne⟩ := h1
  have c0 : w1.cell? ⟨b, 0, none⟩ = some (.pointer (some ⟨b, 0, none⟩)) := by rw [Lib.cell_of_heap hbk]; rfl
  have c1 : w1.cell? ⟨b, 1, none⟩ = some v := by rw [Lib.cell_of_heap hbk]; rfl
  go_wp2_with (at_builtin; refine Lib.wpList_append_own_stringF _ rfl _ _ 96 9 rfl B 5 i0 Tryz.underlying96 Tryz.underlying9 hi hz0 hz1 hz2 _ _ _ rfl hown s rfl ?c3 ?c4 ?c5 ?_)
  case c3 => unfold maxLen; omega
  case c4 => omega
  case c5 => have := hb1.size; omega
  intro v' w2 hown' hgrow _
  have hlt : b < w1.heap.size := by
    rcases Nat.lt_or_ge b w1.heap.size with h' | h'
    · exact h'
    · simp [Array.getElem?_eq_none h'] at hbk
  have hb2 : w2.heap[b]? = some (.cells #[.pointer (some ⟨b, 0, none⟩), v] 119 (0, 0)) := by
    rw [hgrow.block b hlt (fun e => hne e.symm)]
    exact hbk
  have d0 : w2.cell? ⟨b, 0, none⟩ = some (.pointer (some ⟨b, 0, none⟩)) := by rw [Lib.cell_of_heap hb2]; rfl
  have d1 : w2.cell? ⟨b, 1, none⟩ = some v := by rw [Lib.cell_of_heap hb2]; rfl
  have f1 : w2.frozen? ⟨b, 1, none⟩ = false := Lib.frozen_of_heap hb2 1
  obtain ⟨ao, n', cap, rfl⟩ : ∃ ao n' cap, v' = .slice ao n' cap := by
    rcases hown'.2 with ⟨hv, _⟩ | ⟨g, cap, cur, fz, hv, _⟩
    · exact ⟨_, _, _, hv⟩
    · exact ⟨_, _, _, hv⟩
  go_wp2
  go_ret2
  refine ⟨rfl, ?_, ?_⟩
  · exact Lib.BuilderAtF.put (T := 119) (e := 5) hB hb2 (bs' := bs ++ Lib.strCells s) (by simpa [Lib.strCells_length] using hown') neB5
  · exact (hb1.grown hgrow (by have := hb1.size; omega) (fun k hk => (hown.lt k hk).1)).setCell (p := ⟨b, 1, none⟩) hB _

set_option maxHeartbeats 2000000 in
set_option maxRecDepth 1000000 in
theorem grow (b n : Nat) (w : World) (hbk : w.heap[b]? = some (.cells #[.pointer none, .slice none 0 0] 119 (0, 0))) (hn : n ≤ 1000000) :
    Calls Tryz.prog 103 #[.pointer (some ⟨b, 0, none⟩), .int .i64 n] w fun e w' => e = .returned (.tuple #[]) ∧ (Lib.BuilderAtF 119 5 b b (.pointer (some ⟨b, 0, none⟩)) [] w' ∧ Below b w w') := by
  have hlt : b < w.heap.size := by
    rcases Nat.lt_or_ge b w.heap.size with h' | h'
    · exact h'
    · simp [Array.getElem?_eq_none h'] at hbk
  have hbk1 : (w.setCell ⟨b, 0, none⟩ (.pointer (some ⟨b, 0, none⟩))).heap[b]? = some (.cells #[.pointer (some ⟨b, 0, none⟩), .slice none 0 0] 119 (0, 0)) := by
    simp [World.setCell, Array.getElem?_modify, hbk]
  have hs1 : b ≤ (w.setCell ⟨b, 0, none⟩ (.pointer (some ⟨b, 0, none⟩))).drew.heap.size := by simpa [World.setCell, World.drew, -World.drew_eq] using Nat.le_of_lt hlt
  have hb1 : Below b w (w.setCell ⟨b, 0, none⟩ (.pointer (some ⟨b, 0, none⟩))) := (Below.refl b w).setCell (p := ⟨b, 0, none⟩) (Nat.le_refl _) _
  have c1 : (w.setCell ⟨b, 0, none⟩ (.pointer (some ⟨b, 0, none⟩))).cell? ⟨b, 1, none⟩ = some (.slice none 0 0) := by rw [Lib.cell_of_heap hbk1]; rfl
  have c1' : (w.setCell ⟨b, 0, none⟩ (.pointer (some ⟨b, 0, none⟩))).drew.cell? ⟨b, 1, none⟩ = some (.slice none 0 0) := c1
  have hU : Lib.BuilderAt 119 5 b b (.pointer (some ⟨b, 0, none⟩)) [] (w.setCell ⟨b, 0, none⟩ (.pointer (some ⟨b, 0, none⟩))) := ⟨Nat.le_refl _, .slice none 0 0, hbk1, World.ownsRow_nil _ _ _ _, by simp [Value.ownBlock]⟩
  go_enter Tryz.func103, Tryz.ntmps103
  go_wp2_with (go_at_call 136; refine (check_fresh b w (by rw [Lib.cell_of_heap hbk]; rfl) (by simp [World.shape?, hbk]) (Lib.frozen_of_heap hbk 0)).mono ?_; rintro e w' ⟨rfl, rfl⟩)
  have mixed : Tryz.prog.follows Departure.mixedOrders = true := by kernel_rfl
  go_region_o
  all_goals go_wp2_with (go_at_call 137; refine (Tryz.Builder_grow_fresh b b n (w.setCell ⟨b, 0, none⟩ (.pointer (some ⟨b, 0, none⟩))).drew (Nat.le_refl _) hbk1 hs1 (by omega)).mono ?_; rintro e w' ⟨rfl, h1, h2⟩)
  all_goals first
    | (go_end0; exact ⟨rfl, Lib.BuilderAtF.of h1, hb1.drew.trans h2⟩)
    | (go_end0; exact ⟨rfl, Lib.BuilderAtF.of hU.drew, hb1.drew⟩)
end Bld
end Go.Proofs.YtmilfamjkiemaaaGreatDoor
