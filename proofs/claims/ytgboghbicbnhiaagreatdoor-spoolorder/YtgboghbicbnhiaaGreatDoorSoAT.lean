/-
  strings.Builder's copyCheck and WriteByte at this program (the shelf's own contracts do not fit: the panic of copyCheck is cut away here). After the shelf's forms '_k'. strings.Builder's WriteString and Grow, and strings.Join at a stroke, at this program (the shelf's own contracts do not fit: the panic of copyCheck is cut away here). strings.Join at this program, where what stands between is one stroke. Walks of layer 5: Text.
-/
import Derived.Test.YtgboghbicbnhiaaGreatDoorProg
import Derived.Shelf.Strings.BuilderK
import Derived.WalkKit
import Derived.Test.YtgboghbicbnhiaaGreatDoorSoAI
import Derived.Test.YtgboghbicbnhiaaGreatDoorShelf
import Derived.Shelf.Strings.Builder2
import Derived.Lib.Join
import Derived.Test.YtgboghbicbnhiaaGreatDoorSoAD
import Derived.Test.YtgboghbicbnhiaaGreatDoorSoAJ
import Derived.Deep.RegionHeld3
import Derived.Deep.DeepCutAuto
namespace Go.Proofs.YtgboghbicbnhiaaGreatDoor
open Go.RowKit
namespace Bld
theorem sizeB : (Tryz.prog.info? 119).map (·.size) = some 2 := by kernel_rfl
theorem liesB : liesAt Tryz.prog Tryz.prog.depth 119 (2 / Tryz.prog.cellsOf 119) 0 119 1 = true := by kernel_rfl
theorem infoByte : (Tryz.prog.info? 5).map (fun i => (i.zero, i.size, i.bytes)) = some (some (.int .u8 0), 1, 1) := by kernel_rfl

set_option maxHeartbeats 1000000 in
set_option maxRecDepth 100000 in
theorem check_used (b : Nat) (w : World) (h0 : w.cell? ⟨b, 0, none⟩ = some (.pointer (some ⟨b, 0, none⟩))) :
    Calls Tryz.prog 136 #[.pointer (some ⟨b, 0, none⟩)] w fun e w' => e = .returned (.tuple #[]) ∧ w' = w := by
  obtain ⟨j, hj, _⟩ := Option.map_eq_some_iff.1 sizeB
  go_enter Tryz.func136, Tryz.ntmps136
  go_wp2
  rw [Lib.run_neq_ptr_same w _ Tryz.underlying117 hj]
  go_wp2
  go_end0
  exact ⟨rfl, rfl⟩

set_option maxHeartbeats 1000000 in
set_option maxRecDepth 100000 in
theorem check_fresh (b : Nat) (w : World) (h0 : w.cell? ⟨b, 0, none⟩ = some (.pointer none)) (hsh : w.shape? b = some (119, 2)) (hfz : w.frozen? ⟨b, 0, none⟩ = false) :
    Calls Tryz.prog 136 #[.pointer (some ⟨b, 0, none⟩)] w fun e w' => e = .returned (.tuple #[]) ∧ w' = w.setCell ⟨b, 0, none⟩ (.pointer (some ⟨b, 0, none⟩)) := by
  obtain ⟨j, hj, hjs⟩ := Option.map_eq_some_iff.1 sizeB
  go_enter Tryz.func136, Tryz.ntmps136
  go_wp2
  rw [Lib.run_to_unsafe w ⟨b, 0, none⟩ Tryz.underlying117 Tryz.underlying162 hj (by rw [hjs]; decide) hsh (Nat.zero_lt_succ 1)]
  simp only [Result.andThen]
  rw [Oper.upon_value]
  go_wp2
  rw [run_callFunc_extern Tryz.func165 (by kernel_rfl) (by kernel_rfl) (by kernel_rfl) (e := Extern.AbiNoEscape.same) (by kernel_rfl)]
  rw [Lib.run_noEscape]
  simp only [Result.andThen]
  rw [Oper.upon_value]
  go_wp2
  rw [Lib.run_from_unsafe w ⟨b, 0, none⟩ Tryz.underlying162 Tryz.underlying117 hj hsh liesB]
  simp only [Result.andThen]
  rw [Oper.upon_value]
  go_wp2
  go_end0
  exact ⟨rfl, rfl⟩

theorem check (B b : Nat) (bs : List Value) (w : World) (h : Lib.IsBuilderF 119 5 B b bs w) :
    Calls Tryz.prog 136 #[.pointer (some ⟨b, 0, none⟩)] w fun e w' => e = .returned (.tuple #[]) ∧ (Lib.BuilderAtF 119 5 B b (.pointer (some ⟨b, 0, none⟩)) bs w' ∧ Below B w w' ∧ Lib.OthersKept 5 (some b) w w') := by
  rcases h with h | h
  · refine (check_fresh b w h.cell0 h.shape h.frozen0).mono ?_
    rintro e w' ⟨rfl, rfl⟩
    exact ⟨rfl, h.used _, (Below.refl B w).setCell (p := ⟨b, 0, none⟩) h.1 _, (Lib.OthersKept.refl _ _ w).setCell ⟨b, 0, none⟩ rfl _⟩
  · refine (check_used b w h.cell0).mono ?_
    rintro e w' ⟨rfl, rfl⟩
    exact ⟨rfl, h, Below.refl B _, Lib.OthersKept.refl _ _ _⟩

end Bld
end Go.Proofs.YtgboghbicbnhiaaGreatDoor

namespace Go.Proofs.YtgboghbicbnhiaaGreatDoor
open Go.RowKit
namespace Bld
theorem neB5 : (119 : TypeId) ≠ 5 := by decide

set_option maxHeartbeats 2000000 in
set_option maxRecDepth 100000 in
theorem writeString (B b : Nat) (bs : List Value) (s : ByteArray) (w : World) (h : Lib.IsBuilderF 119 5 B b bs w) (hlen : bs.length + s.size ≤ 140737488355328) (hBw : B ≤ w.heap.size) :
    Calls Tryz.prog 104 #[.pointer (some ⟨b, 0, none⟩), .string s] w fun e w' => e = .returned (.tuple #[.int .i64 s.size, .nilIface]) ∧ (Lib.BuilderAtF 119 5 B b (.pointer (some ⟨b, 0, none⟩)) (bs ++ Lib.strCells s) w' ∧ Below B w w') := by
  obtain ⟨i0, hi, hz0, hz1, hz2⟩ := info_parts infoByte
  go_enter Tryz.func104, Tryz.ntmps104
  go_wp2_with (go_at_call 136; refine (check B b bs _ h).mono ?_)
  rintro e w1 ⟨rfl, h1, hb1, _⟩
  obtain ⟨hB, v, hbk, hown, hne⟩ := h1
  have c0 : w1.cell? ⟨b, 0, none⟩ = some (.pointer (some ⟨b, 0, none⟩)) := by rw [Lib.cell_of_heap hbk]; rfl
  have c1 : w1.cell? ⟨b, 1, none⟩ = some v := by rw [Lib.cell_of_heap hbk]; rfl
  go_wp2_with (at_builtin; refine Lib.wpList_append_own_stringF _ rfl _ _ 96 9 rfl B 5 i0 Tryz.underlying96 Tryz.underlying9 hi hz0 hz1 hz2 _ _ _ rfl hown s rfl ?c3 ?c4 ?c5 ?_)
  case c3 => unfold maxLen; omega
  case c4 => omega
  case c5 => have := hb1.size; omega
  intro v' w2 hown' hgrow _
  have hlt : b < w1.heap.size := by
    rcases Nat.lt_or_ge b w1.heap.size with h' | h'
    · exact h'
    · simp [Array.getElem?_eq_none h'] at hbk
  have hb2 : w2.heap[b]? = some (.cells #[.pointer (some ⟨b, 0, none⟩), v] 119 (0, 0)) := by
    rw [hgrow.block b hlt (fun e => hne e.symm)]
    exact hbk
  have d0 : w2.cell? ⟨b, 0, none⟩ = some (.pointer (some ⟨b, 0, none⟩)) := by rw [Lib.cell_of_heap hb2]; rfl
  have d1 : w2.cell? ⟨b, 1, none⟩ = some v := by rw [Lib.cell_of_heap hb2]; rfl
  have f1 : w2.frozen? ⟨b, 1, none⟩ = false := Lib.frozen_of_heap hb2 1
  obtain ⟨ao, n', cap, rfl⟩ : ∃ ao n' cap, v' = .slice ao n' cap := by
    rcases hown'.2 with ⟨hv, _⟩ | ⟨g, cap, cur, fz, hv, _⟩
    · exact ⟨_, _, _, hv⟩
    · exact ⟨_, _, _, hv⟩
  go_wp2
  go_ret2
  refine ⟨rfl, ?_, ?_⟩
  · exact Lib.BuilderAtF.put (T := 119) (e := 5) hB hb2 (bs' := bs ++ Lib.strCells s) (by simpa [Lib.strCells_length] using hown') neB5
  · exact (hb1.grown hgrow (by have := hb1.size; omega) (fun k hk => (hown.lt k hk).1)).setCell (p := ⟨b, 1, none⟩) hB _

set_option maxHeartbeats 2000000 in
set_option maxRecDepth 1000000 in
theorem grow (b n : Nat) (w : World) (hbk : w.heap[b]? = some (.cells #[.pointer none, .slice none 0 0] 119 (0, 0))) (hn : n ≤ 1000000) :
    Calls Tryz.prog 103 #[.pointer (some ⟨b, 0, none⟩), .int .i64 n] w fun e w' => e = .returned (.tuple #[]) ∧ (Lib.BuilderAtF 119 5 b b (.pointer (some ⟨b, 0, none⟩)) [] w' ∧ Below b w w') := by
  have hlt : b < w.heap.size := by
    rcases Nat.lt_or_ge b w.heap.size with h' | h'
    · exact h'
    · simp [Array.getElem?_eq_none h'] at hbk
  have hbk1 : (w.setCell ⟨b, 0, none⟩ (.pointer (some ⟨b, 0, none⟩))).heap[b]? = some (.cells #[.pointer (some ⟨b, 0, none⟩), .slice none 0 0] 119 (0, 0)) := by
    simp [World.setCell, Array.getElem?_modify, hbk]
  have hs1 : b ≤ (w.setCell ⟨b, 0, none⟩ (.pointer (some ⟨b, 0, none⟩))).drew.heap.size := by simpa [World.setCell, World.drew, -World.drew_eq] using Nat.le_of_lt hlt
  have hb1 : Below b w (w.setCell ⟨b, 0, none⟩ (.pointer (some ⟨b, 0, none⟩))) := (Below.refl b w).setCell (p := ⟨b, 0, none⟩) (Nat.le_refl _) _
  have c1 : (w.setCell ⟨b, 0, none⟩ (.pointer (some ⟨b, 0, none⟩))).cell? ⟨b, 1, none⟩ = some (.slice none 0 0) := by rw [Lib.cell_of_heap hbk1]; rfl
  have c1' : (w.setCell ⟨b, 0, none⟩ (.pointer (some ⟨b, 0, none⟩))).drew.cell? ⟨b, 1, none⟩ = some (.slice none 0 0) := c1
  have hU : Lib.BuilderAt 119 5 b b (.pointer (some ⟨b, 0, none⟩)) [] (w.setCell ⟨b, 0, none⟩ (.pointer (some ⟨b, 0, none⟩))) := ⟨Nat.le_refl _, .slice none 0 0, hbk1, World.ownsRow_nil _ _ _ _, by simp [Value.ownBlock]⟩
  go_enter Tryz.func103, Tryz.ntmps103
  go_wp2_with (go_at_call 136; refine (check_fresh b w (by rw [Lib.cell_of_heap hbk]; rfl) (by simp [World.shape?, hbk]) (Lib.frozen_of_heap hbk 0)).mono ?_; rintro e w' ⟨rfl, rfl⟩)
  have mixed : Tryz.prog.follows Departure.mixedOrders = true := by kernel_rfl
  go_region_o
  all_goals go_wp2_with (go_at_call 137; refine (Tryz.Builder_grow_fresh b b n (w.setCell ⟨b, 0, none⟩ (.pointer (some ⟨b, 0, none⟩))).drew (Nat.le_refl _) hbk1 hs1 (by omega)).mono ?_; rintro e w' ⟨rfl, h1, h2⟩)
  all_goals first
    | (go_end0; exact ⟨rfl, Lib.BuilderAtF.of h1, hb1.drew.trans h2⟩)
    | (go_end0; exact ⟨rfl, Lib.BuilderAtF.of hU.drew, hb1.drew⟩)
end Bld
end Go.Proofs.YtgboghbicbnhiaaGreatDoor

namespace Go.Proofs.YtgboghbicbnhiaaGreatDoor
open Go.RowKit


set_option maxHeartbeats 4000000 in
set_option maxRecDepth 100000 in
theorem join_many (b c : Nat) (xs : List ByteArray) (sep : ByteArray) (w : World) (hcells : Texts w b xs) (hbk : b < w.heap.size) (h2 : 2 ≤ xs.length) (hN : xs.length ≤ 100000) (hcap : xs.length ≤ c) (hcm : c ≤ maxLen)
    (hsep : sep.data.toList = [32]) (hlen : Lib.lens (xs.map (·.data.toList)) ≤ 100000) :
    Calls Tryz.prog 65 #[.slice (some ⟨b, 0, none⟩) xs.length c, .string sep] w fun e w' => e = .returned (.string ⟨(Job.jn (xs.map (·.data.toList))).toArray⟩) ∧ Below w.heap.size w w' := by
  unfold maxLen at hcm
  have hs1 : sep.size = 1 := by rw [← Oct.len_eq, hsep]; rfl
  have HC : Hid (Texts w b xs) := hcells
  have HL : Hid (∀ k, (Job.jn ((xs.map (·.data.toList)).take k)).length ≤ 200000) := fun k => by
    have := Job.jn_take_le (xs.map (·.data.toList)) k
    rw [List.length_map] at this; omega
  have Hsep : Hid (sep.data.toList = [32]) := hsep
  clear hcells hsep
  have hcast : ((xs.length : Int) - 1) = ((xs.length - 1 : Nat) : Int) := by omega
  have hdv : ¬ (9223372036854775807 / ((xs.length : Int) - 1) ≤ (sep.size : Int)) := by
    have e : (9223372036854775807 : Int) / ((xs.length - 1 : Nat) : Int) = ((9223372036854775807 / (xs.length - 1) : Nat) : Int) := IntWalk.up_div (x := 9223372036854775807) rfl rfl
    have hlt : 2 ≤ 9223372036854775807 / (xs.length - 1) := by
      rw [Nat.le_div_iff_mul_le (by omega)]; omega
    rw [hcast, e]
    generalize 9223372036854775807 / (xs.length - 1) = q at hlt
    omega
  have hprod : wrap64 ((sep.size : Int) * ((xs.length : Int) - 1)) = ((xs.length - 1 : Nat) : Int) := by
    rw [hs1, hcast]
    have e : (((1 : Nat) : Int) * ((xs.length - 1 : Nat) : Int)) = ((xs.length - 1 : Nat) : Int) := by omega
    rw [e]
    exact IntWalk.wrap64_in _ ⟨by omega, by omega⟩
  generalize hM : xs.length - 1 = M at hprod hcast
  have hne0 : ((xs.length : Int) == 0) = false := beq_eq_false_iff_ne.2 (by omega)
  have hne1 : ((xs.length : Int) == 1) = false := beq_eq_false_iff_ne.2 (by omega)
  have H0 : Hid (∃ x0, xs[0]? = some x0) := ⟨xs[0], List.getElem?_eq_getElem (by omega)⟩
  clear hcast
  go_enter Tryz.func65, Tryz.ntmps65
  go_wp2_with fail
  all_goals (
    go_loop [5, 41] (fun n i => ∃ k : Nat, k ≤ xs.length ∧ i = .int .i64 k ∧ n = .int .i64 ((M + Lib.lens ((xs.map (·.data.toList)).take k) : Nat) : Int)) (fun _ i => xs.length - (intOf i).toNat)
    case atStart => exact ⟨0, Nat.zero_le _, rfl, by simp [Lib.lens]; omega⟩
    case round =>
      obtain ⟨k, hk, rfl, rfl⟩ := hrel
      by_cases hkn : k < xs.length
      · have hc := HC.out k hkn
        have hstep := Lib.lens_take_succ (xs.map (·.data.toList)) k xs[k].data.toList (by simp [hkn])
        have hbound : Lib.lens ((xs.map (·.data.toList)).take (k + 1)) ≤ Lib.lens (xs.map (·.data.toList)) := Lib.lens_take_le _ _
        rw [Oct.len_eq] at hstep
        generalize hA1 : Lib.lens ((xs.map (·.data.toList)).take (k + 1)) = A1 at hstep hbound
        generalize Lib.lens ((xs.map (·.data.toList)).take k) = A0 at hstep
        have HA1 : Hid (Lib.lens ((xs.map (·.data.toList)).take (k + 1)) = A1) := hA1
        clear hA1
        go_wp2
        exact ⟨⟨k + 1, by omega, by go_num, by rw [HA1.out]; refine congrArg _ ?_; omega⟩, by simp [intOf]; omega⟩
      · have hke : k = xs.length := by omega
        subst hke
        have hall : (xs.map (·.data.toList)).take xs.length = xs.map (·.data.toList) := List.take_of_length_le (by simp)
        rw [hall]
        generalize Lib.lens (xs.map (·.data.toList)) = T at hlen
        clear hall
        go_wp2_with fail
        have hMT : ((M : Int) + (T : Int)) = ((M + T : Nat) : Int) := by omega
        rw [hMT]
        refine (Bld.grow w.heap.size (M + T) _ (heap_alloc_new w _) (by omega)).mono ?_
        rintro e w1 ⟨rfl, h1, hb1⟩
        have hb1' : Below w.heap.size w w1 := ((Below.refl w.heap.size w).alloc (Nat.le_refl _) _).trans hb1
        obtain ⟨x0, hx0⟩ := H0.out
        have hc0 : w1.cell? ⟨b, 0, none⟩ = some (.string x0) := by
          rw [hb1'.cell (p := ⟨b, 0, none⟩) hbk]
          have := HC.out 0 (by omega)
          rw [List.getElem?_eq_getElem (by omega)] at hx0
          injection hx0 with hx0; rw [← hx0]; exact this
        have H1 : Hid (Lib.IsBuilderF 119 5 w.heap.size w.heap.size [] w1) := Or.inr h1
        have Hb1 : Hid (Below w.heap.size w w1) := hb1'
        have hBw1 : w.heap.size ≤ w1.heap.size := hb1'.size
        have hst : Hid (Lib.strCells x0 = Lib.byteCells (Job.jn ((xs.map (·.data.toList)).take 1))) := by
          show _ = _
          rw [Lib.strCells_eq]
          congr 1
          rw [List.getElem?_eq_getElem (by omega)] at hx0
          injection hx0 with hx0
          rw [List.take_succ_eq_append_getElem (by simp; omega)]
          simp [Job.jn, hx0]
        have hx0s : x0.size ≤ 200000 := by
          have := HL.out 1
          have e := congrArg List.length hst.out
          rw [Lib.strCells_length, Lib.byteCells_length] at e
          omega
        clear h1 hb1 hb1' hMT hx0
        go_wp2_with fail
        refine (Bld.writeString w.heap.size w.heap.size [] x0 w1 H1.out (by simp; omega) hBw1).mono ?_
        rintro e w2 ⟨rfl, h2', hb2⟩
        rw [List.nil_append, hst.out] at h2'
        have H2 : Hid (Lib.IsBuilderF 119 5 w.heap.size w.heap.size (Lib.byteCells (Job.jn ((xs.map (·.data.toList)).take (0 + 1)))) w2) := Or.inr h2'
        have Hb2 : Hid (Below w.heap.size w w2) := Hb1.out.trans hb2
        clear h2' hb2 hst
        go_wp2_with fail
        go_loopw [65] (fun i wr => ∃ k : Nat, k ≤ M ∧ i = .int .i64 k ∧ Hid (Lib.IsBuilderF 119 5 w.heap.size w.heap.size (Lib.byteCells (Job.jn ((xs.map (·.data.toList)).take (k + 1)))) wr) ∧ Hid (Below w.heap.size w wr)) (fun i _ => M - (intOf i).toNat)
        case atStart => exact ⟨0, Nat.zero_le _, rfl, H2, Hb2⟩
        case round =>
          obtain ⟨k, hk', rfl, HB, HW⟩ := hrel
          by_cases hkr : k < M
          · have hk1 : k + 1 < xs.length := by omega
            have hcy : wr.cell? ⟨b, 1 + k, none⟩ = some (.string xs[k + 1]) := by
              rw [HW.out.cell (p := ⟨b, 1 + k, none⟩) hbk, Nat.add_comm 1 k]
              exact HC.out (k + 1) hk1
            have hBw : w.heap.size ≤ wr.heap.size := HW.out.size
            have Hn : Hid (Lib.byteCells (Job.jn ((xs.map (·.data.toList)).take (k + 1))) ++ Lib.strCells sep ++ Lib.strCells xs[k + 1] = Lib.byteCells (Job.jn ((xs.map (·.data.toList)).take (k + 1 + 1)))) := by
              show _ = _
              rw [Job.jn_take _ k (by simpa using hk1), Lib.strCells_eq, Lib.strCells_eq, Hsep.out, ← Lib.byteCells_append, ← Lib.byteCells_append]
              simp
            have hl1 : (Lib.byteCells (Job.jn ((xs.map (·.data.toList)).take (k + 1)))).length ≤ 200000 := by rw [Lib.byteCells_length]; exact HL.out _
            have hl2 : xs[k + 1].size ≤ 200000 := by
              have := HL.out (k + 1 + 1)
              have e := congrArg List.length Hn.out
              rw [Lib.byteCells_length, List.length_append, Lib.strCells_length] at e
              omega
            generalize xs[k + 1] = y at *
            go_wp2_with fail
            refine (Bld.writeString w.heap.size w.heap.size _ sep wr HB.out (by omega) hBw).mono ?_
            rintro e w3 ⟨rfl, h3, hb3⟩
            have hBw3 : w.heap.size ≤ w3.heap.size := Nat.le_trans hBw hb3.size
            have H3 : Hid (Lib.BuilderAtF 119 5 w.heap.size w.heap.size (.pointer (some ⟨w.heap.size, 0, none⟩)) _ w3) := h3
            have Hb3 : Hid (Below w.heap.size wr w3) := hb3
            have hcy3 : w3.cell? ⟨b, 1 + k, none⟩ = some (.string y) := by rw [hb3.cell (p := ⟨b, 1 + k, none⟩) hbk]; exact hcy
            clear h3 hb3
            go_wp2_with fail
            refine (Bld.writeString w.heap.size w.heap.size _ y w3 (Or.inr H3.out) (by rw [List.length_append, Lib.strCells_length]; omega) hBw3).mono ?_
            rintro e w4 ⟨rfl, h4, hb4⟩
            rw [Hn.out] at h4
            have H4 : Hid (Lib.IsBuilderF 119 5 w.heap.size w.heap.size (Lib.byteCells (Job.jn ((xs.map (·.data.toList)).take (k + 1 + 1)))) w4) := Or.inr h4
            have Hb4 : Hid (Below w.heap.size w w4) := (HW.out.trans Hb3.out).trans hb4
            clear h4 hb4
            go_wp2
            exact ⟨⟨k + 1, by omega, by go_num, H4, Hb4⟩, by simp [intOf]; omega⟩
          · have hke : k = M := by omega
            subst hke
            have hfull : (xs.map (·.data.toList)).take (k + 1) = xs.map (·.data.toList) := List.take_of_length_le (by simp; omega)
            have hB' := HB.out
            rw [hfull] at hB'
            have hBw : w.heap.size ≤ wr.heap.size := HW.out.size
            go_wp2_with fail
            refine (Tryz.Builder_String_any_k w.heap.size w.heap.size _ wr hB' hBw).mono ?_
            rintro e w5 ⟨rfl, _, hb5, _⟩
            have Hb5 : Hid (Below w.heap.size w w5) := HW.out.trans hb5
            clear hb5 hB'
            go_wp2
            go_ret
            exact ⟨rfl, Hb5.out⟩)
end Go.Proofs.YtgboghbicbnhiaaGreatDoor

namespace Go.Proofs.YtgboghbicbnhiaaGreatDoor
open Go.RowKit

theorem joinJ (v : Value) (B : Nat) (xs : List ByteArray) (w : World) (h : w.ownsRow B 9 1 v xs.length (xs.map Value.string)) (h2 : 2 ≤ xs.length) (hn : xs.length ≤ 100000) (hlen : Lib.lens (xs.map (·.data.toList)) ≤ 100000) :
    Calls Tryz.prog 65 #[v, .string ⟨#[32]⟩] w fun e w' => e = .returned (.string ⟨(Job.jn (xs.map (·.data.toList))).toArray⟩) ∧ Below w.heap.size w w' := by
  obtain ⟨g, cap, rfl, _, hg, hc, hm, ht⟩ := owned_texts h (by intro e; rw [e] at h2; simp at h2)
  exact join_many g cap xs _ w ht hg h2 hn hc hm rfl hlen
theorem own_six (W : World) (B : Nat) (a b c d e f : ByteArray) (hB : B ≤ W.heap.size) :
    (W.alloc (.cells #[.string a, .string b, .string c, .string d, .string e, .string f] 9)).ownsRow B 9 1 (.slice (some ⟨W.heap.size, 0, none⟩) 6 6) 6 ([a, b, c, d, e, f].map Value.string) :=
  ⟨rfl, .inr ⟨W.heap.size, 6, #[.string a, .string b, .string c, .string d, .string e, .string f], rfl, hB, heap_alloc_new W _, Nat.le_refl _, by unfold maxLen; omega, rfl, rfl⟩⟩

set_option maxHeartbeats 4000000 in
set_option maxRecDepth 100000 in
theorem jtext_yes (g n k : Int) (u f t c : ByteArray) (z : Int) (w : World) (hw : Ok w) (h0 : Job.chk ⟨g, n, k, u, f, t, c, z⟩ = 0) (hu : u.size ≤ maxLen) (hf : f.size ≤ maxLen) (ht : t.size ≤ maxLen) (hc : c.size ≤ maxLen) :
    Calls Tryz.prog 32 #[.agg #[.int .i64 g, .int .i64 n, .int .i64 k, .string u, .string f, .string t, .string c, .int .i64 z]] w fun e w' => e = .returned (.tuple #[.string ⟨(Job.txt ⟨g, n, k, u, f, t, c, z⟩).toArray⟩, .int .i64 0]) ∧ Below w.heap.size w w' := by
  obtain ⟨w0, hw0e⟩ : ∃ w0, w0 = w.alloc (.cells #[.int .i64 g, .int .i64 n, .int .i64 k, .string u, .string f, .string t, .string c, .int .i64 z] 33) := ⟨_, rfl⟩
  have hb0 : w.heap.size < w0.heap.size := by rw [hw0e]; simp
  have hk0 : Keeps w.heap.size g n k u f t c z w0 := by rw [hw0e]; exact keeps_new g n k u f t c z w _
  have bw : Below w.heap.size w w0 := by rw [hw0e]; exact below_alloc1 w _
  have hw0 : Ok w0 := hw.below bw
  obtain ⟨h1, h2, h3, h4, h5, h6, h7, h8⟩ := Job.chk_ok.1 h0
  have HK : Hid (∀ W, Below w0.heap.size w0 W → Calls Tryz.prog 61 #[.agg #[.int .i64 g, .int .i64 n, .int .i64 k, .string u, .string f, .string t, .string c, .int .i64 z]] W fun e w' => e = .returned (.int .i64 0) ∧ Below w0.heap.size w0 w' ∧ Keeps w.heap.size g n k u f t c z w') := fun W hW => chain hk0 hb0 hW (by
    have := jcheck_any g n k u f t c z W (hw0.below hW) hu hf ht hc
    rw [h0] at this
    exact this)
  have HI : Hid (∀ W, Below w0.heap.size w0 W → Calls Tryz.prog 62 #[.agg #[.int .i64 g, .int .i64 n]] W fun e w' => e = .returned (.tuple #[.string ⟨(Nam.idT g n).toArray⟩, .int .i64 0]) ∧ Below w0.heap.size w0 w' ∧ Keeps w.heap.size g n k u f t c z w') := fun W hW => chain hk0 hb0 hW (id_yes g n W h1 (hw0.below hW).tab)
  have HL : Hid (∀ W, Calls Tryz.prog 63 #[.int .i64 k] W fun e w' => e = .returned (.string ⟨(Job.ltr k).toArray⟩) ∧ w' = W) := fun W => letter_any k W
  have HT : Hid (∀ W, Below w0.heap.size w0 W → Calls Tryz.prog 64 #[.int .i64 z] W fun e w' => e = .returned (.string ⟨(Lib.itoa z).toArray⟩) ∧ Below w0.heap.size w0 w' ∧ Keeps w.heap.size g n k u f t c z w') := fun W hW => chain hk0 hb0 hW (text_any z W (by simp only at h7; omega) (by simp only at h8; omega) (hw0.below hW).tab)
  have hkk : Hid (Keeps w.heap.size g n k u f t c z w0) := hk0
  obtain ⟨j0, j1, j2, j3, j4, j5, j6, j7⟩ := hk0
  have hws : Hid (Job.ws ⟨g, n, k, u, f, t, c, z⟩ = [Job.ltr k, Nam.idT g n, u.data.toList, f.data.toList, t.data.toList, Lib.itoa z] ++ (if k = 2 then [c.data.toList] else [])) := rfl
  have hls : Hid (Lib.lens (Job.ws ⟨g, n, k, u, f, t, c, z⟩) ≤ 159) := Job.ws_lens h0
  have H0 : Hid (Job.txt ⟨g, n, k, u, f, t, c, z⟩ = Job.jn (Job.ws ⟨g, n, k, u, f, t, c, z⟩)) := rfl
  obtain ⟨L, hL⟩ : ∃ L : ByteArray, Hid (L = ⟨(Job.ltr k).toArray⟩) := ⟨_, rfl⟩
  obtain ⟨X, hX⟩ : ∃ X : ByteArray, Hid (X = ⟨(Nam.idT g n).toArray⟩) := ⟨_, rfl⟩
  obtain ⟨Z, hZ⟩ : ∃ Z : ByteArray, Hid (Z = ⟨(Lib.itoa z).toArray⟩) := ⟨_, rfl⟩
  rw [← hL.out] at HL
  rw [← hX.out] at HI
  rw [← hZ.out] at HT
  clear h1 h2 h3 h4 h5 h6 h7 h8 h0 hw0 hw
  subst hw0e
  go_enter Tryz.func32, Tryz.ntmps32
  go_upto_region 5 with (first
    | (go_at_call 61; refine (HK.out _ (by first | exact Below.refl _ _ | assumption)).mono ?_; rintro e w' ⟨rfl, b', i0, i1, i2, i3, i4, i5, i6, i7⟩)
    | (go_at_call 62; refine (HI.out _ (by first | exact Below.refl _ _ | assumption)).mono ?_; rintro e w' ⟨rfl, b', i0, i1, i2, i3, i4, i5, i6, i7⟩))
  go_cut [7] (fun s7 wx => ∃ W, Below (w.alloc (.cells #[.int .i64 g, .int .i64 n, .int .i64 k, .string u, .string f, .string t, .string c, .int .i64 z] 33)).heap.size (w.alloc (.cells #[.int .i64 g, .int .i64 n, .int .i64 k, .string u, .string f, .string t, .string c, .int .i64 z] 33)) W ∧ s7 = .slice (some ⟨W.heap.size, 0, none⟩) 6 6 ∧ wx = W.alloc (.cells #[.string L, .string X, .string u, .string f, .string t, .string Z] 9))
  case first =>
    go_region_held3 (fun w' => w'.cell? ⟨w.heap.size, 2, none⟩ = some (.int .i64 k) ∧ w'.cell? ⟨w.heap.size, 3, none⟩ = some (.string u) ∧ w'.cell? ⟨w.heap.size, 4, none⟩ = some (.string f) ∧ w'.cell? ⟨w.heap.size, 5, none⟩ = some (.string t) ∧ w'.cell? ⟨w.heap.size, 7, none⟩ = some (.int .i64 z)) (go_keep) (first
      | (go_at_call 63; refine (HL.out _).mono ?_; rintro e w'' ⟨rfl, rfl⟩)
      | (go_at_call 64; refine (HT.out _ ?_).mono ?_; (first | assumption | exact Below.drew (by assumption)); rintro e w'' ⟨rfl, b'', k0, k1, k2, k3, k4, k5, k6, k7⟩))
    all_goals (go_wp2_with fail; go_meet; exact ⟨_, by first | assumption | exact Below.drew (by assumption), rfl, rfl⟩)
  case rest =>
    obtain ⟨W, hW, rfl, rfl⟩ := hcut
    have bR : Below (w.alloc (.cells #[.int .i64 g, .int .i64 n, .int .i64 k, .string u, .string f, .string t, .string c, .int .i64 z] 33)).heap.size (w.alloc (.cells #[.int .i64 g, .int .i64 n, .int .i64 k, .string u, .string f, .string t, .string c, .int .i64 z] 33)) (W.alloc (.cells #[.string L, .string X, .string u, .string f, .string t, .string Z] 9)) := hW.alloc hW.size _
    have hR : (w.alloc (.cells #[.int .i64 g, .int .i64 n, .int .i64 k, .string u, .string f, .string t, .string c, .int .i64 z] 33)).heap.size ≤ (W.alloc (.cells #[.string L, .string X, .string u, .string f, .string t, .string Z] 9)).heap.size := bR.size
    obtain ⟨m0, m1, m2, m3, m4, m5, m6, m7⟩ := hkk.out.below bR hb0
    have hown := own_six W (w.alloc (.cells #[.int .i64 g, .int .i64 n, .int .i64 k, .string u, .string f, .string t, .string c, .int .i64 z] 33)).heap.size L X u f t Z hW.size
    generalize hWR : W.alloc (.cells #[.string L, .string X, .string u, .string f, .string t, .string Z] 9) = WR at *
    clear b' i0 i1 i2 i3 i4 i5 i6 i7
    by_cases hk2 : k = 2
    · subst hk2
      have HJ : Hid (∀ v B W2, W2.ownsRow B 9 1 v 7 ([L, X, u, f, t, Z, c].map Value.string) → Calls Tryz.prog 65 #[v, .string ⟨#[32]⟩] W2 fun e w' => e = .returned (.string ⟨(Job.txt ⟨g, n, 2, u, f, t, c, z⟩).toArray⟩) ∧ Below W2.heap.size W2 w') := fun v B W2 h => by
        have hw : [L, X, u, f, t, Z, c].map (·.data.toList) = Job.ws ⟨g, n, 2, u, f, t, c, z⟩ := by
          rw [hws.out, if_pos rfl, hL.out, hX.out, hZ.out]; rfl
        have := joinJ v B [L, X, u, f, t, Z, c] W2 h (by simp) (by simp) (by rw [hw]; have := hls.out; omega)
        rw [hw, ← H0.out] at this
        exact this
      obtain ⟨i0, hi, hz0, hz1, hz2⟩ : ∃ i0, Tryz.prog.info? 9 = some i0 ∧ i0.zero = some (.string ByteArray.empty) ∧ i0.size = 1 ∧ i0.bytes = 16 := by
        have := infoStr
        cases h : Tryz.prog.info? 9 with
        | none => rw [h] at this; cases this
        | some i => rw [h] at this; simp only [Option.map_some, Option.some.injEq, Prod.mk.injEq] at this; exact ⟨i, rfl, this.1, this.2.1, this.2.2⟩
      go_wp2_with (at_builtin; refine wpList_append_own _ rfl _ _ 91 rfl (w.alloc (.cells #[.int .i64 g, .int .i64 n, .int .i64 2, .string u, .string f, .string t, .string c, .int .i64 z] 33)).heap.size 9 i0 (.string ByteArray.empty) 1 16 Tryz.underlying91 hi hz0 hz1 hz2 rfl (by decide) _ _ _ rfl (hown.alloc _) ⟨_, 0, none⟩ 1 1 [.string c] rfl rfl (news9 _ _) ?c2 ?c3 ?c4 ?c5 ?_)
      case c2 => first | rfl | (intro u hu; simp at hu; subst hu; rfl)
      (try case c3 => unfold maxLen; omega)
      (try case c4 => omega)
      (try case c5 => first | omega | (simp; omega))
      intro v' w2 hown' hgrow _
      have b2 : Below (w.alloc (.cells #[.int .i64 g, .int .i64 n, .int .i64 2, .string u, .string f, .string t, .string c, .int .i64 z] 33)).heap.size (w.alloc (.cells #[.int .i64 g, .int .i64 n, .int .i64 2, .string u, .string f, .string t, .string c, .int .i64 z] 33)) w2 := below_own bR hR hgrow hown
      go_wp2_with (go_at_call 65; refine (HJ.out _ _ _ hown').mono ?_; rintro e w3 ⟨rfl, b3⟩)
      go_ret2
      exact ⟨rfl, bw.trans ((b2.trans (b3.mono b2.size)).mono bw.size)⟩
    · have hd : (k == 2) = false := by simp [hk2]
      have hd' : decide (k = 2) = false := by simp [hk2]
      have HJ : Hid (Calls Tryz.prog 65 #[.slice (some ⟨W.heap.size, 0, none⟩) 6 6, .string ⟨#[32]⟩] WR fun e w' => e = .returned (.string ⟨(Job.txt ⟨g, n, k, u, f, t, c, z⟩).toArray⟩) ∧ Below WR.heap.size WR w') := by
        have hw : [L, X, u, f, t, Z].map (·.data.toList) = Job.ws ⟨g, n, k, u, f, t, c, z⟩ := by
          rw [hws.out, if_neg hk2, hL.out, hX.out, hZ.out]; rfl
        have := joinJ _ _ [L, X, u, f, t, Z] WR hown (by simp) (by simp) (by rw [hw]; have := hls.out; omega)
        rw [hw, ← H0.out] at this
        exact this
      go_wp2_with (go_at_call 65; refine HJ.out.mono ?_; rintro e w3 ⟨rfl, b3⟩)
      go_ret2
      exact ⟨rfl, bw.trans ((bR.trans (b3.mono bR.size)).mono bw.size)⟩
end Go.Proofs.YtgboghbicbnhiaaGreatDoor
