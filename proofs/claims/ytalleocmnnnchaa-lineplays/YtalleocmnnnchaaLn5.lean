/-
  Layer 7: shift.
-/
import Derived.Test.YtalleocmnnnchaaLn4
namespace Go.Proofs.Ytalleocmnnnchaa
open Go.RowKit

theorem own_set {base g cap : Nat} {W : World} {l : List Int} {rest : List Value} (h : intE.Own base W g cap l rest) {i : Nat} (hi : i < l.length) (x : Int) : intE.Own base (W.setCell ⟨g, i, none⟩ (.int .i64 x)) g cap (l.set i x) rest := by
  have hb : Rg.Bk g ((intE.flat l ++ rest).set i (.int .i64 x)) 3 (W.setCell ⟨g, i, none⟩ (.int .i64 x)) := Rg.Bk.set h.blk i (.int .i64 x)
  have he : (intE.flat l ++ rest).set i (.int .i64 x) = intE.flat (l.set i x) ++ rest := by
    rw [intE.flat_put hi, show i = i * intE.m + 0 by show i = i * 1 + 0; omega, intE.flat_set (by simpa using hi) (by decide)]
    simp only [Nat.add_zero, show ∀ k, k * intE.m = k from fun k => Nat.mul_one k]
    rfl
  rw [he] at hb
  have hlen : (intE.flat (l.set i x) ++ rest).length = (intE.flat l ++ rest).length := by simp [intE.flat_length]
  exact ⟨hb, h.new, by rw [List.length_set]; exact h.le, h.max, by rw [hlen]; exact h.fit⟩
theorem moved_step (l : List Int) (f b : Int) (i : Nat) (hi : i < l.length) : ((Ln.moved l f b).take i ++ l.drop i).set i (if f ≤ l[i] then l[i] + b else l[i]) = (Ln.moved l f b).take (i + 1) ++ l.drop (i + 1) := by
  have hl := Ln.moved_length l f b
  rw [List.set_append_right _ _ (by simp; omega), List.take_succ_eq_append_getElem (by omega), List.append_assoc]
  congr 1
  rw [show i - ((Ln.moved l f b).take i).length = 0 by simp; omega, List.drop_eq_getElem_cons hi, List.set_cons_zero]
  simp [Ln.moved]
theorem moved_at (l : List Int) (f b : Int) (i : Nat) (hi : i < l.length) : ((Ln.moved l f b).take i ++ l.drop i)[i]'(by simp [Ln.moved_length]; omega) = l[i] := by
  rw [List.getElem_append_right (by simp [Ln.moved_length]; omega)]
  simp only [List.length_take, Ln.moved_length, List.getElem_drop]
  congr 1
  omega
theorem moved_keep (l : List Int) (f b : Int) (i : Nat) (hi : i < l.length) (h : ¬ f ≤ l[i]) : (Ln.moved l f b).take i ++ l.drop i = (Ln.moved l f b).take (i + 1) ++ l.drop (i + 1) := by
  have := moved_step l f b i hi
  rw [if_neg h] at this
  rw [← this, ← moved_at l f b i hi, List.set_getElem_self]

set_option maxHeartbeats 1000000 in
set_option maxRecDepth 100000 in
theorem lshift_any (a : Option Addr) (c : Nat) (l : List Int) (f b : Int) (w : World) (hn : l.length ≤ 1000000000) (hb0 : -1000000000000 ≤ b) (hb1 : b ≤ 1000000000000) (hbd : ∀ x ∈ l, -1000000000000 ≤ x ∧ x ≤ 1000000000000) (hr : IRow w a l) :
    Calls Try.prog 41 #[.slice a l.length c, .int .i64 f, .int .i64 b] w fun e w' => IPost w (Ln.shift l f b) e w' := by
  have HC : Hid (Calls Try.prog 48 #[.slice a l.length c] w fun e w' => ∃ a' c', e = .returned (.slice a' l.length c') ∧ SI w.heap.size w' a' c' l ∧ Below w.heap.size w w') := clone_any a c l w hn hr
  obtain ⟨N, hN⟩ : ∃ N, N = l.length := ⟨_, rfl⟩
  rw [← hN] at HC ⊢
  replace hbd := Rg.hid hbd
  have hnN : N ≤ 1000000000 := by omega
  replace hN := Rg.hid hN
  go_enter Try.func41, Try.ntmps41
  go_upto_region 2 with (go_at_call 48; refine HC.out.mono ?_; rintro e w1 ⟨a1, c1, rfl, hS1, b1⟩)
  rcases hS1 with ⟨rfl, rfl, rfl⟩ | ⟨g, rest, rfl, hO1⟩
  · obtain rfl : N = 0 := hN.out
    have HK : Hid (∀ W, Calls Try.prog 49 #[.slice none 0 0] W fun e w' => e = .returned (.slice none 0 0) ∧ w' = W) := fun W => Try.slices_Compact_int_empty none 0 W
    go_wp2
    go_loopw [14] (fun v wr => v = .int .i64 0 ∧ wr = w1) (fun _ _ => 0)
    case atStart => exact ⟨rfl, rfl⟩
    case round =>
      obtain ⟨rfl, rfl⟩ := hrel
      go_wp2_with (go_at_call 49; refine (HK.out _).mono ?_; rintro e w' ⟨rfl, rfl⟩)
      go_ret
      exact ⟨none, 0, rfl, IRow.nil, Nat.le_refl _, b1⟩
  · have hO1' := Rg.hid hO1
    have hg := hO1.new
    clear hO1 HC hr hn
    go_wp2
    go_loopw [14] (fun v wr => ∃ i : Nat, i ≤ N ∧ v = .int .i64 i ∧ Hid (intE.Own w.heap.size wr g c1 ((Ln.moved l f b).take i ++ l.drop i) rest) ∧ Below w.heap.size w wr) (fun v _ => N - (intOf v).toNat)
    case atStart => exact ⟨0, Nat.zero_le _, rfl, by simpa using hO1', b1⟩
    case round =>
      obtain ⟨i, hin, rfl, hO, hbw⟩ := hrel
      by_cases hlt : i < N
      · have hil : i < l.length := by rw [← hN.out]; exact hlt
        have hcell := (Own.irow hO.out).cell (j := i) (by simp [Ln.moved_length]; omega)
        rw [moved_at l f b i hil, Nat.zero_add] at hcell
        have hst := own_set hO.out (i := i) (by simp [Ln.moved_length]; omega) (if f ≤ l[i] then l[i] + b else l[i])
        rw [moved_step l f b i hil] at hst
        have hfz := hO.out.thaw
        have hkeep := Rg.hid (moved_keep l f b i hil)
        obtain ⟨x0, x1⟩ := hbd.out l[i] (List.getElem_mem hil)
        generalize l[i] = x at *
        have hz0 : (0 : Int) ≤ (i : Int) := by omega
        have hz1 : (i : Int) < (N : Int) := by omega
        by_cases hf : f ≤ x
        · rw [if_pos hf] at hst
          have df : decide (f ≤ x) = true := by simp [hf]
          have hw : IntKind.i64.wrap (x + b) = x + b := by rw [IntKind.wrap_i64]; omega
          have hst' := Rg.hid hst
          have hbn := Rg.hid (hbw.trans ((Rg.Only.setCell wr g i (.int .i64 (x + b))).bel hg))
          clear hst hO hkeep x0 x1 hbw
          go_wp2
          generalize World.setCell _ _ _ = wn at *
          go_roundw
          case rel => exact ⟨i + 1, by omega, by go_num, hst', hbn.out⟩
          case measure => simp [intOf]; omega
        · have df : decide (f ≤ x) = false := by simp; omega
          have hO' := Rg.hid (show intE.Own w.heap.size wr g c1 ((Ln.moved l f b).take (i + 1) ++ l.drop (i + 1)) rest by rw [← hkeep.out hf]; exact hO.out)
          clear hst hO hkeep
          go_wp2
          go_roundw
          case rel => exact ⟨i + 1, by omega, by go_num, hO', hbw⟩
          case measure => simp [intOf]; omega
      · obtain rfl : i = N := by omega
        have htk : (Ln.moved l f b).take i ++ l.drop i = Ln.moved l f b := by
          rw [hN.out, List.drop_length, List.append_nil, List.take_of_length_le (by rw [Ln.moved_length]; exact Nat.le_refl _)]
        rw [htk] at hO
        have hml : (Ln.moved l f b).length = i := by rw [Ln.moved_length, hN.out]
        have HK : Hid (∀ q, Calls Try.prog 49 #[.slice (some ⟨g, 0, none⟩) i c1] (wr.drewN q) fun e w' => IPost w (Ln.shift l f b) e w') := fun q => by
          have := Try.slices_Compact_int_cells g 0 i c1 (Ln.moved l f b) (wr.drewN q) (by omega) (by omega) (by have := hO.out.le; omega) (Own.irow hO.out).getD (fun j _ => hO.out.thaw _)
          rw [List.take_of_length_le (by omega)] at this
          refine this.mono fun e w' ⟨h1, k, h2⟩ => ?_
          have hcl := Ln.compact_len (Ln.moved l f b)
          refine ⟨some ⟨g, 0, none⟩, c1, h1, ?_, Nat.le_trans hcl hO.out.le, ?_⟩
          · rw [h2]
            obtain ⟨C, kC⟩ := Bk_setCells ((Lib.compact (Ln.moved l f b) ++ List.replicate (i - (Lib.compact (Ln.moved l f b)).length) 0).map (Value.int .i64)) 0 (W := (wr.drewN q).drewN k) hO.out.blk
            refine IRow.of kC fun j hj => ?_
            have hj' : j < ((Lib.compact (Ln.moved l f b) ++ List.replicate (i - (Lib.compact (Ln.moved l f b)).length) 0).map (Value.int .i64)).length := by
              simp only [List.length_map, List.length_append, List.length_replicate]
              have : j < (Lib.compact (Ln.moved l f b)).length := hj
              omega
            have := World.cell?_setCells_in g _ 0 ((wr.drewN q).drewN k) (fun j hj => by
              show (wr.cell? ⟨g, 0 + j, none⟩).isSome = true
              simp only [List.length_map, List.length_append, List.length_replicate] at hj
              rw [(Own.irow hO.out).cell (j := j) (by omega)]
              rfl) j hj'
            rw [this]
            congr 1
            rw [List.getElem_map, List.getElem_append_left (show j < (Lib.compact (Ln.moved l f b)).length from hj)]
            rfl
          · rw [h2]
            exact (Rg.drewN (Rg.drewN hbw q) k).trans ((Only_setCells g _ _ _).bel hg)
        have HK0 := HK.out 0
        clear HK hO htk hml hN hbd
        go_wp2_with (go_at_call 49; refine HK0.mono ?_)
        rintro e w9 ⟨a9, c9, rfl, h9⟩
        go_wp2
        go_ret
        exact ⟨a9, c9, rfl, h9⟩
end Go.Proofs.Ytalleocmnnnchaa
