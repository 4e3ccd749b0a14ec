/-
  Walks of layer 13: Cut.
-/
import Derived.Test.YteiajngfeiemkabDoorPa6
namespace Go.Proofs.YteiajngfeiemkabDoor
open Go.RowKit
def strLen' : Value → Nat | .string b => b.size | _ => 0
/-- What Cut answers. -/
def CutPost (w : World) (r : List Pa.Pc) (er : Nat) (e : Ending) (w' : World) : Prop := ∃ A cap, e = .returned (.tuple #[.slice A r.length cap, .int .i64 (er : Nat)]) ∧ r.length ≤ cap ∧ Hid (parE.Row w' A r) ∧ Below w.heap.size w w'
namespace Pa
theorem empty' {s : ByteArray} (h : s.size = 0) : s = ⟨#[]⟩ := by
  apply ByteArray.ext
  exact Array.eq_empty_of_size_eq_zero h
theorem take_min (l : List UInt8) (z m : Nat) (h : m = Nat.min z l.length) : l.take m = l.take z ∧ l.drop m = l.drop z := by
  rcases Nat.le_total z l.length with c | c
  · rw [h, show Nat.min z l.length = z from Nat.min_eq_left c]; exact ⟨rfl, rfl⟩
  · rw [h, show Nat.min z l.length = l.length from Nat.min_eq_right c, List.take_of_length_le (Nat.le_refl _), List.take_of_length_le c, List.drop_of_length_le (Nat.le_refl _), List.drop_of_length_le c]; exact ⟨rfl, rfl⟩
theorem lim {k z n : Nat} (hz : 1 ≤ z) (hn : n ≤ 6000) (h : k * z < n + z) : k ≤ 6000 := by
  rcases Nat.lt_or_ge 6000 k with c | c
  · have : 6001 * z ≤ k * z := Nat.mul_le_mul_right _ c
    omega
  · exact c
theorem step {k z n : Nat} (h : k * z < n) : (k + 1) * z < n + z ∧ (k + 1) * z = k * z + z := by
  rw [Nat.add_mul, Nat.one_mul]; omega
end Pa
set_option maxHeartbeats 2000000 in
theorem pcut_arg0 (s : ByteArray) (z : Int) (hz : z < 1) (w : World) :
    Calls Tryd.prog 5 #[.string s, .int .i64 z] w fun e w' => e = .returned (.tuple #[.slice none 0 0, .int .i64 1]) ∧ w' = w := by
  have d1 : decide (z < 1) = true := by simp; omega
  go_enter Tryd.func5, Tryd.ntmps5
  go_wp2
  go_ret2
  exact ⟨rfl, rfl⟩
set_option maxHeartbeats 2000000 in
theorem pcut_arg1 (s : ByteArray) (z : Int) (hz : 4096 < z) (w : World) :
    Calls Tryd.prog 5 #[.string s, .int .i64 z] w fun e w' => e = .returned (.tuple #[.slice none 0 0, .int .i64 1]) ∧ w' = w := by
  have d0 : decide (z < 1) = false := by simp; omega
  have d1 : decide (4096 < z) = true := by simp; omega
  go_enter Tryd.func5, Tryd.ntmps5
  go_wp2
  go_ret2
  exact ⟨rfl, rfl⟩
set_option maxHeartbeats 2000000 in
theorem pcut_long (s : ByteArray) (z : Int) (hz : 1 ≤ z) (hz2 : z ≤ 4096) (hs : 6000 < s.size) (w : World) :
    Calls Tryd.prog 5 #[.string s, .int .i64 z] w fun e w' => e = .returned (.tuple #[.slice none 0 0, .int .i64 5]) ∧ w' = w := by
  have d0 : decide (z < 1) = false := by simp; omega
  have d1 : decide (4096 < z) = false := by simp; omega
  have d2 : decide ((6000 : Int) < (s.size : Int)) = true := by simp; omega
  go_enter Tryd.func5, Tryd.ntmps5
  go_wp2
  go_ret2
  exact ⟨rfl, rfl⟩
set_option maxHeartbeats 4000000 in
theorem pcut_go (s : ByteArray) (z : Nat) (hz : 1 ≤ z) (hz2 : z ≤ 4096) (hs : s.size ≤ 6000) (w : World) (X : ByteArray)
    (HS : Hid (∀ W, Below w.heap.size w W → Calls Tryd.prog 10 #[.string s] W fun e w' => e = .returned (.string X) ∧ Below W.heap.size W w')) (L : List UInt8) (hL : Hid (L = s.data.toList)) (hX : Hid (X = ⟨(Pa.sum L).toArray⟩)) :
    Calls Tryd.prog 5 #[.string s, .int .i64 (z : Int)] w fun e w' => CutPost w (Pa.file z L) 0 e w' := by
  have d0 : decide ((z : Int) < 1) = false := by simp; omega
  have d1 : decide (4096 < (z : Int)) = false := by simp; omega
  have d2 : decide ((6000 : Int) < (s.size : Int)) = false := by simp; omega
  have hLl : Hid (L.length = s.size) := by show _ = _; rw [hL.out]; exact If.len_eq s
  go_enter Tryd.func5, Tryd.ntmps5
  go_wp2
  go_loopw [6, 7] (fun vl vr wr => ∃ (k : Nat) (A : Option Addr) (cap : Nat) (R : ByteArray), vl = .slice A k cap ∧ vr = .string R ∧ Hid (R.data.toList = L.drop (k * z)) ∧ R.size ≤ 6000 ∧ Hid (k * z < s.size + z) ∧ Hid (PO w.heap.size wr A cap ((Pa.pcs z L k).map Pa.D)) ∧ Below w.heap.size w wr) (fun _ vr _ => strLen' vr)
  case atStart => exact ⟨0, none, 0, s, rfl, rfl, by show _ = _; rw [hL.out]; simp, hs, by show _ < _; omega, .inl ⟨rfl, rfl, rfl⟩, Below.refl _ _⟩
  case round =>
    obtain ⟨k, A, cap, R, rfl, rfl, hR, hR6, hkz, hPO, hbw⟩ := hrel
    have hRs : Hid (R.size = s.size - k * z) := by show _ = _; rw [← If.len_eq, hR.out, List.length_drop, hLl.out]
    have hk6 := Pa.lim hz hs hkz.out
    by_cases h0 : R.size = 0
    · obtain rfl := Pa.empty' h0
      have hcn : Hid (Pa.cnt z s.size = k) := by
        have h1 := hRs.out
        rw [h0] at h1
        exact (Pa.cnt_eq (by omega) hkz.out).symm
      have fin : Hid (∀ w2, Below wr.heap.size wr w2 → ∃ v' W', (Builtin.append_ #[24, 24] 24 #[.slice A k cap, .slice (some ⟨w2.heap.size, 0, none⟩) 1 1]).run Tryd.prog (w2.alloc (.cells #[.int .i64 122, .string X] 34)) = .ok v' W' ∧ Hid (CutPost w (Pa.file z L) 0 (.returned (.tuple #[v', .int .i64 0])) W')) := by
        intro w2 b2
        have hx : Rg.At (w2.alloc (.cells #[.int .i64 122, .string X] 34)) w2.heap.size 0 (parE.enc (Pa.En L)) := by
          have kb : Rg.Bk w2.heap.size [.int .i64 122, .string X] 34 (w2.alloc (.cells #[.int .i64 122, .string X] 34)) := Rg.Bk.new rfl
          intro t u ht
          rw [Nat.zero_add, kb.cell, ← ht, hX.out]
          rfl
        have b3 : Below w.heap.size w w2 := hbw.trans (b2.mono hbw.size)
        obtain ⟨v', W', hap, A', cap', hv', hPO', hb'⟩ := ((hPO.out.below b2).below (Rg.al1 w2 (.cells #[.int .i64 122, .string X] 34))).append _ w2.heap.size hx (Nat.le_trans b3.size (Rg.al1 w2 _).size) (by rw [List.length_map, Pa.pcs_len]; omega)
        rw [List.length_map, Pa.pcs_len] at hap hv'
        have hf : (Pa.pcs z L k).map Pa.D ++ [Pa.En L] = Pa.file z L := by
          unfold Pa.file Pa.cut
          rw [hLl.out, hcn.out]
        rw [hf] at hPO'
        have hfl : (Pa.file z L).length = k + 1 := by rw [← hf]; simp [Pa.pcs_len]
        refine ⟨v', W', hap, A', cap', by rw [hv', hfl]; rfl, ?_, hPO'.row, (b3.trans ((Rg.al1 w2 (.cells #[.int .i64 122, .string X] 34)).mono b3.size)).trans hb'⟩
        rcases hPO' with ⟨_, h, _⟩ | ⟨g, rest, _, h⟩
        · have := congrArg List.length h; rw [hfl] at this; cases this
        · exact h.le
      clear hPO hcn hkz hRs hR h0 hX hL hLl hR6 hk6 hs
      go_wp2_with (first
        | (go_at_call 10; refine (HS.out _ hbw).mono ?_; rintro e w2 ⟨rfl, b2⟩; obtain ⟨v', W', hap, hpost⟩ := fin.out w2 b2; replace hap := Rg.hid hap)
        | (at_builtin; refine Rg.wpList_append_run rfl (.tmp 35) (.tmp 39) 24 rfl _ _ rfl rfl _ _ hap.out ?_))
      go_ret2
      exact hpost.out
    · have hp : 0 < R.size := by omega
      have e0 := If.ne_nil hp
      obtain ⟨m, hm⟩ : ∃ m, m = Nat.min z R.size := ⟨_, rfl⟩
      have hm0 : min (z : Int) (R.size : Int) = (m : Int) := by rw [hm]; show _ = ((min z R.size : Nat) : Int); omega
      have hm1 : 1 ≤ m := by rw [hm]; show 1 ≤ min z R.size; omega
      have hm2 : m ≤ R.size := by rw [hm]; exact Nat.min_le_right _ _
      have hq0 : (0 : Int) ≤ (m : Int) := by omega
      have hq1 : (m : Int) ≤ (R.size : Int) := by omega
      obtain ⟨Y, hY⟩ : ∃ Y, R.extract 0 m = Y := ⟨_, rfl⟩
      obtain ⟨R2, hR2⟩ : ∃ R2, R.extract m R.size = R2 := ⟨_, rfl⟩
      have htm := Pa.take_min R.data.toList z m (by rw [If.len_eq]; exact hm)
      have hYl : Hid (Y.data.toList = (L.drop (k * z)).take z) := by
        show _ = _
        rw [← hY, If.extract_eq R 0 m (by omega) hm2, List.drop_zero, Nat.sub_zero, htm.1, hR.out]
      have hst := Pa.step (k := k) (z := z) (n := s.size) (by have := hRs.out; omega)
      have hR2l : Hid (R2.data.toList = L.drop ((k + 1) * z)) := by
        show _ = _
        rw [← hR2, If.extract_eq R m R.size hm2 (Nat.le_refl _), List.take_of_length_le (by rw [List.length_drop, If.len_eq]; exact Nat.le_refl _), htm.2, hR.out, List.drop_drop, hst.2]
      have hR2s : R2.size = R.size - m := by rw [← hR2]; exact If.extract_size R m R.size hm2 (Nat.le_refl _)
      have hk1 : Hid ((k + 1) * z < s.size + z) := hst.1
      have hx : Rg.At (wr.alloc (.cells #[.int .i64 100, .string Y] 34)) wr.heap.size 0 (parE.enc (Pa.D ((L.drop (k * z)).take z))) := by
        have kb : Rg.Bk wr.heap.size [.int .i64 100, .string Y] 34 (wr.alloc (.cells #[.int .i64 100, .string Y] 34)) := Rg.Bk.new rfl
        intro t u ht
        rw [Nat.zero_add, kb.cell, ← ht]
        show _ = [Value.int .i64 100, .string ⟨((L.drop (k * z)).take z).toArray⟩][t]?
        rw [← hYl.out]
      obtain ⟨v', W', hap, A', cap', hv', hPO', hb'⟩ := (hPO.out.below (Rg.al1 wr (.cells #[.int .i64 100, .string Y] 34))).append _ wr.heap.size hx (Nat.le_trans hbw.size (Rg.al1 wr _).size) (by rw [List.length_map, Pa.pcs_len]; omega)
      rw [List.length_map, Pa.pcs_len] at hap hv'
      subst hv'
      replace hap := Rg.hid hap
      have hPO2 : Hid (PO w.heap.size W' A' cap' ((Pa.pcs z L (k + 1)).map Pa.D)) := by
        show PO _ _ _ _ _
        rw [Pa.pcs_succ, List.map_append]; exact hPO'
      have hbw' := Rg.hid ((hbw.trans ((Rg.al1 wr (.cells #[.int .i64 100, .string Y] 34)).mono hbw.size)).trans hb')
      clear hPO hPO' hb' hbw hx hst hR htm hYl hkz hRs hm h0 hLl
      go_wp2_with (at_builtin; refine Rg.wpList_append_run rfl (.tmp 25) (.tmp 30) 24 rfl _ _ rfl rfl _ _ hap.out ?_)
      go_roundw
      case rel => exact ⟨k + 1, A', cap', R2, rfl, rfl, hR2l, by omega, hk1, hPO2, hbw'.out⟩
      case measure => simp [strLen']; omega
/-- What Cut answers. -/
def Pa.cutR (l : List UInt8) (z : Int) : List Pa.Pc × Nat := if z < 1 ∨ 4096 < z then ([], 1) else if 6000 < l.length then ([], 5) else (Pa.file z.toNat l, 0)
theorem CutPost.none {w : World} {er : Nat} {e : Ending} {w' : World} (h : e = .returned (.tuple #[.slice none 0 0, .int .i64 (er : Nat)]) ∧ w' = w) : CutPost w [] er e w' := by
  obtain ⟨rfl, rfl⟩ := h
  exact ⟨Option.none, 0, rfl, Nat.le_refl _, .inl ⟨rfl, rfl⟩, Below.refl _ _⟩
theorem pcut_any (s : ByteArray) (hs : s.size ≤ maxLen) (z : Int) (w : World) (htab : Lib.TabIs Tryd.prog w "internal/strconv.uint64pow10" .u64 Lib.pow10Tab) :
    Calls Tryd.prog 5 #[.string s, .int .i64 z] w fun e w' => CutPost w (Pa.cutR s.data.toList z).1 (Pa.cutR s.data.toList z).2 e w' := by
  by_cases h1 : z < 1
  · rw [show Pa.cutR s.data.toList z = ([], 1) from if_pos (.inl h1)]
    exact (pcut_arg0 s z h1 w).mono fun _ _ h => CutPost.none h
  by_cases h2 : 4096 < z
  · rw [show Pa.cutR s.data.toList z = ([], 1) from if_pos (.inr h2)]
    exact (pcut_arg1 s z h2 w).mono fun _ _ h => CutPost.none h
  by_cases h3 : 6000 < s.size
  · rw [show Pa.cutR s.data.toList z = ([], 5) by unfold Pa.cutR; rw [if_neg (by omega), if_pos (by rw [If.len_eq]; exact h3)]]
    exact (pcut_long s z (by omega) (by omega) h3 w).mono fun _ _ h => CutPost.none h
  obtain ⟨z, rfl⟩ : ∃ m : Nat, z = (m : Int) := ⟨z.toNat, by omega⟩
  rw [show Pa.cutR s.data.toList (z : Int) = (Pa.file z s.data.toList, 0) by unfold Pa.cutR; rw [if_neg (by omega), if_neg (by rw [If.len_eq]; exact h3), Int.toNat_natCast]]
  exact pcut_go s z (by omega) (by omega) (by omega) w _ (fun W hW => sumOf_any s hs W (tab_below htab hW)) _ rfl rfl
end Go.Proofs.YteiajngfeiemkabDoor
