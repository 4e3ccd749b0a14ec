/-
  Walks of layer 13: the document's Cut.
-/
import Derived.Test.YteiajngfeiemkaaDoorPa7
namespace Go.Proofs.YteiajngfeiemkaaDoor
open Go.RowKit
set_option maxHeartbeats 2000000 in
theorem rcut_arg0 (s : ByteArray) (z : Int) (hz : z < 1) (w : World) :
    Calls Tryd.prog 15 #[.string s, .int .i64 z] w fun e w' => e = .returned (.tuple #[.slice none 0 0, .int .i64 1]) ∧ w' = w := by
  have d1 : decide (z < 1) = true := by simp; omega
  go_enter Tryd.func15, Tryd.ntmps15
  go_wp2
  go_ret2
  exact ⟨rfl, rfl⟩
set_option maxHeartbeats 2000000 in
theorem rcut_arg1 (s : ByteArray) (z : Int) (hz : 4096 < z) (w : World) :
    Calls Tryd.prog 15 #[.string s, .int .i64 z] w fun e w' => e = .returned (.tuple #[.slice none 0 0, .int .i64 1]) ∧ w' = w := by
  have d0 : decide (z < 1) = false := by simp; omega
  have d1 : decide (4096 < z) = true := by simp; omega
  go_enter Tryd.func15, Tryd.ntmps15
  go_wp2
  go_ret2
  exact ⟨rfl, rfl⟩
set_option maxHeartbeats 2000000 in
theorem rcut_long (s : ByteArray) (z : Int) (hz : 1 ≤ z) (hz2 : z ≤ 4096) (hs : 6000 < s.size) (w : World) :
    Calls Tryd.prog 15 #[.string s, .int .i64 z] w fun e w' => e = .returned (.tuple #[.slice none 0 0, .int .i64 5]) ∧ w' = w := by
  have d0 : decide (z < 1) = false := by simp; omega
  have d1 : decide (4096 < z) = false := by simp; omega
  have d2 : decide ((6000 : Int) < (s.size : Int)) = true := by simp; omega
  go_enter Tryd.func15, Tryd.ntmps15
  go_wp2
  go_ret2
  exact ⟨rfl, rfl⟩
set_option maxHeartbeats 4000000 in
theorem rcut_go (s : ByteArray) (z : Nat) (hz : 1 ≤ z) (hz2 : z ≤ 4096) (hs : s.size ≤ 6000) (w : World) (C : Nat) (X : ByteArray)
    (HC : Hid (∀ W, Calls Tryd.prog 28 #[.string s] W fun e w' => e = .returned (.int .i64 (C : Int)) ∧ w' = W))
    (HT : Hid (∀ W, Calls Tryd.prog 27 #[.int .i64 (C : Int)] W fun e w' => e = .returned (.string X) ∧ Below W.heap.size W w')) (L : List UInt8) (hL : Hid (L = s.data.toList)) (hX : Hid (X = ⟨(Pa.sum L).toArray⟩)) :
    Calls Tryd.prog 15 #[.string s, .int .i64 (z : Int)] w fun e w' => CutPost w (Pa.file z L) 0 e w' := by
  have d0 : decide ((z : Int) < 1) = false := by simp; omega
  have d1 : decide (4096 < (z : Int)) = false := by simp; omega
  have d2 : decide ((6000 : Int) < (s.size : Int)) = false := by simp; omega
  have hLl : Hid (L.length = s.size) := by show _ = _; rw [hL.out]; exact If.len_eq s
  go_enter Tryd.func15, Tryd.ntmps15
  go_wp2
  go_loopw [6, 7] (fun vl va wr => ∃ (k q : Nat) (A : Option Addr) (cap : Nat), vl = .slice A k cap ∧ va = .int .i64 q ∧ Hid (q = k * z) ∧ q < s.size + z ∧ Hid (PO w.heap.size wr A cap ((Pa.pcs z L k).map Pa.D)) ∧ Below w.heap.size w wr) (fun _ va _ => s.size + z - (intOf va).toNat)
  case atStart => exact ⟨0, 0, none, 0, rfl, rfl, by show _ = _; simp, by omega, .inl ⟨rfl, rfl, rfl⟩, Below.refl _ _⟩
  case round =>
    obtain ⟨k, q, A, cap, rfl, rfl, hq, hqs, hPO, hbw⟩ := hrel
    have hk6 := Pa.lim (k := k) hz hs (by rw [← hq.out]; exact hqs)
    by_cases h0 : s.size ≤ q
    · have d3 : decide ((q : Int) < (s.size : Int)) = false := by simp; omega
      have d4 : decide (q < s.size) = false := by simp; omega
      have hcn : Hid (Pa.cnt z s.size = k) := (Pa.cnt_eq (by rw [← hq.out]; exact h0) (by rw [← hq.out]; exact hqs)).symm
      have fin : Hid (∀ w2, Below wr.heap.size wr w2 → ∃ v' W', (Builtin.append_ #[32, 32] 32 #[.slice A k cap, .slice (some ⟨w2.heap.size, 0, none⟩) 1 1]).run Tryd.prog (w2.alloc (.cells #[.int .i64 122, .string X] 23)) = .ok v' W' ∧ Hid (CutPost w (Pa.file z L) 0 (.returned (.tuple #[v', .int .i64 0])) W')) := by
        intro w2 b2
        have hx : Rg.At (w2.alloc (.cells #[.int .i64 122, .string X] 23)) w2.heap.size 0 (parE.enc (Pa.En L)) := by
          have kb : Rg.Bk w2.heap.size [.int .i64 122, .string X] 23 (w2.alloc (.cells #[.int .i64 122, .string X] 23)) := Rg.Bk.new rfl
          intro t u ht
          rw [Nat.zero_add, kb.cell, ← ht, hX.out]
          rfl
        have b3 : Below w.heap.size w w2 := hbw.trans (b2.mono hbw.size)
        obtain ⟨v', W', hap, A', cap', hv', hPO', hb'⟩ := ((hPO.out.below b2).below (Rg.al1 w2 (.cells #[.int .i64 122, .string X] 23))).append _ w2.heap.size hx (Nat.le_trans b3.size (Rg.al1 w2 _).size) (by rw [List.length_map, Pa.pcs_len]; omega)
        rw [List.length_map, Pa.pcs_len] at hap hv'
        have hf : (Pa.pcs z L k).map Pa.D ++ [Pa.En L] = Pa.file z L := by
          unfold Pa.file Pa.cut
          rw [hLl.out, hcn.out]
        rw [hf] at hPO'
        have hfl : (Pa.file z L).length = k + 1 := by rw [← hf]; simp [Pa.pcs_len]
        refine ⟨v', W', hap, A', cap', by rw [hv', hfl]; rfl, ?_, hPO'.row, (b3.trans ((Rg.al1 w2 (.cells #[.int .i64 122, .string X] 23)).mono b3.size)).trans hb'⟩
        rcases hPO' with ⟨_, h, _⟩ | ⟨g, rest, _, h⟩
        · have := congrArg List.length h; rw [hfl] at this; cases this
        · exact h.le
      clear hPO hcn hX hL hLl hk6 hs hq
      go_wp2_with (first
        | (go_at_call 28; refine (HC.out _).mono ?_; rintro e w1 ⟨rfl, rfl⟩)
        | (go_at_call 27; refine (HT.out _).mono ?_; rintro e w2 ⟨rfl, b2⟩; obtain ⟨v', W', hap, hpost⟩ := fin.out w2 b2; replace hap := Rg.hid hap)
        | (at_builtin; refine Rg.wpList_append_run rfl (.tmp 37) (.tmp 42) 32 rfl _ _ rfl rfl _ _ hap.out ?_))
      go_ret2
      exact hpost.out
    · have hlt : q < s.size := by omega
      have d3 : decide ((q : Int) < (s.size : Int)) = true := by simp; omega
      have d4 : decide (q < s.size) = true := by simp; omega
      obtain ⟨Q, hQ⟩ : ∃ Q, Q = q + z := ⟨_, rfl⟩
      obtain ⟨m, hm⟩ : ∃ m, m = Nat.min Q s.size := ⟨_, rfl⟩
      have hw1 : wrap64 ((q : Int) + (z : Int)) = (Q : Int) := by unfold wrap64; omega
      have hw2 : IntKind.i64.wrap ((q : Int) + (z : Int)) = (Q : Int) := by rw [IntKind.wrap_i64]; omega
      have hm0 : min (Q : Int) (s.size : Int) = (m : Int) := by rw [hm]; show _ = ((min Q s.size : Nat) : Int); omega
      have hmq : q ≤ m ∧ m ≤ s.size := by rw [hm]; show q ≤ min Q s.size ∧ min Q s.size ≤ s.size; omega
      have hq0 : (0 : Int) ≤ (q : Int) := by omega
      have hq1 : (q : Int) ≤ (m : Int) := by omega
      have hq2 : (m : Int) ≤ (s.size : Int) := by omega
      obtain ⟨Y, hY⟩ : ∃ Y, s.extract q m = Y := ⟨_, rfl⟩
      have hYl : Hid (Y.data.toList = (L.drop (k * z)).take z) := by
        show _ = _
        have htm := Pa.take_min (L.drop (k * z)) z (m - q) (by rw [List.length_drop, hLl.out, ← hq.out, hm, hQ]; show min (q + z) s.size - q = min z (s.size - q); omega)
        rw [← hY, If.extract_eq s q m hmq.1 hmq.2, ← htm.1, hL.out, hq.out]
      have hst := Pa.step (k := k) (z := z) (n := s.size) (by rw [← hq.out]; exact hlt)
      have hQk : Hid (Q = (k + 1) * z) := by show _ = _; rw [hQ, hst.2, hq.out]
      have hQs : Q < s.size + z := by omega
      have hQz : s.size + z - Q < s.size + z - q := by omega
      have hx : Rg.At (wr.alloc (.cells #[.int .i64 100, .string Y] 23)) wr.heap.size 0 (parE.enc (Pa.D ((L.drop (k * z)).take z))) := by
        have kb : Rg.Bk wr.heap.size [.int .i64 100, .string Y] 23 (wr.alloc (.cells #[.int .i64 100, .string Y] 23)) := Rg.Bk.new rfl
        intro t u ht
        rw [Nat.zero_add, kb.cell, ← ht]
        show _ = [Value.int .i64 100, .string ⟨((L.drop (k * z)).take z).toArray⟩][t]?
        rw [← hYl.out]
      obtain ⟨v', W', hap, A', cap', hv', hPO', hb'⟩ := (hPO.out.below (Rg.al1 wr (.cells #[.int .i64 100, .string Y] 23))).append _ wr.heap.size hx (Nat.le_trans hbw.size (Rg.al1 wr _).size) (by rw [List.length_map, Pa.pcs_len]; omega)
      rw [List.length_map, Pa.pcs_len] at hap hv'
      subst hv'
      replace hap := Rg.hid hap
      have hPO2 : Hid (PO w.heap.size W' A' cap' ((Pa.pcs z L (k + 1)).map Pa.D)) := by
        show PO _ _ _ _ _
        rw [Pa.pcs_succ, List.map_append]; exact hPO'
      have hbw' := Rg.hid ((hbw.trans ((Rg.al1 wr (.cells #[.int .i64 100, .string Y] 23)).mono hbw.size)).trans hb')
      clear hPO hPO' hb' hbw hx hst hYl hm h0 hLl hmq hq
      replace hQ := Rg.hid hQ
      go_wp2_with (at_builtin; refine Rg.wpList_append_run rfl (.tmp 24) (.tmp 35) 32 rfl _ _ rfl rfl _ _ hap.out ?_)
      go_roundw
      case rel => exact ⟨k + 1, Q, A', cap', rfl, by first | rfl | go_num, hQk, hQs, hPO2, hbw'.out⟩
      case measure => simp [intOf]; omega
theorem rcut_any (s : ByteArray) (hs : s.size ≤ maxLen) (z : Int) (w : World) :
    Calls Tryd.prog 15 #[.string s, .int .i64 z] w fun e w' => CutPost w (Pa.cutR s.data.toList z).1 (Pa.cutR s.data.toList z).2 e w' := by
  by_cases h1 : z < 1
  · rw [show Pa.cutR s.data.toList z = ([], 1) from if_pos (.inl h1)]
    exact (rcut_arg0 s z h1 w).mono fun _ _ h => CutPost.none h
  by_cases h2 : 4096 < z
  · rw [show Pa.cutR s.data.toList z = ([], 1) from if_pos (.inr h2)]
    exact (rcut_arg1 s z h2 w).mono fun _ _ h => CutPost.none h
  by_cases h3 : 6000 < s.size
  · rw [show Pa.cutR s.data.toList z = ([], 5) by unfold Pa.cutR; rw [if_neg (by omega), if_pos (by rw [If.len_eq]; exact h3)]]
    exact (rcut_long s z (by omega) (by omega) h3 w).mono fun _ _ h => CutPost.none h
  obtain ⟨z, rfl⟩ : ∃ m : Nat, z = (m : Int) := ⟨z.toNat, by omega⟩
  rw [show Pa.cutR s.data.toList (z : Int) = (Pa.file z s.data.toList, 0) by unfold Pa.cutR; rw [if_neg (by omega), if_neg (by rw [If.len_eq]; exact h3), Int.toNat_natCast]]
  have hlt := Pa.crc_lt s.data.toList
  exact rcut_go s z (by omega) (by omega) (by omega) w (Pa.crc s.data.toList) _ (fun W => refCrc_any s W hs) (fun W => refText_any _ W (by omega) (by omega)) _ rfl rfl
end Go.Proofs.YteiajngfeiemkaaDoor
