/-
  Layer 9: Choose.
-/
import Derived.Test.YtpndcbilnbihaabDoorGr7
namespace Go.Proofs.YtpndcbilnbihaabDoor
open Go.RowKit

/-- the second pass: the marks stay, the other string is gone through -/
structure CIn (w : World) (B I : Nat) (offer hav : ByteArray) (pos : Nat) (W : World) : Prop where
  bel : Below w.heap.size w W
  arr : Rg.Bk B [.bool (offer.data.toList.contains 103), .bool (offer.data.toList.contains 71), .bool (offer.data.toList.contains 105), .bool (offer.data.toList.contains 101)] 53 W
  it : W.heap[I]? = some (.stringIter hav pos)
theorem CIn.moved {w : World} {B I : Nat} {offer hav : ByteArray} {pos : Nat} {W W' : World} (h : CIn w B I offer hav pos W) (hI : w.heap.size ≤ I) (n : Nat) (hb : Below (W.iterAt I hav (pos + n)).heap.size (W.iterAt I hav (pos + n)) W') : CIn w B I offer hav (pos + n) W' := by
  have hne : B ≠ I := fun e => by have h1 := h.arr; have h2 := h.it; unfold Rg.Bk at h1; rw [e, h2] at h1; cases h1
  have hlt : I < W.heap.size := (Array.getElem?_eq_some_iff.1 h.it).1
  have a1 := Lib.below_iterAt h.bel hI hav (pos + n)
  have a2 : Rg.Bk B [.bool (offer.data.toList.contains 103), .bool (offer.data.toList.contains 71), .bool (offer.data.toList.contains 105), .bool (offer.data.toList.contains 101)] 53 (W.iterAt I hav (pos + n)) := h.arr.same (Lib.iterAt_other W I B hav (pos + n) hne)
  refine ⟨a1.trans (hb.mono a1.size), a2.below hb a2.lt, ?_⟩
  rw [hb.block I (by rw [Lib.iterAt_size]; exact hlt)]
  exact Lib.iterAt_heap W I hav pos (pos + n) h.it

set_option maxHeartbeats 4000000 in
set_option maxRecDepth 100000 in
theorem choose_any (offer hav : ByteArray) (w : World) :
    Calls Tryd.prog 12 #[.string offer, .string hav] w fun e w' => e = .returned (.int .i64 (Gr.choose offer.data.toList hav.data.toList)) ∧ Below w.heap.size w w' := by
  obtain ⟨T, hT⟩ : ∃ T, Gr.choose offer.data.toList hav.data.toList = T := ⟨_, rfl⟩
  have hTh : Hid (T = Gr.chosen (hav.data.toList.find? (Gr.pick offer.data.toList))) := by show _ = _; rw [← hT]; rfl
  rw [hT]
  clear hT
  go_enter Tryd.func12, Tryd.ntmps12
  go_wp2
  go_step3
  go_wp2
  go_loopg [] offer.size (fun gf wx => ∃ pos : Nat, Hid (LIn w w.heap.size (w.heap.size + 1) offer pos wx) ∧ offer.size ≤ pos + gf)
  case atStart => exact ⟨0, ⟨((Below.refl _ w).alloc (Nat.le_refl _) _).alloc (by simp) _, (Rg.Bk.new rfl).old _, by have := World.iter_heap (w.alloc (.cells #[.bool false, .bool false, .bool false, .bool false] 53)) offer 0; simpa using this⟩, by omega⟩
  case round =>
    obtain ⟨pos, hL, hfu⟩ := hrel
    by_cases hps : pos < offer.size
    · obtain ⟨g', rfl⟩ : ∃ g', gk = g' + 1 := ⟨gk - 1, by omega⟩
      by_cases hhi : 128 ≤ offer[pos].toNat
      · have hdh := decode_high offer pos hps hhi
        have hdf := Gr.decode_fair offer pos
        have hrun := Gr.decode_run offer pos hps hhi
        have hnx : ∀ ty, (Instr.next (.pointer (some ⟨w.heap.size + 1, 0, none⟩)) true ty).run Tryd.prog wr = _ := fun ty => Lib.run_next_any_at wr (w.heap.size + 1) offer pos ty hL.out.it hps
        obtain ⟨R, hR⟩ : ∃ R, (Utf8.decode offer pos).1 = R := ⟨_, rfl⟩
        obtain ⟨K, hK⟩ : ∃ K, (Utf8.decode offer pos).2 = K := ⟨_, rfl⟩
        rw [hR] at hdf hdh
        rw [hK] at hrun hdh
        rw [hR, hK] at hnx
        have hK1 := hdh.2
        have hmv : Hid (∀ W, Below (wr.iterAt (w.heap.size + 1) offer (pos + K)).heap.size (wr.iterAt (w.heap.size + 1) offer (pos + K)) W → LIn w w.heap.size (w.heap.size + 1) offer (pos + K) W) := fun W hb => LIn.skip K hrun (hL.out.moved (Nat.le_succ _) K hb)
        have hI : Hid (∀ W, Calls Tryd.prog 24 #[.string ⟨#[103, 71, 105, 101]⟩, .int .i32 R] W fun e w' => e = .returned (.int .i64 (-1)) ∧ Below W.heap.size W w') := fun W => by have := idx_any R W hdf.2 hdf.1; rwa [Gr.ix_high hdh.1] at this
        clear hhi hdh hdf hL hR hK hrun
        go_wp2_with (go_at_call 24; refine (hI.out _).mono ?_; rintro e w2 ⟨rfl, b2⟩; have hm2 := hmv.out _ b2)
        clear b2
        go_roundg g'
        case measure => omega
        case rel => exact ⟨pos + K, hm2, by omega⟩
      · have hlo : offer[pos].toNat < 128 := by omega
        have hnx : ∀ ty, (Instr.next (.pointer (some ⟨w.heap.size + 1, 0, none⟩)) true ty).run Tryd.prog wr = _ := fun ty => Lib.run_next_ascii_at wr (w.heap.size + 1) offer pos ty hL.out.it hps hlo
        have hI : Hid (∀ W, Calls Tryd.prog 24 #[.string ⟨#[103, 71, 105, 101]⟩, .int .i32 offer[pos].toNat] W fun e w' => e = .returned (.int .i64 (Gr.ix offer[pos].toNat)) ∧ Below W.heap.size W w') := fun W => idx_any offer[pos].toNat W (by omega) (by omega)
        have hmv := Rg.hid (fun W => hL.out.moved (W' := W) (Nat.le_succ _) 1)
        clear hL
        by_cases hix : Gr.ix offer[pos].toNat = -1
        · rw [hix] at hI
          have hmv2 : Hid (∀ W, Below (wr.iterAt (w.heap.size + 1) offer (pos + 1)).heap.size (wr.iterAt (w.heap.size + 1) offer (pos + 1)) W → LIn w w.heap.size (w.heap.size + 1) offer (pos + 1) W) := fun W hb => LIn.unk hps hix (hmv.out W hb)
          clear hhi hlo hix hmv
          go_wp2_with (go_at_call 24; refine (hI.out _).mono ?_; rintro e w2 ⟨rfl, b2⟩; have hm2 := hmv2.out _ b2)
          clear b2
          go_roundg g'
          case measure => omega
          case rel => exact ⟨pos + 1, hm2, by omega⟩
        · rcases Gr.ix_four hix with hc | hc | hc | hc
          · rw [hc] at hnx hI
            have hI2 : Hid (∀ W, Calls Tryd.prog 24 #[.string ⟨#[103, 71, 105, 101]⟩, .int .i32 103] W fun e w' => e = .returned (.int .i64 0) ∧ Below W.heap.size W w') := hI.out
            clear hI
            go_wp2_with (go_at_call 24; refine (hI2.out _).mono ?_; rintro e w2 ⟨rfl, b2⟩; have hm2 := hmv.out _ b2; have zj := hm2.2.1.cell 0; have zf := hm2.2.1.thaw; simp only [List.getElem?_cons_zero] at zj)
            have hL2 := LIn.put0 hps hc (Nat.le_refl _) (by omega) hm2
            clear hm2 zj zf b2
            go_roundg g'
            case measure => omega
            case rel => exact ⟨pos + 1, hL2, by omega⟩
          · rw [hc] at hnx hI
            have hI2 : Hid (∀ W, Calls Tryd.prog 24 #[.string ⟨#[103, 71, 105, 101]⟩, .int .i32 71] W fun e w' => e = .returned (.int .i64 1) ∧ Below W.heap.size W w') := hI.out
            clear hI
            go_wp2_with (go_at_call 24; refine (hI2.out _).mono ?_; rintro e w2 ⟨rfl, b2⟩; have hm2 := hmv.out _ b2; have zj := hm2.2.1.cell 1; have zf := hm2.2.1.thaw; simp only [List.getElem?_cons_zero, List.getElem?_cons_succ] at zj)
            have hL2 := LIn.put1 hps hc (Nat.le_refl _) (by omega) hm2
            clear hm2 zj zf b2
            go_roundg g'
            case measure => omega
            case rel => exact ⟨pos + 1, hL2, by omega⟩
          · rw [hc] at hnx hI
            have hI2 : Hid (∀ W, Calls Tryd.prog 24 #[.string ⟨#[103, 71, 105, 101]⟩, .int .i32 105] W fun e w' => e = .returned (.int .i64 2) ∧ Below W.heap.size W w') := hI.out
            clear hI
            go_wp2_with (go_at_call 24; refine (hI2.out _).mono ?_; rintro e w2 ⟨rfl, b2⟩; have hm2 := hmv.out _ b2; have zj := hm2.2.1.cell 2; have zf := hm2.2.1.thaw; simp only [List.getElem?_cons_zero, List.getElem?_cons_succ] at zj)
            have hL2 := LIn.put2 hps hc (Nat.le_refl _) (by omega) hm2
            clear hm2 zj zf b2
            go_roundg g'
            case measure => omega
            case rel => exact ⟨pos + 1, hL2, by omega⟩
          · rw [hc] at hnx hI
            have hI2 : Hid (∀ W, Calls Tryd.prog 24 #[.string ⟨#[103, 71, 105, 101]⟩, .int .i32 101] W fun e w' => e = .returned (.int .i64 3) ∧ Below W.heap.size W w') := hI.out
            clear hI
            go_wp2_with (go_at_call 24; refine (hI2.out _).mono ?_; rintro e w2 ⟨rfl, b2⟩; have hm2 := hmv.out _ b2; have zj := hm2.2.1.cell 3; have zf := hm2.2.1.thaw; simp only [List.getElem?_cons_zero, List.getElem?_cons_succ] at zj)
            have hL2 := LIn.put3 hps hc (Nat.le_refl _) (by omega) hm2
            clear hm2 zj zf b2
            go_roundg g'
            case measure => omega
            case rel => exact ⟨pos + 1, hL2, by omega⟩
    · have hnx : ∀ ty, (Instr.next (.pointer (some ⟨w.heap.size + 1, 0, none⟩)) true ty).run Tryd.prog wr = _ := fun ty => Lib.run_next_end_at wr (w.heap.size + 1) offer pos ty hL.out.it hps
      have hC : Hid (CIn w w.heap.size wr.heap.size offer hav 0 (wr.iter hav 0)) := by
        have harr := hL.out.arr
        rw [Oct.take_all offer pos (by omega)] at harr
        exact ⟨hL.out.bel.alloc hL.out.bel.size _, harr.old _, World.iter_heap wr hav 0⟩
      have hIw : w.heap.size ≤ wr.heap.size := hL.out.bel.size
      clear hL hfu
      go_wp2
      go_step3
      go_wp2
      clear hnx
      generalize wr.heap.size = I at *
      generalize World.iter wr hav 0 = w1 at *
      go_loopg [] hav.size (fun gf wx => ∃ pos : Nat, Hid (CIn w w.heap.size I offer hav pos wx) ∧ Hid (T = Gr.chosen ((hav.data.toList.drop pos).find? (Gr.pick offer.data.toList))) ∧ hav.size ≤ pos + gf)
      case atStart => exact ⟨0, hC, hTh, by omega⟩
      case round =>
        clear hC
        obtain ⟨pos, hL, hfin, hfu⟩ := hrel
        by_cases hps : pos < hav.size
        · obtain ⟨g', rfl⟩ : ∃ g', gk = g' + 1 := ⟨gk - 1, by omega⟩
          by_cases hhi : 128 ≤ hav[pos].toNat
          · have hdh := decode_high hav pos hps hhi
            have hdf := Gr.decode_fair hav pos
            have hrun := Gr.decode_run hav pos hps hhi
            have hnx : ∀ ty, (Instr.next (.pointer (some ⟨I, 0, none⟩)) true ty).run Tryd.prog wr = _ := fun ty => Lib.run_next_any_at wr I hav pos ty hL.out.it hps
            obtain ⟨R, hR⟩ : ∃ R, (Utf8.decode hav pos).1 = R := ⟨_, rfl⟩
            obtain ⟨K, hK⟩ : ∃ K, (Utf8.decode hav pos).2 = K := ⟨_, rfl⟩
            rw [hR] at hdf hdh
            rw [hK] at hrun hdh
            rw [hR, hK] at hnx
            have hK1 := hdh.2
            have hfin2 : Hid (T = Gr.chosen ((hav.data.toList.drop (pos + K)).find? (Gr.pick offer.data.toList))) := by show _ = _; rw [Gr.find_skip hav offer.data.toList pos K hrun]; exact hfin.out
            have hmv := Rg.hid (fun W => hL.out.moved (W' := W) hIw K)
            have hI : Hid (∀ W, Calls Tryd.prog 24 #[.string ⟨#[103, 71, 105, 101]⟩, .int .i32 R] W fun e w' => e = .returned (.int .i64 (-1)) ∧ Below W.heap.size W w') := fun W => by have := idx_any R W hdf.2 hdf.1; rwa [Gr.ix_high hdh.1] at this
            clear hhi hdh hdf hL hR hK hrun hfin
            go_wp2_with (go_at_call 24; refine (hI.out _).mono ?_; rintro e w2 ⟨rfl, b2⟩; have hm2 := hmv.out _ b2)
            clear b2
            go_roundg g'
            case measure => omega
            case rel => exact ⟨pos + K, hm2, hfin2, by omega⟩
          · have hlo : hav[pos].toNat < 128 := by omega
            have hnx : ∀ ty, (Instr.next (.pointer (some ⟨I, 0, none⟩)) true ty).run Tryd.prog wr = _ := fun ty => Lib.run_next_ascii_at wr I hav pos ty hL.out.it hps hlo
            have hI : Hid (∀ W, Calls Tryd.prog 24 #[.string ⟨#[103, 71, 105, 101]⟩, .int .i32 hav[pos].toNat] W fun e w' => e = .returned (.int .i64 (Gr.ix hav[pos].toNat)) ∧ Below W.heap.size W w') := fun W => idx_any hav[pos].toNat W (by omega) (by omega)
            have hmv := Rg.hid (fun W => hL.out.moved (W' := W) hIw 1)
            clear hL
            by_cases hix : Gr.ix hav[pos].toNat = -1
            · rw [hix] at hI
              have hfin2 : Hid (T = Gr.chosen ((hav.data.toList.drop (pos + 1)).find? (Gr.pick offer.data.toList))) := by
                show _ = _
                rw [hfin.out, Gr.drop_at hav pos hps, List.find?_cons, show Gr.pick offer.data.toList hav[pos] = false by unfold Gr.pick; rw [Gr.ix_known _ hix]; rfl]
              clear hhi hlo hix hfin
              go_wp2_with (go_at_call 24; refine (hI.out _).mono ?_; rintro e w2 ⟨rfl, b2⟩; have hm2 := hmv.out _ b2)
              clear b2
              go_roundg g'
              case measure => omega
              case rel => exact ⟨pos + 1, hm2, hfin2, by omega⟩
            · rcases Gr.ix_four hix with hc | hc | hc | hc
              · rw [hc] at hnx hI
                have hI2 : Hid (∀ W, Calls Tryd.prog 24 #[.string ⟨#[103, 71, 105, 101]⟩, .int .i32 103] W fun e w' => e = .returned (.int .i64 0) ∧ Below W.heap.size W w') := hI.out
                clear hI
                cases hbj : offer.data.toList.contains 103 with
                | true =>
                  have hr : Hid (T = 103) := by
                    show _ = _
                    rw [hfin.out, Gr.drop_at hav pos hps, List.find?_cons, show Gr.pick offer.data.toList hav[pos] = true by unfold Gr.pick; rw [hc, hbj]; rfl, hc]
                    rfl
                  clear hfin
                  go_wp2_with (go_at_call 24; refine (hI2.out _).mono ?_; rintro e w2 ⟨rfl, b2⟩; have hm2 := hmv.out _ b2; have zj := hm2.arr.cell 0; simp only [hbj, List.getElem?_cons_zero] at zj)
                  (try rw [Exit.noGoto_ret])
                  go_ret
                  exact ⟨ret_int hr.out.symm, hm2.bel⟩
                | false =>
                  have hfin2 : Hid (T = Gr.chosen ((hav.data.toList.drop (pos + 1)).find? (Gr.pick offer.data.toList))) := by
                    show _ = _
                    rw [hfin.out, Gr.drop_at hav pos hps, List.find?_cons, show Gr.pick offer.data.toList hav[pos] = false by unfold Gr.pick; rw [hc, hbj]; rfl]
                  clear hfin
                  go_wp2_with (go_at_call 24; refine (hI2.out _).mono ?_; rintro e w2 ⟨rfl, b2⟩; have hm2 := hmv.out _ b2; have zj := hm2.arr.cell 0; simp only [hbj, List.getElem?_cons_zero] at zj)
                  clear zj b2
                  go_roundg g'
                  case measure => omega
                  case rel => exact ⟨pos + 1, hm2, hfin2, by omega⟩
              · rw [hc] at hnx hI
                have hI2 : Hid (∀ W, Calls Tryd.prog 24 #[.string ⟨#[103, 71, 105, 101]⟩, .int .i32 71] W fun e w' => e = .returned (.int .i64 1) ∧ Below W.heap.size W w') := hI.out
                clear hI
                cases hbj : offer.data.toList.contains 71 with
                | true =>
                  have hr : Hid (T = 71) := by
                    show _ = _
                    rw [hfin.out, Gr.drop_at hav pos hps, List.find?_cons, show Gr.pick offer.data.toList hav[pos] = true by unfold Gr.pick; rw [hc, hbj]; rfl, hc]
                    rfl
                  clear hfin
                  go_wp2_with (go_at_call 24; refine (hI2.out _).mono ?_; rintro e w2 ⟨rfl, b2⟩; have hm2 := hmv.out _ b2; have zj := hm2.arr.cell 1; simp only [hbj, List.getElem?_cons_zero, List.getElem?_cons_succ] at zj)
                  (try rw [Exit.noGoto_ret])
                  go_ret
                  exact ⟨ret_int hr.out.symm, hm2.bel⟩
                | false =>
                  have hfin2 : Hid (T = Gr.chosen ((hav.data.toList.drop (pos + 1)).find? (Gr.pick offer.data.toList))) := by
                    show _ = _
                    rw [hfin.out, Gr.drop_at hav pos hps, List.find?_cons, show Gr.pick offer.data.toList hav[pos] = false by unfold Gr.pick; rw [hc, hbj]; rfl]
                  clear hfin
                  go_wp2_with (go_at_call 24; refine (hI2.out _).mono ?_; rintro e w2 ⟨rfl, b2⟩; have hm2 := hmv.out _ b2; have zj := hm2.arr.cell 1; simp only [hbj, List.getElem?_cons_zero, List.getElem?_cons_succ] at zj)
                  clear zj b2
                  go_roundg g'
                  case measure => omega
                  case rel => exact ⟨pos + 1, hm2, hfin2, by omega⟩
              · rw [hc] at hnx hI
                have hI2 : Hid (∀ W, Calls Tryd.prog 24 #[.string ⟨#[103, 71, 105, 101]⟩, .int .i32 105] W fun e w' => e = .returned (.int .i64 2) ∧ Below W.heap.size W w') := hI.out
                clear hI
                cases hbj : offer.data.toList.contains 105 with
                | true =>
                  have hr : Hid (T = 105) := by
                    show _ = _
                    rw [hfin.out, Gr.drop_at hav pos hps, List.find?_cons, show Gr.pick offer.data.toList hav[pos] = true by unfold Gr.pick; rw [hc, hbj]; rfl, hc]
                    rfl
                  clear hfin
                  go_wp2_with (go_at_call 24; refine (hI2.out _).mono ?_; rintro e w2 ⟨rfl, b2⟩; have hm2 := hmv.out _ b2; have zj := hm2.arr.cell 2; simp only [hbj, List.getElem?_cons_zero, List.getElem?_cons_succ] at zj)
                  (try rw [Exit.noGoto_ret])
                  go_ret
                  exact ⟨ret_int hr.out.symm, hm2.bel⟩
                | false =>
                  have hfin2 : Hid (T = Gr.chosen ((hav.data.toList.drop (pos + 1)).find? (Gr.pick offer.data.toList))) := by
                    show _ = _
                    rw [hfin.out, Gr.drop_at hav pos hps, List.find?_cons, show Gr.pick offer.data.toList hav[pos] = false by unfold Gr.pick; rw [hc, hbj]; rfl]
                  clear hfin
                  go_wp2_with (go_at_call 24; refine (hI2.out _).mono ?_; rintro e w2 ⟨rfl, b2⟩; have hm2 := hmv.out _ b2; have zj := hm2.arr.cell 2; simp only [hbj, List.getElem?_cons_zero, List.getElem?_cons_succ] at zj)
                  clear zj b2
                  go_roundg g'
                  case measure => omega
                  case rel => exact ⟨pos + 1, hm2, hfin2, by omega⟩
              · rw [hc] at hnx hI
                have hI2 : Hid (∀ W, Calls Tryd.prog 24 #[.string ⟨#[103, 71, 105, 101]⟩, .int .i32 101] W fun e w' => e = .returned (.int .i64 3) ∧ Below W.heap.size W w') := hI.out
                clear hI
                cases hbj : offer.data.toList.contains 101 with
                | true =>
                  have hr : Hid (T = 101) := by
                    show _ = _
                    rw [hfin.out, Gr.drop_at hav pos hps, List.find?_cons, show Gr.pick offer.data.toList hav[pos] = true by unfold Gr.pick; rw [hc, hbj]; rfl, hc]
                    rfl
                  clear hfin
                  go_wp2_with (go_at_call 24; refine (hI2.out _).mono ?_; rintro e w2 ⟨rfl, b2⟩; have hm2 := hmv.out _ b2; have zj := hm2.arr.cell 3; simp only [hbj, List.getElem?_cons_zero, List.getElem?_cons_succ] at zj)
                  (try rw [Exit.noGoto_ret])
                  go_ret
                  exact ⟨ret_int hr.out.symm, hm2.bel⟩
                | false =>
                  have hfin2 : Hid (T = Gr.chosen ((hav.data.toList.drop (pos + 1)).find? (Gr.pick offer.data.toList))) := by
                    show _ = _
                    rw [hfin.out, Gr.drop_at hav pos hps, List.find?_cons, show Gr.pick offer.data.toList hav[pos] = false by unfold Gr.pick; rw [hc, hbj]; rfl]
                  clear hfin
                  go_wp2_with (go_at_call 24; refine (hI2.out _).mono ?_; rintro e w2 ⟨rfl, b2⟩; have hm2 := hmv.out _ b2; have zj := hm2.arr.cell 3; simp only [hbj, List.getElem?_cons_zero, List.getElem?_cons_succ] at zj)
                  clear zj b2
                  go_roundg g'
                  case measure => omega
                  case rel => exact ⟨pos + 1, hm2, hfin2, by omega⟩
        · have hnx : ∀ ty, (Instr.next (.pointer (some ⟨I, 0, none⟩)) true ty).run Tryd.prog wr = _ := fun ty => Lib.run_next_end_at wr I hav pos ty hL.out.it hps
          have hr : Hid (T = 0) := by show _ = _; rw [hfin.out, Gr.drop_end hav pos hps]; rfl
          have hbl := hL.out.bel
          go_wp2
          (try rw [Exit.noGoto_ret])
          go_ret
          exact ⟨ret_int hr.out.symm, hbl⟩
end Go.Proofs.YtpndcbilnbihaabDoor
