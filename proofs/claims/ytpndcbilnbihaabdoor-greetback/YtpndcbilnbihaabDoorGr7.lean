/-
  Layer 9: areLetters and Choose.
-/
import Derived.Test.YtpndcbilnbihaabDoorGr6
import Derived.Test.YtpndcbilnbihaabDoorGr3
import Derived.Test.YtpndcbilnbihaabDoorMathGl
namespace Go.Proofs.YtpndcbilnbihaabDoor
open Go.RowKit

theorem idx_any (R : Nat) (w : World) (h1 : R ≤ 1114111) (hv : ¬ (55296 ≤ R ∧ R ≤ 57343)) :
    Calls Tryd.prog 24 #[.string ⟨#[103, 71, 105, 101]⟩, .int .i32 R] w fun e w' => e = .returned (.int .i64 (Gr.ix R)) ∧ Below w.heap.size w w' := by
  by_cases h : R < 128
  · have := Tryd.strings_IndexRune_ascii ⟨#[103, 71, 105, 101]⟩ (R : Int) w (by omega) (by omega)
    refine this.mono fun e w' h2 => ⟨?_, h2.2 ▸ Below.refl _ _⟩
    rw [h2.1]
    show Ending.returned (.int .i64 (Lib.indexByte [103, 71, 105, 101] (R : Int).toNat.toUInt8)) = _
    rw [Int.toNat_natCast, Gr.ix_low R h]
  · rw [Gr.ix_high (by omega)]
    by_cases he : R = 65533
    · subst he; exact idx_error w
    · exact idx_wide R w (by omega) h1 he hv

/-- the four marks, and how far the string is gone through -/
structure LIn (w : World) (B I : Nat) (s : ByteArray) (pos : Nat) (W : World) : Prop where
  bel : Below w.heap.size w W
  arr : Rg.Bk B [.bool ((s.data.toList.take pos).contains 103), .bool ((s.data.toList.take pos).contains 71), .bool ((s.data.toList.take pos).contains 105), .bool ((s.data.toList.take pos).contains 101)] 53 W
  it : W.heap[I]? = some (.stringIter s pos)
theorem LIn.moved {w : World} {B I : Nat} {s : ByteArray} {pos : Nat} {W W' : World} (h : LIn w B I s pos W) (hI : w.heap.size ≤ I) (n : Nat) (hb : Below (W.iterAt I s (pos + n)).heap.size (W.iterAt I s (pos + n)) W') :
    Below w.heap.size w W' ∧ Rg.Bk B [.bool ((s.data.toList.take pos).contains 103), .bool ((s.data.toList.take pos).contains 71), .bool ((s.data.toList.take pos).contains 105), .bool ((s.data.toList.take pos).contains 101)] 53 W' ∧ W'.heap[I]? = some (.stringIter s (pos + n)) := by
  have hne : B ≠ I := fun e => by have h1 := h.arr; have h2 := h.it; unfold Rg.Bk at h1; rw [e, h2] at h1; cases h1
  have hlt : I < W.heap.size := (Array.getElem?_eq_some_iff.1 h.it).1
  have a1 := Lib.below_iterAt h.bel hI s (pos + n)
  have a2 : Rg.Bk B [.bool ((s.data.toList.take pos).contains 103), .bool ((s.data.toList.take pos).contains 71), .bool ((s.data.toList.take pos).contains 105), .bool ((s.data.toList.take pos).contains 101)] 53 (W.iterAt I s (pos + n)) := h.arr.same (Lib.iterAt_other W I B s (pos + n) hne)
  refine ⟨a1.trans (hb.mono a1.size), a2.below hb a2.lt, ?_⟩
  rw [hb.block I (by rw [Lib.iterAt_size]; exact hlt)]
  exact Lib.iterAt_heap W I s pos (pos + n) h.it
theorem LIn.skip {w : World} {B I : Nat} {s : ByteArray} {pos : Nat} {W : World} (n : Nat) (hall : ∀ j, pos ≤ j → j < pos + n → (h : j < s.size) → 128 ≤ s[j].toNat)
    (h : Below w.heap.size w W ∧ Rg.Bk B [.bool ((s.data.toList.take pos).contains 103), .bool ((s.data.toList.take pos).contains 71), .bool ((s.data.toList.take pos).contains 105), .bool ((s.data.toList.take pos).contains 101)] 53 W ∧ W.heap[I]? = some (.stringIter s (pos + n))) : LIn w B I s (pos + n) W := by
  refine ⟨h.1, ?_, h.2.2⟩
  rw [Gr.has_skip s 103 (by decide) pos n hall, Gr.has_skip s 71 (by decide) pos n hall, Gr.has_skip s 105 (by decide) pos n hall, Gr.has_skip s 101 (by decide) pos n hall]
  exact h.2.1
theorem LIn.unk {w : World} {B I : Nat} {s : ByteArray} {pos : Nat} {W : World} (hlt : pos < s.size) (hk : Gr.ix s[pos].toNat = -1)
    (h : Below w.heap.size w W ∧ Rg.Bk B [.bool ((s.data.toList.take pos).contains 103), .bool ((s.data.toList.take pos).contains 71), .bool ((s.data.toList.take pos).contains 105), .bool ((s.data.toList.take pos).contains 101)] 53 W ∧ W.heap[I]? = some (.stringIter s (pos + 1))) : LIn w B I s (pos + 1) W := by
  refine ⟨h.1, ?_, h.2.2⟩
  have e : ∀ x : UInt8, ¬ Gr.ix x.toNat = -1 → (s.data.toList.take (pos + 1)).contains x = (s.data.toList.take pos).contains x := fun x hx => by
    rw [Gr.has_snoc s pos hlt, show (x == s[pos]) = false by rw [beq_eq_false_iff_ne]; rintro rfl; exact hx hk, Bool.or_false]
  rw [e 103 (by decide), e 71 (by decide), e 105 (by decide), e 101 (by decide)]
  exact h.2.1
theorem LIn.put0 {w : World} {B I : Nat} {s : ByteArray} {pos : Nat} {W : World} (hlt : pos < s.size) (hc : s[pos] = 103) (hB : w.heap.size ≤ B) (hBI : B ≠ I)
    (h : Below w.heap.size w W ∧ Rg.Bk B [.bool ((s.data.toList.take pos).contains 103), .bool ((s.data.toList.take pos).contains 71), .bool ((s.data.toList.take pos).contains 105), .bool ((s.data.toList.take pos).contains 101)] 53 W ∧ W.heap[I]? = some (.stringIter s (pos + 1))) : LIn w B I s (pos + 1) (W.setCell ⟨B, 0, none⟩ (.bool true)) := by
  refine ⟨h.1.trans ((Rg.Only.setCell W B 0 _).bel hB), ?_, ?_⟩
  · have := h.2.1.set 0 (.bool true)
    rw [Gr.has_snoc s pos hlt, Gr.has_snoc s pos hlt, Gr.has_snoc s pos hlt, Gr.has_snoc s pos hlt, hc]
    simpa using this
  · rw [(Rg.Only.setCell W B 0 _).block I (Ne.symm hBI)]; exact h.2.2
theorem LIn.put1 {w : World} {B I : Nat} {s : ByteArray} {pos : Nat} {W : World} (hlt : pos < s.size) (hc : s[pos] = 71) (hB : w.heap.size ≤ B) (hBI : B ≠ I)
    (h : Below w.heap.size w W ∧ Rg.Bk B [.bool ((s.data.toList.take pos).contains 103), .bool ((s.data.toList.take pos).contains 71), .bool ((s.data.toList.take pos).contains 105), .bool ((s.data.toList.take pos).contains 101)] 53 W ∧ W.heap[I]? = some (.stringIter s (pos + 1))) : LIn w B I s (pos + 1) (W.setCell ⟨B, 1, none⟩ (.bool true)) := by
  refine ⟨h.1.trans ((Rg.Only.setCell W B 1 _).bel hB), ?_, ?_⟩
  · have := h.2.1.set 1 (.bool true)
    rw [Gr.has_snoc s pos hlt, Gr.has_snoc s pos hlt, Gr.has_snoc s pos hlt, Gr.has_snoc s pos hlt, hc]
    simpa using this
  · rw [(Rg.Only.setCell W B 1 _).block I (Ne.symm hBI)]; exact h.2.2
theorem LIn.put2 {w : World} {B I : Nat} {s : ByteArray} {pos : Nat} {W : World} (hlt : pos < s.size) (hc : s[pos] = 105) (hB : w.heap.size ≤ B) (hBI : B ≠ I)
    (h : Below w.heap.size w W ∧ Rg.Bk B [.bool ((s.data.toList.take pos).contains 103), .bool ((s.data.toList.take pos).contains 71), .bool ((s.data.toList.take pos).contains 105), .bool ((s.data.toList.take pos).contains 101)] 53 W ∧ W.heap[I]? = some (.stringIter s (pos + 1))) : LIn w B I s (pos + 1) (W.setCell ⟨B, 2, none⟩ (.bool true)) := by
  refine ⟨h.1.trans ((Rg.Only.setCell W B 2 _).bel hB), ?_, ?_⟩
  · have := h.2.1.set 2 (.bool true)
    rw [Gr.has_snoc s pos hlt, Gr.has_snoc s pos hlt, Gr.has_snoc s pos hlt, Gr.has_snoc s pos hlt, hc]
    simpa using this
  · rw [(Rg.Only.setCell W B 2 _).block I (Ne.symm hBI)]; exact h.2.2
theorem LIn.put3 {w : World} {B I : Nat} {s : ByteArray} {pos : Nat} {W : World} (hlt : pos < s.size) (hc : s[pos] = 101) (hB : w.heap.size ≤ B) (hBI : B ≠ I)
    (h : Below w.heap.size w W ∧ Rg.Bk B [.bool ((s.data.toList.take pos).contains 103), .bool ((s.data.toList.take pos).contains 71), .bool ((s.data.toList.take pos).contains 105), .bool ((s.data.toList.take pos).contains 101)] 53 W ∧ W.heap[I]? = some (.stringIter s (pos + 1))) : LIn w B I s (pos + 1) (W.setCell ⟨B, 3, none⟩ (.bool true)) := by
  refine ⟨h.1.trans ((Rg.Only.setCell W B 3 _).bel hB), ?_, ?_⟩
  · have := h.2.1.set 3 (.bool true)
    rw [Gr.has_snoc s pos hlt, Gr.has_snoc s pos hlt, Gr.has_snoc s pos hlt, Gr.has_snoc s pos hlt, hc]
    simpa using this
  · rw [(Rg.Only.setCell W B 3 _).block I (Ne.symm hBI)]; exact h.2.2
set_option maxHeartbeats 4000000 in
set_option maxRecDepth 100000 in
theorem areLetters_any (s : ByteArray) (w : World) :
    Calls Tryd.prog 23 #[.string s] w fun e w' => e = .returned (.bool (Gr.lets s.data.toList)) ∧ Below w.heap.size w w' := by
  obtain ⟨T, hT⟩ : ∃ T, Gr.lets s.data.toList = T := ⟨_, rfl⟩
  have hTh : Hid (Gr.lets s.data.toList = T) := hT
  rw [hT]
  clear hT
  go_enter Tryd.func23, Tryd.ntmps23
  go_wp2
  go_loopg [] s.size (fun gf wx => ∃ pos : Nat, Hid (LIn w w.heap.size (w.heap.size + 1) s pos wx) ∧ Hid (Gr.okPre (s.data.toList.take pos) = true) ∧ s.size ≤ pos + gf)
  case atStart => exact ⟨0, ⟨((Below.refl _ w).alloc (Nat.le_refl _) _).alloc (by simp) _, (Rg.Bk.new rfl).old _, by have := World.iter_heap (w.alloc (.cells #[.bool false, .bool false, .bool false, .bool false] 53)) s 0; simpa using this⟩, rfl, by omega⟩
  case round =>
    obtain ⟨pos, hL, hok, hfu⟩ := hrel
    by_cases hps : pos < s.size
    · obtain ⟨g', rfl⟩ : ∃ g', gk = g' + 1 := ⟨gk - 1, by omega⟩
      by_cases hhi : 128 ≤ s[pos].toNat
      · have hdh := decode_high s pos hps hhi
        have hdf := Gr.decode_fair s pos
        have hnx : ∀ ty, (Instr.next (.pointer (some ⟨w.heap.size + 1, 0, none⟩)) true ty).run Tryd.prog wr = _ := fun ty => Lib.run_next_any_at wr (w.heap.size + 1) s pos ty hL.out.it hps
        have hr : Hid (T = false) := by show _ = _; rw [← hTh.out]; exact Gr.lets_unknown s pos hps (Gr.known_high hhi)
        obtain ⟨R, hR⟩ : ∃ R, (Utf8.decode s pos).1 = R := ⟨_, rfl⟩
        obtain ⟨K, hK⟩ : ∃ K, (Utf8.decode s pos).2 = K := ⟨_, rfl⟩
        rw [hR] at hdf hdh
        rw [hR, hK] at hnx
        have hmv := Rg.hid (fun W => hL.out.moved (W' := W) (Nat.le_succ _) K)
        have hI : Hid (∀ W, Calls Tryd.prog 24 #[.string ⟨#[103, 71, 105, 101]⟩, .int .i32 R] W fun e w' => e = .returned (.int .i64 (-1)) ∧ Below W.heap.size W w') := fun W => by have := idx_any R W hdf.2 hdf.1; rwa [Gr.ix_high hdh.1] at this
        clear hhi hdh hdf hok hL hfu hR hK
        go_wp2_with (go_at_call 24; refine (hI.out _).mono ?_; rintro e w2 ⟨rfl, b2⟩; have hm2 := hmv.out _ b2)
        go_ret
        exact ⟨ret_bool hr.out.symm, hm2.1⟩
      · have hlo : s[pos].toNat < 128 := by omega
        have hnx : ∀ ty, (Instr.next (.pointer (some ⟨w.heap.size + 1, 0, none⟩)) true ty).run Tryd.prog wr = _ := fun ty => Lib.run_next_ascii_at wr (w.heap.size + 1) s pos ty hL.out.it hps hlo
        have hI : Hid (∀ W, Calls Tryd.prog 24 #[.string ⟨#[103, 71, 105, 101]⟩, .int .i32 s[pos].toNat] W fun e w' => e = .returned (.int .i64 (Gr.ix s[pos].toNat)) ∧ Below W.heap.size W w') := fun W => idx_any s[pos].toNat W (by omega) (by omega)
        have hmv := Rg.hid (fun W => hL.out.moved (W' := W) (Nat.le_succ _) 1)
        clear hL
        by_cases hix : Gr.ix s[pos].toNat = -1
        · have hr : Hid (T = false) := by show _ = _; rw [← hTh.out]; exact Gr.lets_unknown s pos hps (Gr.ix_known _ hix)
          rw [hix] at hI
          clear hhi hlo hok hfu hix
          go_wp2_with (go_at_call 24; refine (hI.out _).mono ?_; rintro e w2 ⟨rfl, b2⟩; have hm2 := hmv.out _ b2)
          go_ret
          exact ⟨ret_bool hr.out.symm, hm2.1⟩
        · rcases Gr.ix_four hix with hc | hc | hc | hc
          · rw [hc] at hnx hI
            have hI2 : Hid (∀ W, Calls Tryd.prog 24 #[.string ⟨#[103, 71, 105, 101]⟩, .int .i32 103] W fun e w' => e = .returned (.int .i64 0) ∧ Below W.heap.size W w') := hI.out
            by_cases hm : s[pos] ∈ s.data.toList.take pos
            · have hr : Hid (T = false) := by show _ = _; rw [← hTh.out]; exact Gr.lets_twice s pos hps hm
              have hbj : (s.data.toList.take pos).contains 103 = true := by rw [← hc]; simpa using hm
              clear hm
              go_wp2_with (go_at_call 24; refine (hI2.out _).mono ?_; rintro e w2 ⟨rfl, b2⟩; have hm2 := hmv.out _ b2; have zj := hm2.2.1.cell 0; simp only [hbj, List.getElem?_cons_zero] at zj)
              go_ret
              exact ⟨ret_bool hr.out.symm, hm2.1⟩
            · have hbj : (s.data.toList.take pos).contains 103 = false := by rw [← hc]; simpa using hm
              have hn : Hid (Gr.okPre (s.data.toList.take (pos + 1)) = true) := Gr.pre_snoc s pos hps hok.out (by rw [hc]; rfl) hm
              clear hm
              go_wp2_with (go_at_call 24; refine (hI2.out _).mono ?_; rintro e w2 ⟨rfl, b2⟩; have hm2 := hmv.out _ b2; have zj := hm2.2.1.cell 0; have zf := hm2.2.1.thaw; simp only [hbj, List.getElem?_cons_zero] at zj)
              have hL2 := LIn.put0 hps hc (Nat.le_refl _) (by omega) hm2
              clear hm2 zj zf b2
              go_roundg g'
              case measure => omega
              case rel => exact ⟨pos + 1, hL2, hn, by omega⟩
          · rw [hc] at hnx hI
            have hI2 : Hid (∀ W, Calls Tryd.prog 24 #[.string ⟨#[103, 71, 105, 101]⟩, .int .i32 71] W fun e w' => e = .returned (.int .i64 1) ∧ Below W.heap.size W w') := hI.out
            by_cases hm : s[pos] ∈ s.data.toList.take pos
            · have hr : Hid (T = false) := by show _ = _; rw [← hTh.out]; exact Gr.lets_twice s pos hps hm
              have hbj : (s.data.toList.take pos).contains 71 = true := by rw [← hc]; simpa using hm
              clear hm
              go_wp2_with (go_at_call 24; refine (hI2.out _).mono ?_; rintro e w2 ⟨rfl, b2⟩; have hm2 := hmv.out _ b2; have zj := hm2.2.1.cell 1; simp only [hbj, List.getElem?_cons_zero, List.getElem?_cons_succ] at zj)
              go_ret
              exact ⟨ret_bool hr.out.symm, hm2.1⟩
            · have hbj : (s.data.toList.take pos).contains 71 = false := by rw [← hc]; simpa using hm
              have hn : Hid (Gr.okPre (s.data.toList.take (pos + 1)) = true) := Gr.pre_snoc s pos hps hok.out (by rw [hc]; rfl) hm
              clear hm
              go_wp2_with (go_at_call 24; refine (hI2.out _).mono ?_; rintro e w2 ⟨rfl, b2⟩; have hm2 := hmv.out _ b2; have zj := hm2.2.1.cell 1; have zf := hm2.2.1.thaw; simp only [hbj, List.getElem?_cons_zero, List.getElem?_cons_succ] at zj)
              have hL2 := LIn.put1 hps hc (Nat.le_refl _) (by omega) hm2
              clear hm2 zj zf b2
              go_roundg g'
              case measure => omega
              case rel => exact ⟨pos + 1, hL2, hn, by omega⟩
          · rw [hc] at hnx hI
            have hI2 : Hid (∀ W, Calls Tryd.prog 24 #[.string ⟨#[103, 71, 105, 101]⟩, .int .i32 105] W fun e w' => e = .returned (.int .i64 2) ∧ Below W.heap.size W w') := hI.out
            by_cases hm : s[pos] ∈ s.data.toList.take pos
            · have hr : Hid (T = false) := by show _ = _; rw [← hTh.out]; exact Gr.lets_twice s pos hps hm
              have hbj : (s.data.toList.take pos).contains 105 = true := by rw [← hc]; simpa using hm
              clear hm
              go_wp2_with (go_at_call 24; refine (hI2.out _).mono ?_; rintro e w2 ⟨rfl, b2⟩; have hm2 := hmv.out _ b2; have zj := hm2.2.1.cell 2; simp only [hbj, List.getElem?_cons_zero, List.getElem?_cons_succ] at zj)
              go_ret
              exact ⟨ret_bool hr.out.symm, hm2.1⟩
            · have hbj : (s.data.toList.take pos).contains 105 = false := by rw [← hc]; simpa using hm
              have hn : Hid (Gr.okPre (s.data.toList.take (pos + 1)) = true) := Gr.pre_snoc s pos hps hok.out (by rw [hc]; rfl) hm
              clear hm
              go_wp2_with (go_at_call 24; refine (hI2.out _).mono ?_; rintro e w2 ⟨rfl, b2⟩; have hm2 := hmv.out _ b2; have zj := hm2.2.1.cell 2; have zf := hm2.2.1.thaw; simp only [hbj, List.getElem?_cons_zero, List.getElem?_cons_succ] at zj)
              have hL2 := LIn.put2 hps hc (Nat.le_refl _) (by omega) hm2
              clear hm2 zj zf b2
              go_roundg g'
              case measure => omega
              case rel => exact ⟨pos + 1, hL2, hn, by omega⟩
          · rw [hc] at hnx hI
            have hI2 : Hid (∀ W, Calls Tryd.prog 24 #[.string ⟨#[103, 71, 105, 101]⟩, .int .i32 101] W fun e w' => e = .returned (.int .i64 3) ∧ Below W.heap.size W w') := hI.out
            by_cases hm : s[pos] ∈ s.data.toList.take pos
            · have hr : Hid (T = false) := by show _ = _; rw [← hTh.out]; exact Gr.lets_twice s pos hps hm
              have hbj : (s.data.toList.take pos).contains 101 = true := by rw [← hc]; simpa using hm
              clear hm
              go_wp2_with (go_at_call 24; refine (hI2.out _).mono ?_; rintro e w2 ⟨rfl, b2⟩; have hm2 := hmv.out _ b2; have zj := hm2.2.1.cell 3; simp only [hbj, List.getElem?_cons_zero, List.getElem?_cons_succ] at zj)
              go_ret
              exact ⟨ret_bool hr.out.symm, hm2.1⟩
            · have hbj : (s.data.toList.take pos).contains 101 = false := by rw [← hc]; simpa using hm
              have hn : Hid (Gr.okPre (s.data.toList.take (pos + 1)) = true) := Gr.pre_snoc s pos hps hok.out (by rw [hc]; rfl) hm
              clear hm
              go_wp2_with (go_at_call 24; refine (hI2.out _).mono ?_; rintro e w2 ⟨rfl, b2⟩; have hm2 := hmv.out _ b2; have zj := hm2.2.1.cell 3; have zf := hm2.2.1.thaw; simp only [hbj, List.getElem?_cons_zero, List.getElem?_cons_succ] at zj)
              have hL2 := LIn.put3 hps hc (Nat.le_refl _) (by omega) hm2
              clear hm2 zj zf b2
              go_roundg g'
              case measure => omega
              case rel => exact ⟨pos + 1, hL2, hn, by omega⟩
    · have hnx : ∀ ty, (Instr.next (.pointer (some ⟨w.heap.size + 1, 0, none⟩)) true ty).run Tryd.prog wr = _ := fun ty => Lib.run_next_end_at wr (w.heap.size + 1) s pos ty hL.out.it hps
      have hbl := hL.out.bel
      have hpre : Gr.okPre s.data.toList = true := by have := hok.out; rwa [Oct.take_all s pos (by omega)] at this
      by_cases he : s = ⟨#[]⟩
      · have hr : Hid (T = false) := by show _ = _; rw [← hTh.out, he]; rfl
        have hem : (s.toList != []) = false := by rw [he, ByteArray.toList_eq]; rfl
        have hem1 : s.toList.isEmpty = true := empty_true he
        clear he
        go_wp2
        go_ret
        exact ⟨ret_bool hr.out.symm, hbl⟩
      · have hr : Hid (T = true) := by show _ = _; rw [← hTh.out]; exact Gr.lets_all s hpre he
        have hem0 := nil_false he
        have hem1 := empty_false he
        have hem : (s.toList != []) = true := by rw [bne, hem0]; rfl
        clear he
        go_wp2
        go_ret
        exact ⟨ret_bool hr.out.symm, hbl⟩
end Go.Proofs.YtpndcbilnbihaabDoor
