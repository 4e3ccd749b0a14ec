/-
  Layer 6: the document's disk: drop.
-/
import Derived.Test.YtempiajepomajaaRf2
namespace Go.Proofs.Ytempiajepomajaa
open Go.RowKit

set_option maxHeartbeats 2000000 in
set_option maxRecDepth 100000 in
theorem rdrop_any (g cap : Nat) (l : List Dsk.Fl) (n : ByteArray) (w : World) (hn : l.length ≤ 1000000000) (hc : l.length ≤ cap) (hrow : fileE.Row w (some ⟨g, 0, none⟩) l) :
    Calls Try.prog 62 #[.slice (some ⟨g, 0, none⟩) l.length cap, .string n] w fun e w' => RPost w (Dsk.cut l n) e w' := by
  obtain ⟨i0, hi, hz0, hz1, hz2⟩ := infoFile'
  have HF : Hid (∀ W, Below w.heap.size w W → Calls Try.prog 41 #[.slice (some ⟨g, 0, none⟩) l.length cap, .string n] W fun e w' => e = .returned (.tuple #[.int .i64 (Dsk.pos l n), .bool (Dsk.has l n)]) ∧ Below W.heap.size W w') := fun W hW => rfind_any _ cap l n W hn (hrow.below hW)
  cases hh : Dsk.has l n
  · have hg : Dsk.get l n = none := by unfold Dsk.has at hh; cases e : Dsk.get l n; (· rfl); rw [e] at hh; cases hh
    have hend : Hid (∀ W, Below w.heap.size w W → RPost w (Dsk.cut l n) (.returned (.slice (some ⟨g, 0, none⟩) l.length cap)) W) := fun W hW => by
      rw [Dsk.cut_none l n hg]
      exact ⟨g, cap, rfl, hrow.below hW, hc, hW⟩
    rw [hh] at HF
    generalize Dsk.cut l n = l' at *
    generalize Dsk.pos l n = p at *
    generalize l.length = N at *
    clear hrow hh hg
    go_enter Try.func62, Try.ntmps62
    go_upto_region 2 with (go_at_call 41; refine (HF.out _ (Below.refl _ _)).mono ?_; rintro e w2 ⟨rfl, b2⟩)
    have hpost := Rg.hid (hend.out w2 b2)
    clear hend HF b2
    go_wp2
    go_ret
    exact hpost.out
  · obtain ⟨y, hg⟩ := has_get hh
    obtain ⟨hp, _, _⟩ := Dsk.get_some_iff.1 hg
    have hl' : Hid (l.take (Dsk.pos l n) ++ l.drop (Dsk.pos l n + 1) = Dsk.cut l n) := (Dsk.cut_there l n (by rw [hg]; simp)).symm
    rw [hh] at HF
    obtain ⟨N, hN⟩ : ∃ N, N = l.length := ⟨_, rfl⟩
    generalize Dsk.cut l n = l' at *
    generalize Dsk.pos l n = p at *
    rw [← hN] at HF hn hc hp ⊢
    replace hN := Rg.hid hN
    replace hrow := Rg.hid hrow
    obtain ⟨q, hq⟩ : ∃ q, q = p + 1 := ⟨_, rfl⟩
    rw [← hq] at hl'
    have hqN : q ≤ N := by omega
    have hgl : g < w.heap.size := hrow.out.some.1
    have e7 : IntKind.i64.wrap ((p : Int) + 1) = (q : Int) := by rw [IntKind.wrap_i64]; omega
    replace hq := Rg.hid hq
    clear hh hg
    go_enter Try.func62, Try.ntmps62
    go_upto_region 2 with (go_at_call 41; refine (HF.out _ (Below.refl _ _)).mono ?_; rintro e w2 ⟨rfl, b2⟩)
    have hB2 : w.heap.size ≤ (w2.alloc (.cells #[] 53)).drew.heap.size := by have := b2.size; simp; omega
    have hown0 : fileE.Own w.heap.size (w2.alloc (.cells #[] 53)).drew w2.heap.size 0 [] [] := ⟨Rg.Bk.new (C := []) rfl, b2.size, Nat.le_refl _, Nat.zero_le _, Nat.le_refl _⟩
    have hbw2 := (Rg.chain b2 (Rg.al1 w2 (.cells #[] 53))).drew
    have hlt : Hid ((l.take p).length = p) := by show _ = _; rw [List.length_take, ← hN.out]; omega
    obtain ⟨g3, cap3, rest3, w3, hap3, hown3, hb3, _, _⟩ := hown0.appendRow (P := Try.prog) (l.take p) 25 25 i0 _ 32 Try.underlying25 hi hz0 hz1 hz2 rfl (some ⟨g, 0, none⟩) cap ((hrow.out.below hbw2).take p) hB2 (by rw [hlt.out]; simp; omega) (by rw [hlt.out]; unfold maxLen; simp; omega)
    rw [List.nil_append] at hown3
    rw [hlt.out, show ([] : List Dsk.Fl).length + p = p by simp] at hap3
    have hap3 : Hid ((Builtin.append_ #[25, 25] 25 #[.slice (some ⟨w2.heap.size, 0, none⟩) 0 0, .slice (some ⟨g, 0, none⟩) p cap]).run Try.prog (w2.alloc (.cells #[] 53)).drew = .ok (.slice (some ⟨g3, 0, none⟩) p cap3) w3) := hap3
    have hbw3 := hbw2.trans hb3
    have hgl3 : g < w3.heap.size := by have := hbw3.size; omega
    have hsrc3 : Rg.At w3 g (q * 2) (fileE.flat (l.drop q)) := by
      have hat := (hrow.out.below hbw3).some.2
      rw [← List.take_append_drop q l, fileE.flat_append] at hat
      have := hat.right (fileE.flat_take l q (by rw [← hN.out]; exact hqN))
      rw [Nat.zero_add] at this; exact this
    have hB3 : w.heap.size ≤ w3.heap.size := hbw3.size
    have hdl : Hid ((l.drop q).length = N - q) := by show _ = _; rw [List.length_drop, ← hN.out]
    have hbig5 : ((l.take p).length + (l.drop q).length) * 32 ≤ 140737488355328 := by rw [hlt.out, hdl.out]; omega
    have hmax5 : (l.take p).length + (l.drop q).length ≤ maxLen := by rw [hlt.out, hdl.out]; unfold maxLen; omega
    generalize l.take p = L4 at *
    have e0 : (0 : Int) ≤ (p : Int) := by omega
    have e1 : (p : Int) ≤ (cap : Int) := by omega
    have s0 : (0 : Int) ≤ (q : Int) := by omega
    have s1 : (q : Int) ≤ (N : Int) := by omega
    have s2 : (N : Int) ≤ (cap : Int) := by omega
    clear hown0 hB2 hbw2 hb3 b2 HF
    by_cases hcq : cap = q
    · skip
      have hqN' : q = N := by omega
      obtain ⟨g5, cap5, rest5, w5, hap5, hown5, hb5, _, _⟩ := hown3.appendRow (P := Try.prog) (l.drop q) 25 25 i0 _ 32 Try.underlying25 hi hz0 hz1 hz2 rfl (some ⟨g, 0, none⟩) (cap - q) (.inr ⟨g, 0, rfl, hgl3, by rw [List.drop_eq_nil_of_le (by rw [← hN.out]; omega)]; exact Rg.At.nil⟩) hB3 hbig5 hmax5
      have hpost : Hid (RPost w l' (.returned (.slice (some ⟨g5, 0, none⟩) (L4.length + (l.drop q).length) cap5)) w5) := ⟨g5, cap5, by rw [← hl'.out, List.length_append], by rw [← hl'.out]; exact hown5.toRow, by rw [← hl'.out]; exact hown5.le, hbw3.trans hb5⟩
      rw [hlt.out, hdl.out] at hap5 hpost
      subst hcq
      subst hqN'
      rw [Nat.sub_self] at hap5 hpost
      replace hap5 := Rg.hid hap5
      clear hown5 hb5 hown3 hsrc3 hbig5 hmax5 hi hz0 hz1 hz2 hrow hl'
      go_upto_region 4 with fail
      go_region_held3 (Rg.Free) (exact Rg.free _) (first
        | (refine Rg.step_append_run (by rfl) (.tmp 16) (.tmp 19) 25 (by rfl) _ _ (by rfl) (by rfl) hap3.out ?_)
        | (refine Rg.step_append_run (by rfl) (.tmp 20) (.tmp 24) 25 (by rfl) _ _ (by rfl) (by rfl) hap5.out ?_))
      all_goals
        go_wp2
        go_ret
        exact hpost.out
    · skip
      obtain ⟨g5, cap5, rest5, w5, hap5, hown5, hb5, _, _⟩ := hown3.appendRow (P := Try.prog) (l.drop q) 25 25 i0 _ 32 Try.underlying25 hi hz0 hz1 hz2 rfl (some ⟨g, q * 2, none⟩) (cap - q) (.inr ⟨g, q * 2, rfl, hgl3, hsrc3⟩) hB3 hbig5 hmax5
      have hpost : Hid (RPost w l' (.returned (.slice (some ⟨g5, 0, none⟩) (L4.length + (l.drop q).length) cap5)) w5) := ⟨g5, cap5, by rw [← hl'.out, List.length_append], by rw [← hl'.out]; exact hown5.toRow, by rw [← hl'.out]; exact hown5.le, hbw3.trans hb5⟩
      rw [hlt.out, hdl.out] at hap5 hpost
      replace hap5 := Rg.hid hap5
      clear hown5 hb5 hown3 hsrc3 hbig5 hmax5 hi hz0 hz1 hz2 hrow hl'
      go_upto_region 4 with fail
      go_region_held3 (Rg.Free) (exact Rg.free _) (first
        | (refine Rg.step_append_run (by rfl) (.tmp 16) (.tmp 19) 25 (by rfl) _ _ (by rfl) (by rfl) hap3.out ?_)
        | (refine Rg.step_append_run (by rfl) (.tmp 20) (.tmp 24) 25 (by rfl) _ _ (by rfl) (by rfl) hap5.out ?_))
      all_goals
        go_wp2
        go_ret
        exact hpost.out
end Go.Proofs.Ytempiajepomajaa
