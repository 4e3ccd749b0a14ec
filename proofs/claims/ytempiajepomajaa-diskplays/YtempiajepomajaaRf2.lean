/-
  Layer 6: the document's disk: put.
-/
import Derived.Test.YtempiajepomajaaRf1
import Derived.Test.YtempiajepomajaaRowJ
namespace Go.Proofs.Ytempiajepomajaa
open Go.RowKit

/-- files in a row that is not nil -/
def RPost (w : World) (l : List Dsk.Fl) (e : Ending) (w' : World) : Prop := ∃ g cap, e = .returned (.slice (some ⟨g, 0, none⟩) l.length cap) ∧ fileE.Row w' (some ⟨g, 0, none⟩) l ∧ l.length ≤ cap ∧ Below w.heap.size w w'
theorem put_parts (l : List Dsk.Fl) (f : Dsk.Fl) : (l.take (Dsk.pos l f.n) ++ [f]) ++ l.drop (if Dsk.has l f.n = true then Dsk.pos l f.n + 1 else Dsk.pos l f.n) = Dsk.put l f := by
  cases hh : Dsk.has l f.n
  · have hg : Dsk.get l f.n = none := by unfold Dsk.has at hh; cases e : Dsk.get l f.n; (· rfl); rw [e] at hh; cases hh
    rw [Dsk.put_new l f hg]; simp
  · obtain ⟨x, hg⟩ := has_get hh
    obtain ⟨hp, _, _⟩ := Dsk.get_some_iff.1 hg
    rw [Dsk.put_there l f (by rw [hg]; simp), List.set_eq_take_append_cons_drop, if_pos hp]; simp

set_option maxHeartbeats 4000000 in
set_option maxRecDepth 100000 in
theorem rput_any (g cap : Nat) (l : List Dsk.Fl) (n x : ByteArray) (w : World) (hn : l.length ≤ 1000000000) (hc : l.length ≤ cap) (hrow : fileE.Row w (some ⟨g, 0, none⟩) l) :
    Calls Try.prog 61 #[.slice (some ⟨g, 0, none⟩) l.length cap, .agg #[.string n, .string x]] w fun e w' => RPost w (Dsk.put l ⟨n, x⟩) e w' := by
  obtain ⟨i0, hi, hz0, hz1, hz2⟩ := infoFile'
  have HF : Hid (∀ W, Below w.heap.size w W → Calls Try.prog 41 #[.slice (some ⟨g, 0, none⟩) l.length cap, .string n] W fun e w' => e = .returned (.tuple #[.int .i64 (Dsk.pos l n), .bool (Dsk.has l n)]) ∧ Below W.heap.size W w') := fun W hW => rfind_any _ cap l n W hn (hrow.below hW)
  have hl' : Hid ((l.take (Dsk.pos l n) ++ [(⟨n, x⟩ : Dsk.Fl)]) ++ l.drop (if Dsk.has l n = true then Dsk.pos l n + 1 else Dsk.pos l n) = Dsk.put l ⟨n, x⟩) := put_parts l ⟨n, x⟩
  have hpl := Dsk.pos_le l n
  have hhp : Dsk.has l n = true → Dsk.pos l n < l.length := fun h => by
    obtain ⟨y, hg⟩ := has_get h
    exact (Dsk.get_some_iff.1 hg).1
  obtain ⟨N, hN⟩ : ∃ N, N = l.length := ⟨_, rfl⟩
  generalize Dsk.put l ⟨n, x⟩ = l' at *
  generalize Dsk.pos l n = p at *
  generalize Dsk.has l n = h at *
  rw [← hN] at HF hn hc hpl hhp ⊢
  replace hN := Rg.hid hN
  replace hrow := Rg.hid hrow
  obtain ⟨q, hq⟩ : ∃ q, q = if h = true then p + 1 else p := ⟨_, rfl⟩
  rw [← hq] at hl'
  have hqN : q ≤ N := by
    rw [hq]; cases h
    · simpa using hpl
    · have := hhp rfl; simp; omega
  have hq1 : h = true → q = p + 1 := fun e => by rw [hq, if_pos e]
  have hq0 : h = false → q = p := fun e => by rw [hq, e]; rfl
  have hgl : g < w.heap.size := hrow.out.some.1
  replace hq1 := Rg.hid hq1
  replace hq0 := Rg.hid hq0
  have hbx := Rg.hid (Rg.al1 w (.cells #[.string n, .string x] 53))
  have hkx : Rg.Bk w.heap.size [.string n, .string x] 53 (w.alloc (.cells #[.string n, .string x] 53)) := Rg.Bk.new rfl
  clear hhp hq
  go_enter Try.func61, Try.ntmps61
  go_upto_region 2 with (go_at_call 41; refine (HF.out _ (Rg.al1 _ _)).mono ?_; rintro e w2 ⟨rfl, b2⟩)
  have hb2 := Rg.chain hbx.out b2
  have hk2 := hkx.below b2 hkx.lt
  obtain ⟨B, hBd⟩ : ∃ B, B = w.heap.size := ⟨_, rfl⟩
  rw [← hBd] at hk2 ⊢
  clear HF hkx hbx b2 hBd
  -- region 2
  have hB2 : w.heap.size ≤ (w2.alloc (.cells #[] 53)).heap.size := by have := hb2.size; simp; omega
  have hown0 : fileE.Own w.heap.size (w2.alloc (.cells #[] 53)) w2.heap.size 0 [] [] := ⟨Rg.Bk.new (C := []) rfl, hb2.size, Nat.le_refl _, Nat.zero_le _, Nat.le_refl _⟩
  have hbw2 := Rg.chain hb2 (Rg.al1 w2 (.cells #[] 53))
  have hlt : (l.take p).length = p := by rw [List.length_take, ← hN.out]; omega
  obtain ⟨g3, cap3, rest3, w3, hap3, hown3, hb3, hoth3, hg3⟩ := hown0.appendRow (P := Try.prog) (l.take p) 25 25 i0 _ 32 Try.underlying25 hi hz0 hz1 hz2 rfl (some ⟨g, 0, none⟩) cap ((hrow.out.below hbw2).take p) hB2 (by rw [hlt]; simp; omega) (by rw [hlt]; unfold maxLen; simp; omega)
  rw [List.nil_append] at hown3
  rw [hlt, show ([] : List Dsk.Fl).length + p = p by simp] at hap3
  have hbw3 := hbw2.trans hb3
  have hk3 : Rg.Bk B [.string n, .string x] 53 w3 := (hk2.old (.cells #[] 53)).same (hoth3 B (by have := hk2.lt; simp; omega) (by have := hk2.lt; omega))
  have e0 : (0 : Int) ≤ (p : Int) := by omega
  have e1 : (p : Int) ≤ (cap : Int) := by omega
  have hap3' : Hid ((Builtin.append_ #[25, 25] 25 #[.slice (some ⟨w2.heap.size, 0, none⟩) 0 0, .slice (some ⟨g, 0, none⟩) p cap]).run Try.prog (w2.alloc (.cells #[] 53)) = .ok (.slice (some ⟨g3, 0, none⟩) p cap3) w3) := hap3
  clear hap3 hoth3 hown0 hB2 hbw2 hb3 hk2 hb2
  go_upto_region 3 with (at_builtin; refine Rg.wpList_append_run rfl (.tmp 15) (.tmp 18) 25 rfl _ _ rfl rfl _ _ hap3'.out ?_)
  have k0 : w3.cell? ⟨B, 0, none⟩ = some (.string n) := hk3.cell 0
  have k1 : w3.cell? ⟨B, 1, none⟩ = some (.string x) := hk3.cell 1
  obtain ⟨g4, cap4, rest4, w4, hap4, hown4, _, hb4, _, _⟩ := (hown3.below (Rg.al1 w3 (.cells #[.string n, .string x] 53))).append (P := Try.prog) ⟨n, x⟩ 25 25 i0 _ 32 Try.underlying25 hi hz0 hz1 hz2 rfl ⟨w3.heap.size, 0, none⟩ 1 (Rg.At.add (fun t u ht => by rw [Nat.zero_add, (Rg.Bk.new (C := [.string n, .string x]) (ty := 53) rfl).cell t]; exact ht)) (by have := hbw3.size; simp; omega) (by rw [hlt]; omega) (by rw [hlt]; unfold maxLen; omega)
  have hbw4 : Below w.heap.size w w4 := (Rg.chain hbw3 (Rg.al1 w3 (.cells #[.string n, .string x] 53))).trans hb4
  rw [hlt] at hap4
  replace hap4 := Rg.hid hap4
  clear hown3 hb4 hap3' hk3 hbw3
  go_upto_region 4 with (at_builtin; refine Rg.wpList_append_run rfl (.tmp 20) (.tmp 22) 25 rfl _ _ rfl rfl _ _ hap4.out ?_)
  clear k0 k1 hap4
  have hlen4 : Hid ((l.take p ++ [(⟨n, x⟩ : Dsk.Fl)]).length = p + 1) := by show _ = _; rw [List.length_append, hlt]; rfl
  have hdl : Hid ((l.drop q).length = N - q) := by show _ = _; rw [List.length_drop, ← hN.out]
  have hown4' := hown4
  have hgl4 : g < w4.heap.size := by have := hbw4.size; omega
  have hsrc4 : Rg.At w4 g (q * 2) (fileE.flat (l.drop q)) := by
    have hat := (hrow.out.below hbw4).some.2
    rw [← List.take_append_drop q l, fileE.flat_append] at hat
    have := hat.right (fileE.flat_take l q (by rw [← hN.out]; exact hqN))
    rw [Nat.zero_add] at this; exact this
  have hB4 : w.heap.size ≤ w4.heap.size := hbw4.size
  have hbig5 : ((l.take p ++ [(⟨n, x⟩ : Dsk.Fl)]).length + (l.drop q).length) * 32 ≤ 140737488355328 := by rw [hlen4.out, hdl.out]; omega
  have hmax5 : (l.take p ++ [(⟨n, x⟩ : Dsk.Fl)]).length + (l.drop q).length ≤ maxLen := by rw [hlen4.out, hdl.out]; unfold maxLen; omega
  have hrs := hrow
  clear hown4
  generalize l.take p ++ [(⟨n, x⟩ : Dsk.Fl)] = L4 at *
  obtain ⟨P1, hP1⟩ : ∃ P1, P1 = p + 1 := ⟨_, rfl⟩
  rw [← hP1] at hlen4 ⊢
  replace hP1 := Rg.hid hP1
  have s0 : (0 : Int) ≤ (q : Int) := by omega
  have s1 : (q : Int) ≤ (N : Int) := by omega
  have s2 : (N : Int) ≤ (cap : Int) := by omega
  clear hlt e0 e1
  cases h
  · obtain rfl := hq0.out rfl
    clear hq0 hq1
    go_upto_region 6 with fail
    by_cases hcq : cap = q
    · skip
      have hqN' : q = N := by omega
      obtain ⟨g5, cap5, rest5, w5, hap5, hown5, hb5, _, _⟩ := hown4'.appendRow (P := Try.prog) (l.drop q) 25 25 i0 _ 32 Try.underlying25 hi hz0 hz1 hz2 rfl (some ⟨g, 0, none⟩) (cap - q) (.inr ⟨g, 0, rfl, hgl4, by rw [List.drop_eq_nil_of_le (by rw [← hN.out]; omega)]; exact Rg.At.nil⟩) hB4 hbig5 hmax5
      have hpost : Hid (RPost w l' (.returned (.slice (some ⟨g5, 0, none⟩) (L4.length + (l.drop q).length) cap5)) w5) := ⟨g5, cap5, by rw [← hl'.out, List.length_append], by rw [← hl'.out]; exact hown5.toRow, by rw [← hl'.out]; exact hown5.le, (hbw4.mono (Nat.le_refl _)).trans hb5⟩
      rw [hlen4.out, hdl.out] at hap5 hpost
      subst hcq
      subst hqN'
      rw [Nat.sub_self] at hap5 hpost
      replace hap5 := Rg.hid hap5
      clear hown5 hb5 hown4' hsrc4 hbig5 hmax5 hi hz0 hz1 hz2 hrow hl' hrs
      go_wp2_with (at_builtin; refine Rg.wpList_append_run rfl (.tmp 27) (.tmp 30) 25 rfl _ _ rfl rfl _ _ hap5.out ?_)
      go_ret
      exact hpost.out
    · skip
      obtain ⟨g5, cap5, rest5, w5, hap5, hown5, hb5, _, _⟩ := hown4'.appendRow (P := Try.prog) (l.drop q) 25 25 i0 _ 32 Try.underlying25 hi hz0 hz1 hz2 rfl (some ⟨g, q * 2, none⟩) (cap - q) (.inr ⟨g, q * 2, rfl, hgl4, hsrc4⟩) hB4 hbig5 hmax5
      have hpost : Hid (RPost w l' (.returned (.slice (some ⟨g5, 0, none⟩) (L4.length + (l.drop q).length) cap5)) w5) := ⟨g5, cap5, by rw [← hl'.out, List.length_append], by rw [← hl'.out]; exact hown5.toRow, by rw [← hl'.out]; exact hown5.le, (hbw4.mono (Nat.le_refl _)).trans hb5⟩
      rw [hlen4.out, hdl.out] at hap5 hpost
      replace hap5 := Rg.hid hap5
      clear hown5 hb5 hown4' hsrc4 hbig5 hmax5 hi hz0 hz1 hz2 hrow hl' hrs
      go_wp2_with (at_builtin; refine Rg.wpList_append_run rfl (.tmp 27) (.tmp 30) 25 rfl _ _ rfl rfl _ _ hap5.out ?_)
      go_ret
      exact hpost.out
  · have e7 : Hid (q = p + 1) := hq1.out rfl
    have e10 : Hid (((p : Int) + 1) = (q : Int)) := by show _ = _; have := e7.out; omega
    clear hq0 hq1
    go_upto_region 6 with fail
    rw [e10.out]
    by_cases hcq : cap = q
    · skip
      have hqN' : q = N := by omega
      obtain ⟨g5, cap5, rest5, w5, hap5, hown5, hb5, _, _⟩ := hown4'.appendRow (P := Try.prog) (l.drop q) 25 25 i0 _ 32 Try.underlying25 hi hz0 hz1 hz2 rfl (some ⟨g, 0, none⟩) (cap - q) (.inr ⟨g, 0, rfl, hgl4, by rw [List.drop_eq_nil_of_le (by rw [← hN.out]; omega)]; exact Rg.At.nil⟩) hB4 hbig5 hmax5
      have hpost : Hid (RPost w l' (.returned (.slice (some ⟨g5, 0, none⟩) (L4.length + (l.drop q).length) cap5)) w5) := ⟨g5, cap5, by rw [← hl'.out, List.length_append], by rw [← hl'.out]; exact hown5.toRow, by rw [← hl'.out]; exact hown5.le, (hbw4.mono (Nat.le_refl _)).trans hb5⟩
      rw [hlen4.out, hdl.out] at hap5 hpost
      subst hcq
      subst hqN'
      rw [Nat.sub_self] at hap5 hpost
      replace hap5 := Rg.hid hap5
      clear hown5 hb5 hown4' hsrc4 hbig5 hmax5 hi hz0 hz1 hz2 hrow hl' hrs
      go_wp2_with (at_builtin; refine Rg.wpList_append_run rfl (.tmp 27) (.tmp 30) 25 rfl _ _ rfl rfl _ _ hap5.out ?_)
      go_ret
      exact hpost.out
    · skip
      obtain ⟨g5, cap5, rest5, w5, hap5, hown5, hb5, _, _⟩ := hown4'.appendRow (P := Try.prog) (l.drop q) 25 25 i0 _ 32 Try.underlying25 hi hz0 hz1 hz2 rfl (some ⟨g, q * 2, none⟩) (cap - q) (.inr ⟨g, q * 2, rfl, hgl4, hsrc4⟩) hB4 hbig5 hmax5
      have hpost : Hid (RPost w l' (.returned (.slice (some ⟨g5, 0, none⟩) (L4.length + (l.drop q).length) cap5)) w5) := ⟨g5, cap5, by rw [← hl'.out, List.length_append], by rw [← hl'.out]; exact hown5.toRow, by rw [← hl'.out]; exact hown5.le, (hbw4.mono (Nat.le_refl _)).trans hb5⟩
      rw [hlen4.out, hdl.out] at hap5 hpost
      replace hap5 := Rg.hid hap5
      clear hown5 hb5 hown4' hsrc4 hbig5 hmax5 hi hz0 hz1 hz2 hrow hl' hrs
      go_wp2_with (at_builtin; refine Rg.wpList_append_run rfl (.tmp 27) (.tmp 30) 25 rfl _ _ rfl rfl _ _ hap5.out ?_)
      go_ret
      exact hpost.out
end Go.Proofs.Ytempiajepomajaa
