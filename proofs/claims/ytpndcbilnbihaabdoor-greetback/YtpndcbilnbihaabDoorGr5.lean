/-
  Layer 9: Type.
-/
import Derived.Test.YtpndcbilnbihaabDoorGr4
namespace Go.Proofs.YtpndcbilnbihaabDoor
open Go.RowKit

namespace Gr
theorem is13 {c : UInt8} (h : (c.toNat : Int) = 13) : c = 13 := UInt8.toNat_inj.1 (by have : (13 : UInt8).toNat = 13 := rfl; omega)
theorem not13 {c : UInt8} (h : ¬ (c.toNat : Int) = 13) : c ≠ 13 := by rintro rfl; exact h rfl
theorem is10 {c : UInt8} (h : (c.toNat : Int) = 10) : c = 10 := UInt8.toNat_inj.1 (by have : (10 : UInt8).toNat = 10 := rfl; omega)
theorem not10 {c : UInt8} (h : ¬ (c.toNat : Int) = 10) : c ≠ 10 := by rintro rfl; exact h rfl
end Gr
theorem TIn.drew {w : World} {login pw s : ByteArray} {R : Gr.D × List UInt8 × List UInt8} {k : Nat} {d : Gr.D} {out : List UInt8} {W : World} (h : TIn w login pw s R k d out W) : TIn w login pw s R k d out W.drew := ⟨h.bel.drew, h.door, h.res, builder_kept h.bld (fun _ _ _ => rfl), h.good, h.run, h.small⟩
/-- what Type hands back -/
def TPost (w : World) (R : Gr.D × List UInt8 × List UInt8) (e : Ending) (w' : World) : Prop := e = .returned (.tuple #[dv R.1, .string ⟨R.2.1.toArray⟩, .string ⟨R.2.2.toArray⟩]) ∧ Below w.heap.size w w'
theorem TPost.mk' {w : World} {R : Gr.D × List UInt8 × List UInt8} {w' : World} {st wr : Int} {ty nm a b : ByteArray} {d : Gr.D} {o u : List UInt8} (hR : R = (d, o, u)) (h0 : st = d.stage) (h1 : ty = d.typed) (h2 : nm = d.name) (h3 : wr = d.wrong) (h4 : a = ⟨o.toArray⟩) (h5 : b = ⟨u.toArray⟩) (hb : Below w.heap.size w w') :
    TPost w R (.returned (.tuple #[.agg #[.int .i64 st, .string ty, .string nm, .int .i64 wr], .string a, .string b])) w' := by
  subst hR h0 h1 h2 h3 h4 h5
  exact ⟨rfl, hb⟩

set_option maxHeartbeats 4000000 in
set_option maxRecDepth 100000 in
theorem type_any (d0 : Gr.D) (login pw s : ByteArray) (w : World) (hg : Gr.Good d0) (hs : s.size ≤ 1000000) :
    Calls Tryd.prog 14 #[dv d0, .string login, .string pw, .string s] w fun e w' => TPost w (Gr.typeL login pw s.data.toList d0) e w' := by
  obtain ⟨R, hR⟩ : ∃ R, Gr.typeL login pw s.data.toList d0 = R := ⟨_, rfl⟩
  rw [hR]
  obtain ⟨st0, ty0, nm0, wr0⟩ := d0
  have hst : Hid (TIn w login pw s R 0 ⟨st0, ty0, nm0, wr0⟩ [] (((w.alloc (.cells #[.int .i64 st0, .string ty0, .string nm0, .int .i64 wr0] 38)).alloc (.cells #[.int .i64 0, .string ⟨#[]⟩, .string ⟨#[]⟩, .int .i64 0] 38)).alloc (.cells #[.pointer none, .slice none 0 0] 58))) := by
    refine ⟨Rg.al3 _ _ _ _, ((Rg.Bk.new rfl).old _).old _, (Rg.Bk.new (by simp)).old _, ?_, hg, ?_, by simp⟩
    · have := Lib.fresh_isBuilder 58 5 ((w.alloc (.cells #[.int .i64 st0, .string ty0, .string nm0, .int .i64 wr0] 38)).alloc (.cells #[.int .i64 0, .string ⟨#[]⟩, .string ⟨#[]⟩, .int .i64 0] 38))
      have h2 := Lib.IsBuilderF.of this
      have e : ((w.alloc (.cells #[.int .i64 st0, .string ty0, .string nm0, .int .i64 wr0] 38)).alloc (.cells #[.int .i64 0, .string ⟨#[]⟩, .string ⟨#[]⟩, .int .i64 0] 38)).heap.size = w.heap.size + 2 := by simp
      rw [e] at h2
      exact h2
    · rw [List.drop_zero, hR]; rfl
  clear hR
  unfold dv
  simp only
  clear hg
  go_enter Tryd.func14, Tryd.ntmps14
  go_wp2
  go_loopw [16] (fun i W => ∃ (k : Nat) (d : Gr.D) (out : List UInt8), k ≤ s.size ∧ i = .int .i64 k ∧ Hid (TIn w login pw s R k d out W)) (fun i _ => s.size - (intOf i).toNat)
  case atStart => exact ⟨0, _, _, Nat.zero_le _, rfl, hst⟩
  case round =>
    obtain ⟨k, ⟨st, ty, nm, wrg⟩, out, hk, rfl, hT⟩ := hrel
    clear hst
    have z0 : wr.cell? ⟨w.heap.size, 0, none⟩ = some (.int .i64 st) := hT.out.door.cell 0
    have z1 : wr.cell? ⟨w.heap.size, 1, none⟩ = some (.string ty) := hT.out.door.cell 1
    have z2 : wr.cell? ⟨w.heap.size, 2, none⟩ = some (.string nm) := hT.out.door.cell 2
    have z3 : wr.cell? ⟨w.heap.size, 3, none⟩ = some (.int .i64 wrg) := hT.out.door.cell 3
    have HS : Hid (∀ W : World, Below wr.heap.size wr W → Calls Tryd.prog 25 #[.pointer (some ⟨w.heap.size + 2, 0, none⟩)] W fun e w' => e = .returned (.string ⟨out.toArray⟩) ∧ Below w.heap.size w w' ∧ Rg.Bk (w.heap.size + 1) [.int .i64 0, .string ⟨#[]⟩, .string ⟨#[]⟩, .int .i64 0] 38 w' ∧ w'.cell? ⟨w.heap.size, 0, none⟩ = some (.int .i64 st) ∧ w'.cell? ⟨w.heap.size, 1, none⟩ = some (.string ty) ∧ w'.cell? ⟨w.heap.size, 2, none⟩ = some (.string nm) ∧ w'.cell? ⟨w.heap.size, 3, none⟩ = some (.int .i64 wrg)) := fun W hW => by
      have hb : Lib.IsBuilderF 58 5 (w.heap.size + 2) (w.heap.size + 2) (Lib.byteCells out) W := builder_kept hT.out.bld (fun j _ hj => hW.block j hj)
      have hres : Rg.Bk (w.heap.size + 1) [.int .i64 0, .string ⟨#[]⟩, .string ⟨#[]⟩, .int .i64 0] 38 W := hT.out.res.below hW hT.out.res.lt
      have hdoor : Rg.Bk w.heap.size [.int .i64 st, .string ty, .string nm, .int .i64 wrg] 38 W := hT.out.door.below hW hT.out.door.lt
      have hbel : Below w.heap.size w W := hT.out.bel.trans (hW.mono hT.out.bel.size)
      refine (Tryd.Builder_String_any_k _ _ out W hb (by have := hres.lt; omega)).mono fun e w' h => ⟨h.1, hbel.trans (h.2.2.1.mono (by omega)), hres.below h.2.2.1 (by omega), ?_⟩
      have hd2 := hdoor.below h.2.2.1 (by omega)
      exact ⟨hd2.cell 0, hd2.cell 1, hd2.cell 2, hd2.cell 3⟩
    by_cases hlt : k < s.size
    · by_cases h2 : st = 2
      · subst h2
        have hrun := hT.out.run
        rw [Gr.drop_at s k hlt, Gr.type_in rfl, ← Gr.drop_at s k hlt] at hrun
        replace hrun := Rg.hid hrun
        have HQ := Rg.hid (ba_drop s k)
        have q0 : (0 : Int) ≤ (k : Int) := by omega
        have q1 : (k : Int) ≤ (s.size : Int) := by omega
        clear hT
        go_upto_region 6 with fail
        go_region_held3 (fun w' => w'.cell? ⟨w.heap.size, 0, none⟩ = some (.int .i64 2) ∧ w'.cell? ⟨w.heap.size, 1, none⟩ = some (.string ty) ∧ w'.cell? ⟨w.heap.size, 2, none⟩ = some (.string nm) ∧ w'.cell? ⟨w.heap.size, 3, none⟩ = some (.int .i64 wrg)) (go_keep) (first
          | (go_at_call 25; refine (HS.out _ ?_).mono ?_; (first | exact (Below.refl _ _).drew | exact Below.refl _ _); rintro e w2 ⟨rfl, b2, kR2, y0, y1, y2, y3⟩; have rf := kR2.thaw; have r0 := kR2.cell 0; have r1 := kR2.cell 1; have r2 := kR2.cell 2; have r3 := kR2.cell 3))
        all_goals
          obtain ⟨kE, oE⟩ := ret4 kR2 rfl (.int .i64 2) (.string ty) (.string nm) (.int .i64 wrg)
          have hb5 := b2.trans (oE.bel (Nat.le_succ _))
          go_wp2
          generalize World.setCell _ _ _ = WE at *
          exact bodyPost_ret (v := .tuple #[.agg #[.int .i64 2, .string ty, .string nm, .int .i64 wrg], .string ⟨out.toArray⟩, .string (s.extract k s.size)]) (by simp [results, Tryd.results14, go_sem, kE.cell]) rfl (TPost.mk' hrun.out rfl rfl rfl rfl (by simp) HQ.out (by first | exact hb5 | exact hb5.drew))
      · have d2 : (st == 2) = false := by rw [beq_eq_false_iff_ne]; exact h2
        by_cases hst : st = 0 ∨ st = 1
        · rcases hst with rfl | rfl
          · clear h2 d2
            obtain ⟨⟨⟨lst, lty, lnm, lwr⟩, ans⟩, hln⟩ : ∃ r, Gr.line login pw ⟨0, ty, nm, wrg⟩ = r := ⟨_, rfl⟩
            by_cases h13 : (s[k].toNat : Int) = 13
            · have c13 : ((s[k].toNat : Int) == 13) = true := by rw [beq_iff_eq]; exact h13
              have HE : Hid (∀ W, Calls Tryd.prog 26 #[.agg #[.int .i64 0, .string ty, .string nm, .int .i64 wrg], .string login, .string pw] W fun e w' => e = .returned (.tuple #[.agg #[.int .i64 lst, .string lty, .string lnm, .int .i64 lwr], .string ans]) ∧ Below W.heap.size W w') := fun W => by
                have := endLine_any ⟨0, ty, nm, wrg⟩ login pw W hT.out.good (Or.inl rfl)
                rw [hln] at this
                exact this
              have hlined : Hid (∀ W', Below w.heap.size w W' → Rg.Bk w.heap.size [.int .i64 lst, .string lty, .string lnm, .int .i64 lwr] 38 W' → Rg.Bk (w.heap.size + 1) [.int .i64 0, .string ⟨#[]⟩, .string ⟨#[]⟩, .int .i64 0] 38 W' → Lib.BuilderAtF 58 5 (w.heap.size + 2) (w.heap.size + 2) (.pointer (some ⟨w.heap.size + 2, 0, none⟩)) (Lib.byteCells out ++ Lib.strCells ans) W' → TIn w login pw s R (k + 1) ⟨lst, lty, lnm, lwr⟩ (out ++ ans.data.toList) W') := fun W' a b c d => by
                have := hT.out.lined hlt (Or.inl (Gr.is13 h13)) (Or.inl rfl) a
                rw [hln] at this
                exact this b c d
              have hsm := hT.out.small
              have hans : ans.size ≤ 24 := by have := line_small login pw ⟨0, ty, nm, wrg⟩; rw [hln] at this; exact this
              have HW : Hid (∀ W, Lib.IsBuilderF 58 5 (w.heap.size + 2) (w.heap.size + 2) (Lib.byteCells out) W → w.heap.size + 2 ≤ W.heap.size → Calls Tryd.prog 27 #[.pointer (some ⟨w.heap.size + 2, 0, none⟩), .string ans] W fun e w' => e = .returned (.tuple #[.int .i64 ans.size, .nilIface]) ∧ (Lib.BuilderAtF 58 5 (w.heap.size + 2) (w.heap.size + 2) (.pointer (some ⟨w.heap.size + 2, 0, none⟩)) (Lib.byteCells out ++ Lib.strCells ans) w' ∧ Below (w.heap.size + 2) W w')) := fun W h1 h2 => Bld.writeString _ _ _ ans W h1 (by simp only [Lib.byteCells, List.length_map]; omega) h2
              clear hln HS
              go_upto_region 12 with (go_at_call 26; refine (HE.out _).mono ?_; rintro e w2 ⟨rfl, b2⟩; have kB2 := hT.out.door.below b2 hT.out.door.lt; have yf := kB2.thaw; have y0 := kB2.cell 0; have y1 := kB2.cell 1; have y2 := kB2.cell 2; have y3 := kB2.cell 3)
              obtain ⟨kE, oE⟩ := ret4 kB2 rfl (.int .i64 lst) (.string lty) (.string lnm) (.int .i64 lwr)
              have hbl3 := Rg.hid (builder_kept (W' := (((w2.setCell ⟨w.heap.size, 0, none⟩ (.int .i64 lst)).setCell ⟨w.heap.size, 1, none⟩ (.string lty)).setCell ⟨w.heap.size, 2, none⟩ (.string lnm)).setCell ⟨w.heap.size, 3, none⟩ (.int .i64 lwr)) hT.out.bld (fun j hj hj2 => (oE.block j (by omega)).trans (b2.block j hj2)))
              have hb3 := Rg.hid ((hT.out.bel.trans (b2.mono hT.out.bel.size)).trans (oE.bel (Nat.le_refl _)))
              have kR3 := Rg.hid ((hT.out.res.below b2 hT.out.res.lt).same (oE.block _ (by omega)))
              have kE3 := Rg.hid kE
              clear kB2 yf y0 y1 y2 y3 z0 z1 z2 z3 b2 oE kE hT HE
              generalize World.setCell _ _ _ = w3 at *
              go_wp2_with (go_at_call 27; refine (HW.out _ hbl3.out (by have := kR3.out.lt; omega)).mono ?_; rintro e w4 ⟨rfl, hbl4, b4⟩)
              have hn := hlined.out w4 (hb3.out.trans (b4.mono (by omega))) (kE3.out.below b4 (by omega)) (kR3.out.below b4 (by omega)) hbl4
              clear hbl3 hb3 kR3 kE3 hlined HW hbl4 b4
              go_roundw
              case rel => exact ⟨k + 1, _, _, by omega, by go_num, hn⟩
              case measure => simp [intOf]; omega
            · have c13 : ((s[k].toNat : Int) == 13) = false := by rw [beq_eq_false_iff_ne]; exact h13
              by_cases h10 : (s[k].toNat : Int) = 10
              · have c10 : ((s[k].toNat : Int) == 10) = true := by rw [beq_iff_eq]; exact h10
                have HE : Hid (∀ W, Calls Tryd.prog 26 #[.agg #[.int .i64 0, .string ty, .string nm, .int .i64 wrg], .string login, .string pw] W fun e w' => e = .returned (.tuple #[.agg #[.int .i64 lst, .string lty, .string lnm, .int .i64 lwr], .string ans]) ∧ Below W.heap.size W w') := fun W => by
                  have := endLine_any ⟨0, ty, nm, wrg⟩ login pw W hT.out.good (Or.inl rfl)
                  rw [hln] at this
                  exact this
                have hlined : Hid (∀ W', Below w.heap.size w W' → Rg.Bk w.heap.size [.int .i64 lst, .string lty, .string lnm, .int .i64 lwr] 38 W' → Rg.Bk (w.heap.size + 1) [.int .i64 0, .string ⟨#[]⟩, .string ⟨#[]⟩, .int .i64 0] 38 W' → Lib.BuilderAtF 58 5 (w.heap.size + 2) (w.heap.size + 2) (.pointer (some ⟨w.heap.size + 2, 0, none⟩)) (Lib.byteCells out ++ Lib.strCells ans) W' → TIn w login pw s R (k + 1) ⟨lst, lty, lnm, lwr⟩ (out ++ ans.data.toList) W') := fun W' a b c d => by
                  have := hT.out.lined hlt (Or.inr (Gr.is10 h10)) (Or.inl rfl) a
                  rw [hln] at this
                  exact this b c d
                have hsm := hT.out.small
                have hans : ans.size ≤ 24 := by have := line_small login pw ⟨0, ty, nm, wrg⟩; rw [hln] at this; exact this
                have HW : Hid (∀ W, Lib.IsBuilderF 58 5 (w.heap.size + 2) (w.heap.size + 2) (Lib.byteCells out) W → w.heap.size + 2 ≤ W.heap.size → Calls Tryd.prog 27 #[.pointer (some ⟨w.heap.size + 2, 0, none⟩), .string ans] W fun e w' => e = .returned (.tuple #[.int .i64 ans.size, .nilIface]) ∧ (Lib.BuilderAtF 58 5 (w.heap.size + 2) (w.heap.size + 2) (.pointer (some ⟨w.heap.size + 2, 0, none⟩)) (Lib.byteCells out ++ Lib.strCells ans) w' ∧ Below (w.heap.size + 2) W w')) := fun W h1 h2 => Bld.writeString _ _ _ ans W h1 (by simp only [Lib.byteCells, List.length_map]; omega) h2
                clear hln HS
                go_upto_region 12 with (go_at_call 26; refine (HE.out _).mono ?_; rintro e w2 ⟨rfl, b2⟩; have kB2 := hT.out.door.below b2 hT.out.door.lt; have yf := kB2.thaw; have y0 := kB2.cell 0; have y1 := kB2.cell 1; have y2 := kB2.cell 2; have y3 := kB2.cell 3)
                obtain ⟨kE, oE⟩ := ret4 kB2 rfl (.int .i64 lst) (.string lty) (.string lnm) (.int .i64 lwr)
                have hbl3 := Rg.hid (builder_kept (W' := (((w2.setCell ⟨w.heap.size, 0, none⟩ (.int .i64 lst)).setCell ⟨w.heap.size, 1, none⟩ (.string lty)).setCell ⟨w.heap.size, 2, none⟩ (.string lnm)).setCell ⟨w.heap.size, 3, none⟩ (.int .i64 lwr)) hT.out.bld (fun j hj hj2 => (oE.block j (by omega)).trans (b2.block j hj2)))
                have hb3 := Rg.hid ((hT.out.bel.trans (b2.mono hT.out.bel.size)).trans (oE.bel (Nat.le_refl _)))
                have kR3 := Rg.hid ((hT.out.res.below b2 hT.out.res.lt).same (oE.block _ (by omega)))
                have kE3 := Rg.hid kE
                clear kB2 yf y0 y1 y2 y3 z0 z1 z2 z3 b2 oE kE hT HE
                generalize World.setCell _ _ _ = w3 at *
                go_wp2_with (go_at_call 27; refine (HW.out _ hbl3.out (by have := kR3.out.lt; omega)).mono ?_; rintro e w4 ⟨rfl, hbl4, b4⟩)
                have hn := hlined.out w4 (hb3.out.trans (b4.mono (by omega))) (kE3.out.below b4 (by omega)) (kR3.out.below b4 (by omega)) hbl4
                clear hbl3 hb3 kR3 kE3 hlined HW hbl4 b4
                go_roundw
                case rel => exact ⟨k + 1, _, _, by omega, by go_num, hn⟩
                case measure => simp [intOf]; omega
              · have c10 : ((s[k].toNat : Int) == 10) = false := by rw [beq_eq_false_iff_ne]; exact h10
                clear hln
                by_cases h60 : ty.size < 60
                · have hpt : Gr.put s[k] ⟨0, ty, nm, wrg⟩ = ⟨0, ty ++ ⟨#[s[k]]⟩, nm, wrg⟩ := by unfold Gr.put; rw [if_pos h60]
                  have hput : Hid (∀ W', Rg.Only w.heap.size wr W' → Rg.Bk w.heap.size [.int .i64 0, .string (ty ++ s.extract k (k + 1)), .string nm, .int .i64 wrg] 38 W' → TIn w login pw s R (k + 1) ⟨0, ty ++ s.extract k (k + 1), nm, wrg⟩ out W') := fun W' a b => by
                    have := hT.out.put hlt (fun h => h.elim (Gr.not13 h13) (Gr.not10 h10)) (Or.inl rfl) a
                    rw [hpt, ← ba_one s k hlt] at this
                    exact this b
                  have kB := hT.out.door
                  have zf := kB.thaw
                  have q0 : (0 : Int) ≤ (k : Int) := by omega
                  have q1 : (k : Int) ≤ (k : Int) + 1 := by omega
                  have q2 : (k : Int) + 1 ≤ (s.size : Int) := by omega
                  have q3 : ((k : Int) + 1).toNat = k + 1 := by omega
                  have hz9 : (s.extract k (k + 1)).size = 1 := by rw [ba_one s k hlt]; rfl
                  have hn := Rg.hid (hput.out _ (Rg.Only.setCell wr w.heap.size 1 (.string (ty ++ s.extract k (k + 1)))) (kB.set 1 (.string (ty ++ s.extract k (k + 1)))))
                  clear hT HS hpt hput
                  go_upto_region 14 with fail
                  go_region
                  go_wp2
                  go_roundw
                  case rel => exact ⟨k + 1, _, _, by omega, by go_num, hn.out.drew⟩
                  case measure => simp [intOf]; omega
                · have hpt : Gr.put s[k] ⟨0, ty, nm, wrg⟩ = ⟨0, ty, nm, wrg⟩ := by unfold Gr.put; rw [if_neg h60]
                  have hn : Hid (TIn w login pw s R (k + 1) ⟨0, ty, nm, wrg⟩ out wr) := by
                    have := hT.out.put hlt (fun h => h.elim (Gr.not13 h13) (Gr.not10 h10)) (Or.inl rfl) (Rg.Only.refl _ _)
                    rw [hpt] at this
                    exact this hT.out.door
                  clear hT HS hpt
                  go_wp2
                  go_roundw
                  case rel => exact ⟨k + 1, _, _, by omega, by go_num, hn⟩
                  case measure => simp [intOf]; omega
          · clear h2 d2
            obtain ⟨⟨⟨lst, lty, lnm, lwr⟩, ans⟩, hln⟩ : ∃ r, Gr.line login pw ⟨1, ty, nm, wrg⟩ = r := ⟨_, rfl⟩
            by_cases h13 : (s[k].toNat : Int) = 13
            · have c13 : ((s[k].toNat : Int) == 13) = true := by rw [beq_iff_eq]; exact h13
              have HE : Hid (∀ W, Calls Tryd.prog 26 #[.agg #[.int .i64 1, .string ty, .string nm, .int .i64 wrg], .string login, .string pw] W fun e w' => e = .returned (.tuple #[.agg #[.int .i64 lst, .string lty, .string lnm, .int .i64 lwr], .string ans]) ∧ Below W.heap.size W w') := fun W => by
                have := endLine_any ⟨1, ty, nm, wrg⟩ login pw W hT.out.good (Or.inr rfl)
                rw [hln] at this
                exact this
              have hlined : Hid (∀ W', Below w.heap.size w W' → Rg.Bk w.heap.size [.int .i64 lst, .string lty, .string lnm, .int .i64 lwr] 38 W' → Rg.Bk (w.heap.size + 1) [.int .i64 0, .string ⟨#[]⟩, .string ⟨#[]⟩, .int .i64 0] 38 W' → Lib.BuilderAtF 58 5 (w.heap.size + 2) (w.heap.size + 2) (.pointer (some ⟨w.heap.size + 2, 0, none⟩)) (Lib.byteCells out ++ Lib.strCells ans) W' → TIn w login pw s R (k + 1) ⟨lst, lty, lnm, lwr⟩ (out ++ ans.data.toList) W') := fun W' a b c d => by
                have := hT.out.lined hlt (Or.inl (Gr.is13 h13)) (Or.inr rfl) a
                rw [hln] at this
                exact this b c d
              have hsm := hT.out.small
              have hans : ans.size ≤ 24 := by have := line_small login pw ⟨1, ty, nm, wrg⟩; rw [hln] at this; exact this
              have HW : Hid (∀ W, Lib.IsBuilderF 58 5 (w.heap.size + 2) (w.heap.size + 2) (Lib.byteCells out) W → w.heap.size + 2 ≤ W.heap.size → Calls Tryd.prog 27 #[.pointer (some ⟨w.heap.size + 2, 0, none⟩), .string ans] W fun e w' => e = .returned (.tuple #[.int .i64 ans.size, .nilIface]) ∧ (Lib.BuilderAtF 58 5 (w.heap.size + 2) (w.heap.size + 2) (.pointer (some ⟨w.heap.size + 2, 0, none⟩)) (Lib.byteCells out ++ Lib.strCells ans) w' ∧ Below (w.heap.size + 2) W w')) := fun W h1 h2 => Bld.writeString _ _ _ ans W h1 (by simp only [Lib.byteCells, List.length_map]; omega) h2
              clear hln HS
              go_upto_region 12 with (go_at_call 26; refine (HE.out _).mono ?_; rintro e w2 ⟨rfl, b2⟩; have kB2 := hT.out.door.below b2 hT.out.door.lt; have yf := kB2.thaw; have y0 := kB2.cell 0; have y1 := kB2.cell 1; have y2 := kB2.cell 2; have y3 := kB2.cell 3)
              obtain ⟨kE, oE⟩ := ret4 kB2 rfl (.int .i64 lst) (.string lty) (.string lnm) (.int .i64 lwr)
              have hbl3 := Rg.hid (builder_kept (W' := (((w2.setCell ⟨w.heap.size, 0, none⟩ (.int .i64 lst)).setCell ⟨w.heap.size, 1, none⟩ (.string lty)).setCell ⟨w.heap.size, 2, none⟩ (.string lnm)).setCell ⟨w.heap.size, 3, none⟩ (.int .i64 lwr)) hT.out.bld (fun j hj hj2 => (oE.block j (by omega)).trans (b2.block j hj2)))
              have hb3 := Rg.hid ((hT.out.bel.trans (b2.mono hT.out.bel.size)).trans (oE.bel (Nat.le_refl _)))
              have kR3 := Rg.hid ((hT.out.res.below b2 hT.out.res.lt).same (oE.block _ (by omega)))
              have kE3 := Rg.hid kE
              clear kB2 yf y0 y1 y2 y3 z0 z1 z2 z3 b2 oE kE hT HE
              generalize World.setCell _ _ _ = w3 at *
              go_wp2_with (go_at_call 27; refine (HW.out _ hbl3.out (by have := kR3.out.lt; omega)).mono ?_; rintro e w4 ⟨rfl, hbl4, b4⟩)
              have hn := hlined.out w4 (hb3.out.trans (b4.mono (by omega))) (kE3.out.below b4 (by omega)) (kR3.out.below b4 (by omega)) hbl4
              clear hbl3 hb3 kR3 kE3 hlined HW hbl4 b4
              go_roundw
              case rel => exact ⟨k + 1, _, _, by omega, by go_num, hn⟩
              case measure => simp [intOf]; omega
            · have c13 : ((s[k].toNat : Int) == 13) = false := by rw [beq_eq_false_iff_ne]; exact h13
              by_cases h10 : (s[k].toNat : Int) = 10
              · have c10 : ((s[k].toNat : Int) == 10) = true := by rw [beq_iff_eq]; exact h10
                have HE : Hid (∀ W, Calls Tryd.prog 26 #[.agg #[.int .i64 1, .string ty, .string nm, .int .i64 wrg], .string login, .string pw] W fun e w' => e = .returned (.tuple #[.agg #[.int .i64 lst, .string lty, .string lnm, .int .i64 lwr], .string ans]) ∧ Below W.heap.size W w') := fun W => by
                  have := endLine_any ⟨1, ty, nm, wrg⟩ login pw W hT.out.good (Or.inr rfl)
                  rw [hln] at this
                  exact this
                have hlined : Hid (∀ W', Below w.heap.size w W' → Rg.Bk w.heap.size [.int .i64 lst, .string lty, .string lnm, .int .i64 lwr] 38 W' → Rg.Bk (w.heap.size + 1) [.int .i64 0, .string ⟨#[]⟩, .string ⟨#[]⟩, .int .i64 0] 38 W' → Lib.BuilderAtF 58 5 (w.heap.size + 2) (w.heap.size + 2) (.pointer (some ⟨w.heap.size + 2, 0, none⟩)) (Lib.byteCells out ++ Lib.strCells ans) W' → TIn w login pw s R (k + 1) ⟨lst, lty, lnm, lwr⟩ (out ++ ans.data.toList) W') := fun W' a b c d => by
                  have := hT.out.lined hlt (Or.inr (Gr.is10 h10)) (Or.inr rfl) a
                  rw [hln] at this
                  exact this b c d
                have hsm := hT.out.small
                have hans : ans.size ≤ 24 := by have := line_small login pw ⟨1, ty, nm, wrg⟩; rw [hln] at this; exact this
                have HW : Hid (∀ W, Lib.IsBuilderF 58 5 (w.heap.size + 2) (w.heap.size + 2) (Lib.byteCells out) W → w.heap.size + 2 ≤ W.heap.size → Calls Tryd.prog 27 #[.pointer (some ⟨w.heap.size + 2, 0, none⟩), .string ans] W fun e w' => e = .returned (.tuple #[.int .i64 ans.size, .nilIface]) ∧ (Lib.BuilderAtF 58 5 (w.heap.size + 2) (w.heap.size + 2) (.pointer (some ⟨w.heap.size + 2, 0, none⟩)) (Lib.byteCells out ++ Lib.strCells ans) w' ∧ Below (w.heap.size + 2) W w')) := fun W h1 h2 => Bld.writeString _ _ _ ans W h1 (by simp only [Lib.byteCells, List.length_map]; omega) h2
                clear hln HS
                go_upto_region 12 with (go_at_call 26; refine (HE.out _).mono ?_; rintro e w2 ⟨rfl, b2⟩; have kB2 := hT.out.door.below b2 hT.out.door.lt; have yf := kB2.thaw; have y0 := kB2.cell 0; have y1 := kB2.cell 1; have y2 := kB2.cell 2; have y3 := kB2.cell 3)
                obtain ⟨kE, oE⟩ := ret4 kB2 rfl (.int .i64 lst) (.string lty) (.string lnm) (.int .i64 lwr)
                have hbl3 := Rg.hid (builder_kept (W' := (((w2.setCell ⟨w.heap.size, 0, none⟩ (.int .i64 lst)).setCell ⟨w.heap.size, 1, none⟩ (.string lty)).setCell ⟨w.heap.size, 2, none⟩ (.string lnm)).setCell ⟨w.heap.size, 3, none⟩ (.int .i64 lwr)) hT.out.bld (fun j hj hj2 => (oE.block j (by omega)).trans (b2.block j hj2)))
                have hb3 := Rg.hid ((hT.out.bel.trans (b2.mono hT.out.bel.size)).trans (oE.bel (Nat.le_refl _)))
                have kR3 := Rg.hid ((hT.out.res.below b2 hT.out.res.lt).same (oE.block _ (by omega)))
                have kE3 := Rg.hid kE
                clear kB2 yf y0 y1 y2 y3 z0 z1 z2 z3 b2 oE kE hT HE
                generalize World.setCell _ _ _ = w3 at *
                go_wp2_with (go_at_call 27; refine (HW.out _ hbl3.out (by have := kR3.out.lt; omega)).mono ?_; rintro e w4 ⟨rfl, hbl4, b4⟩)
                have hn := hlined.out w4 (hb3.out.trans (b4.mono (by omega))) (kE3.out.below b4 (by omega)) (kR3.out.below b4 (by omega)) hbl4
                clear hbl3 hb3 kR3 kE3 hlined HW hbl4 b4
                go_roundw
                case rel => exact ⟨k + 1, _, _, by omega, by go_num, hn⟩
                case measure => simp [intOf]; omega
              · have c10 : ((s[k].toNat : Int) == 10) = false := by rw [beq_eq_false_iff_ne]; exact h10
                clear hln
                by_cases h60 : ty.size < 60
                · have hpt : Gr.put s[k] ⟨1, ty, nm, wrg⟩ = ⟨1, ty ++ ⟨#[s[k]]⟩, nm, wrg⟩ := by unfold Gr.put; rw [if_pos h60]
                  have hput : Hid (∀ W', Rg.Only w.heap.size wr W' → Rg.Bk w.heap.size [.int .i64 1, .string (ty ++ s.extract k (k + 1)), .string nm, .int .i64 wrg] 38 W' → TIn w login pw s R (k + 1) ⟨1, ty ++ s.extract k (k + 1), nm, wrg⟩ out W') := fun W' a b => by
                    have := hT.out.put hlt (fun h => h.elim (Gr.not13 h13) (Gr.not10 h10)) (Or.inr rfl) a
                    rw [hpt, ← ba_one s k hlt] at this
                    exact this b
                  have kB := hT.out.door
                  have zf := kB.thaw
                  have q0 : (0 : Int) ≤ (k : Int) := by omega
                  have q1 : (k : Int) ≤ (k : Int) + 1 := by omega
                  have q2 : (k : Int) + 1 ≤ (s.size : Int) := by omega
                  have q3 : ((k : Int) + 1).toNat = k + 1 := by omega
                  have hz9 : (s.extract k (k + 1)).size = 1 := by rw [ba_one s k hlt]; rfl
                  have hn := Rg.hid (hput.out _ (Rg.Only.setCell wr w.heap.size 1 (.string (ty ++ s.extract k (k + 1)))) (kB.set 1 (.string (ty ++ s.extract k (k + 1)))))
                  clear hT HS hpt hput
                  go_upto_region 14 with fail
                  go_region
                  go_wp2
                  go_roundw
                  case rel => exact ⟨k + 1, _, _, by omega, by go_num, hn.out.drew⟩
                  case measure => simp [intOf]; omega
                · have hpt : Gr.put s[k] ⟨1, ty, nm, wrg⟩ = ⟨1, ty, nm, wrg⟩ := by unfold Gr.put; rw [if_neg h60]
                  have hn : Hid (TIn w login pw s R (k + 1) ⟨1, ty, nm, wrg⟩ out wr) := by
                    have := hT.out.put hlt (fun h => h.elim (Gr.not13 h13) (Gr.not10 h10)) (Or.inr rfl) (Rg.Only.refl _ _)
                    rw [hpt] at this
                    exact this hT.out.door
                  clear hT HS hpt
                  go_wp2
                  go_roundw
                  case rel => exact ⟨k + 1, _, _, by omega, by go_num, hn⟩
                  case measure => simp [intOf]; omega
        · have hrun := hT.out.run
          rw [Gr.drop_at s k hlt, Gr.type_shut h2 hst] at hrun
          replace hrun := Rg.hid hrun
          have d3 : (st != 0) = true := by rw [bne_iff_ne]; omega
          have d4 : (st != 1) = true := by rw [bne_iff_ne]; omega
          clear hT h2 hst
          go_upto_region 8 with fail
          go_region_held3 (fun w' => w'.cell? ⟨w.heap.size, 0, none⟩ = some (.int .i64 st) ∧ w'.cell? ⟨w.heap.size, 1, none⟩ = some (.string ty) ∧ w'.cell? ⟨w.heap.size, 2, none⟩ = some (.string nm) ∧ w'.cell? ⟨w.heap.size, 3, none⟩ = some (.int .i64 wrg)) (go_keep) (first
            | (go_at_call 25; refine (HS.out _ ?_).mono ?_; (first | exact (Below.refl _ _).drew | exact Below.refl _ _); rintro e w2 ⟨rfl, b2, kR2, y0, y1, y2, y3⟩; have rf := kR2.thaw; have r0 := kR2.cell 0; have r1 := kR2.cell 1; have r2 := kR2.cell 2; have r3 := kR2.cell 3))
          all_goals
            obtain ⟨kE, oE⟩ := ret4 kR2 rfl (.int .i64 st) (.string ty) (.string nm) (.int .i64 wrg)
            have hb5 := b2.trans (oE.bel (Nat.le_succ _))
            go_wp2
            generalize World.setCell _ _ _ = WE at *
            exact bodyPost_ret (v := .tuple #[.agg #[.int .i64 st, .string ty, .string nm, .int .i64 wrg], .string ⟨out.toArray⟩, .string ⟨#[]⟩]) (by simp [results, Tryd.results14, go_sem, kE.cell]) rfl (TPost.mk' hrun.out rfl rfl rfl rfl (by simp) rfl (by first | exact hb5 | exact hb5.drew))
    · have hrun := hT.out.run
      rw [Gr.drop_end s k hlt, Gr.type_nil] at hrun
      replace hrun := Rg.hid hrun
      clear hT
      go_upto_region 16 with fail
      go_region_held3 (fun w' => w'.cell? ⟨w.heap.size, 0, none⟩ = some (.int .i64 st) ∧ w'.cell? ⟨w.heap.size, 1, none⟩ = some (.string ty) ∧ w'.cell? ⟨w.heap.size, 2, none⟩ = some (.string nm) ∧ w'.cell? ⟨w.heap.size, 3, none⟩ = some (.int .i64 wrg)) (go_keep) (first
        | (go_at_call 25; refine (HS.out _ ?_).mono ?_; (first | exact (Below.refl _ _).drew | exact Below.refl _ _); rintro e w2 ⟨rfl, b2, kR2, y0, y1, y2, y3⟩; have rf := kR2.thaw; have r0 := kR2.cell 0; have r1 := kR2.cell 1; have r2 := kR2.cell 2; have r3 := kR2.cell 3))
      all_goals
        obtain ⟨kE, oE⟩ := ret4 kR2 rfl (.int .i64 st) (.string ty) (.string nm) (.int .i64 wrg)
        have hb5 := b2.trans (oE.bel (Nat.le_succ _))
        go_wp2
        generalize World.setCell _ _ _ = WE at *
        exact bodyPost_ret (v := .tuple #[.agg #[.int .i64 st, .string ty, .string nm, .int .i64 wrg], .string ⟨out.toArray⟩, .string ⟨#[]⟩]) (by simp [results, Tryd.results14, go_sem, kE.cell]) rfl (TPost.mk' hrun.out rfl rfl rfl rfl (by simp) rfl (by first | exact hb5 | exact hb5.drew))
end Go.Proofs.YtpndcbilnbihaabDoor
