/-
  Layer 9: the document's Type.
-/
import Derived.Test.YtpndcbilnbihaaaGd1
namespace Go.Proofs.Ytpndcbilnbihaaa
open Go.RowKit

set_option maxHeartbeats 4000000 in
set_option maxRecDepth 100000 in
theorem refType_any (d0 : Gr.D) (login pw s : ByteArray) (w : World) (hg : Gr.Good d0) (hs : s.size ≤ 1000000) :
    Calls Try.prog 26 #[dv d0, .string login, .string pw, .string s] w fun e w' => TPost w (Gr.typeL login pw s.data.toList d0) e w' := by
  obtain ⟨R, hR⟩ : ∃ R, Gr.typeL login pw s.data.toList d0 = R := ⟨_, rfl⟩
  rw [hR]
  obtain ⟨st0, ty0, nm0, wr0⟩ := d0
  have hst : Hid (RIn w login pw s R 0 ⟨st0, ty0, nm0, wr0⟩ [] ((w.alloc (.cells #[.int .i64 st0, .string ty0, .string nm0, .int .i64 wr0] 35)).alloc (.cells #[.int .i64 0, .string ⟨#[]⟩, .string ⟨#[]⟩, .int .i64 0] 35))) := by
    refine ⟨Rg.al2 _ _ _, (Rg.Bk.new rfl).old _, Rg.Bk.new (by simp), hg, ?_, by simp⟩
    rw [List.drop_zero, hR]; rfl
  clear hR
  unfold dv
  simp only
  clear hg
  go_enter Try.func26, Try.ntmps26
  go_wp2
  go_loopw [11, 17] (fun ov i W => ∃ (k : Nat) (d : Gr.D) (out : List UInt8), k ≤ s.size ∧ i = .int .i64 k ∧ ov = .string ⟨out.toArray⟩ ∧ Hid (RIn w login pw s R k d out W)) (fun _ i _ => s.size - (intOf i).toNat)
  case atStart => exact ⟨0, _, [], Nat.zero_le _, rfl, rfl, hst⟩
  case round =>
    obtain ⟨k, ⟨st, ty, nm, wrg⟩, out, hk, rfl, rfl, hT⟩ := hrel
    clear hst
    have z0 : wr.cell? ⟨w.heap.size, 0, none⟩ = some (.int .i64 st) := hT.out.door.cell 0
    have z1 : wr.cell? ⟨w.heap.size, 1, none⟩ = some (.string ty) := hT.out.door.cell 1
    have z2 : wr.cell? ⟨w.heap.size, 2, none⟩ = some (.string nm) := hT.out.door.cell 2
    have z3 : wr.cell? ⟨w.heap.size, 3, none⟩ = some (.int .i64 wrg) := hT.out.door.cell 3
    by_cases hlt : k < s.size
    · by_cases h2 : st = 2
      · subst h2
        have hrun := hT.out.run
        rw [Gr.drop_at s k hlt, Gr.type_in rfl, ← Gr.drop_at s k hlt] at hrun
        replace hrun := Rg.hid hrun
        have HQ := Rg.hid (ba_drop s k)
        have q0 : (0 : Int) ≤ (k : Int) := by omega
        have q1 : (k : Int) ≤ (s.size : Int) := by omega
        have kR2 := hT.out.res
        have rf := kR2.thaw
        have r0 := kR2.cell 0
        have r1 := kR2.cell 1
        have r2 := kR2.cell 2
        have r3 := kR2.cell 3
        obtain ⟨kE, oE⟩ := ret4 kR2 rfl (.int .i64 2) (.string ty) (.string nm) (.int .i64 wrg)
        have hb5 := hT.out.bel.trans (oE.bel (Nat.le_succ _))
        clear hT
        go_upto_region 7 with fail
        go_region
        all_goals
          go_wp2
          generalize World.setCell _ _ _ = WE at *
          exact bodyPost_ret (v := .tuple #[.agg #[.int .i64 2, .string ty, .string nm, .int .i64 wrg], .string ⟨out.toArray⟩, .string (s.extract k s.size)]) (by simp [results, Try.results26, go_sem, kE.cell]) rfl (TPost.mk' hrun.out rfl rfl rfl rfl (by simp) HQ.out (by first | exact hb5 | exact hb5.drew))
      · have d2 : (st == 2) = false := by rw [beq_eq_false_iff_ne]; exact h2
        by_cases hst : st = 0 ∨ st = 1
        · rcases hst with rfl | rfl
          · clear h2 d2
            obtain ⟨⟨⟨lst, lty, lnm, lwr⟩, ans⟩, hln⟩ : ∃ r, Gr.line login pw ⟨0, ty, nm, wrg⟩ = r := ⟨_, rfl⟩
            by_cases h13 : (s[k].toNat : Int) = 13
            · have c13 : ((s[k].toNat : Int) == 13) = true := by rw [beq_iff_eq]; exact h13
              have HE : Hid (∀ W, Calls Try.prog 39 #[.agg #[.int .i64 0, .string ty, .string nm, .int .i64 wrg], .string login, .string pw] W fun e w' => e = .returned (.tuple #[.agg #[.int .i64 lst, .string lty, .string lnm, .int .i64 lwr], .string ans]) ∧ Below W.heap.size W w') := fun W => by
                have := enter_any ⟨0, ty, nm, wrg⟩ login pw W hT.out.good (Or.inl rfl)
                rw [hln] at this
                exact this
              have hlined : Hid (∀ W', Below w.heap.size w W' → Rg.Bk w.heap.size [.int .i64 lst, .string lty, .string lnm, .int .i64 lwr] 35 W' → Rg.Bk (w.heap.size + 1) [.int .i64 0, .string ⟨#[]⟩, .string ⟨#[]⟩, .int .i64 0] 35 W' → RIn w login pw s R (k + 1) ⟨lst, lty, lnm, lwr⟩ (out ++ ans.data.toList) W') := fun W' a b c => by
                have := hT.out.lined hlt (Or.inl (Gr.is13 h13)) (Or.inl rfl) a
                rw [hln] at this
                exact this b c
              have hsm := hT.out.small
              have hans : ans.size ≤ 24 := by have := line_small login pw ⟨0, ty, nm, wrg⟩; rw [hln] at this; exact this
              have hosz : (⟨out.toArray⟩ : ByteArray).size ≤ 24000000 := by show out.toArray.size ≤ _; rw [List.size_toArray]; omega
              have hcat : Hid ((⟨out.toArray⟩ : ByteArray) ++ ans = ⟨(out ++ ans.data.toList).toArray⟩) := by show _ = _; apply ByteArray.ext; rw [ByteArray.data_append]; apply Array.toList_inj.1; simp
              clear hln
              go_upto_region 11 with (go_at_call 39; refine (HE.out _).mono ?_; rintro e w2 ⟨rfl, b2⟩)
              have kE3 : Hid (Rg.Bk w2.heap.size [.int .i64 lst, .string lty, .string lnm, .int .i64 lwr] 35 (w2.alloc (.cells #[.int .i64 lst, .string lty, .string lnm, .int .i64 lwr] 35))) := Rg.Bk.new rfl
              have kB3 := Rg.hid ((hT.out.door.below b2 hT.out.door.lt).old (.cells #[.int .i64 lst, .string lty, .string lnm, .int .i64 lwr] 35))
              have kR3 := Rg.hid ((hT.out.res.below b2 hT.out.res.lt).old (.cells #[.int .i64 lst, .string lty, .string lnm, .int .i64 lwr] 35))
              have q2 := hT.out.bel.trans (b2.mono hT.out.bel.size)
              have hb3 := Rg.hid (q2.alloc q2.size (.cells #[.int .i64 lst, .string lty, .string lnm, .int .i64 lwr] 35))
              clear hT HE b2 q2 z0 z1 z2 z3
              generalize World.alloc _ _ = w3 at *
              generalize w2.heap.size = E at *
              have x0 : w3.cell? ⟨E, 0, none⟩ = some (.int .i64 lst) := kE3.out.cell 0
              have x1 : w3.cell? ⟨E, 1, none⟩ = some (.string lty) := kE3.out.cell 1
              have x2 : w3.cell? ⟨E, 2, none⟩ = some (.string lnm) := kE3.out.cell 2
              have x3 : w3.cell? ⟨E, 3, none⟩ = some (.int .i64 lwr) := kE3.out.cell 3
              have kB4 := kB3.out
              have yf := kB4.thaw
              have y0 := kB4.cell 0
              have y1 := kB4.cell 1
              have y2 := kB4.cell 2
              have y3 := kB4.cell 3
              go_upto_region 12 with fail
              obtain ⟨kF, oF⟩ := ret4 kB4 rfl (.int .i64 lst) (.string lty) (.string lnm) (.int .i64 lwr)
              have hn := hlined.out _ (hb3.out.trans (oF.bel (Nat.le_refl _))) kF (kR3.out.same (oF.block _ (by omega)))
              replace hn := Rg.hid hn
              clear kB3 kB4 yf y0 y1 y2 y3 x0 x1 x2 x3 kE3 kR3 hb3 oF kF hlined
              generalize World.setCell _ _ _ = w5 at *
              go_wp2
              go_roundw
              case rel => exact ⟨k + 1, _, _, by omega, by go_num, congrArg Value.string hcat.out, hn⟩
              case measure => simp [intOf]; omega
            · have c13 : ((s[k].toNat : Int) == 13) = false := by rw [beq_eq_false_iff_ne]; exact h13
              by_cases h10 : (s[k].toNat : Int) = 10
              · have c10 : ((s[k].toNat : Int) == 10) = true := by rw [beq_iff_eq]; exact h10
                have HE : Hid (∀ W, Calls Try.prog 39 #[.agg #[.int .i64 0, .string ty, .string nm, .int .i64 wrg], .string login, .string pw] W fun e w' => e = .returned (.tuple #[.agg #[.int .i64 lst, .string lty, .string lnm, .int .i64 lwr], .string ans]) ∧ Below W.heap.size W w') := fun W => by
                  have := enter_any ⟨0, ty, nm, wrg⟩ login pw W hT.out.good (Or.inl rfl)
                  rw [hln] at this
                  exact this
                have hlined : Hid (∀ W', Below w.heap.size w W' → Rg.Bk w.heap.size [.int .i64 lst, .string lty, .string lnm, .int .i64 lwr] 35 W' → Rg.Bk (w.heap.size + 1) [.int .i64 0, .string ⟨#[]⟩, .string ⟨#[]⟩, .int .i64 0] 35 W' → RIn w login pw s R (k + 1) ⟨lst, lty, lnm, lwr⟩ (out ++ ans.data.toList) W') := fun W' a b c => by
                  have := hT.out.lined hlt (Or.inr (Gr.is10 h10)) (Or.inl rfl) a
                  rw [hln] at this
                  exact this b c
                have hsm := hT.out.small
                have hans : ans.size ≤ 24 := by have := line_small login pw ⟨0, ty, nm, wrg⟩; rw [hln] at this; exact this
                have hosz : (⟨out.toArray⟩ : ByteArray).size ≤ 24000000 := by show out.toArray.size ≤ _; rw [List.size_toArray]; omega
                have hcat : Hid ((⟨out.toArray⟩ : ByteArray) ++ ans = ⟨(out ++ ans.data.toList).toArray⟩) := by show _ = _; apply ByteArray.ext; rw [ByteArray.data_append]; apply Array.toList_inj.1; simp
                clear hln
                go_upto_region 11 with (go_at_call 39; refine (HE.out _).mono ?_; rintro e w2 ⟨rfl, b2⟩)
                have kE3 : Hid (Rg.Bk w2.heap.size [.int .i64 lst, .string lty, .string lnm, .int .i64 lwr] 35 (w2.alloc (.cells #[.int .i64 lst, .string lty, .string lnm, .int .i64 lwr] 35))) := Rg.Bk.new rfl
                have kB3 := Rg.hid ((hT.out.door.below b2 hT.out.door.lt).old (.cells #[.int .i64 lst, .string lty, .string lnm, .int .i64 lwr] 35))
                have kR3 := Rg.hid ((hT.out.res.below b2 hT.out.res.lt).old (.cells #[.int .i64 lst, .string lty, .string lnm, .int .i64 lwr] 35))
                have q2 := hT.out.bel.trans (b2.mono hT.out.bel.size)
                have hb3 := Rg.hid (q2.alloc q2.size (.cells #[.int .i64 lst, .string lty, .string lnm, .int .i64 lwr] 35))
                clear hT HE b2 q2 z0 z1 z2 z3
                generalize World.alloc _ _ = w3 at *
                generalize w2.heap.size = E at *
                have x0 : w3.cell? ⟨E, 0, none⟩ = some (.int .i64 lst) := kE3.out.cell 0
                have x1 : w3.cell? ⟨E, 1, none⟩ = some (.string lty) := kE3.out.cell 1
                have x2 : w3.cell? ⟨E, 2, none⟩ = some (.string lnm) := kE3.out.cell 2
                have x3 : w3.cell? ⟨E, 3, none⟩ = some (.int .i64 lwr) := kE3.out.cell 3
                have kB4 := kB3.out
                have yf := kB4.thaw
                have y0 := kB4.cell 0
                have y1 := kB4.cell 1
                have y2 := kB4.cell 2
                have y3 := kB4.cell 3
                go_upto_region 12 with fail
                obtain ⟨kF, oF⟩ := ret4 kB4 rfl (.int .i64 lst) (.string lty) (.string lnm) (.int .i64 lwr)
                have hn := hlined.out _ (hb3.out.trans (oF.bel (Nat.le_refl _))) kF (kR3.out.same (oF.block _ (by omega)))
                replace hn := Rg.hid hn
                clear kB3 kB4 yf y0 y1 y2 y3 x0 x1 x2 x3 kE3 kR3 hb3 oF kF hlined
                generalize World.setCell _ _ _ = w5 at *
                go_wp2
                go_roundw
                case rel => exact ⟨k + 1, _, _, by omega, by go_num, congrArg Value.string hcat.out, hn⟩
                case measure => simp [intOf]; omega
              · have c10 : ((s[k].toNat : Int) == 10) = false := by rw [beq_eq_false_iff_ne]; exact h10
                clear hln
                by_cases h60 : ty.size < 60
                · have hpt : Gr.put s[k] ⟨0, ty, nm, wrg⟩ = ⟨0, ty ++ ⟨#[s[k]]⟩, nm, wrg⟩ := by unfold Gr.put; rw [if_pos h60]
                  have hput : Hid (∀ W', Rg.Only w.heap.size wr W' → Rg.Bk w.heap.size [.int .i64 0, .string (ty ++ s.extract k (k + 1)), .string nm, .int .i64 wrg] 35 W' → RIn w login pw s R (k + 1) ⟨0, ty ++ s.extract k (k + 1), nm, wrg⟩ out W') := fun W' a b => by
                    have := hT.out.put hlt (fun h => h.elim (Gr.not13 h13) (Gr.not10 h10)) (Or.inl rfl) a
                    rw [hpt, ← ba_one s k hlt] at this
                    exact this b
                  have kB := hT.out.door
                  have zf := kB.thaw
                  have q0 : (0 : Int) ≤ (k : Int) := by omega
                  have q1 : (k : Int) ≤ (k : Int) + 1 := by omega
                  have q2 : (k : Int) + 1 ≤ (s.size : Int) := by omega
                  have q3 : ((k : Int) + 1).toNat = k + 1 := by omega
                  have hz9 : (s.extract k (k + 1)).size = 1 := by rw [ba_one s k hlt]; rfl
                  have hn := Rg.hid (hput.out _ (Rg.Only.setCell wr w.heap.size 1 (.string (ty ++ s.extract k (k + 1)))) (kB.set 1 (.string (ty ++ s.extract k (k + 1)))))
                  clear hT hpt hput
                  go_upto_region 14 with fail
                  go_region
                  go_wp2
                  go_roundw
                  case rel => exact ⟨k + 1, _, _, by omega, by go_num, rfl, hn.out.drew⟩
                  case measure => simp [intOf]; omega
                · have hpt : Gr.put s[k] ⟨0, ty, nm, wrg⟩ = ⟨0, ty, nm, wrg⟩ := by unfold Gr.put; rw [if_neg h60]
                  have hn : Hid (RIn w login pw s R (k + 1) ⟨0, ty, nm, wrg⟩ out wr) := by
                    have := hT.out.put hlt (fun h => h.elim (Gr.not13 h13) (Gr.not10 h10)) (Or.inl rfl) (Rg.Only.refl _ _)
                    rw [hpt] at this
                    exact this hT.out.door
                  clear hT hpt
                  go_wp2
                  go_roundw
                  case rel => exact ⟨k + 1, _, _, by omega, by go_num, rfl, hn⟩
                  case measure => simp [intOf]; omega
          · clear h2 d2
            obtain ⟨⟨⟨lst, lty, lnm, lwr⟩, ans⟩, hln⟩ : ∃ r, Gr.line login pw ⟨1, ty, nm, wrg⟩ = r := ⟨_, rfl⟩
            by_cases h13 : (s[k].toNat : Int) = 13
            · have c13 : ((s[k].toNat : Int) == 13) = true := by rw [beq_iff_eq]; exact h13
              have HE : Hid (∀ W, Calls Try.prog 39 #[.agg #[.int .i64 1, .string ty, .string nm, .int .i64 wrg], .string login, .string pw] W fun e w' => e = .returned (.tuple #[.agg #[.int .i64 lst, .string lty, .string lnm, .int .i64 lwr], .string ans]) ∧ Below W.heap.size W w') := fun W => by
                have := enter_any ⟨1, ty, nm, wrg⟩ login pw W hT.out.good (Or.inr rfl)
                rw [hln] at this
                exact this
              have hlined : Hid (∀ W', Below w.heap.size w W' → Rg.Bk w.heap.size [.int .i64 lst, .string lty, .string lnm, .int .i64 lwr] 35 W' → Rg.Bk (w.heap.size + 1) [.int .i64 0, .string ⟨#[]⟩, .string ⟨#[]⟩, .int .i64 0] 35 W' → RIn w login pw s R (k + 1) ⟨lst, lty, lnm, lwr⟩ (out ++ ans.data.toList) W') := fun W' a b c => by
                have := hT.out.lined hlt (Or.inl (Gr.is13 h13)) (Or.inr rfl) a
                rw [hln] at this
                exact this b c
              have hsm := hT.out.small
              have hans : ans.size ≤ 24 := by have := line_small login pw ⟨1, ty, nm, wrg⟩; rw [hln] at this; exact this
              have hosz : (⟨out.toArray⟩ : ByteArray).size ≤ 24000000 := by show out.toArray.size ≤ _; rw [List.size_toArray]; omega
              have hcat : Hid ((⟨out.toArray⟩ : ByteArray) ++ ans = ⟨(out ++ ans.data.toList).toArray⟩) := by show _ = _; apply ByteArray.ext; rw [ByteArray.data_append]; apply Array.toList_inj.1; simp
              clear hln
              go_upto_region 11 with (go_at_call 39; refine (HE.out _).mono ?_; rintro e w2 ⟨rfl, b2⟩)
              have kE3 : Hid (Rg.Bk w2.heap.size [.int .i64 lst, .string lty, .string lnm, .int .i64 lwr] 35 (w2.alloc (.cells #[.int .i64 lst, .string lty, .string lnm, .int .i64 lwr] 35))) := Rg.Bk.new rfl
              have kB3 := Rg.hid ((hT.out.door.below b2 hT.out.door.lt).old (.cells #[.int .i64 lst, .string lty, .string lnm, .int .i64 lwr] 35))
              have kR3 := Rg.hid ((hT.out.res.below b2 hT.out.res.lt).old (.cells #[.int .i64 lst, .string lty, .string lnm, .int .i64 lwr] 35))
              have q2 := hT.out.bel.trans (b2.mono hT.out.bel.size)
              have hb3 := Rg.hid (q2.alloc q2.size (.cells #[.int .i64 lst, .string lty, .string lnm, .int .i64 lwr] 35))
              clear hT HE b2 q2 z0 z1 z2 z3
              generalize World.alloc _ _ = w3 at *
              generalize w2.heap.size = E at *
              have x0 : w3.cell? ⟨E, 0, none⟩ = some (.int .i64 lst) := kE3.out.cell 0
              have x1 : w3.cell? ⟨E, 1, none⟩ = some (.string lty) := kE3.out.cell 1
              have x2 : w3.cell? ⟨E, 2, none⟩ = some (.string lnm) := kE3.out.cell 2
              have x3 : w3.cell? ⟨E, 3, none⟩ = some (.int .i64 lwr) := kE3.out.cell 3
              have kB4 := kB3.out
              have yf := kB4.thaw
              have y0 := kB4.cell 0
              have y1 := kB4.cell 1
              have y2 := kB4.cell 2
              have y3 := kB4.cell 3
              go_upto_region 12 with fail
              obtain ⟨kF, oF⟩ := ret4 kB4 rfl (.int .i64 lst) (.string lty) (.string lnm) (.int .i64 lwr)
              have hn := hlined.out _ (hb3.out.trans (oF.bel (Nat.le_refl _))) kF (kR3.out.same (oF.block _ (by omega)))
              replace hn := Rg.hid hn
              clear kB3 kB4 yf y0 y1 y2 y3 x0 x1 x2 x3 kE3 kR3 hb3 oF kF hlined
              generalize World.setCell _ _ _ = w5 at *
              go_wp2
              go_roundw
              case rel => exact ⟨k + 1, _, _, by omega, by go_num, congrArg Value.string hcat.out, hn⟩
              case measure => simp [intOf]; omega
            · have c13 : ((s[k].toNat : Int) == 13) = false := by rw [beq_eq_false_iff_ne]; exact h13
              by_cases h10 : (s[k].toNat : Int) = 10
              · have c10 : ((s[k].toNat : Int) == 10) = true := by rw [beq_iff_eq]; exact h10
                have HE : Hid (∀ W, Calls Try.prog 39 #[.agg #[.int .i64 1, .string ty, .string nm, .int .i64 wrg], .string login, .string pw] W fun e w' => e = .returned (.tuple #[.agg #[.int .i64 lst, .string lty, .string lnm, .int .i64 lwr], .string ans]) ∧ Below W.heap.size W w') := fun W => by
                  have := enter_any ⟨1, ty, nm, wrg⟩ login pw W hT.out.good (Or.inr rfl)
                  rw [hln] at this
                  exact this
                have hlined : Hid (∀ W', Below w.heap.size w W' → Rg.Bk w.heap.size [.int .i64 lst, .string lty, .string lnm, .int .i64 lwr] 35 W' → Rg.Bk (w.heap.size + 1) [.int .i64 0, .string ⟨#[]⟩, .string ⟨#[]⟩, .int .i64 0] 35 W' → RIn w login pw s R (k + 1) ⟨lst, lty, lnm, lwr⟩ (out ++ ans.data.toList) W') := fun W' a b c => by
                  have := hT.out.lined hlt (Or.inr (Gr.is10 h10)) (Or.inr rfl) a
                  rw [hln] at this
                  exact this b c
                have hsm := hT.out.small
                have hans : ans.size ≤ 24 := by have := line_small login pw ⟨1, ty, nm, wrg⟩; rw [hln] at this; exact this
                have hosz : (⟨out.toArray⟩ : ByteArray).size ≤ 24000000 := by show out.toArray.size ≤ _; rw [List.size_toArray]; omega
                have hcat : Hid ((⟨out.toArray⟩ : ByteArray) ++ ans = ⟨(out ++ ans.data.toList).toArray⟩) := by show _ = _; apply ByteArray.ext; rw [ByteArray.data_append]; apply Array.toList_inj.1; simp
                clear hln
                go_upto_region 11 with (go_at_call 39; refine (HE.out _).mono ?_; rintro e w2 ⟨rfl, b2⟩)
                have kE3 : Hid (Rg.Bk w2.heap.size [.int .i64 lst, .string lty, .string lnm, .int .i64 lwr] 35 (w2.alloc (.cells #[.int .i64 lst, .string lty, .string lnm, .int .i64 lwr] 35))) := Rg.Bk.new rfl
                have kB3 := Rg.hid ((hT.out.door.below b2 hT.out.door.lt).old (.cells #[.int .i64 lst, .string lty, .string lnm, .int .i64 lwr] 35))
                have kR3 := Rg.hid ((hT.out.res.below b2 hT.out.res.lt).old (.cells #[.int .i64 lst, .string lty, .string lnm, .int .i64 lwr] 35))
                have q2 := hT.out.bel.trans (b2.mono hT.out.bel.size)
                have hb3 := Rg.hid (q2.alloc q2.size (.cells #[.int .i64 lst, .string lty, .string lnm, .int .i64 lwr] 35))
                clear hT HE b2 q2 z0 z1 z2 z3
                generalize World.alloc _ _ = w3 at *
                generalize w2.heap.size = E at *
                have x0 : w3.cell? ⟨E, 0, none⟩ = some (.int .i64 lst) := kE3.out.cell 0
                have x1 : w3.cell? ⟨E, 1, none⟩ = some (.string lty) := kE3.out.cell 1
                have x2 : w3.cell? ⟨E, 2, none⟩ = some (.string lnm) := kE3.out.cell 2
                have x3 : w3.cell? ⟨E, 3, none⟩ = some (.int .i64 lwr) := kE3.out.cell 3
                have kB4 := kB3.out
                have yf := kB4.thaw
                have y0 := kB4.cell 0
                have y1 := kB4.cell 1
                have y2 := kB4.cell 2
                have y3 := kB4.cell 3
                go_upto_region 12 with fail
                obtain ⟨kF, oF⟩ := ret4 kB4 rfl (.int .i64 lst) (.string lty) (.string lnm) (.int .i64 lwr)
                have hn := hlined.out _ (hb3.out.trans (oF.bel (Nat.le_refl _))) kF (kR3.out.same (oF.block _ (by omega)))
                replace hn := Rg.hid hn
                clear kB3 kB4 yf y0 y1 y2 y3 x0 x1 x2 x3 kE3 kR3 hb3 oF kF hlined
                generalize World.setCell _ _ _ = w5 at *
                go_wp2
                go_roundw
                case rel => exact ⟨k + 1, _, _, by omega, by go_num, congrArg Value.string hcat.out, hn⟩
                case measure => simp [intOf]; omega
              · have c10 : ((s[k].toNat : Int) == 10) = false := by rw [beq_eq_false_iff_ne]; exact h10
                clear hln
                by_cases h60 : ty.size < 60
                · have hpt : Gr.put s[k] ⟨1, ty, nm, wrg⟩ = ⟨1, ty ++ ⟨#[s[k]]⟩, nm, wrg⟩ := by unfold Gr.put; rw [if_pos h60]
                  have hput : Hid (∀ W', Rg.Only w.heap.size wr W' → Rg.Bk w.heap.size [.int .i64 1, .string (ty ++ s.extract k (k + 1)), .string nm, .int .i64 wrg] 35 W' → RIn w login pw s R (k + 1) ⟨1, ty ++ s.extract k (k + 1), nm, wrg⟩ out W') := fun W' a b => by
                    have := hT.out.put hlt (fun h => h.elim (Gr.not13 h13) (Gr.not10 h10)) (Or.inr rfl) a
                    rw [hpt, ← ba_one s k hlt] at this
                    exact this b
                  have kB := hT.out.door
                  have zf := kB.thaw
                  have q0 : (0 : Int) ≤ (k : Int) := by omega
                  have q1 : (k : Int) ≤ (k : Int) + 1 := by omega
                  have q2 : (k : Int) + 1 ≤ (s.size : Int) := by omega
                  have q3 : ((k : Int) + 1).toNat = k + 1 := by omega
                  have hz9 : (s.extract k (k + 1)).size = 1 := by rw [ba_one s k hlt]; rfl
                  have hn := Rg.hid (hput.out _ (Rg.Only.setCell wr w.heap.size 1 (.string (ty ++ s.extract k (k + 1)))) (kB.set 1 (.string (ty ++ s.extract k (k + 1)))))
                  clear hT hpt hput
                  go_upto_region 14 with fail
                  go_region
                  go_wp2
                  go_roundw
                  case rel => exact ⟨k + 1, _, _, by omega, by go_num, rfl, hn.out.drew⟩
                  case measure => simp [intOf]; omega
                · have hpt : Gr.put s[k] ⟨1, ty, nm, wrg⟩ = ⟨1, ty, nm, wrg⟩ := by unfold Gr.put; rw [if_neg h60]
                  have hn : Hid (RIn w login pw s R (k + 1) ⟨1, ty, nm, wrg⟩ out wr) := by
                    have := hT.out.put hlt (fun h => h.elim (Gr.not13 h13) (Gr.not10 h10)) (Or.inr rfl) (Rg.Only.refl _ _)
                    rw [hpt] at this
                    exact this hT.out.door
                  clear hT hpt
                  go_wp2
                  go_roundw
                  case rel => exact ⟨k + 1, _, _, by omega, by go_num, rfl, hn⟩
                  case measure => simp [intOf]; omega
        · have hrun := hT.out.run
          rw [Gr.drop_at s k hlt, Gr.type_shut h2 hst] at hrun
          replace hrun := Rg.hid hrun
          have d3 : (st != 0) = true := by rw [bne_iff_ne]; omega
          have d4 : (st != 1) = true := by rw [bne_iff_ne]; omega
          clear h2 hst
          have kR2 := hT.out.res
          have rf := kR2.thaw
          have r0 := kR2.cell 0
          have r1 := kR2.cell 1
          have r2 := kR2.cell 2
          have r3 := kR2.cell 3
          obtain ⟨kE, oE⟩ := ret4 kR2 rfl (.int .i64 st) (.string ty) (.string nm) (.int .i64 wrg)
          have hb5 := hT.out.bel.trans (oE.bel (Nat.le_succ _))
          clear hT
          go_wp2
          generalize World.setCell _ _ _ = WE at *
          exact bodyPost_ret (v := .tuple #[.agg #[.int .i64 st, .string ty, .string nm, .int .i64 wrg], .string ⟨out.toArray⟩, .string ⟨#[]⟩]) (by simp [results, Try.results26, go_sem, kE.cell]) rfl (TPost.mk' hrun.out rfl rfl rfl rfl (by simp) rfl hb5)
    · have hrun := hT.out.run
      rw [Gr.drop_end s k hlt, Gr.type_nil] at hrun
      replace hrun := Rg.hid hrun
      have kR2 := hT.out.res
      have rf := kR2.thaw
      have r0 := kR2.cell 0
      have r1 := kR2.cell 1
      have r2 := kR2.cell 2
      have r3 := kR2.cell 3
      obtain ⟨kE, oE⟩ := ret4 kR2 rfl (.int .i64 st) (.string ty) (.string nm) (.int .i64 wrg)
      have hb5 := hT.out.bel.trans (oE.bel (Nat.le_succ _))
      clear hT
      go_wp2
      generalize World.setCell _ _ _ = WE at *
      exact bodyPost_ret (v := .tuple #[.agg #[.int .i64 st, .string ty, .string nm, .int .i64 wrg], .string ⟨out.toArray⟩, .string ⟨#[]⟩]) (by simp [results, Try.results26, go_sem, kE.cell]) rfl (TPost.mk' hrun.out rfl rfl rfl rfl (by simp) rfl hb5)
end Go.Proofs.Ytpndcbilnbihaaa
