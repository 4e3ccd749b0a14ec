/-
  Walks of layer 14: the document's Ack, where texts go.
-/
import Derived.Test.YtnglfefgcdbgmaaWnE
namespace Go.Proofs.Ytnglfefgcdbgmaa
open Go.RowKit
theorem Wn.allGone {n cap K1 N2 : Nat} (h1 : n ≤ cap) (h2 : K1 ≤ n) (h3 : cap = K1) (h4 : n - K1 = N2) : n = K1 ∧ N2 = 0 := by omega
theorem Wn.leftLe {n K1 N2 : Nat} (h : n - K1 = N2) (hn : n ≤ 1000) : N2 ≤ 1000000 := by omega
set_option maxHeartbeats 4000000 in
set_option maxRecDepth 100000 in
theorem rack_some (m s b k N Z : Int) (a : Option Addr) (n c K K1 N2 : Nat) (l : List ByteArray) (hnl : Hid (n = l.length)) (hn : n ≤ 1000) (w : World) (hr : Hid (SRow w a l)) (HR : Hid (∀ g cap W, Calls Try.prog 31 #[.agg #[.int .i64 m, .int .i64 s, .int .i64 b, .slice (some ⟨g, 0, none⟩) n cap]] W fun e w' => e = .returned (.bool true) ∧ Below W.heap.size W w')) (HA : Hid (∀ W, Calls Try.prog 11 #[.int .i64 b, .int .i64 k, .int .i64 m] W fun e w' => e = .returned (.int .i64 (K : Int)) ∧ w' = W)) (dl : decide ((K : Int) < 0) = false) (dh : ¬ n ≤ K) (q1 : Hid (wrap64 ((K : Int) + 1) = (K1 : Int))) (q2 : (0 : Int) ≤ (K1 : Int)) (q3 : (K1 : Int) ≤ (n : Int)) (hK1 : Hid (K1 ≤ n)) (hN2 : Hid ((l.drop K1).length = N2)) (hN3 : n - K1 = N2) (t0 : Hid (wrap64 (k + 1) = Z)) (t1 : Hid (Z.tmod m = N)) (t2 : ¬ m = 0) :
    Calls Try.prog 18 #[.agg #[.int .i64 m, .int .i64 s, .int .i64 b, .slice a n c], .int .i64 k] w fun e w' => ∃ g cap, e = .returned (.tuple #[.agg #[.int .i64 m, .int .i64 s, .int .i64 N, .slice (some ⟨g, 0, none⟩) N2 cap], .int .i64 (K1 : Int)]) ∧ SRow w' (some ⟨g, 0, none⟩) (l.drop K1) ∧ N2 ≤ cap ∧ Below w.heap.size w w' := by
  have kB1 : Hid (Rg.Bk w.heap.size [.int .i64 m, .int .i64 s, .int .i64 b, .slice a n c] 24 ((w.alloc (.cells #[.int .i64 m, .int .i64 s, .int .i64 b, .slice a n c] 24)).alloc (.cells #[.int .i64 0, .int .i64 0, .int .i64 0, .slice none 0 0] 24))) := (Rg.Bk.new rfl).old _
  have kR1 : Hid (Rg.Bk (w.heap.size + 1) [.int .i64 0, .int .i64 0, .int .i64 0, .slice none 0 0] 24 ((w.alloc (.cells #[.int .i64 m, .int .i64 s, .int .i64 b, .slice a n c] 24)).alloc (.cells #[.int .i64 0, .int .i64 0, .int .i64 0, .slice none 0 0] 24))) := Rg.Bk.new (by simp)
  have hb1 := Rg.hid (Rg.al2 w (.cells #[.int .i64 m, .int .i64 s, .int .i64 b, .slice a n c] 24) (.cells #[.int .i64 0, .int .i64 0, .int .i64 0, .slice none 0 0] 24))
  go_enter Try.func18, Try.ntmps18
  go_upto_region 1 with fail
  generalize World.alloc _ _ = w1 at *
  obtain ⟨B, hB⟩ : ∃ B, B = w.heap.size := ⟨_, rfl⟩
  obtain ⟨R, hR⟩ : ∃ R, R = w.heap.size + 1 := ⟨_, rfl⟩
  rw [← hR] at kR1 ⊢
  rw [← hB] at kB1 ⊢
  have hBR : B ≠ R := by omega
  have hBw : w.heap.size ≤ B := by omega
  have hRw : w.heap.size ≤ R := by omega
  clear hB hR
  have z0 : w1.cell? ⟨B, 0, none⟩ = some (.int .i64 m) := kB1.out.cell 0
  have z1 : w1.cell? ⟨B, 1, none⟩ = some (.int .i64 s) := kB1.out.cell 1
  have z2 : w1.cell? ⟨B, 2, none⟩ = some (.int .i64 b) := kB1.out.cell 2
  have z3 : w1.cell? ⟨B, 3, none⟩ = some (.slice a n c) := kB1.out.cell 3
  have HO1 : Hid (Calls Try.prog 30 #[.agg #[.int .i64 m, .int .i64 s, .int .i64 b, .slice a n c]] w1 fun e w' => ∃ g cap rest, e = .returned (.agg #[.int .i64 m, .int .i64 s, .int .i64 b, .slice (some ⟨g, 0, none⟩) n cap]) ∧ (w'.cell? ⟨B, 0, none⟩ = some (.int .i64 m) ∧ w'.cell? ⟨B, 1, none⟩ = some (.int .i64 s) ∧ w'.cell? ⟨B, 2, none⟩ = some (.int .i64 b) ∧ w'.cell? ⟨B, 3, none⟩ = some (.slice a n c) ∧ ∀ i, w'.frozen? ⟨B, i, none⟩ = false) ∧ g ≠ B ∧ g ≠ R ∧ Hid (Rg.Bk B [.int .i64 m, .int .i64 s, .int .i64 b, .slice (some ⟨g, 0, none⟩) n cap] 24 ((((w'.setCell ⟨B, 0, none⟩ (.int .i64 m)).setCell ⟨B, 1, none⟩ (.int .i64 s)).setCell ⟨B, 2, none⟩ (.int .i64 b)).setCell ⟨B, 3, none⟩ (.slice (some ⟨g, 0, none⟩) n cap))) ∧ Hid (Rg.Bk R [.int .i64 0, .int .i64 0, .int .i64 0, .slice none 0 0] 24 ((((w'.setCell ⟨B, 0, none⟩ (.int .i64 m)).setCell ⟨B, 1, none⟩ (.int .i64 s)).setCell ⟨B, 2, none⟩ (.int .i64 b)).setCell ⟨B, 3, none⟩ (.slice (some ⟨g, 0, none⟩) n cap))) ∧ Hid (strE.Own w.heap.size ((((w'.setCell ⟨B, 0, none⟩ (.int .i64 m)).setCell ⟨B, 1, none⟩ (.int .i64 s)).setCell ⟨B, 2, none⟩ (.int .i64 b)).setCell ⟨B, 3, none⟩ (.slice (some ⟨g, 0, none⟩) n cap)) g cap l rest) ∧ Hid (Below w.heap.size w ((((w'.setCell ⟨B, 0, none⟩ (.int .i64 m)).setCell ⟨B, 1, none⟩ (.int .i64 s)).setCell ⟨B, 2, none⟩ (.int .i64 b)).setCell ⟨B, 3, none⟩ (.slice (some ⟨g, 0, none⟩) n cap)))) :=
    (rown_go m s b a n c l hnl (Nat.le_trans hn (by decide)) w1 (hr.out.below hb1.out)).mono fun e w' ⟨g, cap, rest, h1, h2, h3⟩ => by
      have k5 := kB1.out.below h3 kB1.out.lt
      have r5 := kR1.out.below h3 kR1.out.lt
      have hgB : g ≠ B := fun e => by have := h2.out.new; have := kB1.out.lt; omega
      have hgR : g ≠ R := fun e => by have := h2.out.new; have := kR1.out.lt; omega
      obtain ⟨kE, oE⟩ := Rg.ret4 k5 rfl (.int .i64 m) (.int .i64 s) (.int .i64 b) (.slice (some ⟨g, 0, none⟩) n cap)
      exact ⟨g, cap, rest, h1, ⟨k5.cell 0, k5.cell 1, k5.cell 2, k5.cell 3, k5.thaw⟩, hgB, hgR, kE, r5.same (oE.block R (fun e => hBR e.symm)), ⟨(h2.out.same (oE.block g hgB)).blk, Nat.le_trans hb1.out.size h2.out.new, h2.out.le, h2.out.max, h2.out.fit⟩, (Rg.chain hb1.out h3).trans (oE.bel hBw)⟩
  clear hr kB1 kR1 hb1
  go_upto_region 2 with (go_at_call 30; refine HO1.out.mono ?_; rintro e w2 ⟨g, cap, rest, rfl, ⟨y0, y1, y2, y3, yf⟩, hgB, hgR, kB2, kR2, ho2, hb2⟩)
  generalize World.setCell _ _ _ = w3 at *
  replace kB2 := kB2.out
  clear z0 z1 z2 z3 y0 y1 y2 y3 yf HO1
  have z0 : w3.cell? ⟨B, 0, none⟩ = some (.int .i64 m) := kB2.cell 0
  have z1 : w3.cell? ⟨B, 1, none⟩ = some (.int .i64 s) := kB2.cell 1
  have z2 : w3.cell? ⟨B, 2, none⟩ = some (.int .i64 b) := kB2.cell 2
  have z3 : w3.cell? ⟨B, 3, none⟩ = some (.slice (some ⟨g, 0, none⟩) n cap) := kB2.cell 3
  have HR3 := Rg.hid (HR.out g cap w3)
  go_upto_region 4 with (go_at_call 31; refine HR3.out.mono ?_; rintro e w4 ⟨rfl, b4⟩)
  have kB4 := kB2.below b4 kB2.lt
  have kR4 := kR2.out.below b4 kR2.out.lt
  have ho4 := Rg.hid (ho2.out.below b4)
  have hb4 := Rg.hid (Rg.chain hb2.out b4)
  clear z0 z1 z2 z3 kB2 kR2 ho2 hb2 b4 HR HR3
  have z0 : w4.cell? ⟨B, 0, none⟩ = some (.int .i64 m) := kB4.cell 0
  have z1 : w4.cell? ⟨B, 1, none⟩ = some (.int .i64 s) := kB4.cell 1
  have z2 : w4.cell? ⟨B, 2, none⟩ = some (.int .i64 b) := kB4.cell 2
  have z3 : w4.cell? ⟨B, 3, none⟩ = some (.slice (some ⟨g, 0, none⟩) n cap) := kB4.cell 3
  replace hn := Rg.hid hn
  replace q1 := q1.out
  replace t0 := t0.out
  replace t1 := t1.out
  go_upto_region 7 with (go_at_call 11; refine (HA.out _).mono ?_; rintro e wA ⟨rfl, hwA⟩; obtain rfl := hwA.symm)
  by_cases hck : cap = K1
  · obtain ⟨hnK, hN0⟩ := Wn.allGone (by rw [hnl.out]; exact ho4.out.le) hK1.out hck hN3
    subst hck
    subst hN0
    subst hnK
    clear hN3 q3
    have hap : ∃ v' W', (Builtin.append_ #[22, 22] 22 #[.slice (some ⟨w4.heap.size, 0, none⟩) 0 0, .slice (some ⟨g, 0, none⟩) 0 0]).run Try.prog (w4.alloc (.cells #[] 9)) = .ok v' W' ∧ ∃ g' cap', v' = (.slice (some ⟨g', 0, none⟩) 0 cap') ∧ W'.cell? ⟨B, 3, none⟩ = some (.slice (some ⟨g, 0, none⟩) n n) ∧ (∀ i, W'.frozen? ⟨B, i, none⟩ = false) ∧ Hid (SRow (W'.setCell ⟨B, 3, none⟩ (.slice (some ⟨g', 0, none⟩) 0 cap')) (some ⟨g', 0, none⟩) (l.drop n)) ∧ Hid (0 ≤ cap') ∧ Hid (Rg.Bk B [.int .i64 m, .int .i64 s, .int .i64 b, (.slice (some ⟨g', 0, none⟩) 0 cap')] 24 (W'.setCell ⟨B, 3, none⟩ (.slice (some ⟨g', 0, none⟩) 0 cap'))) ∧ Hid (Rg.Bk R [.int .i64 0, .int .i64 0, .int .i64 0, .slice none 0 0] 24 (W'.setCell ⟨B, 3, none⟩ (.slice (some ⟨g', 0, none⟩) 0 cap'))) ∧ Hid (Below w.heap.size w (W'.setCell ⟨B, 3, none⟩ (.slice (some ⟨g', 0, none⟩) 0 cap'))) := by
      obtain ⟨v', W', h1, g', cap', rest', rfl, h2, h3⟩ := own_app (some ⟨g, 0, none⟩) 0 0 (l.drop n) hN2.out.symm (Nat.zero_le _) w4 (.inl (List.eq_nil_of_length_eq_zero hN2.out))
      have k5 := kB4.below h3 kB4.lt
      have r5 := kR4.below h3 kR4.lt
      have o5 := Rg.Only.setCell W' B 3 (.slice (some ⟨g', 0, none⟩) 0 cap')
      have hle := h2.le
      rw [show (l.drop n).length = 0 from hN2.out] at hle
      exact ⟨_, W', h1, g', cap', rfl, k5.cell 3, k5.thaw, (SRow.of h2.toRow).only k5 (fun x h => by cases h) o5, hle, k5.set 3 _, r5.other (fun e => hBR e.symm) _, (Rg.chain hb4.out h3).trans (o5.bel hBw)⟩
    obtain ⟨v', w5, hap, g', cap', rfl, y3, yf, hs5, hc5, kB5, kR5, hb5⟩ := hap
    replace hap := Rg.hid hap
    have y4 : (w4.alloc (.cells #[] 9)).cell? ⟨B, 3, none⟩ = some (.slice (some ⟨g, 0, none⟩) n n) := (kB4.old _).cell 3
    clear ho4 hb4 kB4 kR4
    go_upto_region 8 with (at_builtin; refine Rg.wpList_append_run rfl (.tmp 29) (.tmp 34) 22 rfl _ _ rfl rfl _ _ hap.out ?_)
    generalize World.setCell _ _ _ = w6 at *
    replace kB5 := kB5.out
    replace kR5 := kR5.out
    clear z0 z1 z2 z3 y3 y4 yf hap
    have z0 : w6.cell? ⟨B, 0, none⟩ = some (.int .i64 m) := kB5.cell 0
    have z1 : w6.cell? ⟨B, 1, none⟩ = some (.int .i64 s) := kB5.cell 1
    have z2 : w6.cell? ⟨B, 2, none⟩ = some (.int .i64 b) := kB5.cell 2
    have z3 : w6.cell? ⟨B, 3, none⟩ = some ((.slice (some ⟨g', 0, none⟩) 0 cap')) := kB5.cell 3
    have zf := kB5.thaw
    have kB7 := Rg.hid (kB5.set 2 (.int .i64 N))
    have kR7 := Rg.hid (kR5.other (i := 2) (fun e => hBR e.symm) (.int .i64 N))
    have o7 := Rg.Only.setCell w6 B 2 (.int .i64 N)
    have hs7 := Rg.hid (hs5.out.only kB5 (fun x h => by cases h) o7)
    have hb7 := Rg.hid (hb5.out.trans (o7.bel hBw))
    clear kB5 kR5 o7 hs5 hb5
    go_upto_region 9 with fail
    generalize World.setCell _ _ _ = w8 at *
    replace kB7 := kB7.out
    replace kR7 := kR7.out
    clear z0 z1 z2 z3 zf
    obtain ⟨kE, oE⟩ := Rg.ret4 kR7 rfl (.int .i64 m) (.int .i64 s) (.int .i64 N) (.slice (some ⟨g', 0, none⟩) 0 cap')
    have hb9 := Rg.hid (hb7.out.trans (oE.bel hRw))
    have hs9 := Rg.hid (hs7.out.only kR7 (fun x h => by cases h) oE)
    have z0 : w8.cell? ⟨B, 0, none⟩ = some (.int .i64 m) := kB7.cell 0
    have z1 : w8.cell? ⟨B, 1, none⟩ = some (.int .i64 s) := kB7.cell 1
    have z2 : w8.cell? ⟨B, 2, none⟩ = some (.int .i64 N) := kB7.cell 2
    have z3 : w8.cell? ⟨B, 3, none⟩ = some ((.slice (some ⟨g', 0, none⟩) 0 cap')) := kB7.cell 3
    have r0 : w8.cell? ⟨R, 0, none⟩ = some (.int .i64 0) := kR7.cell 0
    have r1 : w8.cell? ⟨R, 1, none⟩ = some (.int .i64 0) := kR7.cell 1
    have r2 : w8.cell? ⟨R, 2, none⟩ = some (.int .i64 0) := kR7.cell 2
    have r3 : w8.cell? ⟨R, 3, none⟩ = some (.slice none 0 0) := kR7.cell 3
    have rf := kR7.thaw
    replace kE := Rg.hid kE
    clear oE kB7 kR7 hb7 hs7
    go_wp2
    replace kE := kE.out
    replace hb9 := hb9.out
    replace hs9 := hs9.out
    generalize World.setCell _ _ _ = WE at *
    exact bodyPost_ret (v := .tuple #[.agg #[.int .i64 m, .int .i64 s, .int .i64 N, (.slice (some ⟨g', 0, none⟩) 0 cap')], .int .i64 (n : Int)]) (by simp [results, Try.results18, go_sem, kE.cell, q1]) rfl ⟨g', cap', rfl, hs9, hc5.out, hb9⟩

  · have hrow := SRow.drop (ho4.out.row) ho4.out.lt K1 (by rw [← hnl.out]; exact hK1.out)
    rw [Nat.zero_add] at hrow
    have hap : ∃ v' W', (Builtin.append_ #[22, 22] 22 #[.slice (some ⟨w4.heap.size, 0, none⟩) 0 0, .slice (some ⟨g, K1, none⟩) N2 (cap - K1)]).run Try.prog (w4.alloc (.cells #[] 9)) = .ok v' W' ∧ ∃ g' cap', v' = (.slice (some ⟨g', 0, none⟩) N2 cap') ∧ W'.cell? ⟨B, 3, none⟩ = some (.slice (some ⟨g, 0, none⟩) n cap) ∧ (∀ i, W'.frozen? ⟨B, i, none⟩ = false) ∧ Hid (SRow (W'.setCell ⟨B, 3, none⟩ (.slice (some ⟨g', 0, none⟩) N2 cap')) (some ⟨g', 0, none⟩) (l.drop K1)) ∧ Hid (N2 ≤ cap') ∧ Hid (Rg.Bk B [.int .i64 m, .int .i64 s, .int .i64 b, (.slice (some ⟨g', 0, none⟩) N2 cap')] 24 (W'.setCell ⟨B, 3, none⟩ (.slice (some ⟨g', 0, none⟩) N2 cap'))) ∧ Hid (Rg.Bk R [.int .i64 0, .int .i64 0, .int .i64 0, .slice none 0 0] 24 (W'.setCell ⟨B, 3, none⟩ (.slice (some ⟨g', 0, none⟩) N2 cap'))) ∧ Hid (Below w.heap.size w (W'.setCell ⟨B, 3, none⟩ (.slice (some ⟨g', 0, none⟩) N2 cap'))) := by
      obtain ⟨v', W', h1, g', cap', rest', rfl, h2, h3⟩ := own_app (some ⟨g, K1, none⟩) (cap - K1) N2 (l.drop K1) hN2.out.symm (Wn.leftLe hN3 hn.out) w4 hrow
      have k5 := kB4.below h3 kB4.lt
      have r5 := kR4.below h3 kR4.lt
      have o5 := Rg.Only.setCell W' B 3 (.slice (some ⟨g', 0, none⟩) N2 cap')
      have hle := h2.le
      rw [show (l.drop K1).length = N2 from hN2.out] at hle
      exact ⟨_, W', h1, g', cap', rfl, k5.cell 3, k5.thaw, (SRow.of h2.toRow).only k5 (fun x h => by cases h) o5, hle, k5.set 3 _, r5.other (fun e => hBR e.symm) _, (Rg.chain hb4.out h3).trans (o5.bel hBw)⟩
    obtain ⟨v', w5, hap, g', cap', rfl, y3, yf, hs5, hc5, kB5, kR5, hb5⟩ := hap
    replace hap := Rg.hid hap
    have y4 : (w4.alloc (.cells #[] 9)).cell? ⟨B, 3, none⟩ = some (.slice (some ⟨g, 0, none⟩) n cap) := (kB4.old _).cell 3
    clear ho4 hb4 kB4 kR4
    go_upto_region 8 with (at_builtin; refine Rg.wpList_append_run rfl (.tmp 29) (.tmp 34) 22 rfl _ _ rfl rfl _ _ hap.out ?_)
    generalize World.setCell _ _ _ = w6 at *
    replace kB5 := kB5.out
    replace kR5 := kR5.out
    clear z0 z1 z2 z3 y3 y4 yf hap
    have z0 : w6.cell? ⟨B, 0, none⟩ = some (.int .i64 m) := kB5.cell 0
    have z1 : w6.cell? ⟨B, 1, none⟩ = some (.int .i64 s) := kB5.cell 1
    have z2 : w6.cell? ⟨B, 2, none⟩ = some (.int .i64 b) := kB5.cell 2
    have z3 : w6.cell? ⟨B, 3, none⟩ = some ((.slice (some ⟨g', 0, none⟩) N2 cap')) := kB5.cell 3
    have zf := kB5.thaw
    have kB7 := Rg.hid (kB5.set 2 (.int .i64 N))
    have kR7 := Rg.hid (kR5.other (i := 2) (fun e => hBR e.symm) (.int .i64 N))
    have o7 := Rg.Only.setCell w6 B 2 (.int .i64 N)
    have hs7 := Rg.hid (hs5.out.only kB5 (fun x h => by cases h) o7)
    have hb7 := Rg.hid (hb5.out.trans (o7.bel hBw))
    clear kB5 kR5 o7 hs5 hb5
    go_upto_region 9 with fail
    generalize World.setCell _ _ _ = w8 at *
    replace kB7 := kB7.out
    replace kR7 := kR7.out
    clear z0 z1 z2 z3 zf
    obtain ⟨kE, oE⟩ := Rg.ret4 kR7 rfl (.int .i64 m) (.int .i64 s) (.int .i64 N) (.slice (some ⟨g', 0, none⟩) N2 cap')
    have hb9 := Rg.hid (hb7.out.trans (oE.bel hRw))
    have hs9 := Rg.hid (hs7.out.only kR7 (fun x h => by cases h) oE)
    have z0 : w8.cell? ⟨B, 0, none⟩ = some (.int .i64 m) := kB7.cell 0
    have z1 : w8.cell? ⟨B, 1, none⟩ = some (.int .i64 s) := kB7.cell 1
    have z2 : w8.cell? ⟨B, 2, none⟩ = some (.int .i64 N) := kB7.cell 2
    have z3 : w8.cell? ⟨B, 3, none⟩ = some ((.slice (some ⟨g', 0, none⟩) N2 cap')) := kB7.cell 3
    have r0 : w8.cell? ⟨R, 0, none⟩ = some (.int .i64 0) := kR7.cell 0
    have r1 : w8.cell? ⟨R, 1, none⟩ = some (.int .i64 0) := kR7.cell 1
    have r2 : w8.cell? ⟨R, 2, none⟩ = some (.int .i64 0) := kR7.cell 2
    have r3 : w8.cell? ⟨R, 3, none⟩ = some (.slice none 0 0) := kR7.cell 3
    have rf := kR7.thaw
    replace kE := Rg.hid kE
    clear oE kB7 kR7 hb7 hs7
    go_wp2
    replace kE := kE.out
    replace hb9 := hb9.out
    replace hs9 := hs9.out
    generalize World.setCell _ _ _ = WE at *
    exact bodyPost_ret (v := .tuple #[.agg #[.int .i64 m, .int .i64 s, .int .i64 N, (.slice (some ⟨g', 0, none⟩) N2 cap')], .int .i64 (K1 : Int)]) (by simp [results, Try.results18, go_sem, kE.cell, q1]) rfl ⟨g', cap', rfl, hs9, hc5.out, hb9⟩

theorem rack_any (X : Wn.W) (hn : X.l.length ≤ 1000) (a : Option Addr) (c : Nat) (k : Int) (w : World) (h : WAt w X a c) :
    Calls Try.prog 18 #[WV X a c, .int .i64 k] w fun e w' => APost w (Wn.ack X k) e w' := by
  have HR : ∀ g cap W, Calls Try.prog 31 #[.agg #[.int .i64 X.md, .int .i64 X.sz, .int .i64 X.bs, .slice (some ⟨g, 0, none⟩) X.l.length cap]] W fun e w' => e = .returned (.bool (Wn.rt X)) ∧ Below W.heap.size W w' := fun g cap W => rright_any X (some ⟨g, 0, none⟩) cap W
  have HA := fun W => rahead_any X.bs k X.md W
  cases hr : Wn.rt X with
  | false =>
    rw [hr] at HR
    rw [show Wn.ack X k = (X, 0) by unfold Wn.ack Wn.place; rw [if_neg (by simp [hr])]]
    exact (rack_wrong _ _ _ k a _ c X.l rfl hn w h.row HR).mono fun e w' ⟨g, cap, h1, h2, h3, h4⟩ => ⟨_, cap, h1, ⟨h2, h3⟩, h4⟩
  | true =>
    rw [hr] at HR
    by_cases h0 : Wn.ahead X.bs k X.md < 0
    · rw [show Wn.ack X k = (X, 0) by unfold Wn.ack Wn.place; rw [if_neg (by omega)]]
      exact (rack_low _ _ _ k _ a _ c X.l rfl hn w h.row HR HA (decide_eq_true h0)).mono fun e w' ⟨g, cap, h1, h2, h3, h4⟩ => ⟨_, cap, h1, ⟨h2, h3⟩, h4⟩
    · by_cases h1 : (X.l.length : Int) ≤ Wn.ahead X.bs k X.md
      · rw [show Wn.ack X k = (X, 0) by unfold Wn.ack Wn.place; rw [if_neg (by omega)]]
        exact (rack_high _ _ _ k _ a _ c X.l rfl hn w h.row HR HA (decide_eq_false h0) (decide_eq_true h1)).mono fun e w' ⟨g, cap, h1, h2, h3, h4⟩ => ⟨_, cap, h1, ⟨h2, h3⟩, h4⟩
      · obtain ⟨K, hK⟩ : ∃ K : Nat, Wn.ahead X.bs k X.md = (K : Int) := ⟨(Wn.ahead X.bs k X.md).toNat, by omega⟩
        have hKl : K < X.l.length := by omega
        have hp : Wn.place X k = some K := by unfold Wn.place; rw [if_pos ⟨hr, by omega, by omega⟩, hK, Int.toNat_natCast]
        rw [show Wn.ack X k = (⟨X.md, X.sz, (k + 1) % X.md, X.l.drop (K + 1)⟩, K + 1) by unfold Wn.ack; rw [hp]]
        have hpt := Wn.rt_parts hr
        obtain ⟨_, _, hk⟩ := Wn.place_some hp
        have hkr := Wn.num_lt hr K
        rw [← hk] at hkr
        rw [hK] at HA
        have hd : X.l.length - (K + 1) = (X.l.drop (K + 1)).length := by rw [List.length_drop]
        have r0 : 0 ≤ k + 1 := by omega
        have r1 : k + 1 ≤ 1000 := by omega
        exact (rack_some X.md X.sz X.bs k _ _ a X.l.length c K (K + 1) (X.l.drop (K + 1)).length X.l rfl hn w h.row HR HA (decide_eq_false (by omega)) (by omega) (Wn.nextw K (by omega)) (by omega) (by omega) (show K + 1 ≤ X.l.length by omega) rfl hd (Wn.wrp (Int.le_trans (by decide) r0) (Int.le_trans r1 (by decide))).2 (Int.tmod_eq_emod_of_nonneg r0) (by omega)).mono fun e w' ⟨g, cap, h1, h2, h3, h4⟩ => ⟨_, cap, h1, ⟨h2, h3⟩, h4⟩
end Go.Proofs.Ytnglfefgcdbgmaa
