/-
  Layer 8: isDone, Begin, Feed.
-/
import Derived.Test.YtpggnhnpphbaeaaDoorCh12
import Derived.Test.YtpggnhnpphbaeaaDoorCh13
namespace Go.Proofs.YtpggnhnpphbaeaaDoor
open Go.RowKit

/-- the same as 'GPost', with the chat's cells named -/
def GEx (w : World) (r : Ch.Co × List UInt8) (e : Ending) (w' : World) : Prop := ∃ (sa' : Option Addr) (sn' sc' : Nat) (step' want' : Int) (seen' : ByteArray) (wait' pat' : Int) (over' failed' : Bool), e = .returned (.tuple #[.agg #[.slice sa' sn' sc', .int .i64 step', .int .i64 want', .string seen', .int .i64 wait', .int .i64 pat', .bool over', .bool failed'], .string ⟨r.2.toArray⟩]) ∧ CAt w' (.agg #[.slice sa' sn' sc', .int .i64 step', .int .i64 want', .string seen', .int .i64 wait', .int .i64 pat', .bool over', .bool failed']) r.1 ∧ Below w.heap.size w w'
theorem GPost.ex {w w' : World} {r : Ch.Co × List UInt8} {e : Ending} (h : GPost w r e w') : GEx w r e w' := by
  obtain ⟨v, rfl, hA, hb⟩ := h
  have h0 := hA
  obtain ⟨sa, sc, vs, rfl, -⟩ := hA
  exact ⟨_, _, _, _, _, _, _, _, _, _, rfl, h0, hb⟩

set_option maxHeartbeats 2000000 in
set_option maxRecDepth 100000 in
theorem done_any (sa : Option Addr) (sn sc : Nat) (cstep cwant : Int) (cseen : ByteArray) (cwait cpat : Int) (cover cfailed : Bool) (w : World) : Calls Tryd.prog 13 #[.agg #[.slice sa sn sc, .int .i64 cstep, .int .i64 cwant, .string cseen, .int .i64 cwait, .int .i64 cpat, .bool cover, .bool cfailed]] w fun e w' => e = .returned (.bool (cover || cfailed)) ∧ Below w.heap.size w w' := by
  have hb1 := Rg.hid (Rg.al1 w (.cells #[.slice sa sn sc, .int .i64 cstep, .int .i64 cwant, .string cseen, .int .i64 cwait, .int .i64 cpat, .bool cover, .bool cfailed] 30))
  cases cover
  · go_enter Tryd.func13, Tryd.ntmps13
    go_wp2
    go_ret
    exact ⟨rfl, hb1.out⟩
  · go_enter Tryd.func13, Tryd.ntmps13
    go_wp2
    go_ret
    exact ⟨rfl, hb1.out⟩

set_option maxHeartbeats 2000000 in
set_option maxRecDepth 100000 in
theorem begin_any (a : Option Addr) (c : Nat) (vs : List SV) (xs : List Ch.St) (p : Int) (w : World) (hm : MaxIn w) (hl : xs.length ≤ 1000) (hwl : ∀ x ∈ xs, x.wants.length ≤ 1000000 ∧ x.nudge.length ≤ 1000000) (hsd : ∀ x ∈ xs, x.send.size ≤ 100000) (hr : Rg.Tow stepE w a vs) (hx : StsAt w vs xs) :
    Calls Tryd.prog 6 #[.slice a xs.length c, .int .i64 p] w fun e w' => GPost w (Ch.begin_ xs p) e w' := by
  have HCp : Hid (∀ W, Below w.heap.size w W → Calls Tryd.prog 12 #[.slice a xs.length c] W fun e w' => ∃ a7 c7 vs7, e = .returned (.slice a7 xs.length c7) ∧ Hid (Rg.Tow stepE w' a7 vs7) ∧ Hid (StsAt w' vs7 xs) ∧ xs.length ≤ c7 ∧ Below W.heap.size W w') := fun W hW => copy_any a c vs xs W hl hwl (hr.below hW) (hx.below hW)
  obtain ⟨M1, hM1⟩ : ∃ M1 : Int, max p 1 = M1 := ⟨_, rfl⟩
  obtain ⟨M2, hM2⟩ : ∃ M2 : Int, min M1 1000 = M2 := ⟨_, rfl⟩
  have HG : Hid (∀ W a7 c7 vs7, Below w.heap.size w W → Rg.Tow stepE W a7 vs7 → StsAt W vs7 xs → xs.length ≤ c7 → Calls Tryd.prog 11 #[.agg #[.slice a7 xs.length c7, .int .i64 0, .int .i64 0, .string ⟨#[]⟩, .int .i64 0, .int .i64 M2, .bool false, .bool false]] W fun e w' => GEx W (Ch.begin_ xs p) e w') := fun W a7 c7 vs7 hW h1 h2 h3 => by
    have := goon_any _ ⟨xs, 0, 0, [], 0, M2, false, false⟩ W (hm.below hW) ⟨a7, c7, vs7, rfl, h1, h2, h3⟩ hl (by simp) hsd (by show (-9223372036854775808 : Int) ≤ 0; decide)
    unfold Ch.begin_
    rw [hM1, hM2]
    exact this.mono fun e w' q => q.ex
  generalize Ch.begin_ xs p = r at *
  obtain ⟨n, hn⟩ : ∃ n, n = xs.length := ⟨_, rfl⟩
  rw [← hn] at HCp HG ⊢
  unfold GEx at HG
  clear hn hl hwl hsd hr hx hm
  have kR1 : Hid (Rg.Bk w.heap.size [.slice none 0 0, .int .i64 0, .int .i64 0, .string ⟨#[]⟩, .int .i64 0, .int .i64 0, .bool false, .bool false] 30 (w.alloc (.cells #[.slice none 0 0, .int .i64 0, .int .i64 0, .string ⟨#[]⟩, .int .i64 0, .int .i64 0, .bool false, .bool false] 30))) := Rg.Bk.new rfl
  have hb1 := Rg.hid (Rg.al1 w (.cells #[.slice none 0 0, .int .i64 0, .int .i64 0, .string ⟨#[]⟩, .int .i64 0, .int .i64 0, .bool false, .bool false] 30))
  go_enter Tryd.func6, Tryd.ntmps6
  go_upto_region 1 with fail
  generalize World.alloc _ _ = w1 at *
  obtain ⟨R, hR⟩ : ∃ R, R = w.heap.size := ⟨_, rfl⟩
  rw [← hR] at kR1 ⊢
  have hRw : w.heap.size ≤ R := by omega
  clear hR
  go_wp2_with (first
    | (go_at_call 12; refine (HCp.out _ hb1.out).mono ?_; rintro e w2 ⟨a7, c7, vs7, rfl, hT2, hX2, hc2, b2⟩)
    | (go_at_call 11; refine (HG.out _ _ _ _ (Rg.chain hb1.out b2) hT2.out hX2.out hc2).mono ?_; rintro e w3 ⟨sa', sn', sc', step', want', seen', wait', pat', over', failed', rfl, hA3, b3⟩; have kR3 := (kR1.out.below b2 kR1.out.lt).below b3 (kR1.out.below b2 kR1.out.lt).lt; have hb3 := Rg.hid (Rg.chain (Rg.chain hb1.out b2) b3); have rf := kR3.thaw; have r0 := kR3.cell 0; have r1 := kR3.cell 1; have r2 := kR3.cell 2; have r3 := kR3.cell 3; have r4 := kR3.cell 4; have r5 := kR3.cell 5; have r6 := kR3.cell 6; have r7 := kR3.cell 7; simp only [List.getElem?_cons_zero, List.getElem?_cons_succ] at r0 r1 r2 r3 r4 r5 r6 r7))
  obtain ⟨kE, oE⟩ := ret8 kR3 rfl (.slice sa' sn' sc') (.int .i64 step') (.int .i64 want') (.string seen') (.int .i64 wait') (.int .i64 pat') (.bool over') (.bool failed')
  have hA4 := hA3.only kR3 oE
  have hb4 := hb3.out.trans (oE.bel hRw)
  generalize World.setCell _ _ _ = WE at *
  exact bodyPost_ret (v := .tuple #[.agg #[.slice sa' sn' sc', .int .i64 step', .int .i64 want', .string seen', .int .i64 wait', .int .i64 pat', .bool over', .bool failed'], .string ⟨r.2.toArray⟩]) (by simp [results, Tryd.results6, go_sem, kE.cell]) rfl ⟨_, rfl, hA4, hb4⟩

set_option maxHeartbeats 2000000 in
set_option maxRecDepth 100000 in
theorem feed_done (sa : Option Addr) (sn sc : Nat) (cstep cwant : Int) (cseen : ByteArray) (cwait cpat : Int) (cover cfailed : Bool) (s : ByteArray) (c0 : Ch.Co) (w : World) (hA : Hid (CAt w (.agg #[.slice sa sn sc, .int .i64 cstep, .int .i64 cwant, .string cseen, .int .i64 cwait, .int .i64 cpat, .bool cover, .bool cfailed]) c0)) (hdn : (cover || cfailed) = true) :
    Calls Tryd.prog 7 #[.agg #[.slice sa sn sc, .int .i64 cstep, .int .i64 cwant, .string cseen, .int .i64 cwait, .int .i64 cpat, .bool cover, .bool cfailed], .string s] w fun e w' => GPost w (c0, []) e w' := by
  have kB1 : Hid (Rg.Bk w.heap.size [.slice sa sn sc, .int .i64 cstep, .int .i64 cwant, .string cseen, .int .i64 cwait, .int .i64 cpat, .bool cover, .bool cfailed] 30 ((w.alloc (.cells #[.slice sa sn sc, .int .i64 cstep, .int .i64 cwant, .string cseen, .int .i64 cwait, .int .i64 cpat, .bool cover, .bool cfailed] 30)).alloc (.cells #[.slice none 0 0, .int .i64 0, .int .i64 0, .string ⟨#[]⟩, .int .i64 0, .int .i64 0, .bool false, .bool false] 30))) := (Rg.Bk.new rfl).old _
  have kR1 : Hid (Rg.Bk (w.heap.size + 1) [.slice none 0 0, .int .i64 0, .int .i64 0, .string ⟨#[]⟩, .int .i64 0, .int .i64 0, .bool false, .bool false] 30 ((w.alloc (.cells #[.slice sa sn sc, .int .i64 cstep, .int .i64 cwant, .string cseen, .int .i64 cwait, .int .i64 cpat, .bool cover, .bool cfailed] 30)).alloc (.cells #[.slice none 0 0, .int .i64 0, .int .i64 0, .string ⟨#[]⟩, .int .i64 0, .int .i64 0, .bool false, .bool false] 30))) := Rg.Bk.new (by simp)
  have hb1 := Rg.hid (Rg.al2 w (.cells #[.slice sa sn sc, .int .i64 cstep, .int .i64 cwant, .string cseen, .int .i64 cwait, .int .i64 cpat, .bool cover, .bool cfailed] 30) (.cells #[.slice none 0 0, .int .i64 0, .int .i64 0, .string ⟨#[]⟩, .int .i64 0, .int .i64 0, .bool false, .bool false] 30))
  have HD : Hid (∀ W, Calls Tryd.prog 13 #[.agg #[.slice sa sn sc, .int .i64 cstep, .int .i64 cwant, .string cseen, .int .i64 cwait, .int .i64 cpat, .bool cover, .bool cfailed]] W fun e w' => e = .returned (.bool true) ∧ Below W.heap.size W w') := fun W => by rw [← hdn]; exact done_any sa sn sc cstep cwant cseen cwait cpat cover cfailed W
  clear hdn
  go_enter Tryd.func7, Tryd.ntmps7
  go_upto_region 1 with fail
  generalize World.alloc _ _ = w1 at *
  obtain ⟨B, hB⟩ : ∃ B, B = w.heap.size := ⟨_, rfl⟩
  obtain ⟨R, hR⟩ : ∃ R, R = w.heap.size + 1 := ⟨_, rfl⟩
  rw [← hR] at kR1 ⊢
  rw [← hB] at kB1 ⊢
  have hBR : B ≠ R := by omega
  have hBw : w.heap.size ≤ B := by omega
  have hRw : w.heap.size ≤ R := by omega
  clear hB hR
  have z0 : w1.cell? ⟨B, 0, none⟩ = some (.slice sa sn sc) := kB1.out.cell 0
  have z1 : w1.cell? ⟨B, 1, none⟩ = some (.int .i64 cstep) := kB1.out.cell 1
  have z2 : w1.cell? ⟨B, 2, none⟩ = some (.int .i64 cwant) := kB1.out.cell 2
  have z3 : w1.cell? ⟨B, 3, none⟩ = some (.string cseen) := kB1.out.cell 3
  have z4 : w1.cell? ⟨B, 4, none⟩ = some (.int .i64 cwait) := kB1.out.cell 4
  have z5 : w1.cell? ⟨B, 5, none⟩ = some (.int .i64 cpat) := kB1.out.cell 5
  have z6 : w1.cell? ⟨B, 6, none⟩ = some (.bool cover) := kB1.out.cell 6
  have z7 : w1.cell? ⟨B, 7, none⟩ = some (.bool cfailed) := kB1.out.cell 7
  go_upto_region 2 with (go_at_call 13; refine (HD.out _).mono ?_; rintro e w2 ⟨rfl, b2⟩)
  have kB2 := kB1.out.below b2 kB1.out.lt
  have kR2 := kR1.out.below b2 kR1.out.lt
  have hb2 := Rg.chain hb1.out b2
  clear z0 z1 z2 z3 z4 z5 z6 z7 kB1 kR1 hb1 HD
  obtain ⟨kE, oE⟩ := ret8 kR2 rfl (.slice sa sn sc) (.int .i64 cstep) (.int .i64 cwant) (.string cseen) (.int .i64 cwait) (.int .i64 cpat) (.bool cover) (.bool cfailed)
  have hA4 := Rg.hid (((hA.out.below hb2).only kR2 oE))
  have hb4 := Rg.hid (hb2.trans (oE.bel hRw))
  have z0 : w2.cell? ⟨B, 0, none⟩ = some (.slice sa sn sc) := kB2.cell 0
  have r0 : w2.cell? ⟨R, 0, none⟩ = some (.slice none 0 0) := kR2.cell 0
  have z1 : w2.cell? ⟨B, 1, none⟩ = some (.int .i64 cstep) := kB2.cell 1
  have r1 : w2.cell? ⟨R, 1, none⟩ = some (.int .i64 0) := kR2.cell 1
  have z2 : w2.cell? ⟨B, 2, none⟩ = some (.int .i64 cwant) := kB2.cell 2
  have r2 : w2.cell? ⟨R, 2, none⟩ = some (.int .i64 0) := kR2.cell 2
  have z3 : w2.cell? ⟨B, 3, none⟩ = some (.string cseen) := kB2.cell 3
  have r3 : w2.cell? ⟨R, 3, none⟩ = some (.string ⟨#[]⟩) := kR2.cell 3
  have z4 : w2.cell? ⟨B, 4, none⟩ = some (.int .i64 cwait) := kB2.cell 4
  have r4 : w2.cell? ⟨R, 4, none⟩ = some (.int .i64 0) := kR2.cell 4
  have z5 : w2.cell? ⟨B, 5, none⟩ = some (.int .i64 cpat) := kB2.cell 5
  have r5 : w2.cell? ⟨R, 5, none⟩ = some (.int .i64 0) := kR2.cell 5
  have z6 : w2.cell? ⟨B, 6, none⟩ = some (.bool cover) := kB2.cell 6
  have r6 : w2.cell? ⟨R, 6, none⟩ = some (.bool false) := kR2.cell 6
  have z7 : w2.cell? ⟨B, 7, none⟩ = some (.bool cfailed) := kB2.cell 7
  have r7 : w2.cell? ⟨R, 7, none⟩ = some (.bool false) := kR2.cell 7
  have rf := kR2.thaw
  replace kE := Rg.hid kE
  clear oE kB2 kR2 b2 hb2
  go_wp2
  replace kE := kE.out
  replace hA4 := hA4.out
  replace hb4 := hb4.out
  generalize World.setCell _ _ _ = WE at *
  exact bodyPost_ret (v := .tuple #[.agg #[.slice sa sn sc, .int .i64 cstep, .int .i64 cwant, .string cseen, .int .i64 cwait, .int .i64 cpat, .bool cover, .bool cfailed], .string ⟨#[]⟩]) (by simp [results, Tryd.results7, go_sem, kE.cell]) rfl ⟨_, rfl, hA4, hb4⟩

set_option maxHeartbeats 2000000 in
set_option maxRecDepth 100000 in
theorem feed_go (sa : Option Addr) (sn sc : Nat) (cstep cwant : Int) (cseen : ByteArray) (cwait cpat : Int) (cover cfailed : Bool) (s : ByteArray) (w : World) (r : Ch.Co × List UInt8) (hdn : (cover || cfailed) = false) (hsz : ¬ 9223372036854775807 < cseen.size + s.size)
    (HG : Hid (∀ W, Below w.heap.size w W → Calls Tryd.prog 11 #[.agg #[.slice sa sn sc, .int .i64 cstep, .int .i64 cwant, .string (cseen ++ s), .int .i64 cwait, .int .i64 cpat, .bool cover, .bool cfailed]] W fun e w' => GEx W r e w')) :
    Calls Tryd.prog 7 #[.agg #[.slice sa sn sc, .int .i64 cstep, .int .i64 cwant, .string cseen, .int .i64 cwait, .int .i64 cpat, .bool cover, .bool cfailed], .string s] w fun e w' => GPost w r e w' := by
  unfold GEx at HG
  have kB1 : Hid (Rg.Bk w.heap.size [.slice sa sn sc, .int .i64 cstep, .int .i64 cwant, .string cseen, .int .i64 cwait, .int .i64 cpat, .bool cover, .bool cfailed] 30 ((w.alloc (.cells #[.slice sa sn sc, .int .i64 cstep, .int .i64 cwant, .string cseen, .int .i64 cwait, .int .i64 cpat, .bool cover, .bool cfailed] 30)).alloc (.cells #[.slice none 0 0, .int .i64 0, .int .i64 0, .string ⟨#[]⟩, .int .i64 0, .int .i64 0, .bool false, .bool false] 30))) := (Rg.Bk.new rfl).old _
  have kR1 : Hid (Rg.Bk (w.heap.size + 1) [.slice none 0 0, .int .i64 0, .int .i64 0, .string ⟨#[]⟩, .int .i64 0, .int .i64 0, .bool false, .bool false] 30 ((w.alloc (.cells #[.slice sa sn sc, .int .i64 cstep, .int .i64 cwant, .string cseen, .int .i64 cwait, .int .i64 cpat, .bool cover, .bool cfailed] 30)).alloc (.cells #[.slice none 0 0, .int .i64 0, .int .i64 0, .string ⟨#[]⟩, .int .i64 0, .int .i64 0, .bool false, .bool false] 30))) := Rg.Bk.new (by simp)
  have hb1 := Rg.hid (Rg.al2 w (.cells #[.slice sa sn sc, .int .i64 cstep, .int .i64 cwant, .string cseen, .int .i64 cwait, .int .i64 cpat, .bool cover, .bool cfailed] 30) (.cells #[.slice none 0 0, .int .i64 0, .int .i64 0, .string ⟨#[]⟩, .int .i64 0, .int .i64 0, .bool false, .bool false] 30))
  have HD : Hid (∀ W, Calls Tryd.prog 13 #[.agg #[.slice sa sn sc, .int .i64 cstep, .int .i64 cwant, .string cseen, .int .i64 cwait, .int .i64 cpat, .bool cover, .bool cfailed]] W fun e w' => e = .returned (.bool false) ∧ Below W.heap.size W w') := fun W => by rw [← hdn]; exact done_any sa sn sc cstep cwant cseen cwait cpat cover cfailed W
  clear hdn
  go_enter Tryd.func7, Tryd.ntmps7
  go_upto_region 1 with fail
  generalize World.alloc _ _ = w1 at *
  obtain ⟨B, hB⟩ : ∃ B, B = w.heap.size := ⟨_, rfl⟩
  obtain ⟨R, hR⟩ : ∃ R, R = w.heap.size + 1 := ⟨_, rfl⟩
  rw [← hR] at kR1 ⊢
  rw [← hB] at kB1 ⊢
  have hBR : B ≠ R := by omega
  have hBw : w.heap.size ≤ B := by omega
  have hRw : w.heap.size ≤ R := by omega
  clear hB hR
  have z0 : w1.cell? ⟨B, 0, none⟩ = some (.slice sa sn sc) := kB1.out.cell 0
  have z1 : w1.cell? ⟨B, 1, none⟩ = some (.int .i64 cstep) := kB1.out.cell 1
  have z2 : w1.cell? ⟨B, 2, none⟩ = some (.int .i64 cwant) := kB1.out.cell 2
  have z3 : w1.cell? ⟨B, 3, none⟩ = some (.string cseen) := kB1.out.cell 3
  have z4 : w1.cell? ⟨B, 4, none⟩ = some (.int .i64 cwait) := kB1.out.cell 4
  have z5 : w1.cell? ⟨B, 5, none⟩ = some (.int .i64 cpat) := kB1.out.cell 5
  have z6 : w1.cell? ⟨B, 6, none⟩ = some (.bool cover) := kB1.out.cell 6
  have z7 : w1.cell? ⟨B, 7, none⟩ = some (.bool cfailed) := kB1.out.cell 7
  go_upto_region 3 with (go_at_call 13; refine (HD.out _).mono ?_; rintro e w2 ⟨rfl, b2⟩)
  have kB2 := kB1.out.below b2 kB1.out.lt
  have kR2 := Rg.hid (kR1.out.below b2 kR1.out.lt)
  have hb2 := Rg.hid (Rg.chain hb1.out b2)
  clear z0 z1 z2 z3 z4 z5 z6 z7 kB1 kR1 hb1 HD b2
  have z3 : w2.cell? ⟨B, 3, none⟩ = some (.string cseen) := kB2.cell 3
  have zf := kB2.thaw
  have kB3 : Hid (Rg.Bk B [.slice sa sn sc, .int .i64 cstep, .int .i64 cwant, .string (cseen ++ s), .int .i64 cwait, .int .i64 cpat, .bool cover, .bool cfailed] 30 (w2.setCell ⟨B, 3, none⟩ (.string (cseen ++ s)))) := kB2.set 3 (.string (cseen ++ s))
  have o3 := Rg.Only.setCell w2 B 3 (.string (cseen ++ s))
  have kR3 := Rg.hid (kR2.out.same (o3.block R (Ne.symm hBR)))
  have hb3 := Rg.hid (hb2.out.trans (o3.bel hBw))
  clear kB2 kR2 hb2 o3
  go_upto_region 4 with fail
  clear z3 zf
  generalize World.setCell _ _ _ = w3 at *
  have z0 : w3.cell? ⟨B, 0, none⟩ = some (.slice sa sn sc) := kB3.out.cell 0
  have z1 : w3.cell? ⟨B, 1, none⟩ = some (.int .i64 cstep) := kB3.out.cell 1
  have z2 : w3.cell? ⟨B, 2, none⟩ = some (.int .i64 cwant) := kB3.out.cell 2
  have z3 : w3.cell? ⟨B, 3, none⟩ = some (.string (cseen ++ s)) := kB3.out.cell 3
  have z4 : w3.cell? ⟨B, 4, none⟩ = some (.int .i64 cwait) := kB3.out.cell 4
  have z5 : w3.cell? ⟨B, 5, none⟩ = some (.int .i64 cpat) := kB3.out.cell 5
  have z6 : w3.cell? ⟨B, 6, none⟩ = some (.bool cover) := kB3.out.cell 6
  have z7 : w3.cell? ⟨B, 7, none⟩ = some (.bool cfailed) := kB3.out.cell 7
  go_wp2_with (go_at_call 11; refine (HG.out _ hb3.out).mono ?_; rintro e w4 ⟨sa', sn', sc', step', want', seen', wait', pat', over', failed', rfl, hA4, b4⟩; have kR4 := kR3.out.below b4 kR3.out.lt; have hb4 := Rg.hid (Rg.chain hb3.out b4); have rf := kR4.thaw; have r0 := kR4.cell 0; have r1 := kR4.cell 1; have r2 := kR4.cell 2; have r3 := kR4.cell 3; have r4 := kR4.cell 4; have r5 := kR4.cell 5; have r6 := kR4.cell 6; have r7 := kR4.cell 7; simp only [List.getElem?_cons_zero, List.getElem?_cons_succ] at r0 r1 r2 r3 r4 r5 r6 r7)
  obtain ⟨kE, oE⟩ := ret8 kR4 rfl (.slice sa' sn' sc') (.int .i64 step') (.int .i64 want') (.string seen') (.int .i64 wait') (.int .i64 pat') (.bool over') (.bool failed')
  have hA5 := hA4.only kR4 oE
  have hb5 := hb4.out.trans (oE.bel hRw)
  generalize World.setCell _ _ _ = WE at *
  exact bodyPost_ret (v := .tuple #[.agg #[.slice sa' sn' sc', .int .i64 step', .int .i64 want', .string seen', .int .i64 wait', .int .i64 pat', .bool over', .bool failed'], .string ⟨r.2.toArray⟩]) (by simp [results, Tryd.results7, go_sem, kE.cell]) rfl ⟨_, rfl, hA5, hb5⟩
/-- what is asked of a chat -/
structure COk (c : Ch.Co) : Prop where
  len : c.steps.length ≤ 1000
  seen : c.seen.length ≤ 500000
  send : ∀ x ∈ c.steps, x.send.size ≤ 100000
  step : -9223372036854775808 ≤ c.step
theorem feed_any (v0 : Value) (c0 : Ch.Co) (s : ByteArray) (w : World) (hm : MaxIn w) (hc : COk c0) (hs : s.size ≤ 500000) (hA : CAt w v0 c0) : Calls Tryd.prog 7 #[v0, .string s] w fun e w' => GPost w (Ch.feed c0 s.data.toList) e w' := by
  unfold Ch.feed
  have hA0 := hA
  obtain ⟨sa, sc, vs, rfl, hrow, hsts, hsc⟩ := hA
  by_cases hd : c0.over = true ∨ c0.failed = true
  · rw [if_pos hd]
    exact feed_done sa _ sc c0.step c0.want _ c0.wait c0.pat c0.over c0.failed s c0 w (Rg.hid hA0) (by rcases hd with h | h <;> simp [h])
  · rw [if_neg hd]
    have hd2 : (c0.over || c0.failed) = false := by
      simp only [not_or, Bool.not_eq_true] at hd
      rw [hd.1, hd.2]; rfl
    refine feed_go sa _ sc c0.step c0.want _ c0.wait c0.pat c0.over c0.failed s w _ hd2 (by show ¬ _ < c0.seen.toArray.size + s.size; have := hc.seen; rw [List.size_toArray]; omega) (fun W hW => ?_)
    have hq : (⟨c0.seen.toArray⟩ : ByteArray) ++ s = ⟨(c0.seen ++ s.data.toList).toArray⟩ := by
      apply ba_ext
      simp
    have := goon_any (.agg (CC sa c0.steps.length sc c0.step c0.want ⟨(c0.seen ++ s.data.toList).toArray⟩ c0.wait c0.pat c0.over c0.failed).toArray) { c0 with seen := c0.seen ++ s.data.toList } W (hm.below hW) ⟨sa, sc, vs, rfl, hrow.below hW, hsts.below hW, hsc⟩ hc.len (by show (c0.seen ++ s.data.toList).length ≤ _; rw [List.length_append]; have := hc.seen; have h9 : s.data.toList.length = s.size := rfl; omega) hc.send hc.step
    rw [hq]
    exact this.mono fun e w' q => q.ex
end Go.Proofs.YtpggnhnpphbaeaaDoor
