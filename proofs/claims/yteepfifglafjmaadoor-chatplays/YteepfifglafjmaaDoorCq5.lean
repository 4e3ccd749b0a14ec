/-
  Layer 8: the document's Tick.
-/
import Derived.Test.YteepfifglafjmaaDoorCq4
namespace Go.Proofs.YteepfifglafjmaaDoor
open Go.RowKit

set_option maxHeartbeats 4000000 in
set_option maxRecDepth 100000 in
theorem rtick_done (sa : Option Addr) (sn sc : Nat) (cstep cwant : Int) (cseen : ByteArray) (cwait cpat : Int) (cover cfailed : Bool) (xs : List Ch.St) (w : World) (hsn : Hid (sn = xs.length)) (hdn : (cover || cfailed) = true) (HO : Hid (∀ W, Below w.heap.size w W → Calls Tryd.prog 26 #[.agg #[.slice sa sn sc, .int .i64 cstep, .int .i64 cwant, .string cseen, .int .i64 cwait, .int .i64 cpat, .bool cover, .bool cfailed]] W fun e w' => ∃ a7 c7 vs7, e = .returned (.agg #[.slice a7 sn c7, .int .i64 cstep, .int .i64 cwant, .string cseen, .int .i64 cwait, .int .i64 cpat, .bool cover, .bool cfailed]) ∧ Hid (Rg.Tow stepE w' a7 vs7) ∧ Hid (StsAt w' vs7 xs) ∧ sn ≤ c7 ∧ Below W.heap.size W w')) :
    Calls Tryd.prog 15 #[.agg #[.slice sa sn sc, .int .i64 cstep, .int .i64 cwant, .string cseen, .int .i64 cwait, .int .i64 cpat, .bool cover, .bool cfailed]] w fun e w' => GPost w (⟨xs, cstep, cwant, cseen.data.toList, cwait, cpat, cover, cfailed⟩, []) e w' := by
  have kB1 : Hid (Rg.Bk w.heap.size [.slice sa sn sc, .int .i64 cstep, .int .i64 cwant, .string cseen, .int .i64 cwait, .int .i64 cpat, .bool cover, .bool cfailed] 31 ((w.alloc (.cells #[.slice sa sn sc, .int .i64 cstep, .int .i64 cwant, .string cseen, .int .i64 cwait, .int .i64 cpat, .bool cover, .bool cfailed] 31)).alloc (.cells #[.slice none 0 0, .int .i64 0, .int .i64 0, .string ⟨#[]⟩, .int .i64 0, .int .i64 0, .bool false, .bool false] 31))) := (Rg.Bk.new rfl).old _
  have kR1 : Hid (Rg.Bk (w.heap.size + 1) [.slice none 0 0, .int .i64 0, .int .i64 0, .string ⟨#[]⟩, .int .i64 0, .int .i64 0, .bool false, .bool false] 31 ((w.alloc (.cells #[.slice sa sn sc, .int .i64 cstep, .int .i64 cwant, .string cseen, .int .i64 cwait, .int .i64 cpat, .bool cover, .bool cfailed] 31)).alloc (.cells #[.slice none 0 0, .int .i64 0, .int .i64 0, .string ⟨#[]⟩, .int .i64 0, .int .i64 0, .bool false, .bool false] 31))) := Rg.Bk.new (by simp)
  have hb1 := Rg.hid (Rg.al2 w (.cells #[.slice sa sn sc, .int .i64 cstep, .int .i64 cwant, .string cseen, .int .i64 cwait, .int .i64 cpat, .bool cover, .bool cfailed] 31) (.cells #[.slice none 0 0, .int .i64 0, .int .i64 0, .string ⟨#[]⟩, .int .i64 0, .int .i64 0, .bool false, .bool false] 31))
  go_enter Tryd.func15, Tryd.ntmps15
  go_upto_region 1 with fail
  generalize World.alloc _ _ = w1 at *
  obtain ⟨B, hB⟩ : ∃ B, B = w.heap.size := ⟨_, rfl⟩
  obtain ⟨R, hR⟩ : ∃ R, R = w.heap.size + 1 := ⟨_, rfl⟩
  rw [← hR] at kR1 ⊢
  rw [← hB] at kB1 ⊢
  have hBR : B ≠ R := by omega
  have hBw : w.heap.size ≤ B := by omega
  have hRw : w.heap.size ≤ R := by omega
  clear hB hR
  have z0 : w1.cell? ⟨B, 0, none⟩ = some (.slice sa sn sc) := kB1.out.cell 0
  have z1 : w1.cell? ⟨B, 1, none⟩ = some (.int .i64 cstep) := kB1.out.cell 1
  have z2 : w1.cell? ⟨B, 2, none⟩ = some (.int .i64 cwant) := kB1.out.cell 2
  have z3 : w1.cell? ⟨B, 3, none⟩ = some (.string cseen) := kB1.out.cell 3
  have z4 : w1.cell? ⟨B, 4, none⟩ = some (.int .i64 cwait) := kB1.out.cell 4
  have z5 : w1.cell? ⟨B, 5, none⟩ = some (.int .i64 cpat) := kB1.out.cell 5
  have z6 : w1.cell? ⟨B, 6, none⟩ = some (.bool cover) := kB1.out.cell 6
  have z7 : w1.cell? ⟨B, 7, none⟩ = some (.bool cfailed) := kB1.out.cell 7
  go_upto_region 2 with (go_at_call 26; refine (HO.out _ hb1.out).mono ?_; rintro e w2 ⟨a7, c7, vs7, rfl, hT2, hX2, hc2, b2⟩; have kB2 := kB1.out.below b2 kB1.out.lt; have kR2 := Rg.hid (kR1.out.below b2 kR1.out.lt); have hb2 := Rg.hid (Rg.chain hb1.out b2); have zf := kB2.thaw; have y0 := kB2.cell 0; have y1 := kB2.cell 1; have y2 := kB2.cell 2; have y3 := kB2.cell 3; have y4 := kB2.cell 4; have y5 := kB2.cell 5; have y6 := kB2.cell 6; have y7 := kB2.cell 7; simp only [List.getElem?_cons_zero, List.getElem?_cons_succ] at y0 y1 y2 y3 y4 y5 y6 y7)
  clear z0 z1 z2 z3 z4 z5 z6 z7 zf y0 y1 y2 y3 y4 y5 y6 y7
  obtain ⟨k3, o3⟩ := ret8 kB2 rfl (.slice a7 sn c7) (.int .i64 cstep) (.int .i64 cwant) (.string cseen) (.int .i64 cwait) (.int .i64 cpat) (.bool cover) (.bool cfailed)
  have hG3 : Hid (GAt w B R a7 vs7 xs [.slice a7 sn c7, .int .i64 cstep, .int .i64 cwant, .string cseen, .int .i64 cwait, .int .i64 cpat, .bool cover, .bool cfailed] (.slice none 0 0) [] _) := ⟨hb2.out.trans (o3.bel hBw), k3, kR2.out.same (o3.block R (Ne.symm hBR)), hT2.out.only kB2 chat_step o3, hX2.out.only kB2 chat_str o3, BOwn.nil, hBw, hRw, hBR⟩
  clear kB1 kR1 hb1 k3 o3 kB2 kR2 hb2 hT2 hX2 b2 HO
  generalize World.setCell _ _ _ = w3 at *
  have hd : Hid ((cover || cfailed) = true) := hdn
  clear hdn
  cases cover
  · obtain rfl : cfailed = true := by simpa using hd.out
    have z0 : w3.cell? ⟨B, 0, none⟩ = some (.slice a7 sn c7) := hG3.out.chat.cell 0
    have z1 : w3.cell? ⟨B, 1, none⟩ = some (.int .i64 cstep) := hG3.out.chat.cell 1
    have z2 : w3.cell? ⟨B, 2, none⟩ = some (.int .i64 cwant) := hG3.out.chat.cell 2
    have z3 : w3.cell? ⟨B, 3, none⟩ = some (.string cseen) := hG3.out.chat.cell 3
    have z4 : w3.cell? ⟨B, 4, none⟩ = some (.int .i64 cwait) := hG3.out.chat.cell 4
    have z5 : w3.cell? ⟨B, 5, none⟩ = some (.int .i64 cpat) := hG3.out.chat.cell 5
    have z6 : w3.cell? ⟨B, 6, none⟩ = some (.bool false) := hG3.out.chat.cell 6
    have z7 : w3.cell? ⟨B, 7, none⟩ = some (.bool true) := hG3.out.chat.cell 7
    have r0 : w3.cell? ⟨R, 0, none⟩ = some (.slice none 0 0) := hG3.out.res.cell 0
    have r1 : w3.cell? ⟨R, 1, none⟩ = some (.int .i64 0) := hG3.out.res.cell 1
    have r2 : w3.cell? ⟨R, 2, none⟩ = some (.int .i64 0) := hG3.out.res.cell 2
    have r3 : w3.cell? ⟨R, 3, none⟩ = some (.string ⟨#[]⟩) := hG3.out.res.cell 3
    have r4 : w3.cell? ⟨R, 4, none⟩ = some (.int .i64 0) := hG3.out.res.cell 4
    have r5 : w3.cell? ⟨R, 5, none⟩ = some (.int .i64 0) := hG3.out.res.cell 5
    have r6 : w3.cell? ⟨R, 6, none⟩ = some (.bool false) := hG3.out.res.cell 6
    have r7 : w3.cell? ⟨R, 7, none⟩ = some (.bool false) := hG3.out.res.cell 7
    have rf := hG3.out.res.thaw
    obtain ⟨kE, oE⟩ := ret8 hG3.out.res rfl (.slice a7 sn c7) (.int .i64 cstep) (.int .i64 cwant) (.string cseen) (.int .i64 cwait) (.int .i64 cpat) (.bool false) (.bool true)
    have post : Hid (GPost w (⟨xs, cstep, cwant, cseen.data.toList, cwait, cpat, false, true⟩, []) (.returned (.tuple #[.agg #[.slice a7 sn c7, .int .i64 cstep, .int .i64 cwant, .string cseen, .int .i64 cwait, .int .i64 cpat, .bool false, .bool true], .string ⟨#[]⟩])) _) := ⟨_, rfl, gat_cat (c := ⟨xs, cstep, cwant, cseen.data.toList, cwait, cpat, false, true⟩) hG3.out oE (by show xs.length ≤ c7; rw [← hsn.out]; exact hc2) (by unfold CC; rw [← hsn.out]), hG3.out.bel.trans (oE.bel hRw)⟩
    replace kE := Rg.hid kE
    clear oE hG3
    go_wp2
    replace kE := kE.out
    replace post := post.out
    generalize World.setCell _ _ _ = WE at *
    exact bodyPost_ret (v := .tuple #[.agg #[.slice a7 sn c7, .int .i64 cstep, .int .i64 cwant, .string cseen, .int .i64 cwait, .int .i64 cpat, .bool false, .bool true], .string ⟨#[]⟩]) (by simp [results, Tryd.results15, go_sem, kE.cell]) rfl post
  · clear hd
    have z0 : w3.cell? ⟨B, 0, none⟩ = some (.slice a7 sn c7) := hG3.out.chat.cell 0
    have z1 : w3.cell? ⟨B, 1, none⟩ = some (.int .i64 cstep) := hG3.out.chat.cell 1
    have z2 : w3.cell? ⟨B, 2, none⟩ = some (.int .i64 cwant) := hG3.out.chat.cell 2
    have z3 : w3.cell? ⟨B, 3, none⟩ = some (.string cseen) := hG3.out.chat.cell 3
    have z4 : w3.cell? ⟨B, 4, none⟩ = some (.int .i64 cwait) := hG3.out.chat.cell 4
    have z5 : w3.cell? ⟨B, 5, none⟩ = some (.int .i64 cpat) := hG3.out.chat.cell 5
    have z6 : w3.cell? ⟨B, 6, none⟩ = some (.bool true) := hG3.out.chat.cell 6
    have z7 : w3.cell? ⟨B, 7, none⟩ = some (.bool cfailed) := hG3.out.chat.cell 7
    have r0 : w3.cell? ⟨R, 0, none⟩ = some (.slice none 0 0) := hG3.out.res.cell 0
    have r1 : w3.cell? ⟨R, 1, none⟩ = some (.int .i64 0) := hG3.out.res.cell 1
    have r2 : w3.cell? ⟨R, 2, none⟩ = some (.int .i64 0) := hG3.out.res.cell 2
    have r3 : w3.cell? ⟨R, 3, none⟩ = some (.string ⟨#[]⟩) := hG3.out.res.cell 3
    have r4 : w3.cell? ⟨R, 4, none⟩ = some (.int .i64 0) := hG3.out.res.cell 4
    have r5 : w3.cell? ⟨R, 5, none⟩ = some (.int .i64 0) := hG3.out.res.cell 5
    have r6 : w3.cell? ⟨R, 6, none⟩ = some (.bool false) := hG3.out.res.cell 6
    have r7 : w3.cell? ⟨R, 7, none⟩ = some (.bool false) := hG3.out.res.cell 7
    have rf := hG3.out.res.thaw
    obtain ⟨kE, oE⟩ := ret8 hG3.out.res rfl (.slice a7 sn c7) (.int .i64 cstep) (.int .i64 cwant) (.string cseen) (.int .i64 cwait) (.int .i64 cpat) (.bool true) (.bool cfailed)
    have post : Hid (GPost w (⟨xs, cstep, cwant, cseen.data.toList, cwait, cpat, true, cfailed⟩, []) (.returned (.tuple #[.agg #[.slice a7 sn c7, .int .i64 cstep, .int .i64 cwant, .string cseen, .int .i64 cwait, .int .i64 cpat, .bool true, .bool cfailed], .string ⟨#[]⟩])) _) := ⟨_, rfl, gat_cat (c := ⟨xs, cstep, cwant, cseen.data.toList, cwait, cpat, true, cfailed⟩) hG3.out oE (by show xs.length ≤ c7; rw [← hsn.out]; exact hc2) (by unfold CC; rw [← hsn.out]), hG3.out.bel.trans (oE.bel hRw)⟩
    replace kE := Rg.hid kE
    clear oE hG3
    go_wp2
    replace kE := kE.out
    replace post := post.out
    generalize World.setCell _ _ _ = WE at *
    exact bodyPost_ret (v := .tuple #[.agg #[.slice a7 sn c7, .int .i64 cstep, .int .i64 cwant, .string cseen, .int .i64 cwait, .int .i64 cpat, .bool true, .bool cfailed], .string ⟨#[]⟩]) (by simp [results, Tryd.results15, go_sem, kE.cell]) rfl post

set_option maxHeartbeats 4000000 in
set_option maxRecDepth 100000 in
theorem rtick_wait (sa : Option Addr) (sn sc k : Nat) (cwant : Int) (cseen : ByteArray) (cwait cpat w1c : Int) (xs : List Ch.St) (w : World) (hsn : Hid (sn = xs.length)) (hk : k < sn) (hw1 : IntKind.i64.wrap (cwait + 1) = w1c) (hle : w1c ≤ cpat) (HO : Hid (∀ W, Below w.heap.size w W → Calls Tryd.prog 26 #[.agg #[.slice sa sn sc, .int .i64 (k : Int), .int .i64 cwant, .string cseen, .int .i64 cwait, .int .i64 cpat, .bool false, .bool false]] W fun e w' => ∃ a7 c7 vs7, e = .returned (.agg #[.slice a7 sn c7, .int .i64 (k : Int), .int .i64 cwant, .string cseen, .int .i64 cwait, .int .i64 cpat, .bool false, .bool false]) ∧ Hid (Rg.Tow stepE w' a7 vs7) ∧ Hid (StsAt w' vs7 xs) ∧ sn ≤ c7 ∧ Below W.heap.size W w')) :
    Calls Tryd.prog 15 #[.agg #[.slice sa sn sc, .int .i64 (k : Int), .int .i64 cwant, .string cseen, .int .i64 cwait, .int .i64 cpat, .bool false, .bool false]] w fun e w' => GPost w (⟨xs, (k : Int), cwant, cseen.data.toList, w1c, cpat, false, false⟩, []) e w' := by
  have dle : decide (w1c ≤ cpat) = true := by simp only [decide_eq_true_eq]; exact hle
  clear hle
  have kB1 : Hid (Rg.Bk w.heap.size [.slice sa sn sc, .int .i64 (k : Int), .int .i64 cwant, .string cseen, .int .i64 cwait, .int .i64 cpat, .bool false, .bool false] 31 ((w.alloc (.cells #[.slice sa sn sc, .int .i64 (k : Int), .int .i64 cwant, .string cseen, .int .i64 cwait, .int .i64 cpat, .bool false, .bool false] 31)).alloc (.cells #[.slice none 0 0, .int .i64 0, .int .i64 0, .string ⟨#[]⟩, .int .i64 0, .int .i64 0, .bool false, .bool false] 31))) := (Rg.Bk.new rfl).old _
  have kR1 : Hid (Rg.Bk (w.heap.size + 1) [.slice none 0 0, .int .i64 0, .int .i64 0, .string ⟨#[]⟩, .int .i64 0, .int .i64 0, .bool false, .bool false] 31 ((w.alloc (.cells #[.slice sa sn sc, .int .i64 (k : Int), .int .i64 cwant, .string cseen, .int .i64 cwait, .int .i64 cpat, .bool false, .bool false] 31)).alloc (.cells #[.slice none 0 0, .int .i64 0, .int .i64 0, .string ⟨#[]⟩, .int .i64 0, .int .i64 0, .bool false, .bool false] 31))) := Rg.Bk.new (by simp)
  have hb1 := Rg.hid (Rg.al2 w (.cells #[.slice sa sn sc, .int .i64 (k : Int), .int .i64 cwant, .string cseen, .int .i64 cwait, .int .i64 cpat, .bool false, .bool false] 31) (.cells #[.slice none 0 0, .int .i64 0, .int .i64 0, .string ⟨#[]⟩, .int .i64 0, .int .i64 0, .bool false, .bool false] 31))
  go_enter Tryd.func15, Tryd.ntmps15
  go_upto_region 1 with fail
  generalize World.alloc _ _ = w1 at *
  obtain ⟨B, hB⟩ : ∃ B, B = w.heap.size := ⟨_, rfl⟩
  obtain ⟨R, hR⟩ : ∃ R, R = w.heap.size + 1 := ⟨_, rfl⟩
  rw [← hR] at kR1 ⊢
  rw [← hB] at kB1 ⊢
  have hBR : B ≠ R := by omega
  have hBw : w.heap.size ≤ B := by omega
  have hRw : w.heap.size ≤ R := by omega
  clear hB hR
  have z0 : w1.cell? ⟨B, 0, none⟩ = some (.slice sa sn sc) := kB1.out.cell 0
  have z1 : w1.cell? ⟨B, 1, none⟩ = some (.int .i64 (k : Int)) := kB1.out.cell 1
  have z2 : w1.cell? ⟨B, 2, none⟩ = some (.int .i64 cwant) := kB1.out.cell 2
  have z3 : w1.cell? ⟨B, 3, none⟩ = some (.string cseen) := kB1.out.cell 3
  have z4 : w1.cell? ⟨B, 4, none⟩ = some (.int .i64 cwait) := kB1.out.cell 4
  have z5 : w1.cell? ⟨B, 5, none⟩ = some (.int .i64 cpat) := kB1.out.cell 5
  have z6 : w1.cell? ⟨B, 6, none⟩ = some (.bool false) := kB1.out.cell 6
  have z7 : w1.cell? ⟨B, 7, none⟩ = some (.bool false) := kB1.out.cell 7
  go_upto_region 2 with (go_at_call 26; refine (HO.out _ hb1.out).mono ?_; rintro e w2 ⟨a7, c7, vs7, rfl, hT2, hX2, hc2, b2⟩; have kB2 := kB1.out.below b2 kB1.out.lt; have kR2 := Rg.hid (kR1.out.below b2 kR1.out.lt); have hb2 := Rg.hid (Rg.chain hb1.out b2); have zf := kB2.thaw; have y0 := kB2.cell 0; have y1 := kB2.cell 1; have y2 := kB2.cell 2; have y3 := kB2.cell 3; have y4 := kB2.cell 4; have y5 := kB2.cell 5; have y6 := kB2.cell 6; have y7 := kB2.cell 7; simp only [List.getElem?_cons_zero, List.getElem?_cons_succ] at y0 y1 y2 y3 y4 y5 y6 y7)
  clear z0 z1 z2 z3 z4 z5 z6 z7 zf y0 y1 y2 y3 y4 y5 y6 y7
  obtain ⟨k3, o3⟩ := ret8 kB2 rfl (.slice a7 sn c7) (.int .i64 (k : Int)) (.int .i64 cwant) (.string cseen) (.int .i64 cwait) (.int .i64 cpat) (.bool false) (.bool false)
  have hG3 : Hid (GAt w B R a7 vs7 xs [.slice a7 sn c7, .int .i64 (k : Int), .int .i64 cwant, .string cseen, .int .i64 cwait, .int .i64 cpat, .bool false, .bool false] (.slice none 0 0) [] _) := ⟨hb2.out.trans (o3.bel hBw), k3, kR2.out.same (o3.block R (Ne.symm hBR)), hT2.out.only kB2 chat_step o3, hX2.out.only kB2 chat_str o3, BOwn.nil, hBw, hRw, hBR⟩
  clear kB1 kR1 hb1 k3 o3 kB2 kR2 hb2 hT2 hX2 b2 HO
  generalize World.setCell _ _ _ = w3 at *
  have d0 : decide ((k : Int) < 0) = false := by simp only [decide_eq_false_iff_not]; omega
  have d1 : decide ((sn : Int) ≤ (k : Int)) = false := by simp only [decide_eq_false_iff_not]; omega
  have hz0 : (0 : Int) ≤ (k : Int) := by omega
  have hz1 : (k : Int) < (sn : Int) := by omega
  have z0 : w3.cell? ⟨B, 0, none⟩ = some (.slice a7 sn c7) := hG3.out.chat.cell 0
  have z1 : w3.cell? ⟨B, 1, none⟩ = some (.int .i64 (k : Int)) := hG3.out.chat.cell 1
  have z2 : w3.cell? ⟨B, 2, none⟩ = some (.int .i64 cwant) := hG3.out.chat.cell 2
  have z3 : w3.cell? ⟨B, 3, none⟩ = some (.string cseen) := hG3.out.chat.cell 3
  have z4 : w3.cell? ⟨B, 4, none⟩ = some (.int .i64 cwait) := hG3.out.chat.cell 4
  have z5 : w3.cell? ⟨B, 5, none⟩ = some (.int .i64 cpat) := hG3.out.chat.cell 5
  have z6 : w3.cell? ⟨B, 6, none⟩ = some (.bool false) := hG3.out.chat.cell 6
  have z7 : w3.cell? ⟨B, 7, none⟩ = some (.bool false) := hG3.out.chat.cell 7
  have zf := hG3.out.chat.thaw
  have hG4 : Hid (GAt w B R a7 vs7 xs [.slice a7 sn c7, .int .i64 (k : Int), .int .i64 cwant, .string cseen, .int .i64 w1c, .int .i64 cpat, .bool false, .bool false] (.slice none 0 0) [] (w3.setCell ⟨B, 4, none⟩ (.int .i64 w1c))) := hG3.out.store 4 (.int .i64 w1c)
  clear hG3
  go_upto_region 5 with fail
  clear z0 z1 z2 z3 z4 z5 z6 z7 zf d0 d1
  generalize World.setCell _ _ _ = w4 at *
  have z0 : w4.cell? ⟨B, 0, none⟩ = some (.slice a7 sn c7) := hG4.out.chat.cell 0
  have z1 : w4.cell? ⟨B, 1, none⟩ = some (.int .i64 (k : Int)) := hG4.out.chat.cell 1
  have z2 : w4.cell? ⟨B, 2, none⟩ = some (.int .i64 cwant) := hG4.out.chat.cell 2
  have z3 : w4.cell? ⟨B, 3, none⟩ = some (.string cseen) := hG4.out.chat.cell 3
  have z4 : w4.cell? ⟨B, 4, none⟩ = some (.int .i64 w1c) := hG4.out.chat.cell 4
  have z5 : w4.cell? ⟨B, 5, none⟩ = some (.int .i64 cpat) := hG4.out.chat.cell 5
  have z6 : w4.cell? ⟨B, 6, none⟩ = some (.bool false) := hG4.out.chat.cell 6
  have z7 : w4.cell? ⟨B, 7, none⟩ = some (.bool false) := hG4.out.chat.cell 7
  have r0 : w4.cell? ⟨R, 0, none⟩ = some (.slice none 0 0) := hG4.out.res.cell 0
  have r1 : w4.cell? ⟨R, 1, none⟩ = some (.int .i64 0) := hG4.out.res.cell 1
  have r2 : w4.cell? ⟨R, 2, none⟩ = some (.int .i64 0) := hG4.out.res.cell 2
  have r3 : w4.cell? ⟨R, 3, none⟩ = some (.string ⟨#[]⟩) := hG4.out.res.cell 3
  have r4 : w4.cell? ⟨R, 4, none⟩ = some (.int .i64 0) := hG4.out.res.cell 4
  have r5 : w4.cell? ⟨R, 5, none⟩ = some (.int .i64 0) := hG4.out.res.cell 5
  have r6 : w4.cell? ⟨R, 6, none⟩ = some (.bool false) := hG4.out.res.cell 6
  have r7 : w4.cell? ⟨R, 7, none⟩ = some (.bool false) := hG4.out.res.cell 7
  have rf := hG4.out.res.thaw
  obtain ⟨kE, oE⟩ := ret8 hG4.out.res rfl (.slice a7 sn c7) (.int .i64 (k : Int)) (.int .i64 cwant) (.string cseen) (.int .i64 w1c) (.int .i64 cpat) (.bool false) (.bool false)
  have post : Hid (GPost w (⟨xs, (k : Int), cwant, cseen.data.toList, w1c, cpat, false, false⟩, []) (.returned (.tuple #[.agg #[.slice a7 sn c7, .int .i64 (k : Int), .int .i64 cwant, .string cseen, .int .i64 w1c, .int .i64 cpat, .bool false, .bool false], .string ⟨#[]⟩])) _) := ⟨_, rfl, gat_cat (c := ⟨xs, (k : Int), cwant, cseen.data.toList, w1c, cpat, false, false⟩) hG4.out oE (by show xs.length ≤ c7; rw [← hsn.out]; exact hc2) (by unfold CC; rw [← hsn.out]), hG4.out.bel.trans (oE.bel hRw)⟩
  replace kE := Rg.hid kE
  clear oE hG4
  go_wp2
  replace kE := kE.out
  replace post := post.out
  generalize World.setCell _ _ _ = WE at *
  exact bodyPost_ret (v := .tuple #[.agg #[.slice a7 sn c7, .int .i64 (k : Int), .int .i64 cwant, .string cseen, .int .i64 w1c, .int .i64 cpat, .bool false, .bool false], .string ⟨#[]⟩]) (by simp [results, Tryd.results15, go_sem, kE.cell]) rfl post

set_option maxHeartbeats 4000000 in
set_option maxRecDepth 100000 in
theorem rtick_fail (sa : Option Addr) (sn sc k : Nat) (cwant : Int) (cseen : ByteArray) (cwait cpat w1c : Int) (xs : List Ch.St) (w : World) (hsn : Hid (sn = xs.length)) (hk : k < sn) (hw1 : IntKind.i64.wrap (cwait + 1) = w1c) (hle : ¬ w1c ≤ cpat) (HB : ∀ h : k < xs.length, ¬ (0 ≤ cwant ∧ cwant < (xs[k].nudge.length : Int))) (HO : Hid (∀ W, Below w.heap.size w W → Calls Tryd.prog 26 #[.agg #[.slice sa sn sc, .int .i64 (k : Int), .int .i64 cwant, .string cseen, .int .i64 cwait, .int .i64 cpat, .bool false, .bool false]] W fun e w' => ∃ a7 c7 vs7, e = .returned (.agg #[.slice a7 sn c7, .int .i64 (k : Int), .int .i64 cwant, .string cseen, .int .i64 cwait, .int .i64 cpat, .bool false, .bool false]) ∧ Hid (Rg.Tow stepE w' a7 vs7) ∧ Hid (StsAt w' vs7 xs) ∧ sn ≤ c7 ∧ Below W.heap.size W w')) :
    Calls Tryd.prog 15 #[.agg #[.slice sa sn sc, .int .i64 (k : Int), .int .i64 cwant, .string cseen, .int .i64 cwait, .int .i64 cpat, .bool false, .bool false]] w fun e w' => GPost w (⟨xs, (k : Int), cwant, cseen.data.toList, w1c, cpat, false, true⟩, []) e w' := by
  have dle : decide (w1c ≤ cpat) = false := by simp only [decide_eq_false_iff_not]; exact hle
  clear hle
  have kB1 : Hid (Rg.Bk w.heap.size [.slice sa sn sc, .int .i64 (k : Int), .int .i64 cwant, .string cseen, .int .i64 cwait, .int .i64 cpat, .bool false, .bool false] 31 ((w.alloc (.cells #[.slice sa sn sc, .int .i64 (k : Int), .int .i64 cwant, .string cseen, .int .i64 cwait, .int .i64 cpat, .bool false, .bool false] 31)).alloc (.cells #[.slice none 0 0, .int .i64 0, .int .i64 0, .string ⟨#[]⟩, .int .i64 0, .int .i64 0, .bool false, .bool false] 31))) := (Rg.Bk.new rfl).old _
  have kR1 : Hid (Rg.Bk (w.heap.size + 1) [.slice none 0 0, .int .i64 0, .int .i64 0, .string ⟨#[]⟩, .int .i64 0, .int .i64 0, .bool false, .bool false] 31 ((w.alloc (.cells #[.slice sa sn sc, .int .i64 (k : Int), .int .i64 cwant, .string cseen, .int .i64 cwait, .int .i64 cpat, .bool false, .bool false] 31)).alloc (.cells #[.slice none 0 0, .int .i64 0, .int .i64 0, .string ⟨#[]⟩, .int .i64 0, .int .i64 0, .bool false, .bool false] 31))) := Rg.Bk.new (by simp)
  have hb1 := Rg.hid (Rg.al2 w (.cells #[.slice sa sn sc, .int .i64 (k : Int), .int .i64 cwant, .string cseen, .int .i64 cwait, .int .i64 cpat, .bool false, .bool false] 31) (.cells #[.slice none 0 0, .int .i64 0, .int .i64 0, .string ⟨#[]⟩, .int .i64 0, .int .i64 0, .bool false, .bool false] 31))
  go_enter Tryd.func15, Tryd.ntmps15
  go_upto_region 1 with fail
  generalize World.alloc _ _ = w1 at *
  obtain ⟨B, hB⟩ : ∃ B, B = w.heap.size := ⟨_, rfl⟩
  obtain ⟨R, hR⟩ : ∃ R, R = w.heap.size + 1 := ⟨_, rfl⟩
  rw [← hR] at kR1 ⊢
  rw [← hB] at kB1 ⊢
  have hBR : B ≠ R := by omega
  have hBw : w.heap.size ≤ B := by omega
  have hRw : w.heap.size ≤ R := by omega
  clear hB hR
  have z0 : w1.cell? ⟨B, 0, none⟩ = some (.slice sa sn sc) := kB1.out.cell 0
  have z1 : w1.cell? ⟨B, 1, none⟩ = some (.int .i64 (k : Int)) := kB1.out.cell 1
  have z2 : w1.cell? ⟨B, 2, none⟩ = some (.int .i64 cwant) := kB1.out.cell 2
  have z3 : w1.cell? ⟨B, 3, none⟩ = some (.string cseen) := kB1.out.cell 3
  have z4 : w1.cell? ⟨B, 4, none⟩ = some (.int .i64 cwait) := kB1.out.cell 4
  have z5 : w1.cell? ⟨B, 5, none⟩ = some (.int .i64 cpat) := kB1.out.cell 5
  have z6 : w1.cell? ⟨B, 6, none⟩ = some (.bool false) := kB1.out.cell 6
  have z7 : w1.cell? ⟨B, 7, none⟩ = some (.bool false) := kB1.out.cell 7
  go_upto_region 2 with (go_at_call 26; refine (HO.out _ hb1.out).mono ?_; rintro e w2 ⟨a7, c7, vs7, rfl, hT2, hX2, hc2, b2⟩; have kB2 := kB1.out.below b2 kB1.out.lt; have kR2 := Rg.hid (kR1.out.below b2 kR1.out.lt); have hb2 := Rg.hid (Rg.chain hb1.out b2); have zf := kB2.thaw; have y0 := kB2.cell 0; have y1 := kB2.cell 1; have y2 := kB2.cell 2; have y3 := kB2.cell 3; have y4 := kB2.cell 4; have y5 := kB2.cell 5; have y6 := kB2.cell 6; have y7 := kB2.cell 7; simp only [List.getElem?_cons_zero, List.getElem?_cons_succ] at y0 y1 y2 y3 y4 y5 y6 y7)
  clear z0 z1 z2 z3 z4 z5 z6 z7 zf y0 y1 y2 y3 y4 y5 y6 y7
  obtain ⟨k3, o3⟩ := ret8 kB2 rfl (.slice a7 sn c7) (.int .i64 (k : Int)) (.int .i64 cwant) (.string cseen) (.int .i64 cwait) (.int .i64 cpat) (.bool false) (.bool false)
  have hG3 : Hid (GAt w B R a7 vs7 xs [.slice a7 sn c7, .int .i64 (k : Int), .int .i64 cwant, .string cseen, .int .i64 cwait, .int .i64 cpat, .bool false, .bool false] (.slice none 0 0) [] _) := ⟨hb2.out.trans (o3.bel hBw), k3, kR2.out.same (o3.block R (Ne.symm hBR)), hT2.out.only kB2 chat_step o3, hX2.out.only kB2 chat_str o3, BOwn.nil, hBw, hRw, hBR⟩
  clear kB1 kR1 hb1 k3 o3 kB2 kR2 hb2 hT2 hX2 b2 HO
  generalize World.setCell _ _ _ = w3 at *
  have d0 : decide ((k : Int) < 0) = false := by simp only [decide_eq_false_iff_not]; omega
  have d1 : decide ((sn : Int) ≤ (k : Int)) = false := by simp only [decide_eq_false_iff_not]; omega
  have hz0 : (0 : Int) ≤ (k : Int) := by omega
  have hz1 : (k : Int) < (sn : Int) := by omega
  have z0 : w3.cell? ⟨B, 0, none⟩ = some (.slice a7 sn c7) := hG3.out.chat.cell 0
  have z1 : w3.cell? ⟨B, 1, none⟩ = some (.int .i64 (k : Int)) := hG3.out.chat.cell 1
  have z2 : w3.cell? ⟨B, 2, none⟩ = some (.int .i64 cwant) := hG3.out.chat.cell 2
  have z3 : w3.cell? ⟨B, 3, none⟩ = some (.string cseen) := hG3.out.chat.cell 3
  have z4 : w3.cell? ⟨B, 4, none⟩ = some (.int .i64 cwait) := hG3.out.chat.cell 4
  have z5 : w3.cell? ⟨B, 5, none⟩ = some (.int .i64 cpat) := hG3.out.chat.cell 5
  have z6 : w3.cell? ⟨B, 6, none⟩ = some (.bool false) := hG3.out.chat.cell 6
  have z7 : w3.cell? ⟨B, 7, none⟩ = some (.bool false) := hG3.out.chat.cell 7
  have zf := hG3.out.chat.thaw
  have hG4 : Hid (GAt w B R a7 vs7 xs [.slice a7 sn c7, .int .i64 (k : Int), .int .i64 cwant, .string cseen, .int .i64 w1c, .int .i64 cpat, .bool false, .bool false] (.slice none 0 0) [] (w3.setCell ⟨B, 4, none⟩ (.int .i64 w1c))) := hG3.out.store 4 (.int .i64 w1c)
  clear hG3
  go_upto_region 5 with fail
  clear z0 z1 z2 z3 z4 z5 z6 z7 zf d0 d1
  generalize World.setCell _ _ _ = w4 at *
  have hkx : k < xs.length := by rw [← hsn.out]; exact hk
  have hkv : k < vs7.length := by rw [hG4.out.sts.len]; exact hkx
  have hstk := hG4.out.sts.get k hkv hkx
  obtain ⟨g, o, hsa, -⟩ := hG4.out.row.place hkv
  subst hsa
  have hel := hG4.out.row.elem hkv
  have hbad := HB hkx
  clear HB
  generalize xs[k] = st at *
  generalize vs7[k] = sv at *
  clear hkx hkv
  obtain ⟨wts, nds, snd⟩ := st
  obtain ⟨wa, wn, wcp, na, nn, nc, ss⟩ := sv
  obtain ⟨hn, hws, hwc, hm2, hns, hmd, hss⟩ := hstk
  dsimp only at hn hws hwc hm2 hns hmd hss hbad
  clear hn hws hwc hmd hss
  replace hm2 := Rg.hid hm2
  have e0 : w4.cell? ⟨g, o + k * 3, none⟩ = some (.slice wa wn wcp) := hel 0 _ rfl
  have e1 : w4.cell? ⟨g, o + k * 3 + 1, none⟩ = some (.slice na nn nc) := hel 1 _ rfl
  have e2 : w4.cell? ⟨g, o + k * 3 + 2, none⟩ = some (.string ss) := hel 2 _ rfl
  clear hel
  have z0 : w4.cell? ⟨B, 0, none⟩ = some (.slice (some ⟨g, o, none⟩) sn c7) := hG4.out.chat.cell 0
  have z1 : w4.cell? ⟨B, 1, none⟩ = some (.int .i64 (k : Int)) := hG4.out.chat.cell 1
  have z2 : w4.cell? ⟨B, 2, none⟩ = some (.int .i64 cwant) := hG4.out.chat.cell 2
  have z3 : w4.cell? ⟨B, 3, none⟩ = some (.string cseen) := hG4.out.chat.cell 3
  have z4 : w4.cell? ⟨B, 4, none⟩ = some (.int .i64 w1c) := hG4.out.chat.cell 4
  have z5 : w4.cell? ⟨B, 5, none⟩ = some (.int .i64 cpat) := hG4.out.chat.cell 5
  have z6 : w4.cell? ⟨B, 6, none⟩ = some (.bool false) := hG4.out.chat.cell 6
  have z7 : w4.cell? ⟨B, 7, none⟩ = some (.bool false) := hG4.out.chat.cell 7
  have kD5 : Hid (Rg.Bk w4.heap.size [.slice wa wn wcp, .slice na nn nc, .string ss] 43 (w4.alloc (.cells #[.slice wa wn wcp, .slice na nn nc, .string ss] 43))) := Rg.Bk.new rfl
  have hG5 := Rg.hid (hG4.out.below (Rg.al1 w4 (.cells #[.slice wa wn wcp, .slice na nn nc, .string ss] 43)))
  have hN5 := Rg.hid (hns.below (Rg.al1 w4 (.cells #[.slice wa wn wcp, .slice na nn nc, .string ss] 43)))
  clear hG4 hns
  go_upto_region 8 with fail
  clear e0 e1 e2 z0 z1 z2 z3 z4 z5 z6 z7 hz0 hz1 dle
  generalize (w4.alloc (.cells #[.slice wa wn wcp, .slice na nn nc, .string ss] 43)) = w5 at *
  generalize w4.heap.size = D at *
  have b1 : w5.cell? ⟨D, 1, none⟩ = some (.slice na nn nc) := kD5.out.cell 1
  have z2 : w5.cell? ⟨B, 2, none⟩ = some (.int .i64 cwant) := hG5.out.chat.cell 2
  rw [← hm2.out] at hbad
  have zf := hG5.out.chat.thaw
  have z7 : w5.cell? ⟨B, 7, none⟩ = some (.bool false) := hG5.out.chat.cell 7
  have hG6 : Hid (GAt w B R (some ⟨g, o, none⟩) vs7 xs [.slice (some ⟨g, o, none⟩) sn c7, .int .i64 (k : Int), .int .i64 cwant, .string cseen, .int .i64 w1c, .int .i64 cpat, .bool false, .bool true] (.slice none 0 0) [] (w5.setCell ⟨B, 7, none⟩ (.bool true))) := hG5.out.store 7 (.bool true)
  clear hG5 hN5 kD5
  by_cases c0 : cwant < 0
  · have q0 : decide (cwant < 0) = true := by simp only [decide_eq_true_eq]; exact c0
    clear hbad c0
    go_upto_region 10 with fail
    clear b1 z2 z7 zf q0
    generalize World.setCell _ _ _ = w6 at *
    have z0 : w6.cell? ⟨B, 0, none⟩ = some (.slice (some ⟨g, o, none⟩) sn c7) := hG6.out.chat.cell 0
    have z1 : w6.cell? ⟨B, 1, none⟩ = some (.int .i64 (k : Int)) := hG6.out.chat.cell 1
    have z2 : w6.cell? ⟨B, 2, none⟩ = some (.int .i64 cwant) := hG6.out.chat.cell 2
    have z3 : w6.cell? ⟨B, 3, none⟩ = some (.string cseen) := hG6.out.chat.cell 3
    have z4 : w6.cell? ⟨B, 4, none⟩ = some (.int .i64 w1c) := hG6.out.chat.cell 4
    have z5 : w6.cell? ⟨B, 5, none⟩ = some (.int .i64 cpat) := hG6.out.chat.cell 5
    have z6 : w6.cell? ⟨B, 6, none⟩ = some (.bool false) := hG6.out.chat.cell 6
    have z7 : w6.cell? ⟨B, 7, none⟩ = some (.bool true) := hG6.out.chat.cell 7
    have r0 : w6.cell? ⟨R, 0, none⟩ = some (.slice none 0 0) := hG6.out.res.cell 0
    have r1 : w6.cell? ⟨R, 1, none⟩ = some (.int .i64 0) := hG6.out.res.cell 1
    have r2 : w6.cell? ⟨R, 2, none⟩ = some (.int .i64 0) := hG6.out.res.cell 2
    have r3 : w6.cell? ⟨R, 3, none⟩ = some (.string ⟨#[]⟩) := hG6.out.res.cell 3
    have r4 : w6.cell? ⟨R, 4, none⟩ = some (.int .i64 0) := hG6.out.res.cell 4
    have r5 : w6.cell? ⟨R, 5, none⟩ = some (.int .i64 0) := hG6.out.res.cell 5
    have r6 : w6.cell? ⟨R, 6, none⟩ = some (.bool false) := hG6.out.res.cell 6
    have r7 : w6.cell? ⟨R, 7, none⟩ = some (.bool false) := hG6.out.res.cell 7
    have rf := hG6.out.res.thaw
    obtain ⟨kE, oE⟩ := ret8 hG6.out.res rfl (.slice (some ⟨g, o, none⟩) sn c7) (.int .i64 (k : Int)) (.int .i64 cwant) (.string cseen) (.int .i64 w1c) (.int .i64 cpat) (.bool false) (.bool true)
    have post : Hid (GPost w (⟨xs, (k : Int), cwant, cseen.data.toList, w1c, cpat, false, true⟩, []) (.returned (.tuple #[.agg #[.slice (some ⟨g, o, none⟩) sn c7, .int .i64 (k : Int), .int .i64 cwant, .string cseen, .int .i64 w1c, .int .i64 cpat, .bool false, .bool true], .string ⟨#[]⟩])) _) := ⟨_, rfl, gat_cat (c := ⟨xs, (k : Int), cwant, cseen.data.toList, w1c, cpat, false, true⟩) hG6.out oE (by show xs.length ≤ c7; rw [← hsn.out]; exact hc2) (by unfold CC; rw [← hsn.out]), hG6.out.bel.trans (oE.bel hRw)⟩
    replace kE := Rg.hid kE
    clear oE hG6
    go_wp2
    replace kE := kE.out
    replace post := post.out
    generalize World.setCell _ _ _ = WE at *
    exact bodyPost_ret (v := .tuple #[.agg #[.slice (some ⟨g, o, none⟩) sn c7, .int .i64 (k : Int), .int .i64 cwant, .string cseen, .int .i64 w1c, .int .i64 cpat, .bool false, .bool true], .string ⟨#[]⟩]) (by simp [results, Tryd.results15, go_sem, kE.cell]) rfl post
  · have q0 : decide (cwant < 0) = false := by simp only [decide_eq_false_iff_not]; exact c0
    have q1 : decide ((nn : Int) ≤ cwant) = true := by simp only [decide_eq_true_eq]; omega
    clear hbad c0
    go_upto_region 10 with fail
    clear b1 z2 z7 zf q0 q1
    generalize World.setCell _ _ _ = w6 at *
    have z0 : w6.cell? ⟨B, 0, none⟩ = some (.slice (some ⟨g, o, none⟩) sn c7) := hG6.out.chat.cell 0
    have z1 : w6.cell? ⟨B, 1, none⟩ = some (.int .i64 (k : Int)) := hG6.out.chat.cell 1
    have z2 : w6.cell? ⟨B, 2, none⟩ = some (.int .i64 cwant) := hG6.out.chat.cell 2
    have z3 : w6.cell? ⟨B, 3, none⟩ = some (.string cseen) := hG6.out.chat.cell 3
    have z4 : w6.cell? ⟨B, 4, none⟩ = some (.int .i64 w1c) := hG6.out.chat.cell 4
    have z5 : w6.cell? ⟨B, 5, none⟩ = some (.int .i64 cpat) := hG6.out.chat.cell 5
    have z6 : w6.cell? ⟨B, 6, none⟩ = some (.bool false) := hG6.out.chat.cell 6
    have z7 : w6.cell? ⟨B, 7, none⟩ = some (.bool true) := hG6.out.chat.cell 7
    have r0 : w6.cell? ⟨R, 0, none⟩ = some (.slice none 0 0) := hG6.out.res.cell 0
    have r1 : w6.cell? ⟨R, 1, none⟩ = some (.int .i64 0) := hG6.out.res.cell 1
    have r2 : w6.cell? ⟨R, 2, none⟩ = some (.int .i64 0) := hG6.out.res.cell 2
    have r3 : w6.cell? ⟨R, 3, none⟩ = some (.string ⟨#[]⟩) := hG6.out.res.cell 3
    have r4 : w6.cell? ⟨R, 4, none⟩ = some (.int .i64 0) := hG6.out.res.cell 4
    have r5 : w6.cell? ⟨R, 5, none⟩ = some (.int .i64 0) := hG6.out.res.cell 5
    have r6 : w6.cell? ⟨R, 6, none⟩ = some (.bool false) := hG6.out.res.cell 6
    have r7 : w6.cell? ⟨R, 7, none⟩ = some (.bool false) := hG6.out.res.cell 7
    have rf := hG6.out.res.thaw
    obtain ⟨kE, oE⟩ := ret8 hG6.out.res rfl (.slice (some ⟨g, o, none⟩) sn c7) (.int .i64 (k : Int)) (.int .i64 cwant) (.string cseen) (.int .i64 w1c) (.int .i64 cpat) (.bool false) (.bool true)
    have post : Hid (GPost w (⟨xs, (k : Int), cwant, cseen.data.toList, w1c, cpat, false, true⟩, []) (.returned (.tuple #[.agg #[.slice (some ⟨g, o, none⟩) sn c7, .int .i64 (k : Int), .int .i64 cwant, .string cseen, .int .i64 w1c, .int .i64 cpat, .bool false, .bool true], .string ⟨#[]⟩])) _) := ⟨_, rfl, gat_cat (c := ⟨xs, (k : Int), cwant, cseen.data.toList, w1c, cpat, false, true⟩) hG6.out oE (by show xs.length ≤ c7; rw [← hsn.out]; exact hc2) (by unfold CC; rw [← hsn.out]), hG6.out.bel.trans (oE.bel hRw)⟩
    replace kE := Rg.hid kE
    clear oE hG6
    go_wp2
    replace kE := kE.out
    replace post := post.out
    generalize World.setCell _ _ _ = WE at *
    exact bodyPost_ret (v := .tuple #[.agg #[.slice (some ⟨g, o, none⟩) sn c7, .int .i64 (k : Int), .int .i64 cwant, .string cseen, .int .i64 w1c, .int .i64 cpat, .bool false, .bool true], .string ⟨#[]⟩]) (by simp [results, Tryd.results15, go_sem, kE.cell]) rfl post

set_option maxHeartbeats 4000000 in
set_option maxRecDepth 100000 in
theorem rtick_go (sa : Option Addr) (sn sc k : Nat) (m m1 : Nat) (cseen : ByteArray) (cwait cpat w1c : Int) (xs : List Ch.St) (w : World) (hsn : Hid (sn = xs.length)) (hk : k < sn) (hw1 : IntKind.i64.wrap (cwait + 1) = w1c) (hm1 : Hid (m1 = m + 1)) (hmb : m ≤ 100000) (s : ByteArray) (hle : ¬ w1c ≤ cpat) (HB : ∀ h : k < xs.length, ∃ h2 : m < xs[k].nudge.length, xs[k].nudge[m] = s) (r : Ch.Co × List UInt8) (hsz : s.size + r.2.length ≤ 1000000000) (HO : Hid (∀ W, Below w.heap.size w W → Calls Tryd.prog 26 #[.agg #[.slice sa sn sc, .int .i64 (k : Int), .int .i64 (m : Int), .string cseen, .int .i64 cwait, .int .i64 cpat, .bool false, .bool false]] W fun e w' => ∃ a7 c7 vs7, e = .returned (.agg #[.slice a7 sn c7, .int .i64 (k : Int), .int .i64 (m : Int), .string cseen, .int .i64 cwait, .int .i64 cpat, .bool false, .bool false]) ∧ Hid (Rg.Tow stepE w' a7 vs7) ∧ Hid (StsAt w' vs7 xs) ∧ sn ≤ c7 ∧ Below W.heap.size W w'))
    (HG : Hid (∀ W a7 c7 vs7, Below w.heap.size w W → Rg.Tow stepE W a7 vs7 → StsAt W vs7 xs → sn ≤ c7 → Calls Tryd.prog 25 #[.agg #[.slice a7 sn c7, .int .i64 (k : Int), .int .i64 (m1 : Int), .string cseen, .int .i64 0, .int .i64 cpat, .bool false, .bool false]] W fun e w' => GEx W r e w')) :
    Calls Tryd.prog 15 #[.agg #[.slice sa sn sc, .int .i64 (k : Int), .int .i64 (m : Int), .string cseen, .int .i64 cwait, .int .i64 cpat, .bool false, .bool false]] w fun e w' => GPost w (r.1, s.data.toList ++ r.2) e w' := by
  have dle : decide (w1c ≤ cpat) = false := by simp only [decide_eq_false_iff_not]; exact hle
  clear hle
  unfold GEx at HG
  have hcat : Hid (s ++ (⟨r.2.toArray⟩ : ByteArray) = ⟨(s.data.toList ++ r.2).toArray⟩) := by
    show _ = _
    apply ba_ext
    simp
  have hsz2 : s.size + (⟨r.2.toArray⟩ : ByteArray).size ≤ 1000000000 := by show s.size + r.2.toArray.size ≤ _; rw [List.size_toArray]; exact hsz
  obtain ⟨r1, r2⟩ := r
  dsimp only at hcat hsz2 HG ⊢
  generalize (⟨r2.toArray⟩ : ByteArray) = X at *
  clear hsz
  have kB1 : Hid (Rg.Bk w.heap.size [.slice sa sn sc, .int .i64 (k : Int), .int .i64 (m : Int), .string cseen, .int .i64 cwait, .int .i64 cpat, .bool false, .bool false] 31 ((w.alloc (.cells #[.slice sa sn sc, .int .i64 (k : Int), .int .i64 (m : Int), .string cseen, .int .i64 cwait, .int .i64 cpat, .bool false, .bool false] 31)).alloc (.cells #[.slice none 0 0, .int .i64 0, .int .i64 0, .string ⟨#[]⟩, .int .i64 0, .int .i64 0, .bool false, .bool false] 31))) := (Rg.Bk.new rfl).old _
  have kR1 : Hid (Rg.Bk (w.heap.size + 1) [.slice none 0 0, .int .i64 0, .int .i64 0, .string ⟨#[]⟩, .int .i64 0, .int .i64 0, .bool false, .bool false] 31 ((w.alloc (.cells #[.slice sa sn sc, .int .i64 (k : Int), .int .i64 (m : Int), .string cseen, .int .i64 cwait, .int .i64 cpat, .bool false, .bool false] 31)).alloc (.cells #[.slice none 0 0, .int .i64 0, .int .i64 0, .string ⟨#[]⟩, .int .i64 0, .int .i64 0, .bool false, .bool false] 31))) := Rg.Bk.new (by simp)
  have hb1 := Rg.hid (Rg.al2 w (.cells #[.slice sa sn sc, .int .i64 (k : Int), .int .i64 (m : Int), .string cseen, .int .i64 cwait, .int .i64 cpat, .bool false, .bool false] 31) (.cells #[.slice none 0 0, .int .i64 0, .int .i64 0, .string ⟨#[]⟩, .int .i64 0, .int .i64 0, .bool false, .bool false] 31))
  go_enter Tryd.func15, Tryd.ntmps15
  go_upto_region 1 with fail
  generalize World.alloc _ _ = w1 at *
  obtain ⟨B, hB⟩ : ∃ B, B = w.heap.size := ⟨_, rfl⟩
  obtain ⟨R, hR⟩ : ∃ R, R = w.heap.size + 1 := ⟨_, rfl⟩
  rw [← hR] at kR1 ⊢
  rw [← hB] at kB1 ⊢
  have hBR : B ≠ R := by omega
  have hBw : w.heap.size ≤ B := by omega
  have hRw : w.heap.size ≤ R := by omega
  clear hB hR
  have z0 : w1.cell? ⟨B, 0, none⟩ = some (.slice sa sn sc) := kB1.out.cell 0
  have z1 : w1.cell? ⟨B, 1, none⟩ = some (.int .i64 (k : Int)) := kB1.out.cell 1
  have z2 : w1.cell? ⟨B, 2, none⟩ = some (.int .i64 (m : Int)) := kB1.out.cell 2
  have z3 : w1.cell? ⟨B, 3, none⟩ = some (.string cseen) := kB1.out.cell 3
  have z4 : w1.cell? ⟨B, 4, none⟩ = some (.int .i64 cwait) := kB1.out.cell 4
  have z5 : w1.cell? ⟨B, 5, none⟩ = some (.int .i64 cpat) := kB1.out.cell 5
  have z6 : w1.cell? ⟨B, 6, none⟩ = some (.bool false) := kB1.out.cell 6
  have z7 : w1.cell? ⟨B, 7, none⟩ = some (.bool false) := kB1.out.cell 7
  go_upto_region 2 with (go_at_call 26; refine (HO.out _ hb1.out).mono ?_; rintro e w2 ⟨a7, c7, vs7, rfl, hT2, hX2, hc2, b2⟩; have kB2 := kB1.out.below b2 kB1.out.lt; have kR2 := Rg.hid (kR1.out.below b2 kR1.out.lt); have hb2 := Rg.hid (Rg.chain hb1.out b2); have zf := kB2.thaw; have y0 := kB2.cell 0; have y1 := kB2.cell 1; have y2 := kB2.cell 2; have y3 := kB2.cell 3; have y4 := kB2.cell 4; have y5 := kB2.cell 5; have y6 := kB2.cell 6; have y7 := kB2.cell 7; simp only [List.getElem?_cons_zero, List.getElem?_cons_succ] at y0 y1 y2 y3 y4 y5 y6 y7)
  clear z0 z1 z2 z3 z4 z5 z6 z7 zf y0 y1 y2 y3 y4 y5 y6 y7
  obtain ⟨k3, o3⟩ := ret8 kB2 rfl (.slice a7 sn c7) (.int .i64 (k : Int)) (.int .i64 (m : Int)) (.string cseen) (.int .i64 cwait) (.int .i64 cpat) (.bool false) (.bool false)
  have hG3 : Hid (GAt w B R a7 vs7 xs [.slice a7 sn c7, .int .i64 (k : Int), .int .i64 (m : Int), .string cseen, .int .i64 cwait, .int .i64 cpat, .bool false, .bool false] (.slice none 0 0) [] _) := ⟨hb2.out.trans (o3.bel hBw), k3, kR2.out.same (o3.block R (Ne.symm hBR)), hT2.out.only kB2 chat_step o3, hX2.out.only kB2 chat_str o3, BOwn.nil, hBw, hRw, hBR⟩
  clear kB1 kR1 hb1 k3 o3 kB2 kR2 hb2 hT2 hX2 b2 HO
  generalize World.setCell _ _ _ = w3 at *
  have d0 : decide ((k : Int) < 0) = false := by simp only [decide_eq_false_iff_not]; omega
  have d1 : decide ((sn : Int) ≤ (k : Int)) = false := by simp only [decide_eq_false_iff_not]; omega
  have hz0 : (0 : Int) ≤ (k : Int) := by omega
  have hz1 : (k : Int) < (sn : Int) := by omega
  have z0 : w3.cell? ⟨B, 0, none⟩ = some (.slice a7 sn c7) := hG3.out.chat.cell 0
  have z1 : w3.cell? ⟨B, 1, none⟩ = some (.int .i64 (k : Int)) := hG3.out.chat.cell 1
  have z2 : w3.cell? ⟨B, 2, none⟩ = some (.int .i64 (m : Int)) := hG3.out.chat.cell 2
  have z3 : w3.cell? ⟨B, 3, none⟩ = some (.string cseen) := hG3.out.chat.cell 3
  have z4 : w3.cell? ⟨B, 4, none⟩ = some (.int .i64 cwait) := hG3.out.chat.cell 4
  have z5 : w3.cell? ⟨B, 5, none⟩ = some (.int .i64 cpat) := hG3.out.chat.cell 5
  have z6 : w3.cell? ⟨B, 6, none⟩ = some (.bool false) := hG3.out.chat.cell 6
  have z7 : w3.cell? ⟨B, 7, none⟩ = some (.bool false) := hG3.out.chat.cell 7
  have zf := hG3.out.chat.thaw
  have hG4 : Hid (GAt w B R a7 vs7 xs [.slice a7 sn c7, .int .i64 (k : Int), .int .i64 (m : Int), .string cseen, .int .i64 w1c, .int .i64 cpat, .bool false, .bool false] (.slice none 0 0) [] (w3.setCell ⟨B, 4, none⟩ (.int .i64 w1c))) := hG3.out.store 4 (.int .i64 w1c)
  clear hG3
  go_upto_region 5 with fail
  clear z0 z1 z2 z3 z4 z5 z6 z7 zf d0 d1
  generalize World.setCell _ _ _ = w4 at *
  have hkx : k < xs.length := by rw [← hsn.out]; exact hk
  have hkv : k < vs7.length := by rw [hG4.out.sts.len]; exact hkx
  have hstk := hG4.out.sts.get k hkv hkx
  obtain ⟨g, o, hsa, -⟩ := hG4.out.row.place hkv
  subst hsa
  have hel := hG4.out.row.elem hkv
  have hbad := HB hkx
  clear HB
  generalize xs[k] = st at *
  generalize vs7[k] = sv at *
  clear hkx hkv
  obtain ⟨wts, nds, snd⟩ := st
  obtain ⟨wa, wn, wcp, na, nn, nc, ss⟩ := sv
  obtain ⟨hn, hws, hwc, hm2, hns, hmd, hss⟩ := hstk
  dsimp only at hn hws hwc hm2 hns hmd hss hbad
  clear hn hws hwc hmd hss
  replace hm2 := Rg.hid hm2
  have e0 : w4.cell? ⟨g, o + k * 3, none⟩ = some (.slice wa wn wcp) := hel 0 _ rfl
  have e1 : w4.cell? ⟨g, o + k * 3 + 1, none⟩ = some (.slice na nn nc) := hel 1 _ rfl
  have e2 : w4.cell? ⟨g, o + k * 3 + 2, none⟩ = some (.string ss) := hel 2 _ rfl
  clear hel
  have z0 : w4.cell? ⟨B, 0, none⟩ = some (.slice (some ⟨g, o, none⟩) sn c7) := hG4.out.chat.cell 0
  have z1 : w4.cell? ⟨B, 1, none⟩ = some (.int .i64 (k : Int)) := hG4.out.chat.cell 1
  have z2 : w4.cell? ⟨B, 2, none⟩ = some (.int .i64 (m : Int)) := hG4.out.chat.cell 2
  have z3 : w4.cell? ⟨B, 3, none⟩ = some (.string cseen) := hG4.out.chat.cell 3
  have z4 : w4.cell? ⟨B, 4, none⟩ = some (.int .i64 w1c) := hG4.out.chat.cell 4
  have z5 : w4.cell? ⟨B, 5, none⟩ = some (.int .i64 cpat) := hG4.out.chat.cell 5
  have z6 : w4.cell? ⟨B, 6, none⟩ = some (.bool false) := hG4.out.chat.cell 6
  have z7 : w4.cell? ⟨B, 7, none⟩ = some (.bool false) := hG4.out.chat.cell 7
  have kD5 : Hid (Rg.Bk w4.heap.size [.slice wa wn wcp, .slice na nn nc, .string ss] 43 (w4.alloc (.cells #[.slice wa wn wcp, .slice na nn nc, .string ss] 43))) := Rg.Bk.new rfl
  have hG5 := Rg.hid (hG4.out.below (Rg.al1 w4 (.cells #[.slice wa wn wcp, .slice na nn nc, .string ss] 43)))
  have hN5 := Rg.hid (hns.below (Rg.al1 w4 (.cells #[.slice wa wn wcp, .slice na nn nc, .string ss] 43)))
  clear hG4 hns
  go_upto_region 8 with fail
  clear e0 e1 e2 z0 z1 z2 z3 z4 z5 z6 z7 hz0 hz1 dle
  generalize (w4.alloc (.cells #[.slice wa wn wcp, .slice na nn nc, .string ss] 43)) = w5 at *
  generalize w4.heap.size = D at *
  have b1 : w5.cell? ⟨D, 1, none⟩ = some (.slice na nn nc) := kD5.out.cell 1
  have z2 : w5.cell? ⟨B, 2, none⟩ = some (.int .i64 (m : Int)) := hG5.out.chat.cell 2
  obtain ⟨hml, hms⟩ := hbad
  have hmn : m < nn := by rw [hm2.out]; exact hml
  obtain ⟨gn, on, hna, -⟩ := hN5.out.place hml
  subst hna
  have f1 : w5.cell? ⟨gn, on + m, none⟩ = some (.string s) := by rw [← hms]; exact str_cell hN5.out hml
  have q0 : decide ((m : Int) < 0) = false := by simp only [decide_eq_false_iff_not]; omega
  have q1 : decide ((nn : Int) ≤ (m : Int)) = false := by simp only [decide_eq_false_iff_not]; omega
  have y0 : (0 : Int) ≤ (m : Int) := by omega
  have y1 : (m : Int) < (nn : Int) := by omega
  have y2 : IntKind.i64.wrap ((m : Int) + 1) = (m1 : Int) := by rw [IntKind.wrap_i64, hm1.out]; omega
  have y3 : wrap64 ((m : Int) + 1) = (m1 : Int) := by unfold wrap64; rw [hm1.out]; omega
  have z4 : w5.cell? ⟨B, 4, none⟩ = some (.int .i64 w1c) := hG5.out.chat.cell 4
  have zf := hG5.out.chat.thaw
  have hG6 : Hid (GAt w B R (some ⟨g, o, none⟩) vs7 xs [.slice (some ⟨g, o, none⟩) sn c7, .int .i64 (k : Int), .int .i64 (m1 : Int), .string cseen, .int .i64 0, .int .i64 cpat, .bool false, .bool false] (.slice none 0 0) [] ((w5.setCell ⟨B, 2, none⟩ (.int .i64 (m1 : Int))).setCell ⟨B, 4, none⟩ (.int .i64 0))) := (hG5.out.store 2 (.int .i64 (m1 : Int))).store 4 (.int .i64 0)
  clear hG5 hN5 kD5 hms hml hm2 hm1
  go_upto_region 14 with fail
  clear b1 z2 z4 zf q0 q1 y0 y1 y2 y3 f1
  generalize World.setCell _ _ _ = w6 at *
  have z0 : w6.cell? ⟨B, 0, none⟩ = some (.slice (some ⟨g, o, none⟩) sn c7) := hG6.out.chat.cell 0
  have z1 : w6.cell? ⟨B, 1, none⟩ = some (.int .i64 (k : Int)) := hG6.out.chat.cell 1
  have z2 : w6.cell? ⟨B, 2, none⟩ = some (.int .i64 (m1 : Int)) := hG6.out.chat.cell 2
  have z3 : w6.cell? ⟨B, 3, none⟩ = some (.string cseen) := hG6.out.chat.cell 3
  have z4 : w6.cell? ⟨B, 4, none⟩ = some (.int .i64 0) := hG6.out.chat.cell 4
  have z5 : w6.cell? ⟨B, 5, none⟩ = some (.int .i64 cpat) := hG6.out.chat.cell 5
  have z6 : w6.cell? ⟨B, 6, none⟩ = some (.bool false) := hG6.out.chat.cell 6
  have z7 : w6.cell? ⟨B, 7, none⟩ = some (.bool false) := hG6.out.chat.cell 7
  go_upto_region 15 with (go_at_call 25; refine (HG.out _ _ _ _ hG6.out.bel hG6.out.row hG6.out.sts hc2).mono ?_; rintro e w7 ⟨sa', sn', sc', step', want', seen', wait', pat', over', failed', rfl, hA7, b7⟩; have kB7 := hG6.out.chat.below b7 hG6.out.chat.lt; have kR7 := Rg.hid (hG6.out.res.below b7 hG6.out.res.lt); have hb7 := Rg.hid (Rg.chain hG6.out.bel b7); have zf := kB7.thaw; have y0 : w7.cell? ⟨B, 0, none⟩ = some (.slice (some ⟨g, o, none⟩) sn c7) := kB7.cell 0; have y1 : w7.cell? ⟨B, 1, none⟩ = some (.int .i64 (k : Int)) := kB7.cell 1; have y2 : w7.cell? ⟨B, 2, none⟩ = some (.int .i64 (m1 : Int)) := kB7.cell 2; have y3 : w7.cell? ⟨B, 3, none⟩ = some (.string cseen) := kB7.cell 3; have y4 : w7.cell? ⟨B, 4, none⟩ = some (.int .i64 0) := kB7.cell 4; have y5 : w7.cell? ⟨B, 5, none⟩ = some (.int .i64 cpat) := kB7.cell 5; have y6 : w7.cell? ⟨B, 6, none⟩ = some (.bool false) := kB7.cell 6; have y7 : w7.cell? ⟨B, 7, none⟩ = some (.bool false) := kB7.cell 7)
  obtain ⟨k8, o8⟩ := ret8 kB7 rfl (.slice sa' sn' sc') (.int .i64 step') (.int .i64 want') (.string seen') (.int .i64 wait') (.int .i64 pat') (.bool over') (.bool failed')
  have hA8 := Rg.hid (hA7.only kB7 o8)
  have kR8 := Rg.hid (kR7.out.same (o8.block R (Ne.symm hBR)))
  have hb8 := Rg.hid (hb7.out.trans (o8.bel hBw))
  replace k8 := Rg.hid k8
  clear o8 kB7 kR7 hb7 hA7 b7 hG6 zf y0 y1 y2 y3 y4 y5 y6 y7 z0 z1 z2 z3 z4 z5 z6 z7
  generalize World.setCell _ _ _ = w8 at *
  have z0 : w8.cell? ⟨B, 0, none⟩ = some (.slice sa' sn' sc') := k8.out.cell 0
  have z1 : w8.cell? ⟨B, 1, none⟩ = some (.int .i64 step') := k8.out.cell 1
  have z2 : w8.cell? ⟨B, 2, none⟩ = some (.int .i64 want') := k8.out.cell 2
  have z3 : w8.cell? ⟨B, 3, none⟩ = some (.string seen') := k8.out.cell 3
  have z4 : w8.cell? ⟨B, 4, none⟩ = some (.int .i64 wait') := k8.out.cell 4
  have z5 : w8.cell? ⟨B, 5, none⟩ = some (.int .i64 pat') := k8.out.cell 5
  have z6 : w8.cell? ⟨B, 6, none⟩ = some (.bool over') := k8.out.cell 6
  have z7 : w8.cell? ⟨B, 7, none⟩ = some (.bool failed') := k8.out.cell 7
  have r0 : w8.cell? ⟨R, 0, none⟩ = some (.slice none 0 0) := kR8.out.cell 0
  have r1 : w8.cell? ⟨R, 1, none⟩ = some (.int .i64 0) := kR8.out.cell 1
  have r2 : w8.cell? ⟨R, 2, none⟩ = some (.int .i64 0) := kR8.out.cell 2
  have r3 : w8.cell? ⟨R, 3, none⟩ = some (.string ⟨#[]⟩) := kR8.out.cell 3
  have r4 : w8.cell? ⟨R, 4, none⟩ = some (.int .i64 0) := kR8.out.cell 4
  have r5 : w8.cell? ⟨R, 5, none⟩ = some (.int .i64 0) := kR8.out.cell 5
  have r6 : w8.cell? ⟨R, 6, none⟩ = some (.bool false) := kR8.out.cell 6
  have r7 : w8.cell? ⟨R, 7, none⟩ = some (.bool false) := kR8.out.cell 7
  have rf := kR8.out.thaw
  obtain ⟨kE, oE⟩ := ret8 kR8.out rfl (.slice sa' sn' sc') (.int .i64 step') (.int .i64 want') (.string seen') (.int .i64 wait') (.int .i64 pat') (.bool over') (.bool failed')
  have hA9 := Rg.hid (hA8.out.only kR8.out oE)
  have hb9 := Rg.hid (hb8.out.trans (oE.bel hRw))
  replace kE := Rg.hid kE
  clear oE hA8 kR8 hb8 k8
  go_wp2
  replace kE := kE.out
  replace hA9 := hA9.out
  replace hb9 := hb9.out
  generalize World.setCell _ _ _ = WE at *
  exact bodyPost_ret (v := .tuple #[.agg #[.slice sa' sn' sc', .int .i64 step', .int .i64 want', .string seen', .int .i64 wait', .int .i64 pat', .bool over', .bool failed'], .string (s ++ X)]) (by simp [results, Tryd.results15, go_sem, kE.cell]) rfl ⟨_, by rw [hcat.out], hA9, hb9⟩
end Go.Proofs.YteepfifglafjmaaDoor
