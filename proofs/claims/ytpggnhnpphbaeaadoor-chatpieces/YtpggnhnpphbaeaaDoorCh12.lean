/-
  Layer 8: goOn.
-/
import Derived.Test.YtpggnhnpphbaeaaDoorCh11
namespace Go.Proofs.YtpggnhnpphbaeaaDoor
open Go.RowKit

theorem Ch.cut_len (s sep : List UInt8) : (Lib.cut s sep).2.1.length ≤ s.length := by
  unfold Lib.cut
  split
  · rw [List.length_drop]; omega
  · simp
set_option maxHeartbeats 4000000 in
set_option maxRecDepth 100000 in
theorem goon_none (sc sn : Nat) (vs : List SV) (xs : List Ch.St) (cstep cwant : Int) (cseen : ByteArray) (cwait cpat : Int) (cover cfailed : Bool) (w : World) (RR : Ch.Co × List UInt8) (hrow : Rg.Tow stepE w none vs) (hsts : StsAt w vs xs) (hsc : sn ≤ sc) (hsn : Hid (sn = xs.length)) (hl : sn ≤ 0) (hseb : cseen.size ≤ 1000000) (hst0 : -9223372036854775808 ≤ cstep) (hRR : Hid (Ch.run (sn + 1) ⟨xs, cstep, cwant, cseen.data.toList, cwait, cpat, cover, cfailed⟩ [] = RR)) :
    Calls Tryd.prog 11 #[.agg #[.slice none sn sc, .int .i64 cstep, .int .i64 cwant, .string cseen, .int .i64 cwait, .int .i64 cpat, .bool cover, .bool cfailed]] w fun e w' => GPost w RR e w' := by
  have hG0 : Hid (GAt w w.heap.size (w.heap.size + 1) none vs xs [.slice none sn sc, .int .i64 cstep, .int .i64 cwant, .string cseen, .int .i64 cwait, .int .i64 cpat, .bool cover, .bool cfailed] (.slice none 0 0) [] ((w.alloc (.cells #[.slice none sn sc, .int .i64 cstep, .int .i64 cwant, .string cseen, .int .i64 cwait, .int .i64 cpat, .bool cover, .bool cfailed] 30)).alloc (.cells #[.slice none 0 0, .int .i64 0, .int .i64 0, .string ⟨#[]⟩, .int .i64 0, .int .i64 0, .bool false, .bool false] 30))) := ⟨Rg.al2 _ _ _, (Rg.Bk.new rfl).old _, Rg.Bk.new (by simp), hrow.below (Rg.al2 _ _ _), hsts.below (Rg.al2 _ _ _), BOwn.nil, ⟨Nat.le_refl _, Nat.le_succ _, by omega⟩⟩
  clear hrow hsts
  go_enter Tryd.func11, Tryd.ntmps11
  go_upto_region 1 with fail
  generalize World.alloc _ _ = w1 at *
  obtain ⟨B, hB⟩ : ∃ B, B = w.heap.size := ⟨_, rfl⟩
  obtain ⟨R, hR⟩ : ∃ R, R = w.heap.size + 1 := ⟨_, rfl⟩
  rw [← hR, ← hB] at hG0
  rw [← hR]
  rw [← hB]
  clear hB hR
  go_wp2
  go_loopw [4] (fun va wr => ∃ (n : Nat) (v : Value) (out : List UInt8) (cstep cwant : Int) (cseen : ByteArray) (cwait cpat : Int) (cover cfailed : Bool), v = va ∧ Hid (GAt w B R none vs xs [.slice none sn sc, .int .i64 cstep, .int .i64 cwant, .string cseen, .int .i64 cwait, .int .i64 cpat, .bool cover, .bool cfailed] v out wr) ∧ Hid (Ch.run n ⟨xs, cstep, cwant, cseen.data.toList, cwait, cpat, cover, cfailed⟩ out = RR) ∧ 1 ≤ n ∧ (0 ≤ cstep → (sn : Int) + 1 ≤ cstep + (n : Int)) ∧ n ≤ sn + 1 ∧ out.length ≤ (sn + 1 - n) * 100000 ∧ cseen.size ≤ 1000000 ∧ -9223372036854775808 ≤ cstep) (fun _ wr => ((sn : Int) + 1 - cellInt wr B 1).toNat)
  case atStart => exact ⟨sn + 1, .slice none 0 0, [], cstep, cwant, cseen, cwait, cpat, cover, cfailed, rfl, hG0, hRR, by omega, by omega, by omega, by simp, hseb, hst0⟩
  case round =>
    clear hG0 hRR hseb hst0
    obtain ⟨n, v, out, cstep, cwant, cseen, cwait, cpat, cover, cfailed, rfl, hGh, hRun, hn1, hns, hnl, hol, hseb, hst0⟩ := hrel
    obtain ⟨n, rfl⟩ : ∃ m, n = m + 1 := ⟨n - 1, by omega⟩
    have hG := hGh.out
    have HPl : Hid (∀ W (a n : Int) (b : Bool), decide (0 ≤ a ∧ a < n) = b → Calls Tryd.prog 20 #[.int .i64 a, .int .i64 n] W fun e w' => e = .returned (.bool b) ∧ W = w') := fun W a n b hb => by rw [← hb]; exact (place_any a n W).mono fun e w' h => ⟨h.1, h.2.symm⟩
    have hRn := hRun.out
    simp only [Ch.run] at hRn
    by_cases hp : 0 ≤ cstep ∧ cstep < (sn : Int)
    case neg =>
      have hp2 : ¬ (0 ≤ cstep ∧ cstep < (xs.length : Int)) := by rw [← hsn.out]; exact hp
      rw [if_neg hp2] at hRn
      have d0 : decide (0 ≤ cstep ∧ cstep < (sn : Int)) = false := by simp only [decide_eq_false_iff_not]; exact hp
      clear hRun hp hp2 hns
      have a0 : wr.cell? ⟨B, 0, none⟩ = some (.slice none sn sc) := hG.chat.cell 0
      have a1 : wr.cell? ⟨B, 1, none⟩ = some (.int .i64 cstep) := hG.chat.cell 1
      have a6 : wr.cell? ⟨B, 6, none⟩ = some (.bool cover) := hG.chat.cell 6
      have af := hG.chat.thaw
      have hG5 : Hid (GAt w B R none vs xs [.slice none sn sc, .int .i64 cstep, .int .i64 cwant, .string cseen, .int .i64 cwait, .int .i64 cpat, .bool true, .bool cfailed] v out (wr.setCell ⟨B, 6, none⟩ (.bool true))) := hG.store 6 (.bool true)
      replace hRn := Rg.hid hRn
      clear hG hGh
      go_upto_region 16 with (go_at_call 20; refine (HPl.out _ _ _ _ d0).mono ?_; rintro e w9 ⟨rfl, rfl⟩)
      clear a0 a1 a6 af HPl d0
      generalize World.setCell _ _ _ = w5 at *
      have hG := hG5.out
      clear hG5
      have hcs2 : Value.agg #[.slice none xs.length sc, .int .i64 cstep, .int .i64 cwant, .string cseen, .int .i64 cwait, .int .i64 cpat, .bool true, .bool cfailed] = .agg (CC none xs.length sc cstep cwant ⟨cseen.data.toList.toArray⟩ cwait cpat true cfailed).toArray := rfl
      have hcv := hG.bytes.conv
      have hcv' := (hG.bytes.below ((Below.refl _ _).drew)).conv
      obtain ⟨T, hT⟩ : ∃ T : ByteArray, (⟨out.toArray⟩ : ByteArray) = T := ⟨_, rfl⟩
      rw [hT] at hcv hcv'
      obtain ⟨kE, oE⟩ := ret8 hG.res rfl (.slice none sn sc) (.int .i64 cstep) (.int .i64 cwant) (.string cseen) (.int .i64 cwait) (.int .i64 cpat) (.bool true) (.bool cfailed)
      have hcv2 := ((hG.bytes.only hG.res chat_byte oE).below ((Below.refl _ _).drew)).conv
      rw [hT] at hcv2
      have post : Hid (GPost w RR (.returned (.tuple #[.agg #[.slice none sn sc, .int .i64 cstep, .int .i64 cwant, .string cseen, .int .i64 cwait, .int .i64 cpat, .bool true, .bool cfailed], .string T])) _) := ⟨_, by rw [← hRn.out, ← hT], ⟨none, sc, vs, by rw [← hRn.out, hsn.out]; exact hcs2, hG.row.only hG.res chat_step oE, by rw [← hRn.out]; exact hG.sts.only hG.res chat_str oE, by rw [← hRn.out]; show xs.length ≤ sc; rw [← hsn.out]; exact hsc⟩, hG.bel.trans (oE.bel hG.low.2.1)⟩
      have z0 : w5.cell? ⟨B, 0, none⟩ = some (.slice none sn sc) := hG.chat.cell 0
      have z1 : w5.cell? ⟨B, 1, none⟩ = some (.int .i64 cstep) := hG.chat.cell 1
      have z2 : w5.cell? ⟨B, 2, none⟩ = some (.int .i64 cwant) := hG.chat.cell 2
      have z3 : w5.cell? ⟨B, 3, none⟩ = some (.string cseen) := hG.chat.cell 3
      have z4 : w5.cell? ⟨B, 4, none⟩ = some (.int .i64 cwait) := hG.chat.cell 4
      have z5 : w5.cell? ⟨B, 5, none⟩ = some (.int .i64 cpat) := hG.chat.cell 5
      have z6 : w5.cell? ⟨B, 6, none⟩ = some (.bool true) := hG.chat.cell 6
      have z7 : w5.cell? ⟨B, 7, none⟩ = some (.bool cfailed) := hG.chat.cell 7
      have r0 : w5.cell? ⟨R, 0, none⟩ = some (.slice none 0 0) := hG.res.cell 0
      have r1 : w5.cell? ⟨R, 1, none⟩ = some (.int .i64 0) := hG.res.cell 1
      have r2 : w5.cell? ⟨R, 2, none⟩ = some (.int .i64 0) := hG.res.cell 2
      have r3 : w5.cell? ⟨R, 3, none⟩ = some (.string ⟨#[]⟩) := hG.res.cell 3
      have r4 : w5.cell? ⟨R, 4, none⟩ = some (.int .i64 0) := hG.res.cell 4
      have r5 : w5.cell? ⟨R, 5, none⟩ = some (.int .i64 0) := hG.res.cell 5
      have r6 : w5.cell? ⟨R, 6, none⟩ = some (.bool false) := hG.res.cell 6
      have r7 : w5.cell? ⟨R, 7, none⟩ = some (.bool false) := hG.res.cell 7
      have rf := hG.res.thaw
      have hBR := hG.low.2.2
      replace kE := Rg.hid kE
      clear oE hT
      clear hG hcs2
      go_region
      all_goals
        replace kE := kE.out
        replace post := post.out
        clear hcv hcv' hcv2
        generalize World.setCell _ _ _ = WE at *
        go_wp2
        obtain ⟨v9, h91, h92, h93⟩ := post
        exact bodyPost_ret (v := .tuple #[.agg #[.slice none sn sc, .int .i64 cstep, .int .i64 cwant, .string cseen, .int .i64 cwait, .int .i64 cpat, .bool true, .bool cfailed], .string T]) (by simp [results, Tryd.results11, go_sem, kE.drew.cell]) rfl ⟨v9, h91, h92.below ((Below.refl _ _).drew), h93.drew⟩
    case pos =>
      exfalso
      omega

set_option maxHeartbeats 4000000 in
set_option maxRecDepth 100000 in
theorem goon_some (g o : Nat) (sc sn : Nat) (vs : List SV) (xs : List Ch.St) (cstep cwant : Int) (cseen : ByteArray) (cwait cpat : Int) (cover cfailed : Bool) (w : World) (RR : Ch.Co × List UInt8) (hm : Hid (MaxIn w)) (hrow : Rg.Tow stepE w (some ⟨g, o, none⟩) vs) (hsts : StsAt w vs xs) (hsc : sn ≤ sc) (hsn : Hid (sn = xs.length)) (hl : sn ≤ 1000) (hseb : cseen.size ≤ 1000000) (hsd : Hid (∀ x ∈ xs, x.send.size ≤ 100000)) (hst0 : -9223372036854775808 ≤ cstep) (hRR : Hid (Ch.run (sn + 1) ⟨xs, cstep, cwant, cseen.data.toList, cwait, cpat, cover, cfailed⟩ [] = RR)) :
    Calls Tryd.prog 11 #[.agg #[.slice (some ⟨g, o, none⟩) sn sc, .int .i64 cstep, .int .i64 cwant, .string cseen, .int .i64 cwait, .int .i64 cpat, .bool cover, .bool cfailed]] w fun e w' => GPost w RR e w' := by
  have hG0 : Hid (GAt w w.heap.size (w.heap.size + 1) (some ⟨g, o, none⟩) vs xs [.slice (some ⟨g, o, none⟩) sn sc, .int .i64 cstep, .int .i64 cwant, .string cseen, .int .i64 cwait, .int .i64 cpat, .bool cover, .bool cfailed] (.slice none 0 0) [] ((w.alloc (.cells #[.slice (some ⟨g, o, none⟩) sn sc, .int .i64 cstep, .int .i64 cwant, .string cseen, .int .i64 cwait, .int .i64 cpat, .bool cover, .bool cfailed] 30)).alloc (.cells #[.slice none 0 0, .int .i64 0, .int .i64 0, .string ⟨#[]⟩, .int .i64 0, .int .i64 0, .bool false, .bool false] 30))) := ⟨Rg.al2 _ _ _, (Rg.Bk.new rfl).old _, Rg.Bk.new (by simp), hrow.below (Rg.al2 _ _ _), hsts.below (Rg.al2 _ _ _), BOwn.nil, ⟨Nat.le_refl _, Nat.le_succ _, by omega⟩⟩
  clear hrow hsts
  go_enter Tryd.func11, Tryd.ntmps11
  go_upto_region 1 with fail
  generalize World.alloc _ _ = w1 at *
  obtain ⟨B, hB⟩ : ∃ B, B = w.heap.size := ⟨_, rfl⟩
  obtain ⟨R, hR⟩ : ∃ R, R = w.heap.size + 1 := ⟨_, rfl⟩
  rw [← hR, ← hB] at hG0
  rw [← hR]
  rw [← hB]
  clear hB hR
  go_wp2
  go_loopw [4] (fun va wr => ∃ (n : Nat) (v : Value) (out : List UInt8) (cstep cwant : Int) (cseen : ByteArray) (cwait cpat : Int) (cover cfailed : Bool), v = va ∧ Hid (GAt w B R (some ⟨g, o, none⟩) vs xs [.slice (some ⟨g, o, none⟩) sn sc, .int .i64 cstep, .int .i64 cwant, .string cseen, .int .i64 cwait, .int .i64 cpat, .bool cover, .bool cfailed] v out wr) ∧ Hid (Ch.run n ⟨xs, cstep, cwant, cseen.data.toList, cwait, cpat, cover, cfailed⟩ out = RR) ∧ 1 ≤ n ∧ (0 ≤ cstep → (sn : Int) + 1 ≤ cstep + (n : Int)) ∧ n ≤ sn + 1 ∧ out.length ≤ (sn + 1 - n) * 100000 ∧ cseen.size ≤ 1000000 ∧ -9223372036854775808 ≤ cstep) (fun _ wr => ((sn : Int) + 1 - cellInt wr B 1).toNat)
  case atStart => exact ⟨sn + 1, .slice none 0 0, [], cstep, cwant, cseen, cwait, cpat, cover, cfailed, rfl, hG0, hRR, by omega, by omega, by omega, by simp, hseb, hst0⟩
  case round =>
    clear hG0 hRR hseb hst0
    obtain ⟨n, v, out, cstep, cwant, cseen, cwait, cpat, cover, cfailed, rfl, hGh, hRun, hn1, hns, hnl, hol, hseb, hst0⟩ := hrel
    obtain ⟨n, rfl⟩ : ∃ m, n = m + 1 := ⟨n - 1, by omega⟩
    have hG := hGh.out
    have HPl : Hid (∀ W (a n : Int) (b : Bool), decide (0 ≤ a ∧ a < n) = b → Calls Tryd.prog 20 #[.int .i64 a, .int .i64 n] W fun e w' => e = .returned (.bool b) ∧ W = w') := fun W a n b hb => by rw [← hb]; exact (place_any a n W).mono fun e w' h => ⟨h.1, h.2.symm⟩
    have hRn := hRun.out
    simp only [Ch.run] at hRn
    by_cases hp : 0 ≤ cstep ∧ cstep < (sn : Int)
    case neg =>
      have hp2 : ¬ (0 ≤ cstep ∧ cstep < (xs.length : Int)) := by rw [← hsn.out]; exact hp
      rw [if_neg hp2] at hRn
      have d0 : decide (0 ≤ cstep ∧ cstep < (sn : Int)) = false := by simp only [decide_eq_false_iff_not]; exact hp
      clear hRun hp hp2 hns
      have a0 : wr.cell? ⟨B, 0, none⟩ = some (.slice (some ⟨g, o, none⟩) sn sc) := hG.chat.cell 0
      have a1 : wr.cell? ⟨B, 1, none⟩ = some (.int .i64 cstep) := hG.chat.cell 1
      have a6 : wr.cell? ⟨B, 6, none⟩ = some (.bool cover) := hG.chat.cell 6
      have af := hG.chat.thaw
      have hG5 : Hid (GAt w B R (some ⟨g, o, none⟩) vs xs [.slice (some ⟨g, o, none⟩) sn sc, .int .i64 cstep, .int .i64 cwant, .string cseen, .int .i64 cwait, .int .i64 cpat, .bool true, .bool cfailed] v out (wr.setCell ⟨B, 6, none⟩ (.bool true))) := hG.store 6 (.bool true)
      replace hRn := Rg.hid hRn
      clear hG hGh
      go_upto_region 16 with (go_at_call 20; refine (HPl.out _ _ _ _ d0).mono ?_; rintro e w9 ⟨rfl, rfl⟩)
      clear a0 a1 a6 af HPl d0
      generalize World.setCell _ _ _ = w5 at *
      have hG := hG5.out
      clear hG5
      have hcs2 : Value.agg #[.slice (some ⟨g, o, none⟩) xs.length sc, .int .i64 cstep, .int .i64 cwant, .string cseen, .int .i64 cwait, .int .i64 cpat, .bool true, .bool cfailed] = .agg (CC (some ⟨g, o, none⟩) xs.length sc cstep cwant ⟨cseen.data.toList.toArray⟩ cwait cpat true cfailed).toArray := rfl
      have hcv := hG.bytes.conv
      have hcv' := (hG.bytes.below ((Below.refl _ _).drew)).conv
      obtain ⟨T, hT⟩ : ∃ T : ByteArray, (⟨out.toArray⟩ : ByteArray) = T := ⟨_, rfl⟩
      rw [hT] at hcv hcv'
      obtain ⟨kE, oE⟩ := ret8 hG.res rfl (.slice (some ⟨g, o, none⟩) sn sc) (.int .i64 cstep) (.int .i64 cwant) (.string cseen) (.int .i64 cwait) (.int .i64 cpat) (.bool true) (.bool cfailed)
      have hcv2 := ((hG.bytes.only hG.res chat_byte oE).below ((Below.refl _ _).drew)).conv
      rw [hT] at hcv2
      have post : Hid (GPost w RR (.returned (.tuple #[.agg #[.slice (some ⟨g, o, none⟩) sn sc, .int .i64 cstep, .int .i64 cwant, .string cseen, .int .i64 cwait, .int .i64 cpat, .bool true, .bool cfailed], .string T])) _) := ⟨_, by rw [← hRn.out, ← hT], ⟨(some ⟨g, o, none⟩), sc, vs, by rw [← hRn.out, hsn.out]; exact hcs2, hG.row.only hG.res chat_step oE, by rw [← hRn.out]; exact hG.sts.only hG.res chat_str oE, by rw [← hRn.out]; show xs.length ≤ sc; rw [← hsn.out]; exact hsc⟩, hG.bel.trans (oE.bel hG.low.2.1)⟩
      have z0 : w5.cell? ⟨B, 0, none⟩ = some (.slice (some ⟨g, o, none⟩) sn sc) := hG.chat.cell 0
      have z1 : w5.cell? ⟨B, 1, none⟩ = some (.int .i64 cstep) := hG.chat.cell 1
      have z2 : w5.cell? ⟨B, 2, none⟩ = some (.int .i64 cwant) := hG.chat.cell 2
      have z3 : w5.cell? ⟨B, 3, none⟩ = some (.string cseen) := hG.chat.cell 3
      have z4 : w5.cell? ⟨B, 4, none⟩ = some (.int .i64 cwait) := hG.chat.cell 4
      have z5 : w5.cell? ⟨B, 5, none⟩ = some (.int .i64 cpat) := hG.chat.cell 5
      have z6 : w5.cell? ⟨B, 6, none⟩ = some (.bool true) := hG.chat.cell 6
      have z7 : w5.cell? ⟨B, 7, none⟩ = some (.bool cfailed) := hG.chat.cell 7
      have r0 : w5.cell? ⟨R, 0, none⟩ = some (.slice none 0 0) := hG.res.cell 0
      have r1 : w5.cell? ⟨R, 1, none⟩ = some (.int .i64 0) := hG.res.cell 1
      have r2 : w5.cell? ⟨R, 2, none⟩ = some (.int .i64 0) := hG.res.cell 2
      have r3 : w5.cell? ⟨R, 3, none⟩ = some (.string ⟨#[]⟩) := hG.res.cell 3
      have r4 : w5.cell? ⟨R, 4, none⟩ = some (.int .i64 0) := hG.res.cell 4
      have r5 : w5.cell? ⟨R, 5, none⟩ = some (.int .i64 0) := hG.res.cell 5
      have r6 : w5.cell? ⟨R, 6, none⟩ = some (.bool false) := hG.res.cell 6
      have r7 : w5.cell? ⟨R, 7, none⟩ = some (.bool false) := hG.res.cell 7
      have rf := hG.res.thaw
      have hBR := hG.low.2.2
      replace kE := Rg.hid kE
      clear oE hT
      clear hG hcs2
      go_region
      all_goals
        replace kE := kE.out
        replace post := post.out
        clear hcv hcv' hcv2
        generalize World.setCell _ _ _ = WE at *
        go_wp2
        obtain ⟨v9, h91, h92, h93⟩ := post
        exact bodyPost_ret (v := .tuple #[.agg #[.slice (some ⟨g, o, none⟩) sn sc, .int .i64 cstep, .int .i64 cwant, .string cseen, .int .i64 cwait, .int .i64 cpat, .bool true, .bool cfailed], .string T]) (by simp [results, Tryd.results11, go_sem, kE.drew.cell]) rfl ⟨v9, h91, h92.below ((Below.refl _ _).drew), h93.drew⟩
    case pos =>
      obtain ⟨k, rfl⟩ : ∃ k : Nat, cstep = (k : Int) := ⟨cstep.toNat, by omega⟩
      have hk : k < sn := by omega
      have hkx : k < xs.length := by rw [← hsn.out]; exact hk
      have hkv : k < vs.length := by rw [hG.sts.len]; exact hkx
      have hp2 : 0 ≤ (k : Int) ∧ (k : Int) < (xs.length : Int) := by rw [← hsn.out]; exact hp
      rw [if_pos hp2] at hRn
      have d0 : decide (0 ≤ (k : Int) ∧ (k : Int) < (sn : Int)) = true := by simp only [decide_eq_true_eq]; exact hp
      have hsdk := hsd.out xs[k] (List.getElem_mem hkx)
      have hat : ∀ q : Int, Ch.at_ ⟨xs, (k : Int), q, cseen.data.toList, cwait, cpat, cover, cfailed⟩ = xs[k] := fun q => by
        unfold Ch.at_
        rw [Int.toNat_natCast, List.getD_eq_getElem?_getD, List.getElem?_eq_getElem hkx]; rfl
      have hwd : Hid (∀ m : Nat, (hm : m < xs[k].wants.length) → Ch.wanted ⟨xs, (k : Int), (m : Int), cseen.data.toList, cwait, cpat, cover, cfailed⟩ = xs[k].wants[m]) := fun m hm => by
        unfold Ch.wanted
        rw [hat, Int.toNat_natCast, List.getD_eq_getElem?_getD, List.getElem?_eq_getElem hm]; rfl
      rw [hat] at hRn
      have hstk := hG.sts.get k hkv hkx
      have hel := hG.row.elem hkv
      clear hat hRun hp hp2
      generalize xs[k] = st at *
      generalize vs[k] = sv at *
      clear hkx hkv
      obtain ⟨ws, ns, sd⟩ := st
      obtain ⟨wa, wn, wcp, na, nn, nc, ss⟩ := sv
      obtain ⟨hn, hws, hwc, hm2, hns2, hmd, hss⟩ := hstk
      dsimp only at hn hws hwc hm2 hns2 hmd hss hwd hRn hsdk
      subst hss
      replace hn := Rg.hid hn
      have e0 : wr.cell? ⟨g, o + k * 3, none⟩ = some (.slice wa wn wcp) := hel 0 _ rfl
      have e1 : wr.cell? ⟨g, o + k * 3 + 1, none⟩ = some (.slice na nn nc) := hel 1 _ rfl
      have e2 : wr.cell? ⟨g, o + k * 3 + 2, none⟩ = some (.string ss) := hel 2 _ rfl
      clear hel hm2 hns2 hmd
      have a0 : wr.cell? ⟨B, 0, none⟩ = some (.slice (some ⟨g, o, none⟩) sn sc) := hG.chat.cell 0
      have a1 : wr.cell? ⟨B, 1, none⟩ = some (.int .i64 (k : Int)) := hG.chat.cell 1
      have hci : Hid (cellInt wr B 1 = (k : Int)) := by show _ = _; unfold cellInt; rw [a1]
      have hz0 : (0 : Int) ≤ (k : Int) := by omega
      have hz1 : (k : Int) < (sn : Int) := by omega
      have hG4 : Hid (GAt w B R (some ⟨g, o, none⟩) vs xs [.slice (some ⟨g, o, none⟩) sn sc, .int .i64 (k : Int), .int .i64 cwant, .string cseen, .int .i64 cwait, .int .i64 cpat, .bool cover, .bool cfailed] v out (wr.alloc (.cells #[.slice wa wn wcp, .slice na nn nc, .string ss] 28))) := hG.below (Rg.al1 _ _)
      have kD4 : Hid (Rg.Bk wr.heap.size [.slice wa wn wcp, .slice na nn nc, .string ss] 28 (wr.alloc (.cells #[.slice wa wn wcp, .slice na nn nc, .string ss] 28))) := Rg.Bk.new rfl
      have hw4 := Rg.hid (hws.below (Rg.al1 wr (.cells #[.slice wa wn wcp, .slice na nn nc, .string ss] 28)))
      have hDB : B ≠ wr.heap.size := Nat.ne_of_lt hG.chat.lt
      have hDR : R ≠ wr.heap.size := Nat.ne_of_lt hG.res.lt
      have hDw : w.heap.size ≤ wr.heap.size := hG.bel.size
      clear hG hGh hws
      go_upto_region 4 with (go_at_call 20; refine (HPl.out _ _ _ _ d0).mono ?_; rintro e w9 ⟨rfl, rfl⟩)
      clear a0 a1 e0 e1 e2 d0
      generalize World.alloc _ _ = w4 at *
      generalize wr.heap.size = D at *
      have a2 : w4.cell? ⟨B, 2, none⟩ = some (.int .i64 cwant) := hG4.out.chat.cell 2
      have b0 : w4.cell? ⟨D, 0, none⟩ = some (.slice wa wn wcp) := kD4.out.cell 0
      by_cases hq : 0 ≤ cwant ∧ cwant < (wn : Int)
      case neg =>
        have hq2 : ¬ (0 ≤ cwant ∧ cwant < (ws.length : Int)) := by rw [← hn.out]; exact hq
        rw [if_neg hq2] at hRn
        have d1 : decide (0 ≤ cwant ∧ cwant < (wn : Int)) = false := by simp only [decide_eq_false_iff_not]; exact hq
        replace hRn := Rg.hid hRn
        have a7 : w4.cell? ⟨B, 7, none⟩ = some (.bool cfailed) := hG4.out.chat.cell 7
        have af := hG4.out.chat.thaw
        have hG5 : Hid (GAt w B R (some ⟨g, o, none⟩) vs xs [.slice (some ⟨g, o, none⟩) sn sc, .int .i64 (k : Int), .int .i64 cwant, .string cseen, .int .i64 cwait, .int .i64 cpat, .bool cover, .bool true] v out (w4.setCell ⟨B, 7, none⟩ (.bool true))) := hG4.out.store 7 (.bool true)
        clear hG4 hq hq2 hns kD4 hw4 hwd
        go_upto_region 6 with (go_at_call 20; refine (HPl.out _ _ _ _ d1).mono ?_; rintro e w9 ⟨rfl, rfl⟩)
        clear a2 b0 a7 af HPl d1
        generalize World.setCell _ _ _ = w5 at *
        have hG := hG5.out
        clear hG5
        have hcs2 : Value.agg #[.slice (some ⟨g, o, none⟩) xs.length sc, .int .i64 (k : Int), .int .i64 cwant, .string cseen, .int .i64 cwait, .int .i64 cpat, .bool cover, .bool true] = .agg (CC (some ⟨g, o, none⟩) xs.length sc k cwant ⟨cseen.data.toList.toArray⟩ cwait cpat cover true).toArray := rfl
        have hcv := hG.bytes.conv
        have hcv' := (hG.bytes.below ((Below.refl _ _).drew)).conv
        obtain ⟨T, hT⟩ : ∃ T : ByteArray, (⟨out.toArray⟩ : ByteArray) = T := ⟨_, rfl⟩
        rw [hT] at hcv hcv'
        obtain ⟨kE, oE⟩ := ret8 hG.res rfl (.slice (some ⟨g, o, none⟩) sn sc) (.int .i64 (k : Int)) (.int .i64 cwant) (.string cseen) (.int .i64 cwait) (.int .i64 cpat) (.bool cover) (.bool true)
        have hcv2 := ((hG.bytes.only hG.res chat_byte oE).below ((Below.refl _ _).drew)).conv
        rw [hT] at hcv2
        have post : Hid (GPost w RR (.returned (.tuple #[.agg #[.slice (some ⟨g, o, none⟩) sn sc, .int .i64 (k : Int), .int .i64 cwant, .string cseen, .int .i64 cwait, .int .i64 cpat, .bool cover, .bool true], .string T])) _) := ⟨_, by rw [← hRn.out, ← hT], ⟨(some ⟨g, o, none⟩), sc, vs, by rw [← hRn.out, hsn.out]; exact hcs2, hG.row.only hG.res chat_step oE, by rw [← hRn.out]; exact hG.sts.only hG.res chat_str oE, by rw [← hRn.out]; show xs.length ≤ sc; rw [← hsn.out]; exact hsc⟩, hG.bel.trans (oE.bel hG.low.2.1)⟩
        have z0 : w5.cell? ⟨B, 0, none⟩ = some (.slice (some ⟨g, o, none⟩) sn sc) := hG.chat.cell 0
        have z1 : w5.cell? ⟨B, 1, none⟩ = some (.int .i64 (k : Int)) := hG.chat.cell 1
        have z2 : w5.cell? ⟨B, 2, none⟩ = some (.int .i64 cwant) := hG.chat.cell 2
        have z3 : w5.cell? ⟨B, 3, none⟩ = some (.string cseen) := hG.chat.cell 3
        have z4 : w5.cell? ⟨B, 4, none⟩ = some (.int .i64 cwait) := hG.chat.cell 4
        have z5 : w5.cell? ⟨B, 5, none⟩ = some (.int .i64 cpat) := hG.chat.cell 5
        have z6 : w5.cell? ⟨B, 6, none⟩ = some (.bool cover) := hG.chat.cell 6
        have z7 : w5.cell? ⟨B, 7, none⟩ = some (.bool true) := hG.chat.cell 7
        have r0 : w5.cell? ⟨R, 0, none⟩ = some (.slice none 0 0) := hG.res.cell 0
        have r1 : w5.cell? ⟨R, 1, none⟩ = some (.int .i64 0) := hG.res.cell 1
        have r2 : w5.cell? ⟨R, 2, none⟩ = some (.int .i64 0) := hG.res.cell 2
        have r3 : w5.cell? ⟨R, 3, none⟩ = some (.string ⟨#[]⟩) := hG.res.cell 3
        have r4 : w5.cell? ⟨R, 4, none⟩ = some (.int .i64 0) := hG.res.cell 4
        have r5 : w5.cell? ⟨R, 5, none⟩ = some (.int .i64 0) := hG.res.cell 5
        have r6 : w5.cell? ⟨R, 6, none⟩ = some (.bool false) := hG.res.cell 6
        have r7 : w5.cell? ⟨R, 7, none⟩ = some (.bool false) := hG.res.cell 7
        have rf := hG.res.thaw
        have hBR := hG.low.2.2
        replace kE := Rg.hid kE
        clear oE hT
        clear hG hcs2
        go_region
        all_goals
          replace kE := kE.out
          replace post := post.out
          clear hcv hcv' hcv2
          generalize World.setCell _ _ _ = WE at *
          go_wp2
          obtain ⟨v9, h91, h92, h93⟩ := post
          exact bodyPost_ret (v := .tuple #[.agg #[.slice (some ⟨g, o, none⟩) sn sc, .int .i64 (k : Int), .int .i64 cwant, .string cseen, .int .i64 cwait, .int .i64 cpat, .bool cover, .bool true], .string T]) (by simp [results, Tryd.results11, go_sem, kE.drew.cell]) rfl ⟨v9, h91, h92.below ((Below.refl _ _).drew), h93.drew⟩
      case pos =>
        obtain ⟨m, rfl⟩ : ∃ m : Nat, cwant = (m : Int) := ⟨cwant.toNat, by omega⟩
        have hmw : m < ws.length := by rw [← hn.out]; omega
        have hq2 : 0 ≤ (m : Int) ∧ (m : Int) < (ws.length : Int) := by rw [← hn.out]; exact hq
        rw [if_pos hq2, hwd.out m hmw] at hRn
        have d1 : decide (0 ≤ (m : Int) ∧ (m : Int) < (wn : Int)) = true := by simp only [decide_eq_true_eq]; exact hq
        have hz2 : (0 : Int) ≤ (m : Int) := by omega
        have hz3 : (m : Int) < (wn : Int) := by omega
        obtain ⟨gw, ow, hwa, -⟩ := hw4.out.place hmw
        subst hwa
        have f1 : w4.cell? ⟨gw, ow + m, none⟩ = some (.string ws[m]) := str_cell hw4.out hmw
        have a3 : w4.cell? ⟨B, 3, none⟩ = some (.string cseen) := hG4.out.chat.cell 3
        have HCu : Hid (∀ W, Below w4.heap.size w4 W → Calls Tryd.prog 21 #[.string cseen, .string ws[m]] W fun e w' => e = .returned (.tuple #[.string ⟨(Lib.cut cseen.data.toList ws[m].data.toList).1.toArray⟩, .string ⟨(Lib.cut cseen.data.toList ws[m].data.toList).2.1.toArray⟩, .bool (Lib.cut cseen.data.toList ws[m].data.toList).2.2]) ∧ Hid (Below w4.heap.size w4 w') ∧ w'.cell? ⟨B, 2, none⟩ = some (.int .i64 (m : Int)) ∧ w'.cell? ⟨B, 3, none⟩ = some (.string cseen) ∧ w'.cell? ⟨D, 0, none⟩ = some (.slice (some ⟨gw, ow, none⟩) wn wcp) ∧ w'.cell? ⟨gw, ow + m, none⟩ = some (.string ws[m])) := fun W hW => by
          obtain ⟨mx, hmx⟩ := hm.out.below (Rg.chain hG4.out.bel hW)
          refine (Tryd.strings_Cut cseen ws[m] mx W (by omega) hmx).mono fun e w' ⟨h1, q, h2⟩ => ?_
          subst h2
          have hb := Rg.drewN hW q
          exact ⟨h1, hb, (hG4.out.below hb).chat.cell 2, (hG4.out.below hb).chat.cell 3, (kD4.out.below hb kD4.out.lt).cell 0, str_cell (hw4.out.below hb) hmw⟩
        have hql := Ch.cut_len cseen.data.toList ws[m].data.toList
        generalize ws[m] = pw at *
        clear hwd hmw hq hq2
        generalize Lib.cut cseen.data.toList pw.data.toList = q at *
        obtain ⟨q0, q1, tb⟩ := q
        dsimp only at hRn HCu hql
        obtain ⟨T1, hT1⟩ : ∃ T : ByteArray, (⟨q1.toArray⟩ : ByteArray) = T := ⟨_, rfl⟩
        obtain ⟨T0, hT0⟩ : ∃ T : ByteArray, (⟨q0.toArray⟩ : ByteArray) = T := ⟨_, rfl⟩
        rw [hT1, hT0] at HCu
        have hq1 : q1 = T1.data.toList := by rw [← hT1]
        subst hq1
        replace hRn := Rg.hid hRn
        clear hT1 hT0
        go_upto_region 7 with (go_at_call 20; refine (HPl.out _ _ _ _ d1).mono ?_; rintro e w9 ⟨rfl, rfl⟩)
        go_cut [7, 8] (fun s7 s8 wx => s7 = .string T1 ∧ s8 = .bool tb ∧ Hid (Below w4.heap.size w4 wx))
        case first =>
          clear hRn hG4 kD4 hw4 hns hnl hol
          go_region_held3 (fun w' => w'.cell? ⟨B, 2, none⟩ = some (.int .i64 (m : Int)) ∧ w'.cell? ⟨B, 3, none⟩ = some (.string cseen) ∧ w'.cell? ⟨D, 0, none⟩ = some (.slice (some ⟨gw, ow, none⟩) wn wcp) ∧ w'.cell? ⟨gw, ow + m, none⟩ = some (.string pw)) (go_keep) (first
            | (go_at_call 21; refine (HCu.out _ ?_).mono ?_; (first | exact Below.refl _ _ | exact (Below.refl _ _).drew); rintro e w9 ⟨rfl, b9, x2, x3, x0, xf⟩))
          all_goals (go_wp2_with fail; go_meet; exact ⟨rfl, rfl, b9⟩)
        case rest =>
          obtain ⟨rfl, rfl, b7⟩ := hcut
          obtain ⟨w7, hw7⟩ : ∃ w7, w7 = wc := ⟨_, rfl⟩
          subst hw7
          have hG7 := hG4.out.below b7.out
          have kD7 := kD4.out.below b7.out kD4.out.lt
          clear hG4 kD4 hw4 b7 HCu a2 b0 a3 f1 HPl d1
          cases tb
          case false =>
            have hRn2 := hRn.out
            rw [if_neg (by decide)] at hRn2
            clear hRn kD7 hns
            obtain ⟨K, hK⟩ : ∃ K, K = cseen.size - 300 := ⟨_, rfl⟩
            have hmax : max (0 : Int) ((cseen.size : Int) - 300) = (K : Int) := by omega
            have hw1 : IntKind.i64.wrap ((cseen.size : Int) - 300) = (cseen.size : Int) - 300 := by rw [IntKind.wrap_i64]; omega
            have hz4 : (0 : Int) ≤ (K : Int) := by omega
            have hz5 : (K : Int) ≤ (cseen.size : Int) := by omega
            obtain ⟨E, hE⟩ : ∃ E, cseen.extract K cseen.size = E := ⟨_, rfl⟩
            have hE2 : Hid (E = ⟨(cseen.data.toList.drop (cseen.data.toList.length - 300)).toArray⟩) := by
              show _ = _
              apply ba_ext
              rw [← hE, ba_ex2, hK]
              rfl
            have a3 : w7.cell? ⟨B, 3, none⟩ = some (.string cseen) := hG7.chat.cell 3
            have af := hG7.chat.thaw
            have hG5 : Hid (GAt w B R (some ⟨g, o, none⟩) vs xs [.slice (some ⟨g, o, none⟩) sn sc, .int .i64 (k : Int), .int .i64 (m : Int), .string E, .int .i64 cwait, .int .i64 cpat, .bool cover, .bool cfailed] v out (w7.setCell ⟨B, 3, none⟩ (.string E))) := hG7.store 3 (.string E)
            replace hRn2 := Rg.hid hRn2
            clear hG7 hK
            go_upto_region 10 with fail
            clear a3 af hmax hw1 hz4 hz5 hE
            generalize World.setCell _ _ _ = w5 at *
            have hG := hG5.out
            clear hG5
            have hcs2 : Value.agg #[.slice (some ⟨g, o, none⟩) xs.length sc, .int .i64 (k : Int), .int .i64 (m : Int), .string E, .int .i64 cwait, .int .i64 cpat, .bool cover, .bool cfailed] = .agg (CC (some ⟨g, o, none⟩) xs.length sc k m ⟨(cseen.data.toList.drop (cseen.data.toList.length - 300)).toArray⟩ cwait cpat cover cfailed).toArray := by rw [← hE2.out]; rfl
            have hcv := hG.bytes.conv
            have hcv' := (hG.bytes.below ((Below.refl _ _).drew)).conv
            obtain ⟨T, hT⟩ : ∃ T : ByteArray, (⟨out.toArray⟩ : ByteArray) = T := ⟨_, rfl⟩
            rw [hT] at hcv hcv'
            obtain ⟨kE, oE⟩ := ret8 hG.res rfl (.slice (some ⟨g, o, none⟩) sn sc) (.int .i64 (k : Int)) (.int .i64 (m : Int)) (.string E) (.int .i64 cwait) (.int .i64 cpat) (.bool cover) (.bool cfailed)
            have hcv2 := ((hG.bytes.only hG.res chat_byte oE).below ((Below.refl _ _).drew)).conv
            rw [hT] at hcv2
            have post : Hid (GPost w RR (.returned (.tuple #[.agg #[.slice (some ⟨g, o, none⟩) sn sc, .int .i64 (k : Int), .int .i64 (m : Int), .string E, .int .i64 cwait, .int .i64 cpat, .bool cover, .bool cfailed], .string T])) _) := ⟨_, by rw [← hRn2.out, ← hT], ⟨(some ⟨g, o, none⟩), sc, vs, by rw [← hRn2.out, hsn.out]; exact hcs2, hG.row.only hG.res chat_step oE, by rw [← hRn2.out]; exact hG.sts.only hG.res chat_str oE, by rw [← hRn2.out]; show xs.length ≤ sc; rw [← hsn.out]; exact hsc⟩, hG.bel.trans (oE.bel hG.low.2.1)⟩
            have z0 : w5.cell? ⟨B, 0, none⟩ = some (.slice (some ⟨g, o, none⟩) sn sc) := hG.chat.cell 0
            have z1 : w5.cell? ⟨B, 1, none⟩ = some (.int .i64 (k : Int)) := hG.chat.cell 1
            have z2 : w5.cell? ⟨B, 2, none⟩ = some (.int .i64 (m : Int)) := hG.chat.cell 2
            have z3 : w5.cell? ⟨B, 3, none⟩ = some (.string E) := hG.chat.cell 3
            have z4 : w5.cell? ⟨B, 4, none⟩ = some (.int .i64 cwait) := hG.chat.cell 4
            have z5 : w5.cell? ⟨B, 5, none⟩ = some (.int .i64 cpat) := hG.chat.cell 5
            have z6 : w5.cell? ⟨B, 6, none⟩ = some (.bool cover) := hG.chat.cell 6
            have z7 : w5.cell? ⟨B, 7, none⟩ = some (.bool cfailed) := hG.chat.cell 7
            have r0 : w5.cell? ⟨R, 0, none⟩ = some (.slice none 0 0) := hG.res.cell 0
            have r1 : w5.cell? ⟨R, 1, none⟩ = some (.int .i64 0) := hG.res.cell 1
            have r2 : w5.cell? ⟨R, 2, none⟩ = some (.int .i64 0) := hG.res.cell 2
            have r3 : w5.cell? ⟨R, 3, none⟩ = some (.string ⟨#[]⟩) := hG.res.cell 3
            have r4 : w5.cell? ⟨R, 4, none⟩ = some (.int .i64 0) := hG.res.cell 4
            have r5 : w5.cell? ⟨R, 5, none⟩ = some (.int .i64 0) := hG.res.cell 5
            have r6 : w5.cell? ⟨R, 6, none⟩ = some (.bool false) := hG.res.cell 6
            have r7 : w5.cell? ⟨R, 7, none⟩ = some (.bool false) := hG.res.cell 7
            have rf := hG.res.thaw
            have hBR := hG.low.2.2
            replace kE := Rg.hid kE
            clear oE hT
            clear hG hcs2
            go_region
            all_goals
              replace kE := kE.out
              replace post := post.out
              clear hcv hcv' hcv2
              generalize World.setCell _ _ _ = WE at *
              go_wp2
              obtain ⟨v9, h91, h92, h93⟩ := post
              exact bodyPost_ret (v := .tuple #[.agg #[.slice (some ⟨g, o, none⟩) sn sc, .int .i64 (k : Int), .int .i64 (m : Int), .string E, .int .i64 cwait, .int .i64 cpat, .bool cover, .bool cfailed], .string T]) (by simp [results, Tryd.results11, go_sem, kE.drew.cell]) rfl ⟨v9, h91, h92.below ((Below.refl _ _).drew), h93.drew⟩
          case true =>
            have hRn2 := hRn.out
            rw [if_pos rfl] at hRn2
            clear hRn
            obtain ⟨k1, hk1⟩ : ∃ k1 : Int, k1 = (k : Int) + 1 := ⟨_, rfl⟩
            have hwk : IntKind.i64.wrap ((k : Int) + 1) = k1 := by rw [IntKind.wrap_i64]; omega
            rw [← hk1] at hRn2
            have hns' : 0 ≤ k1 → (sn : Int) + 1 ≤ k1 + (n : Int) := fun _ => by have := hns (by omega); omega
            have hn1' : 1 ≤ n := by have := hns (by omega); omega
            have hk1s : k1 ≤ (sn : Int) := by omega
            have hmea : ((sn : Int) + 1 - k1).toNat < ((sn : Int) + 1 - (k : Int)).toNat := by omega
            have hk0 : -9223372036854775808 ≤ k1 := by omega
            replace hk1 := Rg.hid hk1
            replace hRn2 := Rg.hid hRn2
            have a3 : w7.cell? ⟨B, 3, none⟩ = some (.string cseen) := hG7.chat.cell 3
            have af := hG7.chat.thaw
            have hG8 : Hid (GAt w B R (some ⟨g, o, none⟩) vs xs [.slice (some ⟨g, o, none⟩) sn sc, .int .i64 (k : Int), .int .i64 (m : Int), .string T1, .int .i64 cwait, .int .i64 cpat, .bool cover, .bool cfailed] v out (w7.setCell ⟨B, 3, none⟩ (.string T1))) := hG7.store 3 (.string T1)
            have kD8 : Hid (Rg.Bk D [.slice (some ⟨gw, ow, none⟩) wn wcp, .slice na nn nc, .string ss] 28 (w7.setCell ⟨B, 3, none⟩ (.string T1))) := kD7.same ((Rg.Only.setCell w7 B 3 (.string T1)).block D (Ne.symm hDB))
            clear hG7 kD7
            go_upto_region 12 with fail
            clear a3 af
            generalize World.setCell _ _ _ = w8 at *
            have b2 : w8.cell? ⟨D, 2, none⟩ = some (.string ss) := kD8.out.cell 2
            obtain ⟨v', w9, hap, hG9⟩ := hG8.out.add ss (by omega)
            replace hap := Rg.hid hap
            replace hG9 := Rg.hid hG9
            clear hG8 kD8
            go_upto_region 13 with (at_builtin; refine wpList_append_run2 rfl (.tmp 61) (.tmp 63) 51 9 rfl _ _ rfl rfl _ _ hap.out ?_)
            clear b2 hap
            have a1 : w9.cell? ⟨B, 1, none⟩ = some (.int .i64 (k : Int)) := hG9.out.chat.cell 1
            have a2 : w9.cell? ⟨B, 2, none⟩ = some (.int .i64 (m : Int)) := hG9.out.chat.cell 2
            have a4 : w9.cell? ⟨B, 4, none⟩ = some (.int .i64 cwait) := hG9.out.chat.cell 4
            have af := hG9.out.chat.thaw
            have hG10 : Hid (GAt w B R (some ⟨g, o, none⟩) vs xs [.slice (some ⟨g, o, none⟩) sn sc, .int .i64 k1, .int .i64 0, .string T1, .int .i64 0, .int .i64 cpat, .bool cover, .bool cfailed] v' (out ++ ss.data.toList) (((w9.setCell ⟨B, 1, none⟩ (.int .i64 k1)).setCell ⟨B, 2, none⟩ (.int .i64 0)).setCell ⟨B, 4, none⟩ (.int .i64 0))) := ((hG9.out.store 1 (.int .i64 k1)).store 2 (.int .i64 0)).store 4 (.int .i64 0)
            clear hG9
            go_upto_region 15 with fail
            refine ⟨⟨n, v', out ++ ss.data.toList, k1, 0, T1, 0, cpat, cover, cfailed, rfl, hG10, hRn2, hn1', hns', by omega, ?_, ?_, hk0⟩, ?_⟩
            · rw [List.length_append]; show out.length + ss.size ≤ _; omega
            · show T1.data.toList.length ≤ _
              have : cseen.data.toList.length = cseen.size := rfl
              omega
            · have hci2 : cellInt (((w9.setCell ⟨B, 1, none⟩ (.int .i64 k1)).setCell ⟨B, 2, none⟩ (.int .i64 0)).setCell ⟨B, 4, none⟩ (.int .i64 0)) B 1 = k1 := by unfold cellInt; rw [hG10.out.chat.cell 1]; rfl
              rw [hci2, hci.out]
              exact hmea

theorem goon_any (v0 : Value) (c0 : Ch.Co) (w : World) (hm : MaxIn w) (hA : CAt w v0 c0) (hl : c0.steps.length ≤ 1000) (hse : c0.seen.length ≤ 1000000) (hsd : ∀ x ∈ c0.steps, x.send.size ≤ 100000) (hst0 : -9223372036854775808 ≤ c0.step) :
    Calls Tryd.prog 11 #[v0] w fun e w' => GPost w (Ch.goOn c0) e w' := by
  obtain ⟨sa, sc, vs, rfl, hrow, hsts, hsc⟩ := hA
  obtain ⟨xs, cstep, cwant, cseenl, cwait, cpat, cover, cfailed⟩ := c0
  dsimp only at *
  rcases hrow.1 with ⟨rfl, hv⟩ | ⟨g, o, rfl, -, -⟩
  · subst hv
    have hx : xs.length = 0 := by rw [← hsts.len]; rfl
    exact goon_none sc xs.length [] xs cstep cwant ⟨cseenl.toArray⟩ cwait cpat cover cfailed w _ hrow hsts hsc (Rg.hid rfl) (by omega) (by show cseenl.toArray.size ≤ _; rw [List.size_toArray]; exact hse) hst0 (Rg.hid rfl)
  · exact goon_some g o sc xs.length vs xs cstep cwant ⟨cseenl.toArray⟩ cwait cpat cover cfailed w _ (Rg.hid hm) hrow hsts hsc (Rg.hid rfl) hl (by show cseenl.toArray.size ≤ _; rw [List.size_toArray]; exact hse) (Rg.hid hsd) hst0 (Rg.hid rfl)
end Go.Proofs.YtpggnhnpphbaeaaDoor
