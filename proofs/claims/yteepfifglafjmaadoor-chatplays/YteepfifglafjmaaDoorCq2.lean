/-
  Layer 8: the document's 'run': as far as what was seen lets it.
-/
import Derived.Test.YteepfifglafjmaaDoorCq1
namespace Go.Proofs.YteepfifglafjmaaDoor
open Go.RowKit

theorem Ch.hit (cseen pw : ByteArray) (i : Nat) (h : i + pw.size ≤ cseen.size) (hs : cseen.size ≤ 1000000) : ∃ (P : Nat) (T1 : ByteArray), IntKind.i64.wrap ((i : Int) + (pw.size : Int)) = (P : Int) ∧ wrap64 ((i : Int) + (pw.size : Int)) = (P : Int) ∧ (0 : Int) ≤ (P : Int) ∧ (P : Int) ≤ (cseen.size : Int) ∧ cseen.extract P cseen.size = T1 ∧ cseen.data.toList.drop (i + pw.data.toList.length) = T1.data.toList ∧ T1.size ≤ 1000000 := by
  have e : (cseen.extract (i + pw.size) cseen.size).data.toList = cseen.data.toList.drop (i + pw.size) := ba_ex2 _ _
  have hp : pw.data.toList.length = pw.size := Array.length_toList
  have hc : cseen.data.toList.length = cseen.size := Array.length_toList
  refine ⟨i + pw.size, cseen.extract (i + pw.size) cseen.size, ?_, ?_, by omega, by omega, rfl, by rw [e, hp], ?_⟩
  · rw [IntKind.wrap_i64]; omega
  · unfold wrap64; omega
  · have h1 : (cseen.extract (i + pw.size) cseen.size).data.toList.length = (cseen.extract (i + pw.size) cseen.size).size := Array.length_toList
    rw [← h1, e, List.length_drop]; omega
theorem Ch.next (k sn n : Nat) (hk : k < sn) (hs : sn ≤ 1000) (hn : sn + 1 ≤ k + (n + 1)) : ∃ k1 : Nat, (k : Int) + 1 = (k1 : Int) ∧ IntKind.i64.wrap ((k : Int) + 1) = (k1 : Int) ∧ wrap64 ((k : Int) + 1) = (k1 : Int) ∧ sn + 1 ≤ k1 + n ∧ k1 ≤ sn ∧ ((sn : Int) + 1 - (k1 : Int)).toNat < ((sn : Int) + 1 - (k : Int)).toNat ∧ k1 = k + 1 :=
  ⟨k + 1, by omega, by rw [IntKind.wrap_i64]; omega, by unfold wrap64; omega, by omega, by omega, by omega, rfl⟩
theorem Ch.outs (out : List UInt8) (ss : ByteArray) (k k1 sn : Nat) (hk : k < sn) (hs : sn ≤ 1000) (h : out.length ≤ k * 100000) (hss : ss.size ≤ 100000) (h1 : k1 = k + 1) : (⟨out.toArray⟩ : ByteArray).size + ss.size ≤ 200000000 ∧ (out ++ ss.data.toList).length ≤ k1 * 100000 ∧ (⟨out.toArray⟩ : ByteArray) ++ ss = ⟨(out ++ ss.data.toList).toArray⟩ := by
  have e : (⟨out.toArray⟩ : ByteArray).size = out.length := List.size_toArray
  have e2 : ss.data.toList.length = ss.size := Array.length_toList
  refine ⟨by rw [e]; omega, by rw [List.length_append, e2]; omega, ?_⟩
  apply ba_ext; rw [ByteArray.data_append]; simp

set_option maxHeartbeats 4000000 in
set_option maxRecDepth 100000 in
theorem rrun_cells (sa : Option Addr) (sc sn : Nat) (vs : List SV) (xs : List Ch.St) (k0 : Nat) (cwant : Int) (cseen : ByteArray) (cwait pat : Int) (w : World) (RR : Ch.Co × List UInt8) (hrow : Rg.Tow stepE w sa vs) (hsts : StsAt w vs xs) (hsc : sn ≤ sc) (hsn : Hid (sn = xs.length)) (hl : sn ≤ 1000) (hk0 : k0 ≤ sn) (hseb : cseen.size ≤ 1000000) (hsd : Hid (∀ x ∈ xs, x.send.size ≤ 100000)) (hwd : Hid (∀ x ∈ xs, ∀ s ∈ x.wants, s.size ≤ 1000000)) (hRR : Hid (Ch.run (sn + 1) ⟨xs, (k0 : Int), cwant, cseen.data.toList, cwait, pat, false, false⟩ [] = RR)) :
    Calls Tryd.prog 25 #[.agg #[.slice sa sn sc, .int .i64 (k0 : Int), .int .i64 cwant, .string cseen, .int .i64 cwait, .int .i64 pat, .bool false, .bool false]] w fun e w' => GPost w RR e w' := by
  have hG0 : Hid (GAt w w.heap.size (w.heap.size + 1) sa vs xs [.slice sa sn sc, .int .i64 (k0 : Int), .int .i64 cwant, .string cseen, .int .i64 cwait, .int .i64 pat, .bool false, .bool false] (.slice none 0 0) [] ((w.alloc (.cells #[.slice sa sn sc, .int .i64 (k0 : Int), .int .i64 cwant, .string cseen, .int .i64 cwait, .int .i64 pat, .bool false, .bool false] 31)).alloc (.cells #[.slice none 0 0, .int .i64 0, .int .i64 0, .string ⟨#[]⟩, .int .i64 0, .int .i64 0, .bool false, .bool false] 31))) := ⟨Rg.al2 _ _ _, (Rg.Bk.new rfl).old _, Rg.Bk.new (by simp), hrow.below (Rg.al2 _ _ _), hsts.below (Rg.al2 _ _ _), BOwn.nil, ⟨Nat.le_refl _, Nat.le_succ _, by omega⟩⟩
  clear hrow hsts
  go_enter Tryd.func25, Tryd.ntmps25
  go_upto_region 1 with fail
  generalize World.alloc _ _ = w1 at *
  obtain ⟨B, hB⟩ : ∃ B, B = w.heap.size := ⟨_, rfl⟩
  obtain ⟨R, hR⟩ : ∃ R, R = w.heap.size + 1 := ⟨_, rfl⟩
  rw [← hR, ← hB] at hG0
  rw [← hR]
  rw [← hB]
  clear hB hR
  go_wp2
  go_loopw [4] (fun va wr => ∃ (n : Nat) (out : List UInt8) (k : Nat) (cwant : Int) (cseen : ByteArray) (cwait : Int), va = .string ⟨out.toArray⟩ ∧ Hid (GAt w B R sa vs xs [.slice sa sn sc, .int .i64 (k : Int), .int .i64 cwant, .string cseen, .int .i64 cwait, .int .i64 pat, .bool false, .bool false] (.slice none 0 0) [] wr) ∧ Hid (Ch.run n ⟨xs, (k : Int), cwant, cseen.data.toList, cwait, pat, false, false⟩ out = RR) ∧ sn + 1 ≤ k + n ∧ k ≤ sn ∧ out.length ≤ k * 100000 ∧ cseen.size ≤ 1000000) (fun _ wr => ((sn : Int) + 1 - cellInt wr B 1).toNat)
  case atStart => exact ⟨sn + 1, [], k0, cwant, cseen, cwait, rfl, hG0, hRR, by omega, hk0, Nat.zero_le _, hseb⟩
  case round =>
    clear hG0 hRR hseb hk0
    obtain ⟨n, out, k, cwant, cseen, cwait, rfl, hGh, hRun, hn1, hks, hol, hseb⟩ := hrel
    obtain ⟨n, rfl⟩ : ∃ m, n = m + 1 := ⟨n - 1, by omega⟩
    have hG := hGh.out
    have hRn := hRun.out
    simp only [Ch.run] at hRn
    clear hRun hGh
    have a0 : wr.cell? ⟨B, 0, none⟩ = some (.slice sa sn sc) := hG.chat.cell 0
    have a1 : wr.cell? ⟨B, 1, none⟩ = some (.int .i64 (k : Int)) := hG.chat.cell 1
    have a6 : wr.cell? ⟨B, 6, none⟩ = some (.bool false) := hG.chat.cell 6
    by_cases hk : k < sn
    case neg =>
      rw [if_neg (by rw [← hsn.out]; omega)] at hRn
      have d0 : decide ((sn : Int) ≤ (k : Int)) = true := by simp only [decide_eq_true_eq]; omega
      have hk2 : sn ≤ k := by omega
      have af := hG.chat.thaw
      have hG5 : Hid (GAt w B R sa vs xs [.slice sa sn sc, .int .i64 (k : Int), .int .i64 cwant, .string cseen, .int .i64 cwait, .int .i64 pat, .bool true, .bool false] (.slice none 0 0) [] (wr.setCell ⟨B, 6, none⟩ (.bool true))) := hG.store 6 (.bool true)
      replace hRn := Rg.hid hRn
      clear hG hk
      go_upto_region 16 with fail
      clear a0 a1 a6 af d0
      generalize World.setCell _ _ _ = w5 at *
      have hG := hG5.out
      clear hG5
      have hcs2 : Value.agg #[.slice sa xs.length sc, .int .i64 (k : Int), .int .i64 cwant, .string cseen, .int .i64 cwait, .int .i64 pat, .bool true, .bool false] = .agg (CC sa xs.length sc k cwant ⟨cseen.data.toList.toArray⟩ cwait pat true false).toArray := by first | rfl | (rw [← hE2.out]; rfl)
      obtain ⟨kE, oE⟩ := ret8 hG.res rfl (.slice sa sn sc) (.int .i64 (k : Int)) (.int .i64 cwant) (.string cseen) (.int .i64 cwait) (.int .i64 pat) (.bool true) (.bool false)
      have post : Hid (GPost w RR (.returned (.tuple #[.agg #[.slice sa sn sc, .int .i64 (k : Int), .int .i64 cwant, .string cseen, .int .i64 cwait, .int .i64 pat, .bool true, .bool false], .string ⟨out.toArray⟩])) _) := ⟨_, by rw [← hRn.out], ⟨sa, sc, vs, by rw [← hRn.out, hsn.out]; exact hcs2, hG.row.only hG.res chat_step oE, by rw [← hRn.out]; exact hG.sts.only hG.res chat_str oE, by rw [← hRn.out]; show xs.length ≤ sc; rw [← hsn.out]; exact hsc⟩, hG.bel.trans (oE.bel hG.low.2.1)⟩
      have z0 : w5.cell? ⟨B, 0, none⟩ = some (.slice sa sn sc) := hG.chat.cell 0
      have z1 : w5.cell? ⟨B, 1, none⟩ = some (.int .i64 (k : Int)) := hG.chat.cell 1
      have z2 : w5.cell? ⟨B, 2, none⟩ = some (.int .i64 cwant) := hG.chat.cell 2
      have z3 : w5.cell? ⟨B, 3, none⟩ = some (.string cseen) := hG.chat.cell 3
      have z4 : w5.cell? ⟨B, 4, none⟩ = some (.int .i64 cwait) := hG.chat.cell 4
      have z5 : w5.cell? ⟨B, 5, none⟩ = some (.int .i64 pat) := hG.chat.cell 5
      have z6 : w5.cell? ⟨B, 6, none⟩ = some (.bool true) := hG.chat.cell 6
      have z7 : w5.cell? ⟨B, 7, none⟩ = some (.bool false) := hG.chat.cell 7
      have r0 : w5.cell? ⟨R, 0, none⟩ = some (.slice none 0 0) := hG.res.cell 0
      have r1 : w5.cell? ⟨R, 1, none⟩ = some (.int .i64 0) := hG.res.cell 1
      have r2 : w5.cell? ⟨R, 2, none⟩ = some (.int .i64 0) := hG.res.cell 2
      have r3 : w5.cell? ⟨R, 3, none⟩ = some (.string ⟨#[]⟩) := hG.res.cell 3
      have r4 : w5.cell? ⟨R, 4, none⟩ = some (.int .i64 0) := hG.res.cell 4
      have r5 : w5.cell? ⟨R, 5, none⟩ = some (.int .i64 0) := hG.res.cell 5
      have r6 : w5.cell? ⟨R, 6, none⟩ = some (.bool false) := hG.res.cell 6
      have r7 : w5.cell? ⟨R, 7, none⟩ = some (.bool false) := hG.res.cell 7
      have rf := hG.res.thaw
      have hBR := hG.low.2.2
      replace kE := Rg.hid kE
      clear oE hG hcs2
      go_wp2
      replace kE := kE.out
      replace post := post.out
      generalize World.setCell _ _ _ = WE at *
      obtain ⟨v9, h91, h92, h93⟩ := post
      exact bodyPost_ret (v := .tuple #[.agg #[.slice sa sn sc, .int .i64 (k : Int), .int .i64 cwant, .string cseen, .int .i64 cwait, .int .i64 pat, .bool true, .bool false], .string ⟨out.toArray⟩]) (by simp [results, Tryd.results25, go_sem, kE.cell]) rfl ⟨v9, h91, h92, h93⟩
    case pos =>
      have hkx : k < xs.length := by rw [← hsn.out]; exact hk
      have hkv : k < vs.length := by rw [hG.sts.len]; exact hkx
      rw [if_pos (by rw [← hsn.out]; omega)] at hRn
      have hsdk := hsd.out xs[k] (List.getElem_mem hkx)
      have hwdk := hwd.out xs[k] (List.getElem_mem hkx)
      have hat : ∀ q : Int, Ch.at_ ⟨xs, (k : Int), q, cseen.data.toList, cwait, pat, false, false⟩ = xs[k] := fun q => by
        unfold Ch.at_
        rw [Int.toNat_natCast, List.getD_eq_getElem?_getD, List.getElem?_eq_getElem hkx]; rfl
      have hwn : Hid (∀ m : Nat, (hm : m < xs[k].wants.length) → Ch.wanted ⟨xs, (k : Int), (m : Int), cseen.data.toList, cwait, pat, false, false⟩ = xs[k].wants[m]) := fun m hm => by
        unfold Ch.wanted
        rw [hat, Int.toNat_natCast, List.getD_eq_getElem?_getD, List.getElem?_eq_getElem hm]; rfl
      rw [hat] at hRn
      have hstk := hG.sts.get k hkv hkx
      obtain ⟨g, o, hsa, -⟩ := hG.row.place hkv
      subst hsa
      have hel := hG.row.elem hkv
      clear hat
      generalize xs[k] = st at *
      generalize vs[k] = sv at *
      clear hkx hkv
      obtain ⟨ws, ns, sd⟩ := st
      obtain ⟨wa, wn, wcp, na, nn, nc, ss⟩ := sv
      obtain ⟨hn, hws, hwc, hm2, hns2, hmd, hss⟩ := hstk
      dsimp only at hn hws hwc hm2 hns2 hmd hss hwn hRn hsdk hwdk
      subst hss
      replace hn := Rg.hid hn
      have e0 : wr.cell? ⟨g, o + k * 3, none⟩ = some (.slice wa wn wcp) := hel 0 _ rfl
      have e1 : wr.cell? ⟨g, o + k * 3 + 1, none⟩ = some (.slice na nn nc) := hel 1 _ rfl
      have e2 : wr.cell? ⟨g, o + k * 3 + 2, none⟩ = some (.string ss) := hel 2 _ rfl
      clear hel hm2 hns2 hmd
      have hci : Hid (cellInt wr B 1 = (k : Int)) := by show _ = _; unfold cellInt; rw [a1]
      have hz0 : (0 : Int) ≤ (k : Int) := by omega
      have hz1 : (k : Int) < (sn : Int) := by omega
      have d0 : decide ((sn : Int) ≤ (k : Int)) = false := by simp only [decide_eq_false_iff_not]; omega
      have hG4 : Hid (GAt w B R (some ⟨g, o, none⟩) vs xs [.slice (some ⟨g, o, none⟩) sn sc, .int .i64 (k : Int), .int .i64 cwant, .string cseen, .int .i64 cwait, .int .i64 pat, .bool false, .bool false] (.slice none 0 0) [] (wr.alloc (.cells #[.slice wa wn wcp, .slice na nn nc, .string ss] 43))) := hG.below (Rg.al1 _ _)
      have kD4 : Hid (Rg.Bk wr.heap.size [.slice wa wn wcp, .slice na nn nc, .string ss] 43 (wr.alloc (.cells #[.slice wa wn wcp, .slice na nn nc, .string ss] 43))) := Rg.Bk.new rfl
      have hw4 := Rg.hid (hws.below (Rg.al1 wr (.cells #[.slice wa wn wcp, .slice na nn nc, .string ss] 43)))
      have hDB : B ≠ wr.heap.size := Nat.ne_of_lt hG.chat.lt
      clear hG hws
      replace hRn := Rg.hid hRn
      replace hwdk := Rg.hid hwdk
      go_upto_region 6 with fail
      clear a0 a1 a6 e0 e1 e2 d0
      generalize World.alloc _ _ = w4 at *
      generalize wr.heap.size = D at *
      have a2 : w4.cell? ⟨B, 2, none⟩ = some (.int .i64 cwant) := hG4.out.chat.cell 2
      have b0 : w4.cell? ⟨D, 0, none⟩ = some (.slice wa wn wcp) := kD4.out.cell 0
      by_cases hq : 0 ≤ cwant ∧ cwant < (wn : Int)
      case neg =>
        have hRn1 := hRn.out
        rw [if_neg (by rw [← hn.out]; exact hq)] at hRn1
        clear hRn
        have hRn := Rg.hid hRn1
        clear hRn1
        by_cases hq0 : cwant < 0
        · clear hq
          have d1 : decide (cwant < 0) = true := by simp only [decide_eq_true_eq]; exact hq0
          have a7 : w4.cell? ⟨B, 7, none⟩ = some (.bool false) := hG4.out.chat.cell 7
          have af := hG4.out.chat.thaw
          have hG5 : Hid (GAt w B R (some ⟨g, o, none⟩) vs xs [.slice (some ⟨g, o, none⟩) sn sc, .int .i64 (k : Int), .int .i64 cwant, .string cseen, .int .i64 cwait, .int .i64 pat, .bool false, .bool true] (.slice none 0 0) [] (w4.setCell ⟨B, 7, none⟩ (.bool true))) := hG4.out.store 7 (.bool true)
          clear hG4 kD4 hw4 hwn
          go_upto_region 8 with fail
          clear a2 b0 a7 af
          generalize World.setCell _ _ _ = w5 at *
          have hG := hG5.out
          clear hG5
          have hcs2 : Value.agg #[.slice (some ⟨g, o, none⟩) xs.length sc, .int .i64 (k : Int), .int .i64 cwant, .string cseen, .int .i64 cwait, .int .i64 pat, .bool false, .bool true] = .agg (CC (some ⟨g, o, none⟩) xs.length sc k cwant ⟨cseen.data.toList.toArray⟩ cwait pat false true).toArray := by first | rfl | (rw [← hE2.out]; rfl)
          obtain ⟨kE, oE⟩ := ret8 hG.res rfl (.slice (some ⟨g, o, none⟩) sn sc) (.int .i64 (k : Int)) (.int .i64 cwant) (.string cseen) (.int .i64 cwait) (.int .i64 pat) (.bool false) (.bool true)
          have post : Hid (GPost w RR (.returned (.tuple #[.agg #[.slice (some ⟨g, o, none⟩) sn sc, .int .i64 (k : Int), .int .i64 cwant, .string cseen, .int .i64 cwait, .int .i64 pat, .bool false, .bool true], .string ⟨out.toArray⟩])) _) := ⟨_, by rw [← hRn.out], ⟨(some ⟨g, o, none⟩), sc, vs, by rw [← hRn.out, hsn.out]; exact hcs2, hG.row.only hG.res chat_step oE, by rw [← hRn.out]; exact hG.sts.only hG.res chat_str oE, by rw [← hRn.out]; show xs.length ≤ sc; rw [← hsn.out]; exact hsc⟩, hG.bel.trans (oE.bel hG.low.2.1)⟩
          have z0 : w5.cell? ⟨B, 0, none⟩ = some (.slice (some ⟨g, o, none⟩) sn sc) := hG.chat.cell 0
          have z1 : w5.cell? ⟨B, 1, none⟩ = some (.int .i64 (k : Int)) := hG.chat.cell 1
          have z2 : w5.cell? ⟨B, 2, none⟩ = some (.int .i64 cwant) := hG.chat.cell 2
          have z3 : w5.cell? ⟨B, 3, none⟩ = some (.string cseen) := hG.chat.cell 3
          have z4 : w5.cell? ⟨B, 4, none⟩ = some (.int .i64 cwait) := hG.chat.cell 4
          have z5 : w5.cell? ⟨B, 5, none⟩ = some (.int .i64 pat) := hG.chat.cell 5
          have z6 : w5.cell? ⟨B, 6, none⟩ = some (.bool false) := hG.chat.cell 6
          have z7 : w5.cell? ⟨B, 7, none⟩ = some (.bool true) := hG.chat.cell 7
          have r0 : w5.cell? ⟨R, 0, none⟩ = some (.slice none 0 0) := hG.res.cell 0
          have r1 : w5.cell? ⟨R, 1, none⟩ = some (.int .i64 0) := hG.res.cell 1
          have r2 : w5.cell? ⟨R, 2, none⟩ = some (.int .i64 0) := hG.res.cell 2
          have r3 : w5.cell? ⟨R, 3, none⟩ = some (.string ⟨#[]⟩) := hG.res.cell 3
          have r4 : w5.cell? ⟨R, 4, none⟩ = some (.int .i64 0) := hG.res.cell 4
          have r5 : w5.cell? ⟨R, 5, none⟩ = some (.int .i64 0) := hG.res.cell 5
          have r6 : w5.cell? ⟨R, 6, none⟩ = some (.bool false) := hG.res.cell 6
          have r7 : w5.cell? ⟨R, 7, none⟩ = some (.bool false) := hG.res.cell 7
          have rf := hG.res.thaw
          have hBR := hG.low.2.2
          replace kE := Rg.hid kE
          clear oE hG hcs2
          go_wp2
          replace kE := kE.out
          replace post := post.out
          generalize World.setCell _ _ _ = WE at *
          obtain ⟨v9, h91, h92, h93⟩ := post
          exact bodyPost_ret (v := .tuple #[.agg #[.slice (some ⟨g, o, none⟩) sn sc, .int .i64 (k : Int), .int .i64 cwant, .string cseen, .int .i64 cwait, .int .i64 pat, .bool false, .bool true], .string ⟨out.toArray⟩]) (by simp [results, Tryd.results25, go_sem, kE.cell]) rfl ⟨v9, h91, h92, h93⟩
        · have hq1 : (wn : Int) ≤ cwant := by omega
          clear hq
          have d1 : decide (cwant < 0) = false := by simp only [decide_eq_false_iff_not]; exact hq0
          have d2 : decide ((wn : Int) ≤ cwant) = true := by simp only [decide_eq_true_eq]; exact hq1
          have a7 : w4.cell? ⟨B, 7, none⟩ = some (.bool false) := hG4.out.chat.cell 7
          have af := hG4.out.chat.thaw
          have hG5 : Hid (GAt w B R (some ⟨g, o, none⟩) vs xs [.slice (some ⟨g, o, none⟩) sn sc, .int .i64 (k : Int), .int .i64 cwant, .string cseen, .int .i64 cwait, .int .i64 pat, .bool false, .bool true] (.slice none 0 0) [] (w4.setCell ⟨B, 7, none⟩ (.bool true))) := hG4.out.store 7 (.bool true)
          clear hG4 kD4 hw4 hwn
          go_upto_region 8 with fail
          clear a2 b0 a7 af
          generalize World.setCell _ _ _ = w5 at *
          have hG := hG5.out
          clear hG5
          have hcs2 : Value.agg #[.slice (some ⟨g, o, none⟩) xs.length sc, .int .i64 (k : Int), .int .i64 cwant, .string cseen, .int .i64 cwait, .int .i64 pat, .bool false, .bool true] = .agg (CC (some ⟨g, o, none⟩) xs.length sc k cwant ⟨cseen.data.toList.toArray⟩ cwait pat false true).toArray := by first | rfl | (rw [← hE2.out]; rfl)
          obtain ⟨kE, oE⟩ := ret8 hG.res rfl (.slice (some ⟨g, o, none⟩) sn sc) (.int .i64 (k : Int)) (.int .i64 cwant) (.string cseen) (.int .i64 cwait) (.int .i64 pat) (.bool false) (.bool true)
          have post : Hid (GPost w RR (.returned (.tuple #[.agg #[.slice (some ⟨g, o, none⟩) sn sc, .int .i64 (k : Int), .int .i64 cwant, .string cseen, .int .i64 cwait, .int .i64 pat, .bool false, .bool true], .string ⟨out.toArray⟩])) _) := ⟨_, by rw [← hRn.out], ⟨(some ⟨g, o, none⟩), sc, vs, by rw [← hRn.out, hsn.out]; exact hcs2, hG.row.only hG.res chat_step oE, by rw [← hRn.out]; exact hG.sts.only hG.res chat_str oE, by rw [← hRn.out]; show xs.length ≤ sc; rw [← hsn.out]; exact hsc⟩, hG.bel.trans (oE.bel hG.low.2.1)⟩
          have z0 : w5.cell? ⟨B, 0, none⟩ = some (.slice (some ⟨g, o, none⟩) sn sc) := hG.chat.cell 0
          have z1 : w5.cell? ⟨B, 1, none⟩ = some (.int .i64 (k : Int)) := hG.chat.cell 1
          have z2 : w5.cell? ⟨B, 2, none⟩ = some (.int .i64 cwant) := hG.chat.cell 2
          have z3 : w5.cell? ⟨B, 3, none⟩ = some (.string cseen) := hG.chat.cell 3
          have z4 : w5.cell? ⟨B, 4, none⟩ = some (.int .i64 cwait) := hG.chat.cell 4
          have z5 : w5.cell? ⟨B, 5, none⟩ = some (.int .i64 pat) := hG.chat.cell 5
          have z6 : w5.cell? ⟨B, 6, none⟩ = some (.bool false) := hG.chat.cell 6
          have z7 : w5.cell? ⟨B, 7, none⟩ = some (.bool true) := hG.chat.cell 7
          have r0 : w5.cell? ⟨R, 0, none⟩ = some (.slice none 0 0) := hG.res.cell 0
          have r1 : w5.cell? ⟨R, 1, none⟩ = some (.int .i64 0) := hG.res.cell 1
          have r2 : w5.cell? ⟨R, 2, none⟩ = some (.int .i64 0) := hG.res.cell 2
          have r3 : w5.cell? ⟨R, 3, none⟩ = some (.string ⟨#[]⟩) := hG.res.cell 3
          have r4 : w5.cell? ⟨R, 4, none⟩ = some (.int .i64 0) := hG.res.cell 4
          have r5 : w5.cell? ⟨R, 5, none⟩ = some (.int .i64 0) := hG.res.cell 5
          have r6 : w5.cell? ⟨R, 6, none⟩ = some (.bool false) := hG.res.cell 6
          have r7 : w5.cell? ⟨R, 7, none⟩ = some (.bool false) := hG.res.cell 7
          have rf := hG.res.thaw
          have hBR := hG.low.2.2
          replace kE := Rg.hid kE
          clear oE hG hcs2
          go_wp2
          replace kE := kE.out
          replace post := post.out
          generalize World.setCell _ _ _ = WE at *
          obtain ⟨v9, h91, h92, h93⟩ := post
          exact bodyPost_ret (v := .tuple #[.agg #[.slice (some ⟨g, o, none⟩) sn sc, .int .i64 (k : Int), .int .i64 cwant, .string cseen, .int .i64 cwait, .int .i64 pat, .bool false, .bool true], .string ⟨out.toArray⟩]) (by simp [results, Tryd.results25, go_sem, kE.cell]) rfl ⟨v9, h91, h92, h93⟩
      case pos =>
        obtain ⟨m, rfl⟩ : ∃ m : Nat, cwant = (m : Int) := ⟨cwant.toNat, by omega⟩
        have hmw : m < ws.length := by rw [← hn.out]; omega
        have hRn1 := hRn.out
        rw [if_pos (by rw [← hn.out]; exact hq), hwn.out m hmw] at hRn1
        clear hRn
        have d1 : decide ((m : Int) < 0) = false := by simp only [decide_eq_false_iff_not]; omega
        have d2 : decide ((wn : Int) ≤ (m : Int)) = false := by simp only [decide_eq_false_iff_not]; omega
        have hz2 : (0 : Int) ≤ (m : Int) := by omega
        have hz3 : (m : Int) < (wn : Int) := by omega
        have hpw := hwdk.out ws[m] (List.getElem_mem hmw)
        obtain ⟨gw, ow, hwa, -⟩ := hw4.out.place hmw
        subst hwa
        have f1 : w4.cell? ⟨gw, ow + m, none⟩ = some (.string ws[m]) := str_cell hw4.out hmw
        have a3 : w4.cell? ⟨B, 3, none⟩ = some (.string cseen) := hG4.out.chat.cell 3
        have HCu : Hid (∀ W, Below w4.heap.size w4 W → Calls Tryd.prog 44 #[.string cseen, .string ws[m]] W fun e w' => e = .returned (.int .i64 (Lib.index cseen.data.toList ws[m].data.toList)) ∧ Hid (Below w4.heap.size w4 w') ∧ w'.cell? ⟨B, 2, none⟩ = some (.int .i64 (m : Int)) ∧ w'.cell? ⟨B, 3, none⟩ = some (.string cseen) ∧ w'.cell? ⟨D, 0, none⟩ = some (.slice (some ⟨gw, ow, none⟩) wn wcp) ∧ w'.cell? ⟨gw, ow + m, none⟩ = some (.string ws[m])) := fun W hW => by
          refine (rat_any cseen ws[m] W (by omega) hpw).mono fun e w' ⟨h1, h2⟩ => ?_
          have hb := Rg.chain hW h2
          exact ⟨h1, hb, (hG4.out.below hb).chat.cell 2, (hG4.out.below hb).chat.cell 3, (kD4.out.below hb kD4.out.lt).cell 0, str_cell (hw4.out.below hb) hmw⟩
        have hw4m : Hid (∀ W, Below w4.heap.size w4 W → W.cell? ⟨gw, ow + m, none⟩ = some (.string ws[m])) := fun W hW => str_cell (hw4.out.below hW) hmw
        have hroom := Lib.index_room cseen.data.toList ws[m].data.toList
        have hlow : -1 ≤ Lib.index cseen.data.toList ws[m].data.toList := by
          rcases Lib.index_spec cseen.data.toList ws[m].data.toList with ⟨e, _⟩ | ⟨i, e, _⟩ <;> omega
        unfold Lib.cut at hRn1
        rw [Array.length_toList, Array.length_toList] at hroom
        generalize ws[m] = pw at *
        clear hwn hmw hq hw4
        generalize Lib.index cseen.data.toList pw.data.toList = I at *
        replace hRn1 := Rg.hid hRn1
        go_upto_region 9 with fail
        clear d1 d2
        go_cut [6] (fun s6 wx => s6 = .int .i64 I ∧ Hid (Below w4.heap.size w4 wx))
        case first =>
          clear hRn1 hG4 kD4 hw4m hol
          go_region_held3 (fun w' => w'.cell? ⟨B, 2, none⟩ = some (.int .i64 (m : Int)) ∧ w'.cell? ⟨B, 3, none⟩ = some (.string cseen) ∧ w'.cell? ⟨D, 0, none⟩ = some (.slice (some ⟨gw, ow, none⟩) wn wcp) ∧ w'.cell? ⟨gw, ow + m, none⟩ = some (.string pw)) (go_keep) (first
            | (go_at_call 44; refine (HCu.out _ ?_).mono ?_; (first | exact Below.refl _ _ | exact (Below.refl _ _).drew); rintro e w9 ⟨rfl, b9, x2, x3, x0, xf⟩))
          all_goals (go_wp2_with fail; go_meet; exact ⟨rfl, b9⟩)
        case rest =>
          obtain ⟨rfl, b7⟩ := hcut
          obtain ⟨w7, hw7⟩ : ∃ w7, w7 = wc := ⟨_, rfl⟩
          subst hw7
          have hG7 := hG4.out.below b7.out
          have kD7 := kD4.out.below b7.out kD4.out.lt
          have f7 := hw4m.out _ b7.out
          clear hG4 kD4 hw4m b7 HCu a2 b0 a3 f1
          have a3 : w7.cell? ⟨B, 3, none⟩ = some (.string cseen) := hG7.chat.cell 3
          have a6 : w7.cell? ⟨B, 6, none⟩ = some (.bool false) := hG7.chat.cell 6
          have a2 : w7.cell? ⟨B, 2, none⟩ = some (.int .i64 (m : Int)) := hG7.chat.cell 2
          have b0 : w7.cell? ⟨D, 0, none⟩ = some (.slice (some ⟨gw, ow, none⟩) wn wcp) := kD7.cell 0
          have af := hG7.chat.thaw
          by_cases hI : 0 ≤ I
          case neg =>
            have d3 : decide (I < 0) = true := by simp only [decide_eq_true_eq]; omega
            have hI2 : I < 0 := by omega
            have hRn3 := hRn1.out
            rw [if_neg hI] at hRn3
            rw [if_neg (by simp)] at hRn3
            have hRn2 := Rg.hid hRn3
            clear hRn1 hRn3 kD7 hI hroom a2 b0 f7
            by_cases h300 : 300 < cseen.size
            · have d4 : decide ((300 : Int) < (cseen.size : Int)) = true := by simp only [decide_eq_true_eq]; omega
              obtain ⟨K, hK⟩ : ∃ K, K = cseen.size - 300 := ⟨_, rfl⟩
              have hw1 : IntKind.i64.wrap ((cseen.size : Int) - 300) = (K : Int) := by rw [IntKind.wrap_i64]; omega
              have hw2 : wrap64 ((cseen.size : Int) - 300) = (K : Int) := by unfold wrap64; omega
              have hz4 : (0 : Int) ≤ (K : Int) := by omega
              have hz5 : (K : Int) ≤ (cseen.size : Int) := by omega
              obtain ⟨E, hE⟩ : ∃ E, cseen.extract K cseen.size = E := ⟨_, rfl⟩
              have hE2 : Hid (E = ⟨(cseen.data.toList.drop (cseen.data.toList.length - 300)).toArray⟩) := by
                show _ = _
                apply ba_ext
                rw [← hE, ba_ex2, hK]
                rfl
              have hG5 : Hid (GAt w B R (some ⟨g, o, none⟩) vs xs [.slice (some ⟨g, o, none⟩) sn sc, .int .i64 (k : Int), .int .i64 (m : Int), .string E, .int .i64 cwait, .int .i64 pat, .bool false, .bool false] (.slice none 0 0) [] (w7.setCell ⟨B, 3, none⟩ (.string E))) := hG7.store 3 (.string E)
              clear hG7 hK
              go_upto_region 18 with fail
              clear a3 a6 af hw1 hw2 hz4 hz5 hE d3 d4
              generalize World.setCell _ _ _ = w5 at *
              have hG := hG5.out
              clear hG5
              skip
              have hcs2 : Value.agg #[.slice (some ⟨g, o, none⟩) xs.length sc, .int .i64 (k : Int), .int .i64 (m : Int), .string E, .int .i64 cwait, .int .i64 pat, .bool false, .bool false] = .agg (CC (some ⟨g, o, none⟩) xs.length sc k m ⟨(cseen.data.toList.drop (cseen.data.toList.length - 300)).toArray⟩ cwait pat false false).toArray := by first | rfl | (rw [← hE2.out]; rfl)
              obtain ⟨kE, oE⟩ := ret8 hG.res rfl (.slice (some ⟨g, o, none⟩) sn sc) (.int .i64 (k : Int)) (.int .i64 (m : Int)) (.string E) (.int .i64 cwait) (.int .i64 pat) (.bool false) (.bool false)
              have post : Hid (GPost w RR (.returned (.tuple #[.agg #[.slice (some ⟨g, o, none⟩) sn sc, .int .i64 (k : Int), .int .i64 (m : Int), .string E, .int .i64 cwait, .int .i64 pat, .bool false, .bool false], .string ⟨out.toArray⟩])) _) := ⟨_, by rw [← hRn2.out], ⟨(some ⟨g, o, none⟩), sc, vs, by rw [← hRn2.out, hsn.out]; exact hcs2, hG.row.only hG.res chat_step oE, by rw [← hRn2.out]; exact hG.sts.only hG.res chat_str oE, by rw [← hRn2.out]; show xs.length ≤ sc; rw [← hsn.out]; exact hsc⟩, hG.bel.trans (oE.bel hG.low.2.1)⟩
              have z0 : w5.cell? ⟨B, 0, none⟩ = some (.slice (some ⟨g, o, none⟩) sn sc) := hG.chat.cell 0
              have z1 : w5.cell? ⟨B, 1, none⟩ = some (.int .i64 (k : Int)) := hG.chat.cell 1
              have z2 : w5.cell? ⟨B, 2, none⟩ = some (.int .i64 (m : Int)) := hG.chat.cell 2
              have z3 : w5.cell? ⟨B, 3, none⟩ = some (.string E) := hG.chat.cell 3
              have z4 : w5.cell? ⟨B, 4, none⟩ = some (.int .i64 cwait) := hG.chat.cell 4
              have z5 : w5.cell? ⟨B, 5, none⟩ = some (.int .i64 pat) := hG.chat.cell 5
              have z6 : w5.cell? ⟨B, 6, none⟩ = some (.bool false) := hG.chat.cell 6
              have z7 : w5.cell? ⟨B, 7, none⟩ = some (.bool false) := hG.chat.cell 7
              have r0 : w5.cell? ⟨R, 0, none⟩ = some (.slice none 0 0) := hG.res.cell 0
              have r1 : w5.cell? ⟨R, 1, none⟩ = some (.int .i64 0) := hG.res.cell 1
              have r2 : w5.cell? ⟨R, 2, none⟩ = some (.int .i64 0) := hG.res.cell 2
              have r3 : w5.cell? ⟨R, 3, none⟩ = some (.string ⟨#[]⟩) := hG.res.cell 3
              have r4 : w5.cell? ⟨R, 4, none⟩ = some (.int .i64 0) := hG.res.cell 4
              have r5 : w5.cell? ⟨R, 5, none⟩ = some (.int .i64 0) := hG.res.cell 5
              have r6 : w5.cell? ⟨R, 6, none⟩ = some (.bool false) := hG.res.cell 6
              have r7 : w5.cell? ⟨R, 7, none⟩ = some (.bool false) := hG.res.cell 7
              have rf := hG.res.thaw
              have hBR := hG.low.2.2
              replace kE := Rg.hid kE
              clear oE hG hcs2
              go_wp2
              replace kE := kE.out
              replace post := post.out
              generalize World.setCell _ _ _ = WE at *
              obtain ⟨v9, h91, h92, h93⟩ := post
              exact bodyPost_ret (v := .tuple #[.agg #[.slice (some ⟨g, o, none⟩) sn sc, .int .i64 (k : Int), .int .i64 (m : Int), .string E, .int .i64 cwait, .int .i64 pat, .bool false, .bool false], .string ⟨out.toArray⟩]) (by simp [results, Tryd.results25, go_sem, kE.cell]) rfl ⟨v9, h91, h92, h93⟩
            · have d4 : decide ((300 : Int) < (cseen.size : Int)) = false := by simp only [decide_eq_false_iff_not]; omega
              obtain ⟨E, hE⟩ : ∃ E, E = cseen := ⟨_, rfl⟩
              have hE2 : Hid (E = ⟨(cseen.data.toList.drop (cseen.data.toList.length - 300)).toArray⟩) := by
                show _ = _
                apply ba_ext
                have : cseen.data.toList.length = cseen.size := rfl
                rw [hE, show cseen.data.toList.length - 300 = 0 by omega]
                rfl
              go_upto_region 18 with fail
              have hG := hG7
              clear hG7 a3 a6 af d3 d4
              rw [← hE] at hG
              replace hE := Rg.hid hE
              obtain ⟨w5, hw5⟩ : ∃ w5, w5 = w7 := ⟨_, rfl⟩
              subst hw5
              skip
              have hcs2 : Value.agg #[.slice (some ⟨g, o, none⟩) xs.length sc, .int .i64 (k : Int), .int .i64 (m : Int), .string E, .int .i64 cwait, .int .i64 pat, .bool false, .bool false] = .agg (CC (some ⟨g, o, none⟩) xs.length sc k m ⟨(cseen.data.toList.drop (cseen.data.toList.length - 300)).toArray⟩ cwait pat false false).toArray := by first | rfl | (rw [← hE2.out]; rfl)
              obtain ⟨kE, oE⟩ := ret8 hG.res rfl (.slice (some ⟨g, o, none⟩) sn sc) (.int .i64 (k : Int)) (.int .i64 (m : Int)) (.string E) (.int .i64 cwait) (.int .i64 pat) (.bool false) (.bool false)
              have post : Hid (GPost w RR (.returned (.tuple #[.agg #[.slice (some ⟨g, o, none⟩) sn sc, .int .i64 (k : Int), .int .i64 (m : Int), .string E, .int .i64 cwait, .int .i64 pat, .bool false, .bool false], .string ⟨out.toArray⟩])) _) := ⟨_, by rw [← hRn2.out], ⟨(some ⟨g, o, none⟩), sc, vs, by rw [← hRn2.out, hsn.out]; exact hcs2, hG.row.only hG.res chat_step oE, by rw [← hRn2.out]; exact hG.sts.only hG.res chat_str oE, by rw [← hRn2.out]; show xs.length ≤ sc; rw [← hsn.out]; exact hsc⟩, hG.bel.trans (oE.bel hG.low.2.1)⟩
              have z0 : w5.cell? ⟨B, 0, none⟩ = some (.slice (some ⟨g, o, none⟩) sn sc) := hG.chat.cell 0
              have z1 : w5.cell? ⟨B, 1, none⟩ = some (.int .i64 (k : Int)) := hG.chat.cell 1
              have z2 : w5.cell? ⟨B, 2, none⟩ = some (.int .i64 (m : Int)) := hG.chat.cell 2
              have z3 : w5.cell? ⟨B, 3, none⟩ = some (.string E) := hG.chat.cell 3
              have z4 : w5.cell? ⟨B, 4, none⟩ = some (.int .i64 cwait) := hG.chat.cell 4
              have z5 : w5.cell? ⟨B, 5, none⟩ = some (.int .i64 pat) := hG.chat.cell 5
              have z6 : w5.cell? ⟨B, 6, none⟩ = some (.bool false) := hG.chat.cell 6
              have z7 : w5.cell? ⟨B, 7, none⟩ = some (.bool false) := hG.chat.cell 7
              have r0 : w5.cell? ⟨R, 0, none⟩ = some (.slice none 0 0) := hG.res.cell 0
              have r1 : w5.cell? ⟨R, 1, none⟩ = some (.int .i64 0) := hG.res.cell 1
              have r2 : w5.cell? ⟨R, 2, none⟩ = some (.int .i64 0) := hG.res.cell 2
              have r3 : w5.cell? ⟨R, 3, none⟩ = some (.string ⟨#[]⟩) := hG.res.cell 3
              have r4 : w5.cell? ⟨R, 4, none⟩ = some (.int .i64 0) := hG.res.cell 4
              have r5 : w5.cell? ⟨R, 5, none⟩ = some (.int .i64 0) := hG.res.cell 5
              have r6 : w5.cell? ⟨R, 6, none⟩ = some (.bool false) := hG.res.cell 6
              have r7 : w5.cell? ⟨R, 7, none⟩ = some (.bool false) := hG.res.cell 7
              have rf := hG.res.thaw
              have hBR := hG.low.2.2
              replace kE := Rg.hid kE
              clear oE hG hcs2
              go_wp2
              replace kE := kE.out
              replace post := post.out
              generalize World.setCell _ _ _ = WE at *
              obtain ⟨v9, h91, h92, h93⟩ := post
              exact bodyPost_ret (v := .tuple #[.agg #[.slice (some ⟨g, o, none⟩) sn sc, .int .i64 (k : Int), .int .i64 (m : Int), .string E, .int .i64 cwait, .int .i64 pat, .bool false, .bool false], .string ⟨out.toArray⟩]) (by simp [results, Tryd.results25, go_sem, kE.cell]) rfl ⟨v9, h91, h92, h93⟩
          case pos =>
            obtain ⟨i, rfl⟩ : ∃ i : Nat, I = (i : Int) := ⟨I.toNat, by omega⟩
            have hr2 : i + pw.size ≤ cseen.size := by have h1 := hroom hI; have h2 : pw.data.size = pw.size := rfl; have h3 : cseen.data.size = cseen.size := rfl; omega
            have d3 : decide ((i : Int) < 0) = false := by simp only [decide_eq_false_iff_not]; omega
            have hRn3 := hRn1.out
            rw [if_pos hI] at hRn3
            rw [if_pos rfl, Int.toNat_natCast] at hRn3
            clear hRn1 hroom hI
            obtain ⟨P, T1, hw1, hw2, hz4, hz5, hT1, hT2, hT3⟩ := Ch.hit cseen pw i hr2 hseb
            rw [hT2] at hRn3
            obtain ⟨k1, hk1, hwk, hwk2, hn2, hks1, hmea, hk1e⟩ := Ch.next k sn n hk hl hn1
            rw [hk1] at hRn3
            have hRn2 := Rg.hid hRn3
            obtain ⟨hos, hol2, hcat0⟩ := Ch.outs out ss k k1 sn hk hl hol hsdk hk1e
            have hcat := Rg.hid hcat0
            replace hmea := Rg.hid hmea
            replace hol2 := Rg.hid hol2
            clear hRn3 hT2 hcat0 hk1 hk1e hr2
            have hG8 : Hid (GAt w B R (some ⟨g, o, none⟩) vs xs [.slice (some ⟨g, o, none⟩) sn sc, .int .i64 (k : Int), .int .i64 (m : Int), .string T1, .int .i64 cwait, .int .i64 pat, .bool false, .bool false] (.slice none 0 0) [] (w7.setCell ⟨B, 3, none⟩ (.string T1))) := hG7.store 3 (.string T1)
            have kD8 : Hid (Rg.Bk D [.slice (some ⟨gw, ow, none⟩) wn wcp, .slice na nn nc, .string ss] 43 (w7.setCell ⟨B, 3, none⟩ (.string T1))) := kD7.same ((Rg.Only.setCell w7 B 3 (.string T1)).block D (Ne.symm hDB))
            clear hG7 kD7
            go_upto_region 11 with fail
            clear a6 d3
            go_cut [60] (fun s60 wx => s60 = .pointer (some ⟨B, 3, none⟩) ∧ Hid (GAt w B R (some ⟨g, o, none⟩) vs xs [.slice (some ⟨g, o, none⟩) sn sc, .int .i64 (k : Int), .int .i64 (m : Int), .string T1, .int .i64 cwait, .int .i64 pat, .bool false, .bool false] (.slice none 0 0) [] wx) ∧ Hid (Rg.Bk D [.slice (some ⟨gw, ow, none⟩) wn wcp, .slice na nn nc, .string ss] 43 wx))
            case first =>
              clear hRn2 hol hcat hwk hwk2
              go_region
              all_goals go_wp2_with fail
              all_goals go_meet
              all_goals first
                | exact ⟨rfl, hG8, kD8⟩
                | exact ⟨rfl, hG8.out.below ((Below.refl _ _).drew), kD8.out.below ((Below.refl _ _).drew) kD8.out.lt⟩
            case rest =>
              obtain ⟨rfl, hG9, kD9⟩ := hcut
              obtain ⟨w9, hw9⟩ : ∃ w9, w9 = wc := ⟨_, rfl⟩
              subst hw9
              clear hG8 kD8 a2 a3 b0 f7 af hw1 hw2 hz4 hz5 hT1
              have b2 : w9.cell? ⟨D, 2, none⟩ = some (.string ss) := kD9.out.cell 2
              have a1 : w9.cell? ⟨B, 1, none⟩ = some (.int .i64 (k : Int)) := hG9.out.chat.cell 1
              have a2 : w9.cell? ⟨B, 2, none⟩ = some (.int .i64 (m : Int)) := hG9.out.chat.cell 2
              have a4 : w9.cell? ⟨B, 4, none⟩ = some (.int .i64 cwait) := hG9.out.chat.cell 4
              have af := hG9.out.chat.thaw
              have hG10 : Hid (GAt w B R (some ⟨g, o, none⟩) vs xs [.slice (some ⟨g, o, none⟩) sn sc, .int .i64 (k1 : Int), .int .i64 0, .string T1, .int .i64 0, .int .i64 pat, .bool false, .bool false] (.slice none 0 0) [] (((w9.setCell ⟨B, 1, none⟩ (.int .i64 (k1 : Int))).setCell ⟨B, 2, none⟩ (.int .i64 0)).setCell ⟨B, 4, none⟩ (.int .i64 0))) := ((hG9.out.store 1 (.int .i64 (k1 : Int))).store 2 (.int .i64 0)).store 4 (.int .i64 0)
              clear hG9 kD9
              go_wp2
              go_roundw
              case rel => exact ⟨n, out ++ ss.data.toList, k1, 0, T1, 0, congrArg Value.string hcat.out, hG10, hRn2, hn2, hks1, hol2.out, hT3⟩
              case measure =>
                have hci2 : cellInt (((w9.setCell ⟨B, 1, none⟩ (.int .i64 (k1 : Int))).setCell ⟨B, 2, none⟩ (.int .i64 0)).setCell ⟨B, 4, none⟩ (.int .i64 0)) B 1 = (k1 : Int) := by unfold cellInt; rw [hG10.out.chat.cell 1]; rfl
                rw [hci2, hci.out]
                exact hmea.out
/-- the document's run of a chat that is under way -/
theorem rrun_any (v0 : Value) (c0 : Ch.Co) (k0 : Nat) (w : World) (hA : CAt w v0 c0) (hl : c0.steps.length ≤ 1000) (hk : c0.step = (k0 : Int)) (hk0 : k0 ≤ c0.steps.length) (hse : c0.seen.length ≤ 1000000) (hsd : ∀ x ∈ c0.steps, x.send.size ≤ 100000) (hwd : ∀ x ∈ c0.steps, ∀ s ∈ x.wants, s.size ≤ 1000000) (ho : c0.over = false) (hf : c0.failed = false) :
    Calls Tryd.prog 25 #[v0] w fun e w' => GPost w (Ch.goOn c0) e w' := by
  obtain ⟨sa, sc, vs, rfl, hrow, hsts, hsc⟩ := hA
  obtain ⟨xs, cstep, cwant, cseenl, cwait, cpat, cover, cfailed⟩ := c0
  dsimp only at *
  subst hk ho hf
  exact rrun_cells sa sc xs.length vs xs k0 cwant ⟨cseenl.toArray⟩ cwait cpat w _ hrow hsts hsc (Rg.hid rfl) hl hk0 (by show cseenl.toArray.size ≤ _; rw [List.size_toArray]; exact hse) (Rg.hid hsd) (Rg.hid hwd) (Rg.hid rfl)
end Go.Proofs.YteepfifglafjmaaDoor
