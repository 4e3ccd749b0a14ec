/-
  Layer 8: the document's Begin and Feed.
-/
import Derived.Test.YteepfifglafjmaaDoorCq3
import Derived.Test.YteepfifglafjmaaDoorMathR8
namespace Go.Proofs.YteepfifglafjmaaDoor
open Go.RowKit

theorem minmax (p : Int) : max 1 (min p 1000) = min (max p 1) 1000 := by omega

set_option maxHeartbeats 2000000 in
set_option maxRecDepth 100000 in
theorem rbegin_in (a : Option Addr) (c : Nat) (vs : List SV) (xs : List Ch.St) (p : Int) (w : World) (hl : xs.length ≤ 1000) (hwl : ∀ x ∈ xs, x.wants.length ≤ 1000000 ∧ x.nudge.length ≤ 1000000) (hsd : ∀ x ∈ xs, x.send.size ≤ 100000) (hwd : ∀ x ∈ xs, ∀ s ∈ x.wants, s.size ≤ 1000000) (hr : Row0 stepE w a vs) (hx : ISts w vs xs) :
    Calls Tryd.prog 12 #[.slice a xs.length c, .int .i64 p] w fun e w' => GPost w (Ch.begin_ xs p) e w' := by
  obtain ⟨M1, hM1⟩ : ∃ M1 : Int, min p 1000 = M1 := ⟨_, rfl⟩
  obtain ⟨M2, hM2⟩ : ∃ M2 : Int, max 1 M1 = M2 := ⟨_, rfl⟩
  have HCp : Hid (∀ W, Below w.heap.size w W → Calls Tryd.prog 26 #[.agg #[.slice a xs.length c, .int .i64 0, .int .i64 0, .string ⟨#[]⟩, .int .i64 0, .int .i64 M2, .bool false, .bool false]] W fun e w' => ∃ a7 c7 vs7, e = .returned (.agg #[.slice a7 xs.length c7, .int .i64 0, .int .i64 0, .string ⟨#[]⟩, .int .i64 0, .int .i64 M2, .bool false, .bool false]) ∧ Hid (Rg.Tow stepE w' a7 vs7) ∧ Hid (StsAt w' vs7 xs) ∧ xs.length ≤ c7 ∧ Below W.heap.size W w') := fun W hW => rown_any a xs.length c vs xs 0 0 ⟨#[]⟩ 0 M2 false false W rfl hl hwl (hr.below hW) (hx.below hW).ls
  have HG : Hid (∀ W a7 c7 vs7, Below w.heap.size w W → Rg.Tow stepE W a7 vs7 → StsAt W vs7 xs → xs.length ≤ c7 → Calls Tryd.prog 25 #[.agg #[.slice a7 xs.length c7, .int .i64 0, .int .i64 0, .string ⟨#[]⟩, .int .i64 0, .int .i64 M2, .bool false, .bool false]] W fun e w' => GEx W (Ch.begin_ xs p) e w') := fun W a7 c7 vs7 hW h1 h2 h3 => by
    have := rrun_any (.agg #[.slice a7 xs.length c7, .int .i64 0, .int .i64 0, .string ⟨#[]⟩, .int .i64 0, .int .i64 M2, .bool false, .bool false]) ⟨xs, 0, 0, [], 0, M2, false, false⟩ 0 W ⟨a7, c7, vs7, rfl, h1, h2, h3⟩ hl rfl (Nat.zero_le _) (by simp) hsd hwd rfl rfl
    unfold Ch.begin_
    rw [← minmax, hM1, hM2]
    exact this.mono fun e w' q => q.ex
  generalize Ch.begin_ xs p = r at *
  obtain ⟨n, hn⟩ : ∃ n, n = xs.length := ⟨_, rfl⟩
  rw [← hn] at HCp HG ⊢
  unfold GEx at HG
  clear hn hl hwl hsd hr hx hwd
  have kR1 : Hid (Rg.Bk w.heap.size [.slice none 0 0, .int .i64 0, .int .i64 0, .string ⟨#[]⟩, .int .i64 0, .int .i64 0, .bool false, .bool false] 31 (w.alloc (.cells #[.slice none 0 0, .int .i64 0, .int .i64 0, .string ⟨#[]⟩, .int .i64 0, .int .i64 0, .bool false, .bool false] 31))) := Rg.Bk.new rfl
  have hb1 := Rg.hid (Rg.al1 w (.cells #[.slice none 0 0, .int .i64 0, .int .i64 0, .string ⟨#[]⟩, .int .i64 0, .int .i64 0, .bool false, .bool false] 31))
  go_enter Tryd.func12, Tryd.ntmps12
  go_upto_region 1 with fail
  generalize World.alloc _ _ = w1 at *
  obtain ⟨R, hR⟩ : ∃ R, R = w.heap.size := ⟨_, rfl⟩
  rw [← hR] at kR1 ⊢
  have hRw : w.heap.size ≤ R := by omega
  clear hR
  go_wp2_with (first
    | (go_at_call 26; refine (HCp.out _ hb1.out).mono ?_; rintro e w2 ⟨a7, c7, vs7, rfl, hT2, hX2, hc2, b2⟩)
    | (go_at_call 25; refine (HG.out _ _ _ _ (Rg.chain hb1.out b2) hT2.out hX2.out hc2).mono ?_; rintro e w3 ⟨sa', sn', sc', step', want', seen', wait', pat', over', failed', rfl, hA3, b3⟩; have kR3 := (kR1.out.below b2 kR1.out.lt).below b3 (kR1.out.below b2 kR1.out.lt).lt; have hb3 := Rg.hid (Rg.chain (Rg.chain hb1.out b2) b3); have rf := kR3.thaw; have r0 := kR3.cell 0; have r1 := kR3.cell 1; have r2 := kR3.cell 2; have r3 := kR3.cell 3; have r4 := kR3.cell 4; have r5 := kR3.cell 5; have r6 := kR3.cell 6; have r7 := kR3.cell 7; simp only [List.getElem?_cons_zero, List.getElem?_cons_succ] at r0 r1 r2 r3 r4 r5 r6 r7))
  obtain ⟨kE, oE⟩ := ret8 kR3 rfl (.slice sa' sn' sc') (.int .i64 step') (.int .i64 want') (.string seen') (.int .i64 wait') (.int .i64 pat') (.bool over') (.bool failed')
  have hA4 := hA3.only kR3 oE
  have hb4 := hb3.out.trans (oE.bel hRw)
  generalize World.setCell _ _ _ = WE at *
  exact bodyPost_ret (v := .tuple #[.agg #[.slice sa' sn' sc', .int .i64 step', .int .i64 want', .string seen', .int .i64 wait', .int .i64 pat', .bool over', .bool failed'], .string ⟨r.2.toArray⟩]) (by simp [results, Tryd.results12, go_sem, kE.cell]) rfl ⟨_, rfl, hA4, hb4⟩

/-- a chat that is kept -/
theorem gat_cat {w : World} {B R : Nat} {sa : Option Addr} {sc : Nat} {vs : List SV} {c : Ch.Co} {cs : List Value} {v : Value} {out : List UInt8} {W W' : World} (h : GAt w B R sa vs c.steps cs v out W) (oE : Rg.Only R W W') (hle : c.steps.length ≤ sc) (hcs : (CC sa c.steps.length sc c.step c.want ⟨c.seen.toArray⟩ c.wait c.pat c.over c.failed) = cs) : CAt W' (.agg cs.toArray) c :=
  ⟨sa, sc, vs, by rw [← hcs], h.row.only h.res chat_step oE, h.sts.only h.res chat_str oE, hle⟩

set_option maxHeartbeats 4000000 in
set_option maxRecDepth 100000 in
theorem rfeed_done (sa : Option Addr) (sn sc : Nat) (cstep cwant : Int) (cseen : ByteArray) (cwait cpat : Int) (cover cfailed : Bool) (s : ByteArray) (xs : List Ch.St) (w : World) (hsn : Hid (sn = xs.length)) (hdn : (cover || cfailed) = true) (HO : Hid (∀ W, Below w.heap.size w W → Calls Tryd.prog 26 #[.agg #[.slice sa sn sc, .int .i64 cstep, .int .i64 cwant, .string cseen, .int .i64 cwait, .int .i64 cpat, .bool cover, .bool cfailed]] W fun e w' => ∃ a7 c7 vs7, e = .returned (.agg #[.slice a7 sn c7, .int .i64 cstep, .int .i64 cwant, .string cseen, .int .i64 cwait, .int .i64 cpat, .bool cover, .bool cfailed]) ∧ Hid (Rg.Tow stepE w' a7 vs7) ∧ Hid (StsAt w' vs7 xs) ∧ sn ≤ c7 ∧ Below W.heap.size W w')) :
    Calls Tryd.prog 17 #[.agg #[.slice sa sn sc, .int .i64 cstep, .int .i64 cwant, .string cseen, .int .i64 cwait, .int .i64 cpat, .bool cover, .bool cfailed], .string s] w fun e w' => GPost w (⟨xs, cstep, cwant, cseen.data.toList, cwait, cpat, cover, cfailed⟩, []) e w' := by
  have kB1 : Hid (Rg.Bk w.heap.size [.slice sa sn sc, .int .i64 cstep, .int .i64 cwant, .string cseen, .int .i64 cwait, .int .i64 cpat, .bool cover, .bool cfailed] 31 ((w.alloc (.cells #[.slice sa sn sc, .int .i64 cstep, .int .i64 cwant, .string cseen, .int .i64 cwait, .int .i64 cpat, .bool cover, .bool cfailed] 31)).alloc (.cells #[.slice none 0 0, .int .i64 0, .int .i64 0, .string ⟨#[]⟩, .int .i64 0, .int .i64 0, .bool false, .bool false] 31))) := (Rg.Bk.new rfl).old _
  have kR1 : Hid (Rg.Bk (w.heap.size + 1) [.slice none 0 0, .int .i64 0, .int .i64 0, .string ⟨#[]⟩, .int .i64 0, .int .i64 0, .bool false, .bool false] 31 ((w.alloc (.cells #[.slice sa sn sc, .int .i64 cstep, .int .i64 cwant, .string cseen, .int .i64 cwait, .int .i64 cpat, .bool cover, .bool cfailed] 31)).alloc (.cells #[.slice none 0 0, .int .i64 0, .int .i64 0, .string ⟨#[]⟩, .int .i64 0, .int .i64 0, .bool false, .bool false] 31))) := Rg.Bk.new (by simp)
  have hb1 := Rg.hid (Rg.al2 w (.cells #[.slice sa sn sc, .int .i64 cstep, .int .i64 cwant, .string cseen, .int .i64 cwait, .int .i64 cpat, .bool cover, .bool cfailed] 31) (.cells #[.slice none 0 0, .int .i64 0, .int .i64 0, .string ⟨#[]⟩, .int .i64 0, .int .i64 0, .bool false, .bool false] 31))
  go_enter Tryd.func17, Tryd.ntmps17
  go_upto_region 1 with fail
  generalize World.alloc _ _ = w1 at *
  obtain ⟨B, hB⟩ : ∃ B, B = w.heap.size := ⟨_, rfl⟩
  obtain ⟨R, hR⟩ : ∃ R, R = w.heap.size + 1 := ⟨_, rfl⟩
  rw [← hR] at kR1 ⊢
  rw [← hB] at kB1 ⊢
  have hBR : B ≠ R := by omega
  have hBw : w.heap.size ≤ B := by omega
  have hRw : w.heap.size ≤ R := by omega
  clear hB hR
  have z0 : w1.cell? ⟨B, 0, none⟩ = some (.slice sa sn sc) := kB1.out.cell 0
  have z1 : w1.cell? ⟨B, 1, none⟩ = some (.int .i64 cstep) := kB1.out.cell 1
  have z2 : w1.cell? ⟨B, 2, none⟩ = some (.int .i64 cwant) := kB1.out.cell 2
  have z3 : w1.cell? ⟨B, 3, none⟩ = some (.string cseen) := kB1.out.cell 3
  have z4 : w1.cell? ⟨B, 4, none⟩ = some (.int .i64 cwait) := kB1.out.cell 4
  have z5 : w1.cell? ⟨B, 5, none⟩ = some (.int .i64 cpat) := kB1.out.cell 5
  have z6 : w1.cell? ⟨B, 6, none⟩ = some (.bool cover) := kB1.out.cell 6
  have z7 : w1.cell? ⟨B, 7, none⟩ = some (.bool cfailed) := kB1.out.cell 7
  go_upto_region 2 with (go_at_call 26; refine (HO.out _ hb1.out).mono ?_; rintro e w2 ⟨a7, c7, vs7, rfl, hT2, hX2, hc2, b2⟩; have kB2 := kB1.out.below b2 kB1.out.lt; have kR2 := Rg.hid (kR1.out.below b2 kR1.out.lt); have hb2 := Rg.hid (Rg.chain hb1.out b2); have zf := kB2.thaw; have y0 := kB2.cell 0; have y1 := kB2.cell 1; have y2 := kB2.cell 2; have y3 := kB2.cell 3; have y4 := kB2.cell 4; have y5 := kB2.cell 5; have y6 := kB2.cell 6; have y7 := kB2.cell 7; simp only [List.getElem?_cons_zero, List.getElem?_cons_succ] at y0 y1 y2 y3 y4 y5 y6 y7)
  clear z0 z1 z2 z3 z4 z5 z6 z7 zf y0 y1 y2 y3 y4 y5 y6 y7
  obtain ⟨k3, o3⟩ := ret8 kB2 rfl (.slice a7 sn c7) (.int .i64 cstep) (.int .i64 cwant) (.string cseen) (.int .i64 cwait) (.int .i64 cpat) (.bool cover) (.bool cfailed)
  have hG3 : Hid (GAt w B R a7 vs7 xs [.slice a7 sn c7, .int .i64 cstep, .int .i64 cwant, .string cseen, .int .i64 cwait, .int .i64 cpat, .bool cover, .bool cfailed] (.slice none 0 0) [] _) := ⟨hb2.out.trans (o3.bel hBw), k3, kR2.out.same (o3.block R (Ne.symm hBR)), hT2.out.only kB2 chat_step o3, hX2.out.only kB2 chat_str o3, BOwn.nil, hBw, hRw, hBR⟩
  clear kB1 kR1 hb1 k3 o3 kB2 kR2 hb2 hT2 hX2 b2 HO
  generalize World.setCell _ _ _ = w3 at *
  have hd : Hid ((cover || cfailed) = true) := hdn
  clear hdn
  cases cover
  · obtain rfl : cfailed = true := by simpa using hd.out
    have post0 := gat_cat (c := ⟨xs, cstep, cwant, cseen.data.toList, cwait, cpat, false, true⟩) hG3.out (Rg.Only.refl _ _) (by show xs.length ≤ c7; rw [← hsn.out]; exact hc2) (by unfold CC; rw [← hsn.out])
    clear post0
    have z0 : w3.cell? ⟨B, 0, none⟩ = some (.slice a7 sn c7) := hG3.out.chat.cell 0
    have z1 : w3.cell? ⟨B, 1, none⟩ = some (.int .i64 cstep) := hG3.out.chat.cell 1
    have z2 : w3.cell? ⟨B, 2, none⟩ = some (.int .i64 cwant) := hG3.out.chat.cell 2
    have z3 : w3.cell? ⟨B, 3, none⟩ = some (.string cseen) := hG3.out.chat.cell 3
    have z4 : w3.cell? ⟨B, 4, none⟩ = some (.int .i64 cwait) := hG3.out.chat.cell 4
    have z5 : w3.cell? ⟨B, 5, none⟩ = some (.int .i64 cpat) := hG3.out.chat.cell 5
    have z6 : w3.cell? ⟨B, 6, none⟩ = some (.bool false) := hG3.out.chat.cell 6
    have z7 : w3.cell? ⟨B, 7, none⟩ = some (.bool true) := hG3.out.chat.cell 7
    have r0 : w3.cell? ⟨R, 0, none⟩ = some (.slice none 0 0) := hG3.out.res.cell 0
    have r1 : w3.cell? ⟨R, 1, none⟩ = some (.int .i64 0) := hG3.out.res.cell 1
    have r2 : w3.cell? ⟨R, 2, none⟩ = some (.int .i64 0) := hG3.out.res.cell 2
    have r3 : w3.cell? ⟨R, 3, none⟩ = some (.string ⟨#[]⟩) := hG3.out.res.cell 3
    have r4 : w3.cell? ⟨R, 4, none⟩ = some (.int .i64 0) := hG3.out.res.cell 4
    have r5 : w3.cell? ⟨R, 5, none⟩ = some (.int .i64 0) := hG3.out.res.cell 5
    have r6 : w3.cell? ⟨R, 6, none⟩ = some (.bool false) := hG3.out.res.cell 6
    have r7 : w3.cell? ⟨R, 7, none⟩ = some (.bool false) := hG3.out.res.cell 7
    have rf := hG3.out.res.thaw
    obtain ⟨kE, oE⟩ := ret8 hG3.out.res rfl (.slice a7 sn c7) (.int .i64 cstep) (.int .i64 cwant) (.string cseen) (.int .i64 cwait) (.int .i64 cpat) (.bool false) (.bool true)
    have post : Hid (GPost w (⟨xs, cstep, cwant, cseen.data.toList, cwait, cpat, false, true⟩, []) (.returned (.tuple #[.agg #[.slice a7 sn c7, .int .i64 cstep, .int .i64 cwant, .string cseen, .int .i64 cwait, .int .i64 cpat, .bool false, .bool true], .string ⟨#[]⟩])) _) := ⟨_, rfl, gat_cat (c := ⟨xs, cstep, cwant, cseen.data.toList, cwait, cpat, false, true⟩) hG3.out oE (by show xs.length ≤ c7; rw [← hsn.out]; exact hc2) (by unfold CC; rw [← hsn.out]), hG3.out.bel.trans (oE.bel hRw)⟩
    replace kE := Rg.hid kE
    clear oE hG3
    go_wp2
    replace kE := kE.out
    replace post := post.out
    generalize World.setCell _ _ _ = WE at *
    exact bodyPost_ret (v := .tuple #[.agg #[.slice a7 sn c7, .int .i64 cstep, .int .i64 cwant, .string cseen, .int .i64 cwait, .int .i64 cpat, .bool false, .bool true], .string ⟨#[]⟩]) (by simp [results, Tryd.results17, go_sem, kE.cell]) rfl post
  · clear hd
    have z0 : w3.cell? ⟨B, 0, none⟩ = some (.slice a7 sn c7) := hG3.out.chat.cell 0
    have z1 : w3.cell? ⟨B, 1, none⟩ = some (.int .i64 cstep) := hG3.out.chat.cell 1
    have z2 : w3.cell? ⟨B, 2, none⟩ = some (.int .i64 cwant) := hG3.out.chat.cell 2
    have z3 : w3.cell? ⟨B, 3, none⟩ = some (.string cseen) := hG3.out.chat.cell 3
    have z4 : w3.cell? ⟨B, 4, none⟩ = some (.int .i64 cwait) := hG3.out.chat.cell 4
    have z5 : w3.cell? ⟨B, 5, none⟩ = some (.int .i64 cpat) := hG3.out.chat.cell 5
    have z6 : w3.cell? ⟨B, 6, none⟩ = some (.bool true) := hG3.out.chat.cell 6
    have z7 : w3.cell? ⟨B, 7, none⟩ = some (.bool cfailed) := hG3.out.chat.cell 7
    have r0 : w3.cell? ⟨R, 0, none⟩ = some (.slice none 0 0) := hG3.out.res.cell 0
    have r1 : w3.cell? ⟨R, 1, none⟩ = some (.int .i64 0) := hG3.out.res.cell 1
    have r2 : w3.cell? ⟨R, 2, none⟩ = some (.int .i64 0) := hG3.out.res.cell 2
    have r3 : w3.cell? ⟨R, 3, none⟩ = some (.string ⟨#[]⟩) := hG3.out.res.cell 3
    have r4 : w3.cell? ⟨R, 4, none⟩ = some (.int .i64 0) := hG3.out.res.cell 4
    have r5 : w3.cell? ⟨R, 5, none⟩ = some (.int .i64 0) := hG3.out.res.cell 5
    have r6 : w3.cell? ⟨R, 6, none⟩ = some (.bool false) := hG3.out.res.cell 6
    have r7 : w3.cell? ⟨R, 7, none⟩ = some (.bool false) := hG3.out.res.cell 7
    have rf := hG3.out.res.thaw
    obtain ⟨kE, oE⟩ := ret8 hG3.out.res rfl (.slice a7 sn c7) (.int .i64 cstep) (.int .i64 cwant) (.string cseen) (.int .i64 cwait) (.int .i64 cpat) (.bool true) (.bool cfailed)
    have post : Hid (GPost w (⟨xs, cstep, cwant, cseen.data.toList, cwait, cpat, true, cfailed⟩, []) (.returned (.tuple #[.agg #[.slice a7 sn c7, .int .i64 cstep, .int .i64 cwant, .string cseen, .int .i64 cwait, .int .i64 cpat, .bool true, .bool cfailed], .string ⟨#[]⟩])) _) := ⟨_, rfl, gat_cat (c := ⟨xs, cstep, cwant, cseen.data.toList, cwait, cpat, true, cfailed⟩) hG3.out oE (by show xs.length ≤ c7; rw [← hsn.out]; exact hc2) (by unfold CC; rw [← hsn.out]), hG3.out.bel.trans (oE.bel hRw)⟩
    replace kE := Rg.hid kE
    clear oE hG3
    go_wp2
    replace kE := kE.out
    replace post := post.out
    generalize World.setCell _ _ _ = WE at *
    exact bodyPost_ret (v := .tuple #[.agg #[.slice a7 sn c7, .int .i64 cstep, .int .i64 cwant, .string cseen, .int .i64 cwait, .int .i64 cpat, .bool true, .bool cfailed], .string ⟨#[]⟩]) (by simp [results, Tryd.results17, go_sem, kE.cell]) rfl post

set_option maxHeartbeats 4000000 in
set_option maxRecDepth 100000 in
theorem rfeed_go (sa : Option Addr) (sn sc k : Nat) (cwant : Int) (cseen : ByteArray) (cwait cpat : Int) (s : ByteArray) (xs : List Ch.St) (r : Ch.Co × List UInt8) (w : World) (hsz : ¬ 9223372036854775807 < cseen.size + s.size) (HO : Hid (∀ W, Below w.heap.size w W → Calls Tryd.prog 26 #[.agg #[.slice sa sn sc, .int .i64 (k : Int), .int .i64 cwant, .string cseen, .int .i64 cwait, .int .i64 cpat, .bool false, .bool false]] W fun e w' => ∃ a7 c7 vs7, e = .returned (.agg #[.slice a7 sn c7, .int .i64 (k : Int), .int .i64 cwant, .string cseen, .int .i64 cwait, .int .i64 cpat, .bool false, .bool false]) ∧ Hid (Rg.Tow stepE w' a7 vs7) ∧ Hid (StsAt w' vs7 xs) ∧ sn ≤ c7 ∧ Below W.heap.size W w'))
    (HG : Hid (∀ W a7 c7 vs7, Below w.heap.size w W → Rg.Tow stepE W a7 vs7 → StsAt W vs7 xs → sn ≤ c7 → Calls Tryd.prog 25 #[.agg #[.slice a7 sn c7, .int .i64 (k : Int), .int .i64 cwant, .string (cseen ++ s), .int .i64 cwait, .int .i64 cpat, .bool false, .bool false]] W fun e w' => GEx W r e w')) :
    Calls Tryd.prog 17 #[.agg #[.slice sa sn sc, .int .i64 (k : Int), .int .i64 cwant, .string cseen, .int .i64 cwait, .int .i64 cpat, .bool false, .bool false], .string s] w fun e w' => GPost w r e w' := by
  unfold GEx at HG
  have kB1 : Hid (Rg.Bk w.heap.size [.slice sa sn sc, .int .i64 (k : Int), .int .i64 cwant, .string cseen, .int .i64 cwait, .int .i64 cpat, .bool false, .bool false] 31 ((w.alloc (.cells #[.slice sa sn sc, .int .i64 (k : Int), .int .i64 cwant, .string cseen, .int .i64 cwait, .int .i64 cpat, .bool false, .bool false] 31)).alloc (.cells #[.slice none 0 0, .int .i64 0, .int .i64 0, .string ⟨#[]⟩, .int .i64 0, .int .i64 0, .bool false, .bool false] 31))) := (Rg.Bk.new rfl).old _
  have kR1 : Hid (Rg.Bk (w.heap.size + 1) [.slice none 0 0, .int .i64 0, .int .i64 0, .string ⟨#[]⟩, .int .i64 0, .int .i64 0, .bool false, .bool false] 31 ((w.alloc (.cells #[.slice sa sn sc, .int .i64 (k : Int), .int .i64 cwant, .string cseen, .int .i64 cwait, .int .i64 cpat, .bool false, .bool false] 31)).alloc (.cells #[.slice none 0 0, .int .i64 0, .int .i64 0, .string ⟨#[]⟩, .int .i64 0, .int .i64 0, .bool false, .bool false] 31))) := Rg.Bk.new (by simp)
  have hb1 := Rg.hid (Rg.al2 w (.cells #[.slice sa sn sc, .int .i64 (k : Int), .int .i64 cwant, .string cseen, .int .i64 cwait, .int .i64 cpat, .bool false, .bool false] 31) (.cells #[.slice none 0 0, .int .i64 0, .int .i64 0, .string ⟨#[]⟩, .int .i64 0, .int .i64 0, .bool false, .bool false] 31))
  go_enter Tryd.func17, Tryd.ntmps17
  go_upto_region 1 with fail
  generalize World.alloc _ _ = w1 at *
  obtain ⟨B, hB⟩ : ∃ B, B = w.heap.size := ⟨_, rfl⟩
  obtain ⟨R, hR⟩ : ∃ R, R = w.heap.size + 1 := ⟨_, rfl⟩
  rw [← hR] at kR1 ⊢
  rw [← hB] at kB1 ⊢
  have hBR : B ≠ R := by omega
  have hBw : w.heap.size ≤ B := by omega
  have hRw : w.heap.size ≤ R := by omega
  clear hB hR
  have z0 : w1.cell? ⟨B, 0, none⟩ = some (.slice sa sn sc) := kB1.out.cell 0
  have z1 : w1.cell? ⟨B, 1, none⟩ = some (.int .i64 (k : Int)) := kB1.out.cell 1
  have z2 : w1.cell? ⟨B, 2, none⟩ = some (.int .i64 cwant) := kB1.out.cell 2
  have z3 : w1.cell? ⟨B, 3, none⟩ = some (.string cseen) := kB1.out.cell 3
  have z4 : w1.cell? ⟨B, 4, none⟩ = some (.int .i64 cwait) := kB1.out.cell 4
  have z5 : w1.cell? ⟨B, 5, none⟩ = some (.int .i64 cpat) := kB1.out.cell 5
  have z6 : w1.cell? ⟨B, 6, none⟩ = some (.bool false) := kB1.out.cell 6
  have z7 : w1.cell? ⟨B, 7, none⟩ = some (.bool false) := kB1.out.cell 7
  go_upto_region 2 with (go_at_call 26; refine (HO.out _ hb1.out).mono ?_; rintro e w2 ⟨a7, c7, vs7, rfl, hT2, hX2, hc2, b2⟩; have kB2 := kB1.out.below b2 kB1.out.lt; have kR2 := Rg.hid (kR1.out.below b2 kR1.out.lt); have hb2 := Rg.hid (Rg.chain hb1.out b2); have zf := kB2.thaw; have y0 := kB2.cell 0; have y1 := kB2.cell 1; have y2 := kB2.cell 2; have y3 := kB2.cell 3; have y4 := kB2.cell 4; have y5 := kB2.cell 5; have y6 := kB2.cell 6; have y7 := kB2.cell 7; simp only [List.getElem?_cons_zero, List.getElem?_cons_succ] at y0 y1 y2 y3 y4 y5 y6 y7)
  clear z0 z1 z2 z3 z4 z5 z6 z7 zf y0 y1 y2 y3 y4 y5 y6 y7
  obtain ⟨k3, o3⟩ := ret8 kB2 rfl (.slice a7 sn c7) (.int .i64 (k : Int)) (.int .i64 cwant) (.string cseen) (.int .i64 cwait) (.int .i64 cpat) (.bool false) (.bool false)
  have hG3 : Hid (GAt w B R a7 vs7 xs [.slice a7 sn c7, .int .i64 (k : Int), .int .i64 cwant, .string cseen, .int .i64 cwait, .int .i64 cpat, .bool false, .bool false] (.slice none 0 0) [] _) := ⟨hb2.out.trans (o3.bel hBw), k3, kR2.out.same (o3.block R (Ne.symm hBR)), hT2.out.only kB2 chat_step o3, hX2.out.only kB2 chat_str o3, BOwn.nil, hBw, hRw, hBR⟩
  clear kB1 kR1 hb1 k3 o3 kB2 kR2 hb2 hT2 hX2 b2 HO
  generalize World.setCell _ _ _ = w3 at *
  have d0 : decide ((k : Int) < 0) = false := by simp only [decide_eq_false_iff_not]; omega
  have z0 : w3.cell? ⟨B, 0, none⟩ = some (.slice a7 sn c7) := hG3.out.chat.cell 0
  have z1 : w3.cell? ⟨B, 1, none⟩ = some (.int .i64 (k : Int)) := hG3.out.chat.cell 1
  have z2 : w3.cell? ⟨B, 2, none⟩ = some (.int .i64 cwant) := hG3.out.chat.cell 2
  have z3 : w3.cell? ⟨B, 3, none⟩ = some (.string cseen) := hG3.out.chat.cell 3
  have z4 : w3.cell? ⟨B, 4, none⟩ = some (.int .i64 cwait) := hG3.out.chat.cell 4
  have z5 : w3.cell? ⟨B, 5, none⟩ = some (.int .i64 cpat) := hG3.out.chat.cell 5
  have z6 : w3.cell? ⟨B, 6, none⟩ = some (.bool false) := hG3.out.chat.cell 6
  have z7 : w3.cell? ⟨B, 7, none⟩ = some (.bool false) := hG3.out.chat.cell 7
  have zf := hG3.out.chat.thaw
  have hG4 : Hid (GAt w B R a7 vs7 xs [.slice a7 sn c7, .int .i64 (k : Int), .int .i64 cwant, .string (cseen ++ s), .int .i64 cwait, .int .i64 cpat, .bool false, .bool false] (.slice none 0 0) [] (w3.setCell ⟨B, 3, none⟩ (.string (cseen ++ s)))) := hG3.out.store 3 (.string (cseen ++ s))
  clear hG3
  go_upto_region 5 with fail
  clear z0 z1 z2 z3 z4 z5 z6 z7 zf d0
  generalize World.setCell _ _ _ = w4 at *
  have z0 : w4.cell? ⟨B, 0, none⟩ = some (.slice a7 sn c7) := hG4.out.chat.cell 0
  have z1 : w4.cell? ⟨B, 1, none⟩ = some (.int .i64 (k : Int)) := hG4.out.chat.cell 1
  have z2 : w4.cell? ⟨B, 2, none⟩ = some (.int .i64 cwant) := hG4.out.chat.cell 2
  have z3 : w4.cell? ⟨B, 3, none⟩ = some (.string (cseen ++ s)) := hG4.out.chat.cell 3
  have z4 : w4.cell? ⟨B, 4, none⟩ = some (.int .i64 cwait) := hG4.out.chat.cell 4
  have z5 : w4.cell? ⟨B, 5, none⟩ = some (.int .i64 cpat) := hG4.out.chat.cell 5
  have z6 : w4.cell? ⟨B, 6, none⟩ = some (.bool false) := hG4.out.chat.cell 6
  have z7 : w4.cell? ⟨B, 7, none⟩ = some (.bool false) := hG4.out.chat.cell 7
  go_wp2_with (go_at_call 25; refine (HG.out _ _ _ _ hG4.out.bel hG4.out.row hG4.out.sts hc2).mono ?_; rintro e w5 ⟨sa', sn', sc', step', want', seen', wait', pat', over', failed', rfl, hA5, b5⟩; have kR5 := hG4.out.res.below b5 hG4.out.res.lt; have hb5 := Rg.hid (Rg.chain hG4.out.bel b5); have rf := kR5.thaw; have r0 : w5.cell? ⟨R, 0, none⟩ = some (.slice none 0 0) := kR5.cell 0; have r1 : w5.cell? ⟨R, 1, none⟩ = some (.int .i64 0) := kR5.cell 1; have r2 : w5.cell? ⟨R, 2, none⟩ = some (.int .i64 0) := kR5.cell 2; have r3 : w5.cell? ⟨R, 3, none⟩ = some (.string ⟨#[]⟩) := kR5.cell 3; have r4 : w5.cell? ⟨R, 4, none⟩ = some (.int .i64 0) := kR5.cell 4; have r5 : w5.cell? ⟨R, 5, none⟩ = some (.int .i64 0) := kR5.cell 5; have r6 : w5.cell? ⟨R, 6, none⟩ = some (.bool false) := kR5.cell 6; have r7 : w5.cell? ⟨R, 7, none⟩ = some (.bool false) := kR5.cell 7)
  obtain ⟨kE, oE⟩ := ret8 kR5 rfl (.slice sa' sn' sc') (.int .i64 step') (.int .i64 want') (.string seen') (.int .i64 wait') (.int .i64 pat') (.bool over') (.bool failed')
  have hA6 := hA5.only kR5 oE
  have hb6 := hb5.out.trans (oE.bel hRw)
  generalize World.setCell _ _ _ = WE at *
  exact bodyPost_ret (v := .tuple #[.agg #[.slice sa' sn' sc', .int .i64 step', .int .i64 want', .string seen', .int .i64 wait', .int .i64 pat', .bool over', .bool failed'], .string ⟨r.2.toArray⟩]) (by simp [results, Tryd.results17, go_sem, kE.cell]) rfl ⟨_, rfl, hA6, hb6⟩

/-- the document's Feed -/
theorem rfeed_any (v0 : Value) (c0 : Ch.Co) (s : ByteArray) (w : World) {l : List Ch.St} (hN : Ch.Near l) (hc : Ch.Pl l c0) (hs : s.size ≤ 500000) (hA : CAt w v0 c0) : Calls Tryd.prog 17 #[v0, .string s] w fun e w' => GPost w (Ch.feed c0 s.data.toList) e w' := by
  obtain ⟨sa, sc, vs, rfl, hrow, hsts, hsc⟩ := hA
  have hst := hc.pi.steps
  have hse := hc.pi.seen
  have hl : c0.steps.length ≤ 1000 := by rw [hst]; have := hN.len; omega
  have hwl : ∀ x ∈ c0.steps, x.wants.length ≤ 1000000 ∧ x.nudge.length ≤ 1000000 := fun x hx => by
    rw [hst] at hx
    have h1 := (hN.wants x hx).1; have h2 := (hN.nudge x hx).1
    omega
  have HO : ∀ W, Below w.heap.size w W → Calls Tryd.prog 26 #[.agg #[.slice sa c0.steps.length sc, .int .i64 c0.step, .int .i64 c0.want, .string ⟨c0.seen.toArray⟩, .int .i64 c0.wait, .int .i64 c0.pat, .bool c0.over, .bool c0.failed]] W fun e w' => OPost W c0.steps.length c0.steps c0.step c0.want ⟨c0.seen.toArray⟩ c0.wait c0.pat c0.over c0.failed e w' := fun W hW => rown_any sa c0.steps.length sc vs c0.steps c0.step c0.want ⟨c0.seen.toArray⟩ c0.wait c0.pat c0.over c0.failed W rfl hl hwl (.inr (hrow.below hW).1) (hsts.below hW).ls
  unfold Ch.feed
  by_cases hd : c0.over = true ∨ c0.failed = true
  · rw [if_pos hd]
    exact rfeed_done sa c0.steps.length sc c0.step c0.want ⟨c0.seen.toArray⟩ c0.wait c0.pat c0.over c0.failed s c0.steps w (Rg.hid rfl) (by rcases hd with h | h <;> simp [h]) HO
  · rw [if_neg hd]
    rcases hc.pd with h1 | h1 | ⟨ho, hf, ⟨k, hk, hkl⟩, _, _⟩
    · exact absurd (.inl h1) hd
    · exact absurd (.inr h1) hd
    obtain ⟨xs, cstep, cwant, cseenl, cwait, cpat, cover, cfailed⟩ := c0
    dsimp only at *
    subst hk ho hf
    refine rfeed_go sa xs.length sc k cwant ⟨cseenl.toArray⟩ cwait cpat s xs _ w (by show ¬ _ < cseenl.toArray.size + s.size; rw [List.size_toArray]; omega) HO (fun W a7 c7 vs7 hW h1 h2 h3 => ?_)
    have hq : (⟨cseenl.toArray⟩ : ByteArray) ++ s = ⟨(cseenl ++ s.data.toList).toArray⟩ := by
      apply ba_ext
      simp
    rw [hq]
    have := rrun_any (.agg (CC a7 xs.length c7 k cwant ⟨(cseenl ++ s.data.toList).toArray⟩ cwait cpat false false).toArray) ⟨xs, (k : Int), cwant, cseenl ++ s.data.toList, cwait, cpat, false, false⟩ k W ⟨a7, c7, vs7, rfl, h1, h2, h3⟩ hl rfl (by rw [hst]; exact Nat.le_of_lt hkl) (by show (cseenl ++ s.data.toList).length ≤ _; rw [List.length_append]; have h9 : s.data.toList.length = s.size := rfl; omega) (fun x hx => by rw [hst] at hx; have := hN.send x hx; omega) (fun x hx t ht => by rw [hst] at hx; have := (hN.wants x hx).2 t ht; omega) rfl rfl
    exact this.mono fun e w' q => q.ex
end Go.Proofs.YteepfifglafjmaaDoor
