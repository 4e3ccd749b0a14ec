/-
  Walks of layer 14: the document's right, own, Find.
-/
import Derived.Test.YtnglfefgcdbgmaaWn8
namespace Go.Proofs.Ytnglfefgcdbgmaa
open Go.RowKit
set_option maxHeartbeats 2000000 in
set_option maxRecDepth 100000 in
theorem rright_go (m s b m' s' b' : Int) (er : Nat) (a : Option Addr) (n c : Nat) (bf bl : Bool) (HB : Hid (∀ W, Calls Try.prog 9 #[.int .i64 m, .int .i64 s, .int .i64 b] W fun e w' => e = .returned (.tuple #[.agg #[.int .i64 m', .int .i64 s', .int .i64 b', .slice none 0 0], .int .i64 (er : Nat)]) ∧ Below W.heap.size W w')) (hf : (((er : Nat) : Int) == 0) = bf) (hf2 : (er == 0) = bf) (hl : decide ((n : Int) ≤ s) = bl) (w : World) :
    Calls Try.prog 31 #[.agg #[.int .i64 m, .int .i64 s, .int .i64 b, .slice a n c]] w fun e w' => e = .returned (.bool (bf && bl)) ∧ Below w.heap.size w w' := by
  have kB1 : Hid (Rg.Bk w.heap.size [.int .i64 m, .int .i64 s, .int .i64 b, .slice a n c] 24 (w.alloc (.cells #[.int .i64 m, .int .i64 s, .int .i64 b, .slice a n c] 24))) := Rg.Bk.new rfl
  have hb1 := Rg.hid (Rg.al1 w (.cells #[.int .i64 m, .int .i64 s, .int .i64 b, .slice a n c] 24))
  go_enter Try.func31, Try.ntmps31
  go_upto_region 1 with fail
  generalize World.alloc _ _ = w1 at *
  obtain ⟨B, hB⟩ : ∃ B, B = w.heap.size := ⟨_, rfl⟩
  rw [← hB] at kB1 ⊢
  clear hB
  have z0 : w1.cell? ⟨B, 0, none⟩ = some (.int .i64 m) := kB1.out.cell 0
  have z1 : w1.cell? ⟨B, 1, none⟩ = some (.int .i64 s) := kB1.out.cell 1
  have z2 : w1.cell? ⟨B, 2, none⟩ = some (.int .i64 b) := kB1.out.cell 2
  have z3 : w1.cell? ⟨B, 3, none⟩ = some (.slice a n c) := kB1.out.cell 3
  go_upto_region 2 with (go_at_call 9; refine (HB.out _).mono ?_; rintro e w2 ⟨rfl, b2⟩)
  have b3 := Rg.chain b2 (Rg.al1 w2 (.cells #[.int .i64 m', .int .i64 s', .int .i64 b', .slice none 0 0] 24))
  generalize World.alloc _ _ = w3 at *
  have kB3 := kB1.out.below b3 kB1.out.lt
  have b4 := Rg.hid (Rg.chain hb1.out b3)
  clear z0 z1 z2 z3 kB1 hb1 HB b2 b3
  have z0 : w3.cell? ⟨B, 0, none⟩ = some (.int .i64 m) := kB3.cell 0
  have z1 : w3.cell? ⟨B, 1, none⟩ = some (.int .i64 s) := kB3.cell 1
  have z2 : w3.cell? ⟨B, 2, none⟩ = some (.int .i64 b) := kB3.cell 2
  have z3 : w3.cell? ⟨B, 3, none⟩ = some (.slice a n c) := kB3.cell 3
  clear kB3
  cases bf with
  | false =>
    go_wp2
    go_ret
    exact ⟨rfl, b4.out⟩
  | true =>
    go_wp2
    go_ret
    exact ⟨rfl, b4.out⟩
theorem Wn.begin_er (m s b : Int) : ((Wn.begin_ m s b).2 == 0) = Wn.fitB m s b := by
  unfold Wn.begin_ Wn.fitB
  split
  · rename_i h; rw [decide_eq_true h]; rfl
  · rename_i h; rw [decide_eq_false h]; rfl
theorem rright_any (X : Wn.W) (a : Option Addr) (c : Nat) (w : World) :
    Calls Try.prog 31 #[WV X a c] w fun e w' => e = .returned (.bool (Wn.rt X)) ∧ Below w.heap.size w w' := by
  rw [← Wn.rt_bool, ← Wn.begin_er]
  have e : (((Wn.begin_ X.md X.sz X.bs).2 : Int) == 0) = ((Wn.begin_ X.md X.sz X.bs).2 == 0) := by
    cases (Wn.begin_ X.md X.sz X.bs).2 <;> rfl
  exact rright_go X.md X.sz X.bs _ _ _ _ a X.l.length c _ _ (fun W => rbegin_any _ _ _ W) e rfl rfl w
/-- append([]string(nothing), texts) -/
theorem own_app (a : Option Addr) (c n : Nat) (l : List ByteArray) (hn : n = l.length) (hn2 : n ≤ 1000000) (W : World) (hr : SRow W a l) :
    ∃ v' W', (Builtin.append_ #[22, 22] 22 #[.slice (some ⟨W.heap.size, 0, none⟩) 0 0, .slice a n c]).run Try.prog (W.alloc (.cells #[] 9)) = .ok v' W' ∧ ∃ g cap rest, v' = .slice (some ⟨g, 0, none⟩) n cap ∧ strE.Own W.heap.size W' g cap l rest ∧ Below W.heap.size W W' := by
  subst hn
  have b0 := Rg.al1 W (.cells #[] 9)
  obtain ⟨g, cap, rest, W', h1, h2, h3, _⟩ := app_texts (own_nil W) l a c (hr.below b0) b0.size (by simpa using hn2)
  rw [List.length_nil, Nat.zero_add] at h1
  rw [List.nil_append] at h2
  exact ⟨_, W', h1, g, cap, rest, rfl, h2, b0.trans h3⟩
set_option maxHeartbeats 2000000 in
set_option maxRecDepth 100000 in
theorem rown_go (m s b : Int) (a : Option Addr) (n c : Nat) (l : List ByteArray) (hnl : Hid (n = l.length)) (hn : n ≤ 1000000) (w : World) (hr : Hid (SRow w a l)) :
    Calls Try.prog 30 #[.agg #[.int .i64 m, .int .i64 s, .int .i64 b, .slice a n c]] w fun e w' => ∃ g cap rest, e = .returned (.agg #[.int .i64 m, .int .i64 s, .int .i64 b, .slice (some ⟨g, 0, none⟩) n cap]) ∧ Hid (strE.Own w.heap.size w' g cap l rest) ∧ Below w.heap.size w w' := by
  have kB1 : Hid (Rg.Bk w.heap.size [.int .i64 m, .int .i64 s, .int .i64 b, .slice a n c] 24 ((w.alloc (.cells #[.int .i64 m, .int .i64 s, .int .i64 b, .slice a n c] 24)).alloc (.cells #[.int .i64 0, .int .i64 0, .int .i64 0, .slice none 0 0] 24))) := (Rg.Bk.new rfl).old _
  have kR1 : Hid (Rg.Bk (w.heap.size + 1) [.int .i64 0, .int .i64 0, .int .i64 0, .slice none 0 0] 24 ((w.alloc (.cells #[.int .i64 m, .int .i64 s, .int .i64 b, .slice a n c] 24)).alloc (.cells #[.int .i64 0, .int .i64 0, .int .i64 0, .slice none 0 0] 24))) := Rg.Bk.new (by simp)
  have hb1 := Rg.hid (Rg.al2 w (.cells #[.int .i64 m, .int .i64 s, .int .i64 b, .slice a n c] 24) (.cells #[.int .i64 0, .int .i64 0, .int .i64 0, .slice none 0 0] 24))
  go_enter Try.func30, Try.ntmps30
  go_upto_region 1 with fail
  generalize World.alloc _ _ = w1 at *
  obtain ⟨B, hB⟩ : ∃ B, B = w.heap.size := ⟨_, rfl⟩
  obtain ⟨R, hR⟩ : ∃ R, R = w.heap.size + 1 := ⟨_, rfl⟩
  rw [← hR] at kR1 ⊢
  rw [← hB] at kB1 ⊢
  have hBR : B ≠ R := by omega
  have hBw : w.heap.size ≤ B := by omega
  have hRw : w.heap.size ≤ R := by omega
  clear hB hR
  have hr1 := hr.out.below hb1.out
  obtain ⟨v', w2, hap, g, cap, rest, rfl, ho, b2⟩ := own_app a c n l hnl.out hn w1 hr1
  have kB2 := kB1.out.below b2 kB1.out.lt
  have kR2 := kR1.out.below b2 kR1.out.lt
  have hb2 := Rg.chain hb1.out b2
  have z0 : w1.cell? ⟨B, 0, none⟩ = some (.int .i64 m) := kB1.out.cell 0
  have z1 : w1.cell? ⟨B, 1, none⟩ = some (.int .i64 s) := kB1.out.cell 1
  have z2 : w1.cell? ⟨B, 2, none⟩ = some (.int .i64 b) := kB1.out.cell 2
  have z3 : w1.cell? ⟨B, 3, none⟩ = some (.slice a n c) := kB1.out.cell 3
  have y3 : w2.cell? ⟨B, 3, none⟩ = some (.slice a n c) := kB2.cell 3
  have y4 : (w1.alloc (.cells #[] 9)).cell? ⟨B, 3, none⟩ = some (.slice a n c) := (kB1.out.old _).cell 3
  have yf := kB2.thaw
  have kB3 := kB2.set 3 (.slice (some ⟨g, 0, none⟩) n cap)
  have kR3 := kR2.other (i := 3) (fun e => hBR e.symm) (.slice (some ⟨g, 0, none⟩) n cap)
  have o3 := Rg.Only.setCell w2 B 3 (.slice (some ⟨g, 0, none⟩) n cap)
  have hgB : g ≠ B := fun e => by have := ho.new; have := kB1.out.lt; omega
  have hgR : g ≠ R := fun e => by have := ho.new; have := kR1.out.lt; omega
  have ho3 := Rg.hid (ho.same (o3.block g hgB))
  have hb3 := Rg.hid (hb2.trans (o3.bel hBw))
  replace hap := Rg.hid hap
  replace kB3 := Rg.hid kB3
  replace kR3 := Rg.hid kR3
  have hw1 := hb1.out.size
  clear kB1 kR1 hb1 hr1 hr ho b2 kB2 kR2 hb2 o3
  go_upto_region 2 with (at_builtin; refine Rg.wpList_append_run rfl (.tmp 3) (.tmp 5) 22 rfl _ _ rfl rfl _ _ hap.out ?_)
  generalize World.setCell _ _ _ = w3 at *
  replace kR3 := kR3.out
  replace kB3 := kB3.out
  clear z0 z1 z2 z3 y3 y4 yf hap
  obtain ⟨kE, oE⟩ := Rg.ret4 kR3 rfl (.int .i64 m) (.int .i64 s) (.int .i64 b) (.slice (some ⟨g, 0, none⟩) n cap)
  have hb4 := Rg.hid (hb3.out.trans (oE.bel hRw))
  have ho4 := Rg.hid (ho3.out.same (oE.block g hgR))
  have z0 : w3.cell? ⟨B, 0, none⟩ = some (.int .i64 m) := kB3.cell 0
  have z1 : w3.cell? ⟨B, 1, none⟩ = some (.int .i64 s) := kB3.cell 1
  have z2 : w3.cell? ⟨B, 2, none⟩ = some (.int .i64 b) := kB3.cell 2
  have z3 : w3.cell? ⟨B, 3, none⟩ = some (.slice (some ⟨g, 0, none⟩) n cap) := kB3.cell 3
  have r0 : w3.cell? ⟨R, 0, none⟩ = some (.int .i64 0) := kR3.cell 0
  have r1 : w3.cell? ⟨R, 1, none⟩ = some (.int .i64 0) := kR3.cell 1
  have r2 : w3.cell? ⟨R, 2, none⟩ = some (.int .i64 0) := kR3.cell 2
  have r3 : w3.cell? ⟨R, 3, none⟩ = some (.slice none 0 0) := kR3.cell 3
  have rf := kR3.thaw
  replace kE := Rg.hid kE
  clear oE kB3 kR3 hb3 ho3
  go_wp2
  replace kE := kE.out
  replace hb4 := hb4.out
  replace ho4 := ho4.out
  generalize World.setCell _ _ _ = WE at *
  exact bodyPost_ret (v := .agg #[.int .i64 m, .int .i64 s, .int .i64 b, .slice (some ⟨g, 0, none⟩) n cap]) (by simp [results, Try.results30, go_sem, kE.cell]) rfl ⟨g, cap, rest, rfl, ⟨ho4.blk, Nat.le_trans hw1 ho4.new, ho4.le, ho4.max, ho4.fit⟩, hb4⟩
end Go.Proofs.Ytnglfefgcdbgmaa
