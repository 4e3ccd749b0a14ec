/-
  Layer 7: the document's own: a line with lists of its own.
-/
import Derived.Test.YtalleocmnnnchaaLn11
import Derived.Test.YtalleocmnnnchaaMathT
namespace Go.Proofs.Ytalleocmnnnchaa
open Go.RowKit

theorem infoI : (Try.prog.info? 3).map (fun i => (i.zero, i.size, i.bytes)) = some (some (.int .i64 0), 1, 8) := by kernel_rfl
theorem infoI' : ∃ i0, Try.prog.info? 3 = some i0 ∧ i0.zero = some (.int .i64 0) ∧ i0.size = 1 ∧ i0.bytes = 8 := by
  have := infoI
  cases h : Try.prog.info? 3 with
  | none => rw [h] at this; cases this
  | some i => rw [h] at this; simp only [Option.map_some, Option.some.injEq, Prod.mk.injEq] at this; exact ⟨i, rfl, this.1, this.2.1, this.2.2⟩
/-- 'append(.., l...)' -/
theorem app_irow {base g cap : Nat} {W : World} {q : List Int} {rest : List Value} (h : intE.Own base W g cap q rest) (hB : base ≤ W.heap.size) {a : Option Addr} {ca : Nat} {l : List Int} (hrow : IRow W a l) (hlen : q.length + l.length ≤ 1000000000000) :
    ∃ g' cap' rest' W', (Builtin.append_ #[25, 25] 25 #[.slice (some ⟨g, 0, none⟩) q.length cap, .slice a l.length ca]).run Try.prog W = .ok (.slice (some ⟨g', 0, none⟩) (q.length + l.length) cap') W' ∧ intE.Own base W' g' cap' (q ++ l) rest' ∧ Below base W W' ∧ (∀ k, k < W.heap.size → k ≠ g → W'.heap[k]? = W.heap[k]?) := by
  obtain ⟨i0, hi, hz0, hz1, hz2⟩ := infoI'
  obtain ⟨g', cap', rest', W', h1, h2, h3, h4, _⟩ := h.appendRow (P := Try.prog) l 25 25 i0 _ 8 Try.underlying25 hi hz0 hz1 hz2 rfl a ca hrow.1 hB (by omega) (by unfold maxLen; omega)
  exact ⟨g', cap', rest', W', h1, h2, h3, h4⟩
/-- 'append([]int{}, l...)' -/
theorem app_ints {a : Option Addr} {ca : Nat} {l : List Int} (base : Nat) (W : World) (hB : base ≤ W.heap.size) (g0 : Nat) (hg : Rg.Bk g0 [] 3 W) (hg0 : base ≤ g0) (hrow : IRow W a l) (hlen : l.length ≤ 1000000000) :
    ∃ g cap rest W', (Builtin.append_ #[25, 25] 25 #[.slice (some ⟨g0, 0, none⟩) 0 0, .slice a l.length ca]).run Try.prog W = .ok (.slice (some ⟨g, 0, none⟩) l.length cap) W' ∧ intE.Own base W' g cap l rest ∧ Below base W W' ∧ l.length ≤ cap := by
  have hOwn0 : intE.Own base W g0 0 [] [] := ⟨hg, hg0, Nat.le_refl _, Nat.zero_le _, Nat.le_refl _⟩
  obtain ⟨g', cap', rest', W', h1, h2, h3, -⟩ := app_irow hOwn0 hB (ca := ca) hrow (by simp; omega)
  rw [List.nil_append] at h2
  rw [List.length_nil, Nat.zero_add] at h1
  exact ⟨g', cap', rest', W', h1, h2, h3, h2.le⟩

/-- behind own: the same line, its lists laid anew -/
def OwnPost (x0 : ByteArray) (p0 : Int) (bn0 gn0 : Nat) (x1 : ByteArray) (p1 : Int) (bn1 gn1 : Nat) (up : Bool) (bad0 gap0 bad1 gap1 : List Int) (w : World) (e : Ending) (w' : World) : Prop := ∃ (b0 : Option Addr) (bc0 : Nat) (g0 : Option Addr) (gc0 : Nat) (b1 : Option Addr) (bc1 : Nat) (g1 : Option Addr) (gc1 : Nat), e = .returned (.agg #[.string x0, .int .i64 p0, .slice b0 bn0 bc0, .slice g0 gn0 gc0, .string x1, .int .i64 p1, .slice b1 bn1 bc1, .slice g1 gn1 gc1, .bool up]) ∧ (IRow w' b0 bad0 ∧ bn0 ≤ bc0 ∧ IRow w' g0 gap0 ∧ gn0 ≤ gc0 ∧ IRow w' b1 bad1 ∧ bn1 ≤ bc1 ∧ IRow w' g1 gap1 ∧ gn1 ≤ gc1) ∧ Below w.heap.size w w'

set_option maxHeartbeats 2000000 in
set_option maxRecDepth 100000 in
theorem rown_cells (x0 : ByteArray) (p0 : Int) (b0 : Option Addr) (bn0 bc0 : Nat) (g0 : Option Addr) (gn0 gc0 : Nat) (x1 : ByteArray) (p1 : Int) (b1 : Option Addr) (bn1 bc1 : Nat) (g1 : Option Addr) (gn1 gc1 : Nat) (up : Bool) (bad0 gap0 bad1 gap1 : List Int) (w : World) (h_bn0 : Hid (bn0 = bad0.length)) (h_gn0 : Hid (gn0 = gap0.length)) (h_bn1 : Hid (bn1 = bad1.length)) (h_gn1 : Hid (gn1 = gap1.length))
    (l_bn0 : bn0 ≤ 1000000000) (l_gn0 : gn0 ≤ 1000000000) (l_bn1 : bn1 ≤ 1000000000) (l_gn1 : gn1 ≤ 1000000000) (hR0 : IRow w b0 bad0 ∧ bn0 ≤ bc0 ∧ IRow w g0 gap0 ∧ gn0 ≤ gc0 ∧ IRow w b1 bad1 ∧ bn1 ≤ bc1 ∧ IRow w g1 gap1 ∧ gn1 ≤ gc1) :
    Calls Try.prog 44 #[.agg #[.string x0, .int .i64 p0, .slice b0 bn0 bc0, .slice g0 gn0 gc0, .string x1, .int .i64 p1, .slice b1 bn1 bc1, .slice g1 gn1 gc1, .bool up]] w fun e w' => OwnPost x0 p0 bn0 gn0 x1 p1 bn1 gn1 up bad0 gap0 bad1 gap1 w e w' := by
  obtain ⟨s_b0, q_b0, s_g0, q_g0, s_b1, q_b1, s_g1, q_g1⟩ := hR0
  have hb1' := Rg.al2 w (.cells #[.string x0, .int .i64 p0, .slice b0 bn0 bc0, .slice g0 gn0 gc0, .string x1, .int .i64 p1, .slice b1 bn1 bc1, .slice g1 gn1 gc1, .bool up] 30) (.cells #[.string ⟨#[]⟩, .int .i64 0, .slice none 0 0, .slice none 0 0, .string ⟨#[]⟩, .int .i64 0, .slice none 0 0, .slice none 0 0, .bool false] 30)
  have R_b0 := Rg.hid (s_b0.below hb1')
  have R_g0 := Rg.hid (s_g0.below hb1')
  have R_b1 := Rg.hid (s_b1.below hb1')
  have R_g1 := Rg.hid (s_g1.below hb1')
  clear s_b0 s_g0 s_b1 s_g1 hb1'
  have kB1 : Rg.Bk w.heap.size [.string x0, .int .i64 p0, .slice b0 bn0 bc0, .slice g0 gn0 gc0, .string x1, .int .i64 p1, .slice b1 bn1 bc1, .slice g1 gn1 gc1, .bool up] 30 ((w.alloc (.cells #[.string x0, .int .i64 p0, .slice b0 bn0 bc0, .slice g0 gn0 gc0, .string x1, .int .i64 p1, .slice b1 bn1 bc1, .slice g1 gn1 gc1, .bool up] 30)).alloc (.cells #[.string ⟨#[]⟩, .int .i64 0, .slice none 0 0, .slice none 0 0, .string ⟨#[]⟩, .int .i64 0, .slice none 0 0, .slice none 0 0, .bool false] 30)) := (Rg.Bk.new rfl).old _
  have kR1 : Rg.Bk (w.heap.size + 1) [.string ⟨#[]⟩, .int .i64 0, .slice none 0 0, .slice none 0 0, .string ⟨#[]⟩, .int .i64 0, .slice none 0 0, .slice none 0 0, .bool false] 30 ((w.alloc (.cells #[.string x0, .int .i64 p0, .slice b0 bn0 bc0, .slice g0 gn0 gc0, .string x1, .int .i64 p1, .slice b1 bn1 bc1, .slice g1 gn1 gc1, .bool up] 30)).alloc (.cells #[.string ⟨#[]⟩, .int .i64 0, .slice none 0 0, .slice none 0 0, .string ⟨#[]⟩, .int .i64 0, .slice none 0 0, .slice none 0 0, .bool false] 30)) := Rg.Bk.new (by simp)
  have hb1 := Rg.al2 w (.cells #[.string x0, .int .i64 p0, .slice b0 bn0 bc0, .slice g0 gn0 gc0, .string x1, .int .i64 p1, .slice b1 bn1 bc1, .slice g1 gn1 gc1, .bool up] 30) (.cells #[.string ⟨#[]⟩, .int .i64 0, .slice none 0 0, .slice none 0 0, .string ⟨#[]⟩, .int .i64 0, .slice none 0 0, .slice none 0 0, .bool false] 30)
  go_enter Try.func44, Try.ntmps44
  go_upto_region 1 with fail
  generalize World.alloc _ _ = w1 at *
  obtain ⟨B, hB⟩ : ∃ B, B = w.heap.size := ⟨_, rfl⟩
  obtain ⟨R, hR⟩ : ∃ R, R = w.heap.size + 1 := ⟨_, rfl⟩
  rw [← hR] at kR1 ⊢
  rw [← hB] at kB1 ⊢
  have hBR : B ≠ R := by omega
  have hBw : w.heap.size ≤ B := by omega
  have hRw : w.heap.size ≤ R := by omega
  clear hB hR
  replace kB1 := Rg.hid kB1
  replace kR1 := Rg.hid kR1
  replace hb1 := Rg.hid hb1
  go_wp2
  go_loopw [4] (fun vi wr => ∃ (i : Nat) (b0 : Option Addr) (bc0 : Nat) (g0 : Option Addr) (gc0 : Nat) (b1 : Option Addr) (bc1 : Nat) (g1 : Option Addr) (gc1 : Nat), i ≤ 2 ∧ vi = .int .i64 i ∧ Hid (Rg.Bk B [.string x0, .int .i64 p0, .slice b0 bn0 bc0, .slice g0 gn0 gc0, .string x1, .int .i64 p1, .slice b1 bn1 bc1, .slice g1 gn1 gc1, .bool up] 30 wr) ∧ Hid (Rg.Bk R [.string ⟨#[]⟩, .int .i64 0, .slice none 0 0, .slice none 0 0, .string ⟨#[]⟩, .int .i64 0, .slice none 0 0, .slice none 0 0, .bool false] 30 wr) ∧ Below w.heap.size w wr ∧ IRow wr b0 bad0 ∧ bn0 ≤ bc0 ∧ IRow wr g0 gap0 ∧ gn0 ≤ gc0 ∧ IRow wr b1 bad1 ∧ bn1 ≤ bc1 ∧ IRow wr g1 gap1 ∧ gn1 ≤ gc1) (fun vi _ => 2 - (intOf vi).toNat)
  case atStart => exact ⟨0, b0, bc0, g0, gc0, b1, bc1, g1, gc1, Nat.zero_le _, rfl, kB1, kR1, hb1.out, R_b0.out, q_b0, R_g0.out, q_g0, R_b1.out, q_b1, R_g1.out, q_g1⟩
  case round =>
    clear R_b0 R_g0 R_b1 R_g1 q_b0 q_g0 q_b1 q_g1 kB1 kR1 hb1
    obtain ⟨i, b0, bc0, g0, gc0, b1, bc1, g1, gc1, hin, rfl, hB, hRr, hbw, r_b0, q_b0, r_g0, q_g0, r_b1, q_b1, r_g1, q_g1⟩ := hrel
    replace r_b0 := Rg.hid r_b0
    replace r_g0 := Rg.hid r_g0
    replace r_b1 := Rg.hid r_b1
    replace r_g1 := Rg.hid r_g1
    have hi3 : i = 0 ∨ i = 1 ∨ i = 2 := by omega
    rcases hi3 with rfl | rfl | rfl
    · clear hin
      obtain ⟨w4, hw4⟩ : ∃ w4, w4 = wr := ⟨_, rfl⟩
      subst hw4
      have kB4 := hB.out
      have hbw4 := Rg.hid hbw
      clear hB hbw

      have z2 : w4.cell? ⟨B, 2, none⟩ = some (.slice b0 bn0 bc0) := kB4.cell 2
      have hr4 : IRow (w4.alloc (.cells #[] 3)) b0 bad0 := r_b0.out.below (Rg.al1 _ _)
      obtain ⟨y4, c4, t4, v4, hap4, ho4, hbl4, hlc4⟩ := app_ints (ca := bc0) w4.heap.size (w4.alloc (.cells #[] 3)) (by simp) w4.heap.size (Rg.Bk.new rfl) (Nat.le_refl _) hr4 (by rw [← h_bn0.out]; exact l_bn0)
      rw [← h_bn0.out] at hap4 hlc4
      have hbn4 : Below w4.heap.size w4 v4 := (Rg.al1 _ _).trans hbl4
      have kv4 := kB4.below hbn4 kB4.lt
      have z2' : v4.cell? ⟨B, 2, none⟩ = some (.slice b0 bn0 bc0) := kv4.cell 2
      have zf4 := kv4.thaw
      replace hap4 := Rg.hid hap4
      have hl4 := kB4.lt
      have hn4 : ¬ B = w4.heap.size := by omega
      have hn4' : ¬ w4.heap.size = B := by omega
      replace ho4 := Rg.hid (Own.irow ho4)
      replace hbn4 := Rg.hid hbn4
      replace kv4 := Rg.hid kv4
      clear hr4 hbl4

      clear kB4
      go_upto_region 5 with (at_builtin; refine Rg.wpList_append_run rfl (.tmp 8) (.tmp 13) 25 rfl _ _ rfl rfl _ _ hap4.out ?_)
      have kB5 := kv4.out.set 2 (.slice (some ⟨y4, 0, none⟩) bn0 c4)
      have oB4 := Rg.Only.setCell v4 B 2 (.slice (some ⟨y4, 0, none⟩) bn0 c4)
      simp only [List.set_cons_zero, List.set_cons_succ] at kB5
      have r_g0' := Rg.hid ((r_g0.out.below hbn4.out).only kv4.out line_int oB4)
      have r_b1' := Rg.hid ((r_b1.out.below hbn4.out).only kv4.out line_int oB4)
      have r_g1' := Rg.hid ((r_g1.out.below hbn4.out).only kv4.out line_int oB4)
      have r_b0' := Rg.hid (ho4.out.only kv4.out line_int oB4)
      have hR5 := Rg.hid ((hRr.out.below hbn4.out hRr.out.lt).same (oB4.block R (Ne.symm hBR)))
      have hbw5 := Rg.hid ((hbw4.out.trans (hbn4.out.mono hbw4.out.size)).trans (oB4.bel hBw))
      clear r_b0
      have r_b0 := r_b0'
      clear r_b0'
      clear r_g0
      have r_g0 := r_g0'
      clear r_g0'
      clear r_b1
      have r_b1 := r_b1'
      clear r_b1'
      clear r_g1
      have r_g1 := r_g1'
      clear r_g1'
      clear hl4 hn4 hn4' hRr oB4 zf4 z2 z2' hap4 ho4 hbn4 kv4 hbw4
      generalize World.setCell _ _ _ = w5 at *

      have z3 : w5.cell? ⟨B, 3, none⟩ = some (.slice g0 gn0 gc0) := kB5.cell 3
      have hr5 : IRow (w5.alloc (.cells #[] 3)) g0 gap0 := r_g0.out.below (Rg.al1 _ _)
      obtain ⟨y5, c5, t5, v5, hap5, ho5, hbl5, hlc5⟩ := app_ints (ca := gc0) w5.heap.size (w5.alloc (.cells #[] 3)) (by simp) w5.heap.size (Rg.Bk.new rfl) (Nat.le_refl _) hr5 (by rw [← h_gn0.out]; exact l_gn0)
      rw [← h_gn0.out] at hap5 hlc5
      have hbn5 : Below w5.heap.size w5 v5 := (Rg.al1 _ _).trans hbl5
      have kv5 := kB5.below hbn5 kB5.lt
      have z3' : v5.cell? ⟨B, 3, none⟩ = some (.slice g0 gn0 gc0) := kv5.cell 3
      have zf5 := kv5.thaw
      replace hap5 := Rg.hid hap5
      have hl5 := kB5.lt
      have hn5 : ¬ B = w5.heap.size := by omega
      have hn5' : ¬ w5.heap.size = B := by omega
      replace ho5 := Rg.hid (Own.irow ho5)
      replace hbn5 := Rg.hid hbn5
      replace kv5 := Rg.hid kv5
      clear hr5 hbl5

      clear kB5
      go_upto_region 6 with (at_builtin; refine Rg.wpList_append_run rfl (.tmp 19) (.tmp 24) 25 rfl _ _ rfl rfl _ _ hap5.out ?_)
      have kB6 := kv5.out.set 3 (.slice (some ⟨y5, 0, none⟩) gn0 c5)
      have oB5 := Rg.Only.setCell v5 B 3 (.slice (some ⟨y5, 0, none⟩) gn0 c5)
      simp only [List.set_cons_zero, List.set_cons_succ] at kB6
      have r_b0' := Rg.hid ((r_b0.out.below hbn5.out).only kv5.out line_int oB5)
      have r_b1' := Rg.hid ((r_b1.out.below hbn5.out).only kv5.out line_int oB5)
      have r_g1' := Rg.hid ((r_g1.out.below hbn5.out).only kv5.out line_int oB5)
      have r_g0' := Rg.hid (ho5.out.only kv5.out line_int oB5)
      have hR6 := Rg.hid ((hR5.out.below hbn5.out hR5.out.lt).same (oB5.block R (Ne.symm hBR)))
      have hbw6 := Rg.hid ((hbw5.out.trans (hbn5.out.mono hbw5.out.size)).trans (oB5.bel hBw))
      clear r_b0
      have r_b0 := r_b0'
      clear r_b0'
      clear r_g0
      have r_g0 := r_g0'
      clear r_g0'
      clear r_b1
      have r_b1 := r_b1'
      clear r_b1'
      clear r_g1
      have r_g1 := r_g1'
      clear r_g1'
      clear hl5 hn5 hn5' hR5 oB5 zf5 z3 z3' hap5 ho5 hbn5 kv5 hbw5
      generalize World.setCell _ _ _ = w6 at *
      replace kB6 := Rg.hid kB6
      go_wp2
      go_roundw
      case rel => exact ⟨1, some ⟨y4, 0, none⟩, c4, some ⟨y5, 0, none⟩, c5, b1, bc1, g1, gc1, by omega, by go_num, kB6, hR6, hbw6.out, r_b0.out, hlc4, r_g0.out, hlc5, r_b1.out, q_b1, r_g1.out, q_g1⟩
      case measure => simp [intOf]
    · clear hin
      obtain ⟨w4, hw4⟩ : ∃ w4, w4 = wr := ⟨_, rfl⟩
      subst hw4
      have kB4 := hB.out
      have hbw4 := Rg.hid hbw
      clear hB hbw

      have z6 : w4.cell? ⟨B, 6, none⟩ = some (.slice b1 bn1 bc1) := kB4.cell 6
      have hr4 : IRow (w4.alloc (.cells #[] 3)) b1 bad1 := r_b1.out.below (Rg.al1 _ _)
      obtain ⟨y4, c4, t4, v4, hap4, ho4, hbl4, hlc4⟩ := app_ints (ca := bc1) w4.heap.size (w4.alloc (.cells #[] 3)) (by simp) w4.heap.size (Rg.Bk.new rfl) (Nat.le_refl _) hr4 (by rw [← h_bn1.out]; exact l_bn1)
      rw [← h_bn1.out] at hap4 hlc4
      have hbn4 : Below w4.heap.size w4 v4 := (Rg.al1 _ _).trans hbl4
      have kv4 := kB4.below hbn4 kB4.lt
      have z6' : v4.cell? ⟨B, 6, none⟩ = some (.slice b1 bn1 bc1) := kv4.cell 6
      have zf4 := kv4.thaw
      replace hap4 := Rg.hid hap4
      have hl4 := kB4.lt
      have hn4 : ¬ B = w4.heap.size := by omega
      have hn4' : ¬ w4.heap.size = B := by omega
      replace ho4 := Rg.hid (Own.irow ho4)
      replace hbn4 := Rg.hid hbn4
      replace kv4 := Rg.hid kv4
      clear hr4 hbl4

      clear kB4
      go_upto_region 5 with (at_builtin; refine Rg.wpList_append_run rfl (.tmp 8) (.tmp 13) 25 rfl _ _ rfl rfl _ _ hap4.out ?_)
      have kB5 := kv4.out.set 6 (.slice (some ⟨y4, 0, none⟩) bn1 c4)
      have oB4 := Rg.Only.setCell v4 B 6 (.slice (some ⟨y4, 0, none⟩) bn1 c4)
      simp only [List.set_cons_zero, List.set_cons_succ] at kB5
      have r_g1' := Rg.hid ((r_g1.out.below hbn4.out).only kv4.out line_int oB4)
      have r_b0' := Rg.hid ((r_b0.out.below hbn4.out).only kv4.out line_int oB4)
      have r_g0' := Rg.hid ((r_g0.out.below hbn4.out).only kv4.out line_int oB4)
      have r_b1' := Rg.hid (ho4.out.only kv4.out line_int oB4)
      have hR5 := Rg.hid ((hRr.out.below hbn4.out hRr.out.lt).same (oB4.block R (Ne.symm hBR)))
      have hbw5 := Rg.hid ((hbw4.out.trans (hbn4.out.mono hbw4.out.size)).trans (oB4.bel hBw))
      clear r_b1
      have r_b1 := r_b1'
      clear r_b1'
      clear r_g1
      have r_g1 := r_g1'
      clear r_g1'
      clear r_b0
      have r_b0 := r_b0'
      clear r_b0'
      clear r_g0
      have r_g0 := r_g0'
      clear r_g0'
      clear hl4 hn4 hn4' hRr oB4 zf4 z6 z6' hap4 ho4 hbn4 kv4 hbw4
      generalize World.setCell _ _ _ = w5 at *

      have z7 : w5.cell? ⟨B, 7, none⟩ = some (.slice g1 gn1 gc1) := kB5.cell 7
      have hr5 : IRow (w5.alloc (.cells #[] 3)) g1 gap1 := r_g1.out.below (Rg.al1 _ _)
      obtain ⟨y5, c5, t5, v5, hap5, ho5, hbl5, hlc5⟩ := app_ints (ca := gc1) w5.heap.size (w5.alloc (.cells #[] 3)) (by simp) w5.heap.size (Rg.Bk.new rfl) (Nat.le_refl _) hr5 (by rw [← h_gn1.out]; exact l_gn1)
      rw [← h_gn1.out] at hap5 hlc5
      have hbn5 : Below w5.heap.size w5 v5 := (Rg.al1 _ _).trans hbl5
      have kv5 := kB5.below hbn5 kB5.lt
      have z7' : v5.cell? ⟨B, 7, none⟩ = some (.slice g1 gn1 gc1) := kv5.cell 7
      have zf5 := kv5.thaw
      replace hap5 := Rg.hid hap5
      have hl5 := kB5.lt
      have hn5 : ¬ B = w5.heap.size := by omega
      have hn5' : ¬ w5.heap.size = B := by omega
      replace ho5 := Rg.hid (Own.irow ho5)
      replace hbn5 := Rg.hid hbn5
      replace kv5 := Rg.hid kv5
      clear hr5 hbl5

      clear kB5
      go_upto_region 6 with (at_builtin; refine Rg.wpList_append_run rfl (.tmp 19) (.tmp 24) 25 rfl _ _ rfl rfl _ _ hap5.out ?_)
      have kB6 := kv5.out.set 7 (.slice (some ⟨y5, 0, none⟩) gn1 c5)
      have oB5 := Rg.Only.setCell v5 B 7 (.slice (some ⟨y5, 0, none⟩) gn1 c5)
      simp only [List.set_cons_zero, List.set_cons_succ] at kB6
      have r_b1' := Rg.hid ((r_b1.out.below hbn5.out).only kv5.out line_int oB5)
      have r_b0' := Rg.hid ((r_b0.out.below hbn5.out).only kv5.out line_int oB5)
      have r_g0' := Rg.hid ((r_g0.out.below hbn5.out).only kv5.out line_int oB5)
      have r_g1' := Rg.hid (ho5.out.only kv5.out line_int oB5)
      have hR6 := Rg.hid ((hR5.out.below hbn5.out hR5.out.lt).same (oB5.block R (Ne.symm hBR)))
      have hbw6 := Rg.hid ((hbw5.out.trans (hbn5.out.mono hbw5.out.size)).trans (oB5.bel hBw))
      clear r_b1
      have r_b1 := r_b1'
      clear r_b1'
      clear r_g1
      have r_g1 := r_g1'
      clear r_g1'
      clear r_b0
      have r_b0 := r_b0'
      clear r_b0'
      clear r_g0
      have r_g0 := r_g0'
      clear r_g0'
      clear hl5 hn5 hn5' hR5 oB5 zf5 z7 z7' hap5 ho5 hbn5 kv5 hbw5
      generalize World.setCell _ _ _ = w6 at *
      replace kB6 := Rg.hid kB6
      go_wp2
      go_roundw
      case rel => exact ⟨2, b0, bc0, g0, gc0, some ⟨y4, 0, none⟩, c4, some ⟨y5, 0, none⟩, c5, by omega, by go_num, kB6, hR6, hbw6.out, r_b0.out, q_b0, r_g0.out, q_g0, r_b1.out, hlc4, r_g1.out, hlc5⟩
      case measure => simp [intOf]
    · clear hin
      obtain ⟨w6, hw6⟩ : ∃ w6, w6 = wr := ⟨_, rfl⟩
      subst hw6
      have kB6 := hB.out
      have kR6 := hRr.out
      have hb6 := Rg.hid hbw
      clear hB hbw hRr
      obtain ⟨kE, oE⟩ := ret9 kR6 rfl (.string x0) (.int .i64 p0) (.slice b0 bn0 bc0) (.slice g0 gn0 gc0) (.string x1) (.int .i64 p1) (.slice b1 bn1 bc1) (.slice g1 gn1 gc1) (.bool up)
      have post := Rg.hid ((⟨_, _, _, _, _, _, _, _, rfl, ⟨r_b0.out.only kR6 line_int oE, q_b0, r_g0.out.only kR6 line_int oE, q_g0, r_b1.out.only kR6 line_int oE, q_b1, r_g1.out.only kR6 line_int oE, q_g1⟩, hb6.out.trans (oE.bel hRw)⟩ : OwnPost x0 p0 bn0 gn0 x1 p1 bn1 gn1 up bad0 gap0 bad1 gap1 w (.returned (.agg #[.string x0, .int .i64 p0, .slice b0 bn0 bc0, .slice g0 gn0 gc0, .string x1, .int .i64 p1, .slice b1 bn1 bc1, .slice g1 gn1 gc1, .bool up])) _))
      replace kE := Rg.hid kE
      have d0' : w6.cell? ⟨B, 0, none⟩ = some (.string x0) := kB6.cell 0
      have d1' : w6.cell? ⟨B, 1, none⟩ = some (.int .i64 p0) := kB6.cell 1
      have d2' : w6.cell? ⟨B, 2, none⟩ = some (.slice b0 bn0 bc0) := kB6.cell 2
      have d3' : w6.cell? ⟨B, 3, none⟩ = some (.slice g0 gn0 gc0) := kB6.cell 3
      have d4' : w6.cell? ⟨B, 4, none⟩ = some (.string x1) := kB6.cell 4
      have d5' : w6.cell? ⟨B, 5, none⟩ = some (.int .i64 p1) := kB6.cell 5
      have d6' : w6.cell? ⟨B, 6, none⟩ = some (.slice b1 bn1 bc1) := kB6.cell 6
      have d7' : w6.cell? ⟨B, 7, none⟩ = some (.slice g1 gn1 gc1) := kB6.cell 7
      have d8' : w6.cell? ⟨B, 8, none⟩ = some (.bool up) := kB6.cell 8
      have r0 : w6.cell? ⟨R, 0, none⟩ = some (.string ⟨#[]⟩) := kR6.cell 0
      have r1 : w6.cell? ⟨R, 1, none⟩ = some (.int .i64 0) := kR6.cell 1
      have r2 : w6.cell? ⟨R, 2, none⟩ = some (.slice none 0 0) := kR6.cell 2
      have r3 : w6.cell? ⟨R, 3, none⟩ = some (.slice none 0 0) := kR6.cell 3
      have r4 : w6.cell? ⟨R, 4, none⟩ = some (.string ⟨#[]⟩) := kR6.cell 4
      have r5 : w6.cell? ⟨R, 5, none⟩ = some (.int .i64 0) := kR6.cell 5
      have r6 : w6.cell? ⟨R, 6, none⟩ = some (.slice none 0 0) := kR6.cell 6
      have r7 : w6.cell? ⟨R, 7, none⟩ = some (.slice none 0 0) := kR6.cell 7
      have r8 : w6.cell? ⟨R, 8, none⟩ = some (.bool false) := kR6.cell 8
      have rf := kR6.thaw
      clear oE kR6 kB6 hb6
      go_wp2
      replace kE := kE.out
      replace post := post.out
      generalize World.setCell _ _ _ = WE at *
      exact bodyPost_ret (v := .agg #[.string x0, .int .i64 p0, .slice b0 bn0 bc0, .slice g0 gn0 gc0, .string x1, .int .i64 p1, .slice b1 bn1 bc1, .slice g1 gn1 gc1, .bool up]) (by simp [results, Try.results44, go_sem, kE.cell]) rfl post
end Go.Proofs.Ytalleocmnnnchaa
