/-
  Layer 7: Clean.
-/
import Derived.Test.YtalleocmnnnchaaLn18
namespace Go.Proofs.Ytalleocmnnnchaa
open Go.RowKit

set_option maxHeartbeats 400000 in
theorem cfn1_any (f t x : Int) (B : Nat) (W : World) (h0 : W.cell? ⟨B, 0, none⟩ = some (.int .i64 f)) (h1 : W.cell? ⟨B, 1, none⟩ = some (.int .i64 t)) :
    Calls Try.prog 34 #[.int .i64 x, .pointer (some ⟨B, 0, none⟩)] W fun e w' => e = .returned (.bool (decide (f ≤ x ∧ x < t))) ∧ ∃ k, w' = W.drewN k := by
  by_cases ha : f ≤ x
  · have d : decide (f ≤ x) = true := by simp only [decide_eq_true_eq]; exact ha
    by_cases hb : x < t
    · have d2 : decide (x < t) = true := by simp only [decide_eq_true_eq]; exact hb
      have d3 : decide (f ≤ x ∧ x < t) = true := by simp only [decide_eq_true_eq]; exact ⟨ha, hb⟩
      rw [d3]
      clear ha hb d3
      go_enter Try.func34, Try.ntmps34
      go_wp2
      go_ret
      exact ⟨rfl, 0, rfl⟩
    · have d2 : decide (x < t) = false := by simp only [decide_eq_false_iff_not]; exact hb
      have d3 : decide (f ≤ x ∧ x < t) = false := by simp only [decide_eq_false_iff_not]; exact fun h => hb h.2
      rw [d3]
      clear ha hb d3
      go_enter Try.func34, Try.ntmps34
      go_wp2
      go_ret
      exact ⟨rfl, 0, rfl⟩
  · have d : decide (f ≤ x) = false := by simp only [decide_eq_false_iff_not]; exact ha
    have d3 : decide (f ≤ x ∧ x < t) = false := by simp only [decide_eq_false_iff_not]; exact fun h => ha h.1
    rw [d3]
    clear ha d3
    go_enter Try.func34, Try.ntmps34
    go_wp2
    go_ret
    exact ⟨rfl, 0, rfl⟩
theorem eg1 : ∀ args w, (callFunc 34 args).run Try.prog w = .ok (.enter 34 args) w := enters_of Try.func34 (by kernel_rfl) rfl
theorem contains1_any (a : Option Addr) (c : Nat) (l : List Int) (f t : Int) (B : Nat) (W : World) (hn : l.length ≤ 1000000000) (kB : Rg.Bk B [.int .i64 f, .int .i64 t] 39 W) (hr : IRow W a l) :
    Calls Try.prog 36 #[.slice a l.length c, .func (.func 34) #[] #[.pointer (some ⟨B, 0, none⟩)]] W fun e w' => e = .returned (.bool (l.any (fun x => decide (f ≤ x ∧ x < t)))) ∧ Below W.heap.size W w' := by
  rcases hr.1 with ⟨rfl, rfl⟩ | ⟨b, o, rfl, -, -⟩
  · exact (Try.slices_ContainsFunc_empty (α := Int) none c _ W).mono fun e w' ⟨h1, h2⟩ => ⟨h1, by rw [h2]; exact Below.refl _ _⟩
  · refine (Try.slices_ContainsFunc (Value.int .i64) (fun x => decide (f ≤ x ∧ x < t)) 34 #[.pointer (some ⟨B, 0, none⟩)] eg1 b o l.length c l W
      (fun W' x hb => cfn1_any f t x B W' ((kB.below hb kB.lt).cell 0) ((kB.below hb kB.lt).cell 1)) (Nat.le_refl _) (by omega) (fun j hj => by rw [hr.cell hj]; simp [getElem!_pos, hj])).mono fun e w' ⟨h1, k, h2⟩ => ⟨?_, ?_⟩
    · rw [h1, List.take_length]
    · rw [h2]; exact Rg.drewN (Below.refl _ _) k

set_option maxHeartbeats 400000 in
theorem cfn2_any (f t x : Int) (B : Nat) (W : World) (h0 : W.cell? ⟨B, 0, none⟩ = some (.int .i64 f)) (h1 : W.cell? ⟨B, 1, none⟩ = some (.int .i64 t)) :
    Calls Try.prog 35 #[.int .i64 x, .pointer (some ⟨B, 0, none⟩)] W fun e w' => e = .returned (.bool (decide (f < x ∧ x < t))) ∧ ∃ k, w' = W.drewN k := by
  by_cases ha : f < x
  · have d : decide (f < x) = true := by simp only [decide_eq_true_eq]; exact ha
    by_cases hb : x < t
    · have d2 : decide (x < t) = true := by simp only [decide_eq_true_eq]; exact hb
      have d3 : decide (f < x ∧ x < t) = true := by simp only [decide_eq_true_eq]; exact ⟨ha, hb⟩
      rw [d3]
      clear ha hb d3
      go_enter Try.func35, Try.ntmps35
      go_wp2
      go_ret
      exact ⟨rfl, 0, rfl⟩
    · have d2 : decide (x < t) = false := by simp only [decide_eq_false_iff_not]; exact hb
      have d3 : decide (f < x ∧ x < t) = false := by simp only [decide_eq_false_iff_not]; exact fun h => hb h.2
      rw [d3]
      clear ha hb d3
      go_enter Try.func35, Try.ntmps35
      go_wp2
      go_ret
      exact ⟨rfl, 0, rfl⟩
  · have d : decide (f < x) = false := by simp only [decide_eq_false_iff_not]; exact ha
    have d3 : decide (f < x ∧ x < t) = false := by simp only [decide_eq_false_iff_not]; exact fun h => ha h.1
    rw [d3]
    clear ha d3
    go_enter Try.func35, Try.ntmps35
    go_wp2
    go_ret
    exact ⟨rfl, 0, rfl⟩
theorem eg2 : ∀ args w, (callFunc 35 args).run Try.prog w = .ok (.enter 35 args) w := enters_of Try.func35 (by kernel_rfl) rfl
theorem contains2_any (a : Option Addr) (c : Nat) (l : List Int) (f t : Int) (B : Nat) (W : World) (hn : l.length ≤ 1000000000) (kB : Rg.Bk B [.int .i64 f, .int .i64 t] 39 W) (hr : IRow W a l) :
    Calls Try.prog 36 #[.slice a l.length c, .func (.func 35) #[] #[.pointer (some ⟨B, 0, none⟩)]] W fun e w' => e = .returned (.bool (l.any (fun x => decide (f < x ∧ x < t)))) ∧ Below W.heap.size W w' := by
  rcases hr.1 with ⟨rfl, rfl⟩ | ⟨b, o, rfl, -, -⟩
  · exact (Try.slices_ContainsFunc_empty (α := Int) none c _ W).mono fun e w' ⟨h1, h2⟩ => ⟨h1, by rw [h2]; exact Below.refl _ _⟩
  · refine (Try.slices_ContainsFunc (Value.int .i64) (fun x => decide (f < x ∧ x < t)) 35 #[.pointer (some ⟨B, 0, none⟩)] eg2 b o l.length c l W
      (fun W' x hb => cfn2_any f t x B W' ((kB.below hb kB.lt).cell 0) ((kB.below hb kB.lt).cell 1)) (Nat.le_refl _) (by omega) (fun j hj => by rw [hr.cell hj]; simp [getElem!_pos, hj])).mono fun e w' ⟨h1, k, h2⟩ => ⟨?_, ?_⟩
    · rw [h1, List.take_length]
    · rw [h2]; exact Rg.drewN (Below.refl _ _) k

set_option maxHeartbeats 1000000 in
set_option maxRecDepth 100000 in
theorem lclean0 (x0 : ByteArray) (p0 : Int) (b0 : Option Addr) (bn0 bc0 : Nat) (g0 : Option Addr) (gn0 gc0 : Nat) (x1 : ByteArray) (p1 : Int) (b1 : Option Addr) (bn1 bc1 : Nat) (g1 : Option Addr) (gn1 gc1 : Nat) (up : Bool) (f t : Int) (bad gap : List Int) (w : World) (hbn : bn0 = bad.length) (hgn : gn0 = gap.length) (hbl : bad.length ≤ 1000000000) (hgl : gap.length ≤ 1000000000) (hrb : IRow w b0 bad) (hrg : IRow w g0 gap) :
    Calls Try.prog 16 #[.agg #[.string x0, .int .i64 p0, .slice b0 bn0 bc0, .slice g0 gn0 gc0, .string x1, .int .i64 p1, .slice b1 bn1 bc1, .slice g1 gn1 gc1, .bool up], .int .i64 0, .agg #[.int .i64 f, .int .i64 t]] w fun e w' => VPost (.bool (!(bad.any (fun x => decide (f ≤ x ∧ x < t))) && !(gap.any (fun x => decide (f < x ∧ x < t))))) w e w' := by
  have HW : Hid (∀ W, Calls Try.prog 33 #[.int .i64 0] W fun e w' => e = .returned (.bool true) ∧ w' = W) := fun W => lway_any 0 W
  have HB : Hid (∀ W B, Below w.heap.size w W → Rg.Bk B [.int .i64 f, .int .i64 t] 39 W → Calls Try.prog 36 #[.slice b0 bn0 bc0, .func (.func 34) #[] #[.pointer (some ⟨B, 0, none⟩)]] W fun e w' => e = .returned (.bool (bad.any (fun x => decide (f ≤ x ∧ x < t)))) ∧ Below W.heap.size W w') := fun W B hW kB => by rw [hbn]; exact contains1_any b0 bc0 bad f t B W hbl kB (hrb.below hW)
  have HG : Hid (∀ W B, Below w.heap.size w W → Rg.Bk B [.int .i64 f, .int .i64 t] 39 W → Calls Try.prog 36 #[.slice g0 gn0 gc0, .func (.func 35) #[] #[.pointer (some ⟨B, 0, none⟩)]] W fun e w' => e = .returned (.bool (gap.any (fun x => decide (f < x ∧ x < t)))) ∧ Below W.heap.size W w') := fun W B hW kB => by rw [hgn]; exact contains2_any g0 gc0 gap f t B W hgl kB (hrg.below hW)
  clear hbn hgn hbl hgl hrb hrg
  generalize bad.any (fun x => decide (f ≤ x ∧ x < t)) = eb at *
  generalize gap.any (fun x => decide (f < x ∧ x < t)) = eg at *
  go_enter Try.func16, Try.ntmps16
  have kB1 : Rg.Bk w.heap.size [.string x0, .int .i64 p0, .slice b0 bn0 bc0, .slice g0 gn0 gc0, .string x1, .int .i64 p1, .slice b1 bn1 bc1, .slice g1 gn1 gc1, .bool up] 30 ((w.alloc (.cells #[.string x0, .int .i64 p0, .slice b0 bn0 bc0, .slice g0 gn0 gc0, .string x1, .int .i64 p1, .slice b1 bn1 bc1, .slice g1 gn1 gc1, .bool up] 30)).alloc (.cells #[.int .i64 f, .int .i64 t] 39)) := (Rg.Bk.new rfl).old _
  have kS1 : Rg.Bk (w.heap.size + 1) [.int .i64 f, .int .i64 t] 39 ((w.alloc (.cells #[.string x0, .int .i64 p0, .slice b0 bn0 bc0, .slice g0 gn0 gc0, .string x1, .int .i64 p1, .slice b1 bn1 bc1, .slice g1 gn1 gc1, .bool up] 30)).alloc (.cells #[.int .i64 f, .int .i64 t] 39)) := Rg.Bk.new (by simp)
  have hb1 := Rg.al2 w (.cells #[.string x0, .int .i64 p0, .slice b0 bn0 bc0, .slice g0 gn0 gc0, .string x1, .int .i64 p1, .slice b1 bn1 bc1, .slice g1 gn1 gc1, .bool up] 30) (.cells #[.int .i64 f, .int .i64 t] 39)
  replace kB1 := Rg.hid kB1
  replace kS1 := Rg.hid kS1
  replace hb1 := Rg.hid hb1
  cases eb
  case true =>
    clear HG
    go_wp2_with (first
      | (go_at_call 33; refine (HW.out _).mono ?_; rintro e w' ⟨rfl, rfl⟩)
      | (go_at_call 36; refine (HB.out _ _ hb1.out kS1.out).mono ?_; rintro e w2 ⟨rfl, b2⟩))
    have post := Rg.chain hb1.out b2
    go_ret
    exact ⟨ret_bool (by simp), post⟩
  case false =>
    go_wp2_with (first
      | (go_at_call 33; refine (HW.out _).mono ?_; rintro e w' ⟨rfl, rfl⟩)
      | (go_at_call 36; refine (HB.out _ _ hb1.out kS1.out).mono ?_; rintro e w2 ⟨rfl, b2⟩; have kB2 := kB1.out.below b2 kB1.out.lt; have kS2 := Rg.hid (kS1.out.below b2 kS1.out.lt); have hb2 := Rg.hid (Rg.chain hb1.out b2); have y := kB2.cell 3; simp only [List.getElem?_cons_zero, List.getElem?_cons_succ] at y; clear HB)
      | (go_at_call 36; refine (HG.out _ _ hb2.out kS2.out).mono ?_; rintro e w3 ⟨rfl, b3⟩))
    have post := Rg.chain hb2.out b3
    go_ret
    exact ⟨ret_bool (by simp), post⟩

set_option maxHeartbeats 1000000 in
set_option maxRecDepth 100000 in
theorem lclean1 (x0 : ByteArray) (p0 : Int) (b0 : Option Addr) (bn0 bc0 : Nat) (g0 : Option Addr) (gn0 gc0 : Nat) (x1 : ByteArray) (p1 : Int) (b1 : Option Addr) (bn1 bc1 : Nat) (g1 : Option Addr) (gn1 gc1 : Nat) (up : Bool) (f t : Int) (bad gap : List Int) (w : World) (hbn : bn1 = bad.length) (hgn : gn1 = gap.length) (hbl : bad.length ≤ 1000000000) (hgl : gap.length ≤ 1000000000) (hrb : IRow w b1 bad) (hrg : IRow w g1 gap) :
    Calls Try.prog 16 #[.agg #[.string x0, .int .i64 p0, .slice b0 bn0 bc0, .slice g0 gn0 gc0, .string x1, .int .i64 p1, .slice b1 bn1 bc1, .slice g1 gn1 gc1, .bool up], .int .i64 1, .agg #[.int .i64 f, .int .i64 t]] w fun e w' => VPost (.bool (!(bad.any (fun x => decide (f ≤ x ∧ x < t))) && !(gap.any (fun x => decide (f < x ∧ x < t))))) w e w' := by
  have HW : Hid (∀ W, Calls Try.prog 33 #[.int .i64 1] W fun e w' => e = .returned (.bool true) ∧ w' = W) := fun W => lway_any 1 W
  have HB : Hid (∀ W B, Below w.heap.size w W → Rg.Bk B [.int .i64 f, .int .i64 t] 39 W → Calls Try.prog 36 #[.slice b1 bn1 bc1, .func (.func 34) #[] #[.pointer (some ⟨B, 0, none⟩)]] W fun e w' => e = .returned (.bool (bad.any (fun x => decide (f ≤ x ∧ x < t)))) ∧ Below W.heap.size W w') := fun W B hW kB => by rw [hbn]; exact contains1_any b1 bc1 bad f t B W hbl kB (hrb.below hW)
  have HG : Hid (∀ W B, Below w.heap.size w W → Rg.Bk B [.int .i64 f, .int .i64 t] 39 W → Calls Try.prog 36 #[.slice g1 gn1 gc1, .func (.func 35) #[] #[.pointer (some ⟨B, 0, none⟩)]] W fun e w' => e = .returned (.bool (gap.any (fun x => decide (f < x ∧ x < t)))) ∧ Below W.heap.size W w') := fun W B hW kB => by rw [hgn]; exact contains2_any g1 gc1 gap f t B W hgl kB (hrg.below hW)
  clear hbn hgn hbl hgl hrb hrg
  generalize bad.any (fun x => decide (f ≤ x ∧ x < t)) = eb at *
  generalize gap.any (fun x => decide (f < x ∧ x < t)) = eg at *
  go_enter Try.func16, Try.ntmps16
  have kB1 : Rg.Bk w.heap.size [.string x0, .int .i64 p0, .slice b0 bn0 bc0, .slice g0 gn0 gc0, .string x1, .int .i64 p1, .slice b1 bn1 bc1, .slice g1 gn1 gc1, .bool up] 30 ((w.alloc (.cells #[.string x0, .int .i64 p0, .slice b0 bn0 bc0, .slice g0 gn0 gc0, .string x1, .int .i64 p1, .slice b1 bn1 bc1, .slice g1 gn1 gc1, .bool up] 30)).alloc (.cells #[.int .i64 f, .int .i64 t] 39)) := (Rg.Bk.new rfl).old _
  have kS1 : Rg.Bk (w.heap.size + 1) [.int .i64 f, .int .i64 t] 39 ((w.alloc (.cells #[.string x0, .int .i64 p0, .slice b0 bn0 bc0, .slice g0 gn0 gc0, .string x1, .int .i64 p1, .slice b1 bn1 bc1, .slice g1 gn1 gc1, .bool up] 30)).alloc (.cells #[.int .i64 f, .int .i64 t] 39)) := Rg.Bk.new (by simp)
  have hb1 := Rg.al2 w (.cells #[.string x0, .int .i64 p0, .slice b0 bn0 bc0, .slice g0 gn0 gc0, .string x1, .int .i64 p1, .slice b1 bn1 bc1, .slice g1 gn1 gc1, .bool up] 30) (.cells #[.int .i64 f, .int .i64 t] 39)
  replace kB1 := Rg.hid kB1
  replace kS1 := Rg.hid kS1
  replace hb1 := Rg.hid hb1
  cases eb
  case true =>
    clear HG
    go_wp2_with (first
      | (go_at_call 33; refine (HW.out _).mono ?_; rintro e w' ⟨rfl, rfl⟩)
      | (go_at_call 36; refine (HB.out _ _ hb1.out kS1.out).mono ?_; rintro e w2 ⟨rfl, b2⟩))
    have post := Rg.chain hb1.out b2
    go_ret
    exact ⟨ret_bool (by simp), post⟩
  case false =>
    go_wp2_with (first
      | (go_at_call 33; refine (HW.out _).mono ?_; rintro e w' ⟨rfl, rfl⟩)
      | (go_at_call 36; refine (HB.out _ _ hb1.out kS1.out).mono ?_; rintro e w2 ⟨rfl, b2⟩; have kB2 := kB1.out.below b2 kB1.out.lt; have kS2 := Rg.hid (kS1.out.below b2 kS1.out.lt); have hb2 := Rg.hid (Rg.chain hb1.out b2); have y := kB2.cell 7; simp only [List.getElem?_cons_zero, List.getElem?_cons_succ] at y; clear HB)
      | (go_at_call 36; refine (HG.out _ _ hb2.out kS2.out).mono ?_; rintro e w3 ⟨rfl, b3⟩))
    have post := Rg.chain hb2.out b3
    go_ret
    exact ⟨ret_bool (by simp), post⟩

set_option maxHeartbeats 1000000 in
set_option maxRecDepth 100000 in
theorem lclean_bad (x0 : ByteArray) (p0 : Int) (b0 : Option Addr) (bn0 bc0 : Nat) (g0 : Option Addr) (gn0 gc0 : Nat) (x1 : ByteArray) (p1 : Int) (b1 : Option Addr) (bn1 bc1 : Nat) (g1 : Option Addr) (gn1 gc1 : Nat) (up : Bool) (n f t : Int) (w : World) (h0 : n ≠ 0) (h1 : n ≠ 1) :
    Calls Try.prog 16 #[.agg #[.string x0, .int .i64 p0, .slice b0 bn0 bc0, .slice g0 gn0 gc0, .string x1, .int .i64 p1, .slice b1 bn1 bc1, .slice g1 gn1 gc1, .bool up], .int .i64 n, .agg #[.int .i64 f, .int .i64 t]] w fun e w' => VPost (.bool false) w e w' := by
  have HW : Hid (∀ W, Calls Try.prog 33 #[.int .i64 n] W fun e w' => e = .returned (.bool false) ∧ w' = W) := fun W => by have := lway_any n W; rw [show decide (n = 0 ∨ n = 1) = false by simp [h0, h1]] at this; exact this
  have hb1 := Rg.hid (Rg.al2 w (.cells #[.string x0, .int .i64 p0, .slice b0 bn0 bc0, .slice g0 gn0 gc0, .string x1, .int .i64 p1, .slice b1 bn1 bc1, .slice g1 gn1 gc1, .bool up] 30) (.cells #[.int .i64 f, .int .i64 t] 39))
  go_enter Try.func16, Try.ntmps16
  go_wp2_with (go_at_call 33; refine (HW.out _).mono ?_; rintro e w' ⟨rfl, rfl⟩)
  go_ret
  exact ⟨rfl, hb1.out⟩
/-- what is clean -/
def Ln.cleanW (r : Ln.Wy) (f t : Int) : Bool := !(r.bad.any (fun x => decide (f ≤ x ∧ x < t))) && !(r.gap.any (fun x => decide (f < x ∧ x < t)))
def Ln.clean (L : Ln.Li) (n f t : Int) : Bool := Ln.nway n && Ln.cleanW (Ln.way L n) f t
theorem lclean_at (v : Value) (L : Ln.Li) (n f t : Int) (N : Nat) (w : World) (hL : Ln.LOk N L) (hN : N ≤ 1000000) (h : LAt w v L) : Calls Try.prog 16 #[v, .int .i64 n, .agg #[.int .i64 f, .int .i64 t]] w fun e w' => VPost (.bool (Ln.clean L n f t)) w e w' := by
  obtain ⟨b0, c0, g0, d0, b1, c1, g1, d1, rfl, h1, h2, h3, h4, h5, h6, h7, h8⟩ := h
  have lba := hL.a.lbad
  have lga := hL.a.lgap
  have lbb := hL.b.lbad
  have lgb := hL.b.lgap
  obtain ⟨A, B, up⟩ := L
  dsimp only at *
  unfold Ln.clean
  by_cases n0 : n = 0
  · subst n0
    exact lclean0 ⟨A.x.toArray⟩ (A.p : Int) b0 A.bad.length c0 g0 A.gap.length d0 ⟨B.x.toArray⟩ (B.p : Int) b1 B.bad.length c1 g1 B.gap.length d1 up f t A.bad A.gap w rfl rfl (by omega) (by omega) h1 h3
  · by_cases n1 : n = 1
    · subst n1
      exact lclean1 ⟨A.x.toArray⟩ (A.p : Int) b0 A.bad.length c0 g0 A.gap.length d0 ⟨B.x.toArray⟩ (B.p : Int) b1 B.bad.length c1 g1 B.gap.length d1 up f t B.bad B.gap w rfl rfl (by omega) (by omega) h5 h7
    · rw [show Ln.nway n = false by simp [Ln.nway, n0, n1], Bool.false_and]
      exact lclean_bad ⟨A.x.toArray⟩ (A.p : Int) b0 A.bad.length c0 g0 A.gap.length d0 ⟨B.x.toArray⟩ (B.p : Int) b1 B.bad.length c1 g1 B.gap.length d1 up n f t w n0 n1
end Go.Proofs.Ytalleocmnnnchaa
