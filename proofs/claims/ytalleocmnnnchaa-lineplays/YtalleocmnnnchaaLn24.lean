/-
  Layer 7: LineRefused.
-/
import Derived.Test.YtalleocmnnnchaaLn23
namespace Go.Proofs.Ytalleocmnnnchaa
open Go.RowKit

set_option maxHeartbeats 4000000 in
set_option maxRecDepth 100000 in
theorem refused_walk (a : Option Addr) (ca : Nat) (l : List Ln.Cl) (c : Ln.Cl) (hlen : l.length * 48 ≤ 140737488351232) (hcp : l.length ≤ ca) (hnil : a = none → ca = 0) (w : World) (hrow : CRow0 w a l) :
    Calls Try.prog 8 #[.slice a l.length ca, .agg #[.int .i64 c.k, .int .i64 c.y, .int .i64 c.a, .int .i64 c.n, .string c.s]] w fun e w' => VPost (.bool true) w e w' := by
  have hnl : Hid (a = none → l = []) := fun h => by have := hnil h; cases l with
    | nil => rfl
    | cons x y => simp at hcp; omega
  clear hnil
  obtain ⟨ok, oy, oa, om, ox⟩ := c
  dsimp only at *
  obtain ⟨N, hN⟩ : ∃ N, N = l.length := ⟨_, rfl⟩
  rw [← hN]
  replace hN := Rg.hid hN
  replace hlen := Rg.hid hlen
  have hrow1 : Hid (CRow0 (w.alloc (.cells #[.int .i64 ok, .int .i64 oy, .int .i64 oa, .int .i64 om, .string ox] 33)) a l) := hrow.below (Rg.al1 _ _)
  have hbw1 := Rg.hid (Rg.al1 w (.cells #[.int .i64 ok, .int .i64 oy, .int .i64 oa, .int .i64 om, .string ox] 33))
  have kO : Rg.Bk w.heap.size [.int .i64 ok, .int .i64 oy, .int .i64 oa, .int .i64 om, .string ox] 33 (w.alloc (.cells #[.int .i64 ok, .int .i64 oy, .int .i64 oa, .int .i64 om, .string ox] 33)) := Rg.Bk.new rfl
  clear hrow
  go_enter Try.func8, Try.ntmps8
  go_upto_region 1 with fail
  have HA : Hid (∀ W, Below (w.alloc (.cells #[.int .i64 ok, .int .i64 oy, .int .i64 oa, .int .i64 om, .string ox] 33)).heap.size (w.alloc (.cells #[.int .i64 ok, .int .i64 oy, .int .i64 oa, .int .i64 om, .string ox] 33)) W → Calls Try.prog 10 #[] W fun e w' => VPost (.bool true) w e w') := fun W hW => (awake_any W).mono fun e w' ⟨h1, h2⟩ => ⟨h1, Rg.chain (Rg.chain hbw1.out hW) h2⟩
  generalize w.alloc _ = w1 at *
  obtain ⟨V0, hV0⟩ : ∃ V0, V0 = w.heap.size := ⟨_, rfl⟩
  rw [← hV0] at kO ⊢
  clear hV0
  have hrow := hrow1
  clear hrow1
  have hfacts : Hid (∀ W, Below w1.heap.size w1 W → W.cell? ⟨V0, 0, none⟩ = some (.int .i64 ok) ∧ W.cell? ⟨V0, 1, none⟩ = some (.int .i64 oy) ∧ W.cell? ⟨V0, 2, none⟩ = some (.int .i64 oa) ∧ W.cell? ⟨V0, 3, none⟩ = some (.int .i64 om) ∧ W.cell? ⟨V0, 4, none⟩ = some (.string ox)) := fun W hW => by
    have k1' := kO.below hW kO.lt
    exact ⟨k1'.cell 0, k1'.cell 1, k1'.cell 2, k1'.cell 3, k1'.cell 4⟩
  have HA1 : Hid (∀ W g0, Below w1.heap.size w1 W → Rg.Bk g0 [] 33 W → w1.heap.size ≤ g0 → ∃ v' W', (Builtin.append_ #[22, 22] 22 #[.slice (some ⟨g0, 0, none⟩) 0 0, .slice a N ca]).run Try.prog W = .ok v' W' ∧ ∃ g cap rest, v' = .slice (some ⟨g, 0, none⟩) N cap ∧ callE.Own w1.heap.size W' g cap l rest ∧ Below W.heap.size W W' ∧ Below w1.heap.size w1 W' ∧ W'.cell? ⟨V0, 0, none⟩ = some (.int .i64 ok) ∧ W'.cell? ⟨V0, 1, none⟩ = some (.int .i64 oy) ∧ W'.cell? ⟨V0, 2, none⟩ = some (.int .i64 oa) ∧ W'.cell? ⟨V0, 3, none⟩ = some (.int .i64 om) ∧ W'.cell? ⟨V0, 4, none⟩ = some (.string ox)) := fun W g0 hW hg hg0 => by
    have := app_calls (ca := ca) hrow.out hnl.out hlen.out hW g0 hg hg0
    rw [← hN.out] at this
    obtain ⟨v', W', h1, g, cap, rest, h2, h3, h4⟩ := this
    exact ⟨v', W', h1, g, cap, rest, h2, h3, h4, Rg.chain hW h4, hfacts.out _ (Rg.chain hW h4)⟩
  have HA2 : Hid (∀ W g cap rest ad, Below w1.heap.size w1 W → callE.Own w1.heap.size W g cap l rest → Rg.Bk ad [.int .i64 ok, .int .i64 oy, .int .i64 oa, .int .i64 om, .string ox] 33 W → ∃ v' W', (Builtin.append_ #[22, 22] 22 #[.slice (some ⟨g, 0, none⟩) N cap, .slice (some ⟨ad, 0, none⟩) 1 1]).run Try.prog W = .ok v' W' ∧ ∃ g' cap', v' = .slice (some ⟨g', 0, none⟩) (N + 1) cap' ∧ CRow0 W' (some ⟨g', 0, none⟩) (l ++ [⟨ok, oy, oa, om, ox⟩]) ∧ Below w1.heap.size w1 W' ∧ W'.cell? ⟨V0, 0, none⟩ = some (.int .i64 ok) ∧ W'.cell? ⟨V0, 1, none⟩ = some (.int .i64 oy) ∧ W'.cell? ⟨V0, 2, none⟩ = some (.int .i64 oa) ∧ W'.cell? ⟨V0, 3, none⟩ = some (.int .i64 om) ∧ W'.cell? ⟨V0, 4, none⟩ = some (.string ox)) := fun W g cap rest ad hW ho hk => by
    have := app_one ho ⟨ok, oy, oa, om, ox⟩ hlen.out hW.size ad (fun t u ht => by rw [Nat.zero_add, hk.cell t]; exact ht)
    rw [← hN.out] at this
    obtain ⟨v', W', h1, g', cap', h2, h3, h4⟩ := this
    exact ⟨v', W', h1, g', cap', h2, h3, hW.trans h4, hfacts.out _ (hW.trans h4)⟩
  have HH : Hid (∀ W g' cap', Below w1.heap.size w1 W → CRow0 W (some ⟨g', 0, none⟩) (l ++ [⟨ok, oy, oa, om, ox⟩]) → Calls Try.prog 9 #[.slice (some ⟨g', 0, none⟩) (N + 1) cap'] W fun e w' => ∃ B : Bool, e = .returned (.bool B) ∧ Hid (B = false → Light (l ++ [⟨ok, oy, oa, om, ox⟩])) ∧ Below w1.heap.size w1 w' ∧ w'.cell? ⟨V0, 0, none⟩ = some (.int .i64 ok) ∧ w'.cell? ⟨V0, 1, none⟩ = some (.int .i64 oy) ∧ w'.cell? ⟨V0, 2, none⟩ = some (.int .i64 oa) ∧ w'.cell? ⟨V0, 3, none⟩ = some (.int .i64 om) ∧ w'.cell? ⟨V0, 4, none⟩ = some (.string ox)) := fun W g' cap' hW hr => by
    have := heavy_any (some ⟨g', 0, none⟩) cap' (l ++ [⟨ok, oy, oa, om, ox⟩]) W (by have := hlen.out; simp; omega) hr
    rw [List.length_append, List.length_singleton, ← hN.out] at this
    exact this.mono fun e w' ⟨B, h1, h2, h3⟩ => ⟨B, h1, h2, Rg.chain hW h3, hfacts.out _ (Rg.chain hW h3)⟩
  go_cut [22] (fun s wx => ∃ B : Bool, s = .bool B ∧ Hid (B = false → Light (l ++ [⟨ok, oy, oa, om, ox⟩])) ∧ Below w1.heap.size w1 wx)
  case first =>
    clear hlen hnl hrow hN hbw1 hcp
    have o0 := kO.cell 0
    have o1 := kO.cell 1
    have o2 := kO.cell 2
    have o3 := kO.cell 3
    have o4 := kO.cell 4
    simp only [List.getElem?_cons_zero, List.getElem?_cons_succ] at o0 o1 o2 o3 o4
    go_region_held3 (fun w' => w'.cell? ⟨V0, 0, none⟩ = some (.int .i64 ok) ∧ w'.cell? ⟨V0, 1, none⟩ = some (.int .i64 oy) ∧ w'.cell? ⟨V0, 2, none⟩ = some (.int .i64 oa) ∧ w'.cell? ⟨V0, 3, none⟩ = some (.int .i64 om) ∧ w'.cell? ⟨V0, 4, none⟩ = some (.string ox)) (go_keep) (first
      | (refine Rg.step_append_ex (by rfl) (.tmp 16) (.tmp 17) 22 (by rfl) _ _ (by rfl) (by rfl) _ (HA1.out _ _ ?_ ?_ ?_) ?_; (first | exact (Rg.al1 _ _).drew | exact (Rg.al2 _ _ _).drew | exact Rg.al1 _ _ | exact Rg.al2 _ _ _); (first | exact (Rg.Bk.new (by simp)).drew | exact ((Rg.Bk.new (by simp)).old _).drew | exact Rg.Bk.new (by simp) | exact (Rg.Bk.new (by simp)).old _); (first | exact Nat.le_refl _ | exact Nat.le_succ _ | (simp <;> omega)); rintro v' wA ⟨g, cap, rest, rfl, hOwn, hb1, bA, z0, z1, z2, z3, z4⟩)
      | (refine Rg.step_append_ex (by rfl) (.tmp 18) (.tmp 20) 22 (by rfl) _ _ (by rfl) (by rfl) _ (HA2.out _ _ _ rest _ ?_ ?_ ?_) ?_; (first | exact bA | exact Rg.chain bA (Rg.al1 _ _)); (first | exact hOwn | exact hOwn.below (Rg.al1 _ _)); (first | exact Rg.Bk.new rfl | exact Rg.Bk.below ((Rg.Bk.new (by simp)).drew) hb1 (by simp <;> omega) | exact Rg.Bk.below (((Rg.Bk.new (by simp)).old _).drew) hb1 (by simp <;> omega)); rintro v' wB ⟨g', cap', rfl, hCR, bB, y0, y1, y2, y3, y4⟩)
      | (go_at_call 9; refine (HH.out _ _ _ bB hCR).mono ?_; rintro e wH ⟨B, rfl, hB, bH, x0, x1, x2, x3, x4⟩))
    all_goals (go_wp2_with fail; go_meet; exact ⟨_, rfl, hB, bH⟩)
  case rest =>
    obtain ⟨B, rfl, hB, b1⟩ := hcut
    clear HA1 HA2 HH
    cases B
    case true =>
      go_wp2_with (go_at_call 10; refine (HA.out _ b1).mono ?_)
      rintro e w3 ⟨rfl, b2⟩
      go_wp2
      go_ret
      exact ⟨rfl, b2⟩
    case false =>
    have hLt := Rg.hid (hB.out rfl)
    clear hB hnl hcp hlen
    have hln : N ≤ 200 := by have := hLt.out.len; rw [hN.out]; simp at this; omega
    have hwl : Ln.wt l + ox.size ≤ 75000 := by have := hLt.out.wt; rw [Ln.wt_append] at this; simpa [Ln.wt] using this
    have HNw : Hid (∀ W, Calls Try.prog 11 #[] W fun e w' => e = .returned (.agg #[.string ⟨#[]⟩, .int .i64 0, .slice none 0 0, .slice none 0 0, .string ⟨#[]⟩, .int .i64 0, .slice none 0 0, .slice none 0 0, .bool true]) ∧ Below W.heap.size W w') := fun W => lnew_any W
    go_upto_region 4 with (go_at_call 11; refine (HNw.out _).mono ?_; rintro e w3 ⟨rfl, bN⟩)
    have kV0 : Rg.Bk w3.heap.size [.string ⟨#[]⟩, .int .i64 0, .slice none 0 0, .slice none 0 0, .string ⟨#[]⟩, .int .i64 0, .slice none 0 0, .slice none 0 0, .bool true] 30 (w3.alloc (.cells #[.string ⟨#[]⟩, .int .i64 0, .slice none 0 0, .slice none 0 0, .string ⟨#[]⟩, .int .i64 0, .slice none 0 0, .slice none 0 0, .bool true] 30)) := Rg.Bk.new rfl
    have hS0 : Hid (∃ (x0' : ByteArray) (p0' : Int) (b0' : Option Addr) (bn0' bc0' : Nat) (g0' : Option Addr) (gn0' gc0' : Nat) (x1' : ByteArray) (p1' : Int) (b1' : Option Addr) (bn1' bc1' : Nat) (g1' : Option Addr) (gn1' gc1' : Nat) (up' : Bool), LAt (w3.alloc (.cells #[.string ⟨#[]⟩, .int .i64 0, .slice none 0 0, .slice none 0 0, .string ⟨#[]⟩, .int .i64 0, .slice none 0 0, .slice none 0 0, .bool true] 30)) (.agg #[.string x0', .int .i64 p0', .slice b0' bn0' bc0', .slice g0' gn0' gc0', .string x1', .int .i64 p1', .slice b1' bn1' bc1', .slice g1' gn1' gc1', .bool up']) Ln.new ∧ Rg.Bk w3.heap.size [.string x0', .int .i64 p0', .slice b0' bn0' bc0', .slice g0' gn0' gc0', .string x1', .int .i64 p1', .slice b1' bn1' bc1', .slice g1' gn1' gc1', .bool up'] 30 (w3.alloc (.cells #[.string ⟨#[]⟩, .int .i64 0, .slice none 0 0, .slice none 0 0, .string ⟨#[]⟩, .int .i64 0, .slice none 0 0, .slice none 0 0, .bool true] 30))) := ⟨_, _, _, _, _, _, _, _, _, _, _, _, _, _, _, _, _, ⟨none, 0, none, 0, none, 0, none, 0, rfl, IRow.nil, Nat.le_refl _, IRow.nil, Nat.le_refl _, IRow.nil, Nat.le_refl _, IRow.nil, Nat.le_refl _⟩, kV0⟩
    have hb0 := Rg.chain (Rg.chain b1 bN) (Rg.al1 w3 (.cells #[.string ⟨#[]⟩, .int .i64 0, .slice none 0 0, .slice none 0 0, .string ⟨#[]⟩, .int .i64 0, .slice none 0 0, .slice none 0 0, .bool true] 30))
    have hVw := (Rg.chain b1 bN).size
    clear b1 bN HNw kV0
    generalize World.alloc _ _ = W0 at *
    generalize w3.heap.size = V at *
    replace kO := Rg.hid kO
    go_wp2
    go_loopw [27] (fun vi wr => ∃ (i : Nat) (L : Ln.Li), i ≤ N ∧ vi = .int .i64 i ∧ Hid (Ln.LOk (Ln.wt (l.take i) + i) L) ∧ Hid (∃ (x0' : ByteArray) (p0' : Int) (b0' : Option Addr) (bn0' bc0' : Nat) (g0' : Option Addr) (gn0' gc0' : Nat) (x1' : ByteArray) (p1' : Int) (b1' : Option Addr) (bn1' bc1' : Nat) (g1' : Option Addr) (gn1' gc1' : Nat) (up' : Bool), LAt wr (.agg #[.string x0', .int .i64 p0', .slice b0' bn0' bc0', .slice g0' gn0' gc0', .string x1', .int .i64 p1', .slice b1' bn1' bc1', .slice g1' gn1' gc1', .bool up']) L ∧ Rg.Bk V [.string x0', .int .i64 p0', .slice b0' bn0' bc0', .slice g0' gn0' gc0', .string x1', .int .i64 p1', .slice b1' bn1' bc1', .slice g1' gn1' gc1', .bool up'] 30 wr) ∧ Below w1.heap.size w1 wr) (fun vi _ => N - (intOf vi).toNat)
    case atStart => exact ⟨0, Ln.new, Nat.zero_le _, rfl, ⟨Ln.empty_ok _, Ln.empty_ok _⟩, hS0, hb0⟩
    case round =>
      obtain ⟨i, L, hin, rfl, hLp, hLV, hbw⟩ := hrel
      clear hb0 hS0
      obtain ⟨x0, p0, b0, bn0, bc0, g0, gn0, gc0, x1, p1, b1, bn1, bc1, g1, gn1, gc1, up, hLa, kV⟩ := hLV.out
      clear hLV
      replace hLa := Rg.hid hLa
      replace kV := Rg.hid kV
      have hwi : Ln.wt (l.take i) ≤ Ln.wt l := by
        have h1 := Ln.wt_append (l.take i) (l.drop i)
        rw [List.take_append_drop] at h1
        omega
      by_cases hlt : i < N
      · have hil : i < l.length := by rw [← hN.out]; exact hlt
        obtain ⟨b, o, rfl, hb, hat⟩ : ∃ b o, a = some ⟨b, o, none⟩ ∧ b < w1.heap.size ∧ Rg.At w1 b o (callE.flat l) := by
          rcases hrow.out with h | h
          · rw [h] at hil; simp at hil
          · exact h
        have at1 : Rg.At wr b (o + i * 5) (callE.enc l[i]) := (hat.elem hil).below hbw hb
        have hci : l[i].s.size ≤ 50000 := hLt.out.data _ (List.mem_append_left _ (List.getElem_mem hil))
        have hwt : Ln.wt (l.take (i + 1)) = Ln.wt (l.take i) + l[i].s.size := Ln.wt_take hil
        generalize l[i] = c at *
        obtain ⟨ck, cy, ca, cm, cx⟩ := c
        obtain ⟨c0, c1, c2, c3, c4⟩ := call_at at1
        dsimp only at hci hwt
        have q3 := hLp.out
        have qn : Hid (Ln.LOk (Ln.wt (l.take (i + 1)) + (i + 1)) (Ln.play L ⟨ck, cy, ca, cm, cx⟩).1) := (Ln.play_ok q3 ⟨ck, cy, ca, cm, cx⟩).mono (by show _ + cx.size + 1 ≤ _; omega)
        have HP : Hid (∀ W, LAt W (.agg #[.string x0, .int .i64 p0, .slice b0 bn0 bc0, .slice g0 gn0 gc0, .string x1, .int .i64 p1, .slice b1 bn1 bc1, .slice g1 gn1 gc1, .bool up]) L → Calls Try.prog 13 #[.agg #[.string x0, .int .i64 p0, .slice b0 bn0 bc0, .slice g0 gn0 gc0, .string x1, .int .i64 p1, .slice b1 bn1 bc1, .slice g1 gn1 gc1, .bool up], .agg #[.int .i64 ck, .int .i64 cy, .int .i64 ca, .int .i64 cm, .string cx]] W fun e w' => ∃ ss ee, ∃ (x0' : ByteArray) (p0' : Int) (b0' : Option Addr) (bn0' bc0' : Nat) (g0' : Option Addr) (gn0' gc0' : Nat) (x1' : ByteArray) (p1' : Int) (b1' : Option Addr) (bn1' bc1' : Nat) (g1' : Option Addr) (gn1' gc1' : Nat) (up' : Bool), e = .returned (.tuple #[.agg #[.string x0', .int .i64 p0', .slice b0' bn0' bc0', .slice g0' gn0' gc0', .string x1', .int .i64 p1', .slice b1' bn1' bc1', .slice g1' gn1' gc1', .bool up'], .string ss, .int .i64 ee]) ∧ Hid (LAt w' (.agg #[.string x0', .int .i64 p0', .slice b0' bn0' bc0', .slice g0' gn0' gc0', .string x1', .int .i64 p1', .slice b1' bn1' bc1', .slice g1' gn1' gc1', .bool up']) (Ln.play L ⟨ck, cy, ca, cm, cx⟩).1) ∧ Below W.heap.size W w') := fun W hW => (play_any _ L ⟨ck, cy, ca, cm, cx⟩ _ W q3 (by omega) (by show cx.size ≤ _; omega) hW).mono fun e w' ⟨v, h1, h2, h3⟩ => by
          have h4 := h2
          obtain ⟨b0, c0, g0, d0, b1, c1, g1, d1, rfl, -⟩ := h4
          exact ⟨_, _, _, _, _, _, _, _, _, _, _, _, _, _, _, _, _, _, _, h1, h2, h3⟩
        have hz0 : (0 : Int) ≤ (i : Int) := by omega
        have hz1 : (i : Int) < (N : Int) := by omega
        clear q3 hwt hwi hci at1 hat hil hLp
        go_upto_region 7 with fail
        have kO1 : Rg.Bk wr.heap.size [.int .i64 ck, .int .i64 cy, .int .i64 ca, .int .i64 cm, .string cx] 33 (wr.alloc (.cells #[.int .i64 ck, .int .i64 cy, .int .i64 ca, .int .i64 cm, .string cx] 33)) := Rg.Bk.new rfl
        have kV1 := kV.out.old (.cells #[.int .i64 ck, .int .i64 cy, .int .i64 ca, .int .i64 cm, .string cx] 33)
        have hL1 := Rg.hid (hLa.out.below (Rg.al1 wr (.cells #[.int .i64 ck, .int .i64 cy, .int .i64 ca, .int .i64 cm, .string cx] 33)))
        have hb1 := Rg.chain hbw (Rg.al1 wr (.cells #[.int .i64 ck, .int .i64 cy, .int .i64 ca, .int .i64 cm, .string cx] 33))
        have hVO : V ≠ wr.heap.size := by have := kV.out.lt; omega
        clear c0 c1 c2 c3 c4 kV hLa hbw
        generalize World.alloc _ _ = w4 at *
        generalize wr.heap.size = O at *
        have s0 : w4.cell? ⟨O, 0, none⟩ = some (.int .i64 ck) := kO1.cell 0
        have s1 : w4.cell? ⟨O, 1, none⟩ = some (.int .i64 cy) := kO1.cell 1
        have s2 : w4.cell? ⟨O, 2, none⟩ = some (.int .i64 ca) := kO1.cell 2
        have s3 : w4.cell? ⟨O, 3, none⟩ = some (.int .i64 cm) := kO1.cell 3
        have s4 : w4.cell? ⟨O, 4, none⟩ = some (.string cx) := kO1.cell 4
        have z0 : w4.cell? ⟨V, 0, none⟩ = some (.string x0) := kV1.cell 0
        have z1 : w4.cell? ⟨V, 1, none⟩ = some (.int .i64 p0) := kV1.cell 1
        have z2 : w4.cell? ⟨V, 2, none⟩ = some (.slice b0 bn0 bc0) := kV1.cell 2
        have z3 : w4.cell? ⟨V, 3, none⟩ = some (.slice g0 gn0 gc0) := kV1.cell 3
        have z4 : w4.cell? ⟨V, 4, none⟩ = some (.string x1) := kV1.cell 4
        have z5 : w4.cell? ⟨V, 5, none⟩ = some (.int .i64 p1) := kV1.cell 5
        have z6 : w4.cell? ⟨V, 6, none⟩ = some (.slice b1 bn1 bc1) := kV1.cell 6
        have z7 : w4.cell? ⟨V, 7, none⟩ = some (.slice g1 gn1 gc1) := kV1.cell 7
        have z8 : w4.cell? ⟨V, 8, none⟩ = some (.bool up) := kV1.cell 8
        replace kV1 := Rg.hid kV1
        clear kO1
        go_upto_region 8 with (go_at_call 13; refine (HP.out _ hL1.out).mono ?_; rintro e w6 ⟨ss, ee, x0', p0', b0', bn0', bc0', g0', gn0', gc0', x1', p1', b1', bn1', bc1', g1', gn1', gc1', up', rfl, hL6, b6⟩; have kV6 := kV1.out.below b6 kV1.out.lt; have hb6 := Rg.hid (Rg.chain hb1 b6); have r0 := kV6.cell 0; have r1 := kV6.cell 1; have r2 := kV6.cell 2; have r3 := kV6.cell 3; have r4 := kV6.cell 4; have r5 := kV6.cell 5; have r6 := kV6.cell 6; have r7 := kV6.cell 7; have r8 := kV6.cell 8; have rf := kV6.thaw; simp only [List.getElem?_cons_zero, List.getElem?_cons_succ] at r0 r1 r2 r3 r4 r5 r6 r7 r8)
        obtain ⟨kV7, o7⟩ := ret9 kV6 rfl (.string x0') (.int .i64 p0') (.slice b0' bn0' bc0') (.slice g0' gn0' gc0') (.string x1') (.int .i64 p1') (.slice b1' bn1' bc1') (.slice g1' gn1' gc1') (.bool up')
        have hL7 := hL6.out.only kV6 line_int o7
        have hb7 := hb6.out.trans (o7.bel hVw)
        have hL7' : Hid (∃ (x0' : ByteArray) (p0' : Int) (b0' : Option Addr) (bn0' bc0' : Nat) (g0' : Option Addr) (gn0' gc0' : Nat) (x1' : ByteArray) (p1' : Int) (b1' : Option Addr) (bn1' bc1' : Nat) (g1' : Option Addr) (gn1' gc1' : Nat) (up' : Bool), LAt _ (.agg #[.string x0', .int .i64 p0', .slice b0' bn0' bc0', .slice g0' gn0' gc0', .string x1', .int .i64 p1', .slice b1' bn1' bc1', .slice g1' gn1' gc1', .bool up']) (Ln.play L ⟨ck, cy, ca, cm, cx⟩).1 ∧ Rg.Bk V [.string x0', .int .i64 p0', .slice b0' bn0' bc0', .slice g0' gn0' gc0', .string x1', .int .i64 p1', .slice b1' bn1' bc1', .slice g1' gn1' gc1', .bool up'] 30 _) := ⟨_, _, _, _, _, _, _, _, _, _, _, _, _, _, _, _, _, hL7, kV7⟩
        clear kV6 kV7 hL7 hL6 hb6 o7 r0 r1 r2 r3 r4 r5 r6 r7 r8 rf z0 z1 z2 z3 z4 z5 z6 z7 z8 s0 s1 s2 s3 s4 HP hL1 kV1
        generalize World.setCell _ _ _ = w7 at *
        go_wp2
        go_roundw
        case rel => exact ⟨i + 1, _, by omega, by go_num, qn, hL7', hb7⟩
        case measure => simp [intOf]; omega
      · obtain rfl : i = N := by omega
        have q3 := hLp.out
        have hdo : ox.size ≤ 50000 := hLt.out.data ⟨ok, oy, oa, om, ox⟩ (by simp)
        have HP : Hid (∀ W, LAt W (.agg #[.string x0, .int .i64 p0, .slice b0 bn0 bc0, .slice g0 gn0 gc0, .string x1, .int .i64 p1, .slice b1 bn1 bc1, .slice g1 gn1 gc1, .bool up]) L → Calls Try.prog 13 #[.agg #[.string x0, .int .i64 p0, .slice b0 bn0 bc0, .slice g0 gn0 gc0, .string x1, .int .i64 p1, .slice b1 bn1 bc1, .slice g1 gn1 gc1, .bool up], .agg #[.int .i64 ok, .int .i64 oy, .int .i64 oa, .int .i64 om, .string ox]] W fun e w' => ∃ ss ee, ∃ (x0' : ByteArray) (p0' : Int) (b0' : Option Addr) (bn0' bc0' : Nat) (g0' : Option Addr) (gn0' gc0' : Nat) (x1' : ByteArray) (p1' : Int) (b1' : Option Addr) (bn1' bc1' : Nat) (g1' : Option Addr) (gn1' gc1' : Nat) (up' : Bool), e = .returned (.tuple #[.agg #[.string x0', .int .i64 p0', .slice b0' bn0' bc0', .slice g0' gn0' gc0', .string x1', .int .i64 p1', .slice b1' bn1' bc1', .slice g1' gn1' gc1', .bool up'], .string ss, .int .i64 ee]) ∧ Hid (ee ≠ 0 → LAt w' (.agg #[.string x0', .int .i64 p0', .slice b0' bn0' bc0', .slice g0' gn0' gc0', .string x1', .int .i64 p1', .slice b1' bn1' bc1', .slice g1' gn1' gc1', .bool up']) L) ∧ Below W.heap.size W w') := fun W hW => (play_any _ L ⟨ok, oy, oa, om, ox⟩ _ W q3 (by omega) (by show ox.size ≤ _; omega) hW).mono fun e w' ⟨v, h1, h2, h3⟩ => by
          have h4 := h2
          obtain ⟨b0, c0, g0, d0, b1, c1, g1, d1, rfl, -⟩ := h4
          exact ⟨_, _, _, _, _, _, _, _, _, _, _, _, _, _, _, _, _, _, _, h1, (fun hne => by have := Ln.play_refused L ⟨ok, oy, oa, om, ox⟩ hne; rw [this] at h2; rw [this]; exact h2), h3⟩
        have HSm : Hid (∀ W v v', LAt W v L → LAt W v' L → Calls Try.prog 15 #[v, v'] W fun e w' => VPost (.bool true) W e w') := fun W v v' h h' => same_at v v' L _ W q3 (by omega) h h'
        have HHg : Hid (∀ W, Calls Try.prog 20 #[.agg #[.string x0, .int .i64 p0, .slice b0 bn0 bc0, .slice g0 gn0 gc0, .string x1, .int .i64 p1, .slice b1 bn1 bc1, .slice g1 gn1 gc1, .bool up]] W fun e w' => e = .returned (.agg #[.string ⟨#[]⟩, .int .i64 0, .slice none 0 0, .slice none 0 0, .string ⟨#[]⟩, .int .i64 0, .slice none 0 0, .slice none 0 0, .bool false]) ∧ Below W.heap.size W w') := fun W => lhang_any x0 p0 b0 bn0 bc0 g0 gn0 gc0 x1 p1 b1 bn1 bc1 g1 gn1 gc1 up W
        have HT : Hid (∀ W, Calls Try.prog 19 #[.agg #[.string ⟨#[]⟩, .int .i64 0, .slice none 0 0, .slice none 0 0, .string ⟨#[]⟩, .int .i64 0, .slice none 0 0, .slice none 0 0, .bool false], .int .i64 0, .int .i64 99] W fun e w' => ∃ (x0' : ByteArray) (p0' : Int) (b0' : Option Addr) (bn0' bc0' : Nat) (g0' : Option Addr) (gn0' gc0' : Nat) (x1' : ByteArray) (p1' : Int) (b1' : Option Addr) (bn1' bc1' : Nat) (g1' : Option Addr) (gn1' gc1' : Nat) (up' : Bool), e = .returned (.tuple #[.agg #[.string x0', .int .i64 p0', .slice b0' bn0' bc0', .slice g0' gn0' gc0', .string x1', .int .i64 p1', .slice b1' bn1' bc1', .slice g1' gn1' gc1', .bool up'], .string ⟨#[]⟩]) ∧ Below W.heap.size W w') := fun W => (ltake_at (.agg #[.string ⟨#[]⟩, .int .i64 0, .slice none 0 0, .slice none 0 0, .string ⟨#[]⟩, .int .i64 0, .slice none 0 0, .slice none 0 0, .bool false]) Ln.hung 0 99 0 W ⟨Ln.empty_ok _, Ln.empty_ok _⟩ (by omega) ⟨none, 0, none, 0, none, 0, none, 0, rfl, IRow.nil, Nat.le_refl _, IRow.nil, Nat.le_refl _, IRow.nil, Nat.le_refl _, IRow.nil, Nat.le_refl _⟩).mono fun e w' q => by
          obtain ⟨x0', p0', b0', bn0', bc0', g0', gn0', gc0', x1', p1', b1', bn1', bc1', g1', gn1', gc1', up', h1, _, h3⟩ := q.ex
          exact ⟨x0', p0', b0', bn0', bc0', g0', gn0', gc0', x1', p1', b1', bn1', bc1', g1', gn1', gc1', up', h1, h3⟩
        have HS : Hid (∀ W, Calls Try.prog 18 #[.agg #[.string ⟨#[]⟩, .int .i64 0, .slice none 0 0, .slice none 0 0, .string ⟨#[]⟩, .int .i64 0, .slice none 0 0, .slice none 0 0, .bool false], .int .i64 0, .string ⟨#[120]⟩] W fun e w' => e = .returned (.tuple #[.agg #[.string ⟨#[]⟩, .int .i64 0, .slice none 0 0, .slice none 0 0, .string ⟨#[]⟩, .int .i64 0, .slice none 0 0, .slice none 0 0, .bool false], .int .i64 9]) ∧ Below W.heap.size W w') := fun W => lsend_down0 ⟨#[]⟩ 0 none 0 0 none 0 0 ⟨#[]⟩ 0 none 0 0 none 0 0 ⟨#[120]⟩ W
        have kO9 := kO.out.below hbw kO.out.lt
        have o0 := kO9.cell 0
        have o1 := kO9.cell 1
        have o2 := kO9.cell 2
        have o3 := kO9.cell 3
        have o4 := kO9.cell 4
        simp only [List.getElem?_cons_zero, List.getElem?_cons_succ] at o0 o1 o2 o3 o4

        have z0 : wr.cell? ⟨V, 0, none⟩ = some (.string x0) := kV.out.cell 0
        have z1 : wr.cell? ⟨V, 1, none⟩ = some (.int .i64 p0) := kV.out.cell 1
        have z2 : wr.cell? ⟨V, 2, none⟩ = some (.slice b0 bn0 bc0) := kV.out.cell 2
        have z3 : wr.cell? ⟨V, 3, none⟩ = some (.slice g0 gn0 gc0) := kV.out.cell 3
        have z4 : wr.cell? ⟨V, 4, none⟩ = some (.string x1) := kV.out.cell 4
        have z5 : wr.cell? ⟨V, 5, none⟩ = some (.int .i64 p1) := kV.out.cell 5
        have z6 : wr.cell? ⟨V, 6, none⟩ = some (.slice b1 bn1 bc1) := kV.out.cell 6
        have z7 : wr.cell? ⟨V, 7, none⟩ = some (.slice g1 gn1 gc1) := kV.out.cell 7
        have z8 : wr.cell? ⟨V, 8, none⟩ = some (.bool up) := kV.out.cell 8
        clear kO9 q3 hwi hLp hrow hLt
        go_upto_region 10 with (go_at_call 13; refine (HP.out _ hLa.out).mono ?_; rintro e w6 ⟨ss, ee, x0', p0', b0', bn0', bc0', g0', gn0', gc0', x1', p1', b1', bn1', bc1', g1', gn1', gc1', up', rfl, hL6, b6⟩)
        have hLa6 := Rg.hid (hLa.out.below (Rg.chain b6 (Rg.al1 w6 (.cells #[.string x0', .int .i64 p0', .slice b0' bn0' bc0', .slice g0' gn0' gc0', .string x1', .int .i64 p1', .slice b1' bn1' bc1', .slice g1' gn1' gc1', .bool up'] 30))))
        have kV6 := (kV.out.below b6 kV.out.lt).old (.cells #[.string x0', .int .i64 p0', .slice b0' bn0' bc0', .slice g0' gn0' gc0', .string x1', .int .i64 p1', .slice b1' bn1' bc1', .slice g1' gn1' gc1', .bool up'] 30)
        have hL6' : Hid (ee ≠ 0 → LAt (w6.alloc (.cells #[.string x0', .int .i64 p0', .slice b0' bn0' bc0', .slice g0' gn0' gc0', .string x1', .int .i64 p1', .slice b1' bn1' bc1', .slice g1' gn1' gc1', .bool up'] 30)) (.agg #[.string x0', .int .i64 p0', .slice b0' bn0' bc0', .slice g0' gn0' gc0', .string x1', .int .i64 p1', .slice b1' bn1' bc1', .slice g1' gn1' gc1', .bool up']) L) := fun h => (hL6.out h).below (Rg.al1 _ _)
        have kX6 : Rg.Bk w6.heap.size [.string x0', .int .i64 p0', .slice b0' bn0' bc0', .slice g0' gn0' gc0', .string x1', .int .i64 p1', .slice b1' bn1' bc1', .slice g1' gn1' gc1', .bool up'] 30 (w6.alloc (.cells #[.string x0', .int .i64 p0', .slice b0' bn0' bc0', .slice g0' gn0' gc0', .string x1', .int .i64 p1', .slice b1' bn1' bc1', .slice g1' gn1' gc1', .bool up'] 30)) := Rg.Bk.new rfl
        have hb6 := Rg.chain (Rg.chain hbw b6) (Rg.al1 w6 (.cells #[.string x0', .int .i64 p0', .slice b0' bn0' bc0', .slice g0' gn0' gc0', .string x1', .int .i64 p1', .slice b1' bn1' bc1', .slice g1' gn1' gc1', .bool up'] 30))
        clear z0 z1 z2 z3 z4 z5 z6 z7 z8 o0 o1 o2 o3 o4 HP hLa hL6 b6 hbw kV
        generalize World.alloc _ _ = w7 at *
        generalize w6.heap.size = X at *
        have z0 : w7.cell? ⟨V, 0, none⟩ = some (.string x0) := kV6.cell 0
        have z1 : w7.cell? ⟨V, 1, none⟩ = some (.int .i64 p0) := kV6.cell 1
        have z2 : w7.cell? ⟨V, 2, none⟩ = some (.slice b0 bn0 bc0) := kV6.cell 2
        have z3 : w7.cell? ⟨V, 3, none⟩ = some (.slice g0 gn0 gc0) := kV6.cell 3
        have z4 : w7.cell? ⟨V, 4, none⟩ = some (.string x1) := kV6.cell 4
        have z5 : w7.cell? ⟨V, 5, none⟩ = some (.int .i64 p1) := kV6.cell 5
        have z6 : w7.cell? ⟨V, 6, none⟩ = some (.slice b1 bn1 bc1) := kV6.cell 6
        have z7 : w7.cell? ⟨V, 7, none⟩ = some (.slice g1 gn1 gc1) := kV6.cell 7
        have z8 : w7.cell? ⟨V, 8, none⟩ = some (.bool up) := kV6.cell 8
        have xx0 : w7.cell? ⟨X, 0, none⟩ = some (.string x0') := kX6.cell 0
        have xx1 : w7.cell? ⟨X, 1, none⟩ = some (.int .i64 p0') := kX6.cell 1
        have xx2 : w7.cell? ⟨X, 2, none⟩ = some (.slice b0' bn0' bc0') := kX6.cell 2
        have xx3 : w7.cell? ⟨X, 3, none⟩ = some (.slice g0' gn0' gc0') := kX6.cell 3
        have xx4 : w7.cell? ⟨X, 4, none⟩ = some (.string x1') := kX6.cell 4
        have xx5 : w7.cell? ⟨X, 5, none⟩ = some (.int .i64 p1') := kX6.cell 5
        have xx6 : w7.cell? ⟨X, 6, none⟩ = some (.slice b1' bn1' bc1') := kX6.cell 6
        have xx7 : w7.cell? ⟨X, 7, none⟩ = some (.slice g1' gn1' gc1') := kX6.cell 7
        have xx8 : w7.cell? ⟨X, 8, none⟩ = some (.bool up') := kX6.cell 8
        replace kV6 := Rg.hid kV6
        clear kX6
        by_cases he : ee = 0
        · subst he
          clear HSm hL6' hLa6 xx0 xx1 xx2 xx3 xx4 xx5 xx6 xx7 xx8
          go_upto_region 12 with fail
          go_upto_region 13 with (go_at_call 20; refine (HHg.out _).mono ?_; rintro e w10 ⟨rfl, bT10⟩)
          have kH : Rg.Bk w10.heap.size [.string ⟨#[]⟩, .int .i64 0, .slice none 0 0, .slice none 0 0, .string ⟨#[]⟩, .int .i64 0, .slice none 0 0, .slice none 0 0, .bool false] 30 (w10.alloc (.cells #[.string ⟨#[]⟩, .int .i64 0, .slice none 0 0, .slice none 0 0, .string ⟨#[]⟩, .int .i64 0, .slice none 0 0, .slice none 0 0, .bool false] 30)) := Rg.Bk.new rfl
          have hb11 := Rg.chain (Rg.chain hb6 bT10) (Rg.al1 w10 (.cells #[.string ⟨#[]⟩, .int .i64 0, .slice none 0 0, .slice none 0 0, .string ⟨#[]⟩, .int .i64 0, .slice none 0 0, .slice none 0 0, .bool false] 30))
          clear z0 z1 z2 z3 z4 z5 z6 z7 z8 bT10 hb6 HHg
          generalize World.alloc _ _ = w11 at *
          generalize w10.heap.size = HH at *
          have z0 : w11.cell? ⟨HH, 0, none⟩ = some (.string ⟨#[]⟩) := kH.cell 0
          have z1 : w11.cell? ⟨HH, 1, none⟩ = some (.int .i64 0) := kH.cell 1
          have z2 : w11.cell? ⟨HH, 2, none⟩ = some (.slice none 0 0) := kH.cell 2
          have z3 : w11.cell? ⟨HH, 3, none⟩ = some (.slice none 0 0) := kH.cell 3
          have z4 : w11.cell? ⟨HH, 4, none⟩ = some (.string ⟨#[]⟩) := kH.cell 4
          have z5 : w11.cell? ⟨HH, 5, none⟩ = some (.int .i64 0) := kH.cell 5
          have z6 : w11.cell? ⟨HH, 6, none⟩ = some (.slice none 0 0) := kH.cell 6
          have z7 : w11.cell? ⟨HH, 7, none⟩ = some (.slice none 0 0) := kH.cell 7
          have z8 : w11.cell? ⟨HH, 8, none⟩ = some (.bool false) := kH.cell 8
          replace kH := Rg.hid kH
          go_upto_region 14 with (go_at_call 19; refine (HT.out _).mono ?_; rintro e w12 ⟨x02, p02, b02, bn02, bc02, g02, gn02, gc02, x12, p12, b12, bn12, bc12, g12, gn12, gc12, up2, rfl, bT12⟩)
          have kH2 := (kH.out.below bT12 kH.out.lt).old (.cells #[.string x02, .int .i64 p02, .slice b02 bn02 bc02, .slice g02 gn02 gc02, .string x12, .int .i64 p12, .slice b12 bn12 bc12, .slice g12 gn12 gc12, .bool up2] 30)
          have hb13 := Rg.chain (Rg.chain hb11 bT12) (Rg.al1 w12 (.cells #[.string x02, .int .i64 p02, .slice b02 bn02 bc02, .slice g02 gn02 gc02, .string x12, .int .i64 p12, .slice b12 bn12 bc12, .slice g12 gn12 gc12, .bool up2] 30))
          clear z0 z1 z2 z3 z4 z5 z6 z7 z8 bT12 hb11 HT kH
          generalize World.alloc _ _ = w13 at *
          have z0 : w13.cell? ⟨HH, 0, none⟩ = some (.string ⟨#[]⟩) := kH2.cell 0
          have z1 : w13.cell? ⟨HH, 1, none⟩ = some (.int .i64 0) := kH2.cell 1
          have z2 : w13.cell? ⟨HH, 2, none⟩ = some (.slice none 0 0) := kH2.cell 2
          have z3 : w13.cell? ⟨HH, 3, none⟩ = some (.slice none 0 0) := kH2.cell 3
          have z4 : w13.cell? ⟨HH, 4, none⟩ = some (.string ⟨#[]⟩) := kH2.cell 4
          have z5 : w13.cell? ⟨HH, 5, none⟩ = some (.int .i64 0) := kH2.cell 5
          have z6 : w13.cell? ⟨HH, 6, none⟩ = some (.slice none 0 0) := kH2.cell 6
          have z7 : w13.cell? ⟨HH, 7, none⟩ = some (.slice none 0 0) := kH2.cell 7
          have z8 : w13.cell? ⟨HH, 8, none⟩ = some (.bool false) := kH2.cell 8
          clear kH2
          go_upto_region 15 with (go_at_call 18; refine (HS.out _).mono ?_; rintro e w14 ⟨rfl, bT14⟩)
          have hb15 := Rg.chain (Rg.chain hb13 bT14) (Rg.al1 w14 (.cells #[.string ⟨#[]⟩, .int .i64 0, .slice none 0 0, .slice none 0 0, .string ⟨#[]⟩, .int .i64 0, .slice none 0 0, .slice none 0 0, .bool false] 30))
          clear z0 z1 z2 z3 z4 z5 z6 z7 z8 bT14 hb13 HS
          generalize World.alloc _ _ = w15 at *
          go_wp2_with (go_at_call 10; refine (HA.out _ hb15).mono ?_)
          rintro e w16 ⟨rfl, b16⟩
          go_wp2
          go_ret
          exact ⟨rfl, b16⟩
        · have dee : (ee == 0) = false := by simp [he]
          have dee2 : decide (ee = 0) = false := by simp [he]
          have hL6b := Rg.hid (hL6'.out he)
          clear hL6'
          go_upto_region 12 with (go_at_call 15; refine (HSm.out _ _ _ hL6b.out hLa6.out).mono ?_; rintro e w8 ⟨rfl, b8⟩)
          have hb8 := Rg.chain hb6 b8
          have kV8 := kV6.out.below b8 kV6.out.lt
          clear z0 z1 z2 z3 z4 z5 z6 z7 z8 xx0 xx1 xx2 xx3 xx4 xx5 xx6 xx7 xx8 hb6 b8 hL6b hLa6 HSm dee dee2 he kV6
          have z0 : w8.cell? ⟨V, 0, none⟩ = some (.string x0) := kV8.cell 0
          have z1 : w8.cell? ⟨V, 1, none⟩ = some (.int .i64 p0) := kV8.cell 1
          have z2 : w8.cell? ⟨V, 2, none⟩ = some (.slice b0 bn0 bc0) := kV8.cell 2
          have z3 : w8.cell? ⟨V, 3, none⟩ = some (.slice g0 gn0 gc0) := kV8.cell 3
          have z4 : w8.cell? ⟨V, 4, none⟩ = some (.string x1) := kV8.cell 4
          have z5 : w8.cell? ⟨V, 5, none⟩ = some (.int .i64 p1) := kV8.cell 5
          have z6 : w8.cell? ⟨V, 6, none⟩ = some (.slice b1 bn1 bc1) := kV8.cell 6
          have z7 : w8.cell? ⟨V, 7, none⟩ = some (.slice g1 gn1 gc1) := kV8.cell 7
          have z8 : w8.cell? ⟨V, 8, none⟩ = some (.bool up) := kV8.cell 8
          clear kV8
          go_upto_region 13 with (go_at_call 20; refine (HHg.out _).mono ?_; rintro e w10 ⟨rfl, bT10⟩)
          have kH : Rg.Bk w10.heap.size [.string ⟨#[]⟩, .int .i64 0, .slice none 0 0, .slice none 0 0, .string ⟨#[]⟩, .int .i64 0, .slice none 0 0, .slice none 0 0, .bool false] 30 (w10.alloc (.cells #[.string ⟨#[]⟩, .int .i64 0, .slice none 0 0, .slice none 0 0, .string ⟨#[]⟩, .int .i64 0, .slice none 0 0, .slice none 0 0, .bool false] 30)) := Rg.Bk.new rfl
          have hb11 := Rg.chain (Rg.chain hb8 bT10) (Rg.al1 w10 (.cells #[.string ⟨#[]⟩, .int .i64 0, .slice none 0 0, .slice none 0 0, .string ⟨#[]⟩, .int .i64 0, .slice none 0 0, .slice none 0 0, .bool false] 30))
          clear z0 z1 z2 z3 z4 z5 z6 z7 z8 bT10 hb8 HHg
          generalize World.alloc _ _ = w11 at *
          generalize w10.heap.size = HH at *
          have z0 : w11.cell? ⟨HH, 0, none⟩ = some (.string ⟨#[]⟩) := kH.cell 0
          have z1 : w11.cell? ⟨HH, 1, none⟩ = some (.int .i64 0) := kH.cell 1
          have z2 : w11.cell? ⟨HH, 2, none⟩ = some (.slice none 0 0) := kH.cell 2
          have z3 : w11.cell? ⟨HH, 3, none⟩ = some (.slice none 0 0) := kH.cell 3
          have z4 : w11.cell? ⟨HH, 4, none⟩ = some (.string ⟨#[]⟩) := kH.cell 4
          have z5 : w11.cell? ⟨HH, 5, none⟩ = some (.int .i64 0) := kH.cell 5
          have z6 : w11.cell? ⟨HH, 6, none⟩ = some (.slice none 0 0) := kH.cell 6
          have z7 : w11.cell? ⟨HH, 7, none⟩ = some (.slice none 0 0) := kH.cell 7
          have z8 : w11.cell? ⟨HH, 8, none⟩ = some (.bool false) := kH.cell 8
          replace kH := Rg.hid kH
          go_upto_region 14 with (go_at_call 19; refine (HT.out _).mono ?_; rintro e w12 ⟨x02, p02, b02, bn02, bc02, g02, gn02, gc02, x12, p12, b12, bn12, bc12, g12, gn12, gc12, up2, rfl, bT12⟩)
          have kH2 := (kH.out.below bT12 kH.out.lt).old (.cells #[.string x02, .int .i64 p02, .slice b02 bn02 bc02, .slice g02 gn02 gc02, .string x12, .int .i64 p12, .slice b12 bn12 bc12, .slice g12 gn12 gc12, .bool up2] 30)
          have hb13 := Rg.chain (Rg.chain hb11 bT12) (Rg.al1 w12 (.cells #[.string x02, .int .i64 p02, .slice b02 bn02 bc02, .slice g02 gn02 gc02, .string x12, .int .i64 p12, .slice b12 bn12 bc12, .slice g12 gn12 gc12, .bool up2] 30))
          clear z0 z1 z2 z3 z4 z5 z6 z7 z8 bT12 hb11 HT kH
          generalize World.alloc _ _ = w13 at *
          have z0 : w13.cell? ⟨HH, 0, none⟩ = some (.string ⟨#[]⟩) := kH2.cell 0
          have z1 : w13.cell? ⟨HH, 1, none⟩ = some (.int .i64 0) := kH2.cell 1
          have z2 : w13.cell? ⟨HH, 2, none⟩ = some (.slice none 0 0) := kH2.cell 2
          have z3 : w13.cell? ⟨HH, 3, none⟩ = some (.slice none 0 0) := kH2.cell 3
          have z4 : w13.cell? ⟨HH, 4, none⟩ = some (.string ⟨#[]⟩) := kH2.cell 4
          have z5 : w13.cell? ⟨HH, 5, none⟩ = some (.int .i64 0) := kH2.cell 5
          have z6 : w13.cell? ⟨HH, 6, none⟩ = some (.slice none 0 0) := kH2.cell 6
          have z7 : w13.cell? ⟨HH, 7, none⟩ = some (.slice none 0 0) := kH2.cell 7
          have z8 : w13.cell? ⟨HH, 8, none⟩ = some (.bool false) := kH2.cell 8
          clear kH2
          go_upto_region 15 with (go_at_call 18; refine (HS.out _).mono ?_; rintro e w14 ⟨rfl, bT14⟩)
          have hb15 := Rg.chain (Rg.chain hb13 bT14) (Rg.al1 w14 (.cells #[.string ⟨#[]⟩, .int .i64 0, .slice none 0 0, .slice none 0 0, .string ⟨#[]⟩, .int .i64 0, .slice none 0 0, .slice none 0 0, .bool false] 30))
          clear z0 z1 z2 z3 z4 z5 z6 z7 z8 bT14 hb13 HS
          generalize World.alloc _ _ = w15 at *
          go_wp2_with (go_at_call 10; refine (HA.out _ hb15).mono ?_)
          rintro e w16 ⟨rfl, b16⟩
          go_wp2
          go_ret
          exact ⟨rfl, b16⟩
end Go.Proofs.Ytalleocmnnnchaa
