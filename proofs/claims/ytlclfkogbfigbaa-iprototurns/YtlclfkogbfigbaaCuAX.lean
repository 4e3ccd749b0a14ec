/-
  Walks of layer 16: BinarySearchFunc among the packets that came early.
-/
import Derived.Test.YtlclfkogbfigbaaCuAW
namespace Go.Proofs.Ytlclfkogbfigbaa
open Go.RowKit
/-- a packet as a value -/
def fiV (f : Gp.Fi) : Value := .agg #[.int .i64 f.kd, .int .i64 f.nm, .int .i64 f.ak, .int .i64 f.ch, .bool f.ca, .string f.data]
theorem ieg_keep : ∀ args w, (callFunc 90 args).run Try.prog w = .ok (.enter 90 args) w := enters_of Try.func90 (by kernel_rfl) rfl
theorem ihalf {i j n : Nat} (hn : n ≤ 15) (hj : j ≤ n) (hi : i < j) : ∃ h : Nat, wrap64 ((i : Int) + (j : Int)) = (i : Int) + (j : Int) ∧ IntKind.u64.wrap ((i : Int) + (j : Int)) = (i : Int) + (j : Int) ∧ ((i : Int) + (j : Int)) / 2 = (h : Int) ∧ wrap64 (h : Int) = (h : Int) ∧ IntKind.u64.wrap (h : Int) = (h : Int) ∧ i ≤ h ∧ h < n ∧ wrap64 ((h : Int) + 1) = ((h + 1 : Nat) : Int) ∧ (0 : Int) ≤ (h : Int) ∧ (h : Int) < (n : Int) ∧ decide ((i : Int) < (j : Int)) = true ∧ h < j := by
  refine ⟨(i + j) / 2, ?_, ?_, ?_, ?_, ?_, ?_, ?_, ?_, ?_, ?_, ?_, ?_⟩
  all_goals first
    | omega
    | (unfold wrap64; omega)
    | (rw [IntKind.wrap_u64]; omega)
    | (rw [decide_eq_true_iff]; omega)
theorem imeas1 {i h j : Nat} (hi : i ≤ h) (hj : h < j) : (intOf (.int .i64 (j : Int))).toNat - (intOf (.int .i64 ((h + 1 : Nat) : Int))).toNat < (intOf (.int .i64 (j : Int))).toNat - (intOf (.int .i64 (i : Int))).toNat := by simp [intOf]; omega
theorem imeas2 {i h j : Nat} (hi : i ≤ h) (hj : h < j) : (intOf (.int .i64 (h : Int))).toNat - (intOf (.int .i64 (i : Int))).toNat < (intOf (.int .i64 (j : Int))).toNat - (intOf (.int .i64 (i : Int))).toNat := by simp [intOf]; omega
set_option maxHeartbeats 4000000 in
set_option maxRecDepth 100000 in
theorem ibs_go (a : Option Addr) (c n P : Nat) (l : List Gp.Fi) (kd nm ak ch : Int) (ca : Bool) (D : ByteArray) (cb : Value) (fnd : Bool) (V : Nat → Int) (w : World) (hn : Hid (n = l.length)) (hn15 : n ≤ 15) (hP : P ≤ n) (hr : Hid (ERow fiE w a l)) (HV : Hid (∀ t, t < n → (V t < 0 ↔ t < P))) (hf : Hid (fnd = (decide (P < n) && decide (V P = 0))))
    (HC : Hid (∀ t (ht : t < l.length) W, Below w.heap.size w W → Calls Try.prog 90 #[fiV l[t], .agg #[.int .i64 kd, .int .i64 nm, .int .i64 ak, .int .i64 ch, .bool ca, .string D], cb] W fun e w' => e = .returned (.int .i64 (V t)) ∧ Below W.heap.size W w')) :
    Calls Try.prog 89 #[.slice a n c, .agg #[.int .i64 kd, .int .i64 nm, .int .i64 ak, .int .i64 ch, .bool ca, .string D], .func (.func 90) #[] #[cb]] w fun e w' => e = .returned (.tuple #[.int .i64 (P : Int), .bool fnd]) ∧ Below w.heap.size w w' := by
  have eg := ieg_keep
  have b0 := Rg.hid (Rg.al1 w (.cells #[.int .i64 kd, .int .i64 nm, .int .i64 ak, .int .i64 ch, .bool ca, .string D] 63))
  have kF : Hid (Rg.Bk w.heap.size [.int .i64 kd, .int .i64 nm, .int .i64 ak, .int .i64 ch, .bool ca, .string D] 63 (w.alloc (.cells #[.int .i64 kd, .int .i64 nm, .int .i64 ak, .int .i64 ch, .bool ca, .string D] 63))) := Rg.Bk.new rfl
  go_enter Try.func89, Try.ntmps89
  go_upto_region 3 with fail
  generalize World.alloc _ _ = w1 at *
  obtain ⟨F, hF⟩ : ∃ F, F = w.heap.size := ⟨_, rfl⟩
  rw [← hF] at kF ⊢
  replace hF := Rg.hid hF
  go_loopw [9, 10] (fun vi vj wr => ∃ i j : Nat, i ≤ P ∧ P ≤ j ∧ j ≤ n ∧ vi = .int .i64 i ∧ vj = .int .i64 j ∧ Below w1.heap.size w1 wr) (fun vi vj _ => (intOf vj).toNat - (intOf vi).toNat)
  case atStart => exact ⟨0, n, Nat.zero_le _, hP, Nat.le_refl _, rfl, rfl, Below.refl _ _⟩
  case round =>
    obtain ⟨i, j, hi, hj, hjn, rfl, rfl, hbw⟩ := hrel
    by_cases hlt : i < j
    · obtain ⟨h, q1, q2, q3, q4, q5, q6, q7, q8, iz0, iz1, hlt2, q9⟩ := ihalf hn15 hjn hlt
      have hhl : h < l.length := Nat.lt_of_lt_of_le q7 (Nat.le_of_eq hn.out)
      have hbw0 := Rg.chain b0.out hbw
      obtain ⟨b1, o1, rfl, _, _, y1⟩ := (hr.out.below hbw0).cell hhl
      have HX := Rg.hid (HC.out h hhl)
      have hvh := HV.out h q7
      have kF2 := kF.out.below hbw kF.out.lt
      have f0 : wr.cell? ⟨F, 0, none⟩ = some (.int .i64 kd) := kF2.cell 0
      have f1 : wr.cell? ⟨F, 1, none⟩ = some (.int .i64 nm) := kF2.cell 1
      have f2 : wr.cell? ⟨F, 2, none⟩ = some (.int .i64 ak) := kF2.cell 2
      have f3 : wr.cell? ⟨F, 3, none⟩ = some (.int .i64 ch) := kF2.cell 3
      have f4 : wr.cell? ⟨F, 4, none⟩ = some (.bool ca) := kF2.cell 4
      have f5 : wr.cell? ⟨F, 5, none⟩ = some (.string D) := kF2.cell 5
      have em : fiE.m = 6 := rfl
      rw [em] at y1
      clear em
      have g0 : wr.cell? ⟨b1, o1 + h * 6, none⟩ = some (.int .i64 l[h].kd) := y1 0 _ rfl
      have g1 : wr.cell? ⟨b1, o1 + h * 6 + 1, none⟩ = some (.int .i64 l[h].nm) := y1 1 _ rfl
      have g2 : wr.cell? ⟨b1, o1 + h * 6 + 2, none⟩ = some (.int .i64 l[h].ak) := y1 2 _ rfl
      have g3 : wr.cell? ⟨b1, o1 + h * 6 + 3, none⟩ = some (.int .i64 l[h].ch) := y1 3 _ rfl
      have g4 : wr.cell? ⟨b1, o1 + h * 6 + 4, none⟩ = some (.bool l[h].ca) := y1 4 _ rfl
      have g5 : wr.cell? ⟨b1, o1 + h * 6 + 5, none⟩ = some (.string l[h].data) := y1 5 _ rfl
      unfold fiV at HX
      generalize l[h] = x at g0 g1 g2 g3 g4 g5 HX
      obtain ⟨xk, xn, xa, xc, xb, xd⟩ := x
      dsimp only at g0 g1 g2 g3 g4 g5 HX
      have HX1 : Hid (∀ W, Below wr.heap.size wr W → Calls Try.prog 90 #[.agg #[.int .i64 xk, .int .i64 xn, .int .i64 xa, .int .i64 xc, .bool xb, .string xd], .agg #[.int .i64 kd, .int .i64 nm, .int .i64 ak, .int .i64 ch, .bool ca, .string D], cb] W fun e w' => e = .returned (.int .i64 (V h)) ∧ Hid (Below wr.heap.size wr w')) := fun W hW => (HX.out W (Rg.chain hbw0 hW)).mono fun e w' ⟨x1, x2⟩ => ⟨x1, Rg.chain hW x2⟩
      generalize V h = vh at HX1 hvh
      replace hbw0 := Rg.hid hbw0
      clear y1 HX hhl kF2 HC HV hr kF b0
      replace hi := Rg.hid hi
      replace hj := Rg.hid hj
      replace hjn := Rg.hid hjn
      replace hP := Rg.hid hP
      replace hn15 := Rg.hid hn15
      replace q6 := Rg.hid q6
      replace q7 := Rg.hid q7
      replace q9 := Rg.hid q9
      have hlt3 : decide (i < j) = true := decide_eq_true hlt
      clear hf
      by_cases hvn : vh < 0
      · have hd : decide (vh < 0) = true := decide_eq_true hvn
        have hhp := Rg.hid (hvh.1 hvn)
        clear hvh hvn
        go_wp2
        go_region_with (go_at_fn 90; refine (HX1.out _ (by first | exact Below.refl _ _ | exact (Below.refl _ _).drew)).mono ?_; rintro e w2 ⟨rfl, b2⟩)
        all_goals (
          go_wp2
          go_roundw
          case rel => exact ⟨h + 1, j, hhp.out, hj.out, hjn.out, by rw [q8], rfl, Rg.chain hbw b2.out⟩
          case measure => rw [q8]; exact imeas1 q6.out q9.out)
      · have hd : decide (vh < 0) = false := decide_eq_false hvn
        have hhp := Rg.hid (Nat.le_of_not_lt (fun x => hvn (hvh.2 x)))
        clear hvh hvn
        go_wp2
        go_region_with (go_at_fn 90; refine (HX1.out _ (by first | exact Below.refl _ _ | exact (Below.refl _ _).drew)).mono ?_; rintro e w2 ⟨rfl, b2⟩)
        all_goals (
          go_wp2
          go_roundw
          case rel => exact ⟨i, h, hi.out, hhp.out, Nat.le_of_lt q7.out, rfl, rfl, Rg.chain hbw b2.out⟩
          case measure => exact imeas2 q6.out q9.out)
    · obtain rfl : i = P := Nat.le_antisymm hi (Nat.le_trans hj (Nat.le_of_not_lt hlt))
      obtain rfl : j = i := Nat.le_antisymm (Nat.le_of_not_lt hlt) hj
      have hlt2 : ¬ j < j := Nat.lt_irrefl j
      clear hlt hi hj hP
      by_cases hjn2 : j < n
      · have hhl : j < l.length := Nat.lt_of_lt_of_le hjn2 (Nat.le_of_eq hn.out)
        have hbw0 := Rg.chain b0.out hbw
        obtain ⟨b1, o1, rfl, hb1, _, y1⟩ := (hr.out.below hbw0).cell hhl
        have HX := Rg.hid (HC.out j hhl)
        have hbF : F < wr.heap.size := (kF.out.below hbw kF.out.lt).lt
        have kF2 := kF.out.below hbw kF.out.lt
        have f0 : wr.cell? ⟨F, 0, none⟩ = some (.int .i64 kd) := kF2.cell 0
        have f1 : wr.cell? ⟨F, 1, none⟩ = some (.int .i64 nm) := kF2.cell 1
        have f2 : wr.cell? ⟨F, 2, none⟩ = some (.int .i64 ak) := kF2.cell 2
        have f3 : wr.cell? ⟨F, 3, none⟩ = some (.int .i64 ch) := kF2.cell 3
        have f4 : wr.cell? ⟨F, 4, none⟩ = some (.bool ca) := kF2.cell 4
        have f5 : wr.cell? ⟨F, 5, none⟩ = some (.string D) := kF2.cell 5
        have em : fiE.m = 6 := rfl
        rw [em] at y1
        clear em
        have g0 : wr.cell? ⟨b1, o1 + j * 6, none⟩ = some (.int .i64 l[j].kd) := y1 0 _ rfl
        have g1 : wr.cell? ⟨b1, o1 + j * 6 + 1, none⟩ = some (.int .i64 l[j].nm) := y1 1 _ rfl
        have g2 : wr.cell? ⟨b1, o1 + j * 6 + 2, none⟩ = some (.int .i64 l[j].ak) := y1 2 _ rfl
        have g3 : wr.cell? ⟨b1, o1 + j * 6 + 3, none⟩ = some (.int .i64 l[j].ch) := y1 3 _ rfl
        have g4 : wr.cell? ⟨b1, o1 + j * 6 + 4, none⟩ = some (.bool l[j].ca) := y1 4 _ rfl
        have g5 : wr.cell? ⟨b1, o1 + j * 6 + 5, none⟩ = some (.string l[j].data) := y1 5 _ rfl
        unfold fiV at HX
        generalize l[j] = x at g0 g1 g2 g3 g4 g5 HX
        obtain ⟨xk, xn, xa, xc, xb, xd⟩ := x
        dsimp only at g0 g1 g2 g3 g4 g5 HX
        have HX1 : Hid (∀ W, Below wr.heap.size wr W → Calls Try.prog 90 #[.agg #[.int .i64 xk, .int .i64 xn, .int .i64 xa, .int .i64 xc, .bool xb, .string xd], .agg #[.int .i64 kd, .int .i64 nm, .int .i64 ak, .int .i64 ch, .bool ca, .string D], cb] W fun e w' => e = .returned (.int .i64 (V j)) ∧ Hid (Below w.heap.size w w') ∧ Hid (Below wr.heap.size wr w')) := fun W hW => (HX.out W (Rg.chain hbw0 hW)).mono fun e w' ⟨x1, x2⟩ => ⟨x1, Rg.chain (Rg.chain hbw0 hW) x2, Rg.chain hW x2⟩
        have hd1 : decide (j < n) = true := decide_eq_true hjn2
        have hd2 : decide ((j : Int) < (n : Int)) = true := decide_eq_true (Int.ofNat_lt.2 hjn2)
        have iz0 : (0 : Int) ≤ (j : Int) := Int.natCast_nonneg j
        have iz1 : (j : Int) < (n : Int) := Int.ofNat_lt.2 hjn2
        have hf1 : Hid (decide (V j = 0) = fnd) := by show _ = _; rw [hf.out, hd1]; rfl
        generalize V j = vh at HX1 hf1
        clear y1 HX hhl kF2 HC HV hr kF b0 hbw0 hf hn hn15 hjn
        go_wp2
        refine wp_region_held_drew (S := (fun (w' : World) => w'.cell? ⟨b1, o1 + j * 6, none⟩ = some (.int .i64 xk) ∧ w'.cell? ⟨b1, o1 + j * 6 + 1, none⟩ = some (.int .i64 xn) ∧ w'.cell? ⟨b1, o1 + j * 6 + 2, none⟩ = some (.int .i64 xa) ∧ w'.cell? ⟨b1, o1 + j * 6 + 3, none⟩ = some (.int .i64 xc) ∧ w'.cell? ⟨b1, o1 + j * 6 + 4, none⟩ = some (.bool xb) ∧ w'.cell? ⟨b1, o1 + j * 6 + 5, none⟩ = some (.string xd) ∧ w'.cell? ⟨F, 0, none⟩ = some (.int .i64 kd) ∧ w'.cell? ⟨F, 1, none⟩ = some (.int .i64 nm) ∧ w'.cell? ⟨F, 2, none⟩ = some (.int .i64 ak) ∧ w'.cell? ⟨F, 3, none⟩ = some (.int .i64 ch) ∧ w'.cell? ⟨F, 4, none⟩ = some (.bool ca) ∧ w'.cell? ⟨F, 5, none⟩ = some (.string D))) (by kernel_rfl) ?_ (fun hH0 => ?_)
        · exact ⟨g0, g1, g2, g3, g4, g5, f0, f1, f2, f3, f4, f5⟩
        refine wpAnyH_take (i := 0) (oi := { dst := some 35, op := _, type := _, pos := _, after := _, guard := _ }) (v := ?_) rfl (by kernel_rfl) (by kernel_rfl) (by kernel_rfl) (fun _ _ _ h => h) (Or.inl ⟨by rfl, ?_⟩) (by assumption) ?_
        rotate_left
        · (intro w hSw; (try dsimp only at hSw); go_simp); (try with_reducible rfl)
        simp only [Act.put, List.setIfInBounds_toArray, List.set_cons_zero, List.set_cons_succ]
        refine wpAnyH_take (i := 1) (oi := { dst := some 36, op := _, type := _, pos := _, after := _, guard := _ }) (v := ?_) rfl (by kernel_rfl) (by kernel_rfl) (by kernel_rfl) (fun _ _ _ h => h) (Or.inl ⟨by rfl, ?_⟩) (by assumption) ?_
        rotate_left
        · (intro w hSw; (try dsimp only at hSw); go_simp); (try with_reducible rfl)
        simp only [Act.put, List.setIfInBounds_toArray, List.set_cons_zero, List.set_cons_succ]
        refine wpAnyH_take (i := 2) (oi := { dst := some 37, op := _, type := _, pos := _, after := _, guard := _ }) (v := ?_) rfl (by kernel_rfl) (by kernel_rfl) (by kernel_rfl) (fun _ _ _ h => h) (Or.inl ⟨by rfl, ?_⟩) (by assumption) ?_
        rotate_left
        · (intro w hSw; (try dsimp only at hSw); go_simp); (try with_reducible rfl)
        simp only [Act.put, List.setIfInBounds_toArray, List.set_cons_zero, List.set_cons_succ]
        refine wpAnyH_take (i := 3) (oi := { dst := some 38, op := _, type := _, pos := _, after := _, guard := _ }) (v := ?_) rfl (by kernel_rfl) (by kernel_rfl) (by kernel_rfl) (fun _ _ _ h => h) (Or.inl ⟨by rfl, ?_⟩) (by assumption) ?_
        rotate_left
        · (intro w hSw; (try dsimp only at hSw); go_simp); (try with_reducible rfl)
        simp only [Act.put, List.setIfInBounds_toArray, List.set_cons_zero, List.set_cons_succ]
        refine wpAnyH_take (i := 4) (oi := { dst := some 39, op := _, type := _, pos := _, after := _, guard := _ }) (v := ?_) rfl (by kernel_rfl) (by kernel_rfl) (by kernel_rfl) (fun _ _ _ h => h) (Or.inl ⟨by rfl, ?_⟩) (by assumption) ?_
        rotate_left
        · (intro w hSw; (try dsimp only at hSw); go_simp); (try with_reducible rfl)
        simp only [Act.put, List.setIfInBounds_toArray, List.set_cons_zero, List.set_cons_succ]
        refine wpAnyH_take (i := 5) (oi := { dst := some 40, op := _, type := _, pos := _, after := _, guard := _ }) (v := ?_) rfl (by kernel_rfl) (by kernel_rfl) (by kernel_rfl) (fun _ _ _ h => h) (Or.inl ⟨by rfl, ?_⟩) (by assumption) ?_
        rotate_left
        · (intro w hSw; (try dsimp only at hSw); go_simp); (try with_reducible rfl)
        simp only [Act.put, List.setIfInBounds_toArray, List.set_cons_zero, List.set_cons_succ]
        refine wpAnyH_take (i := 6) (oi := { dst := some 41, op := _, type := _, pos := _, after := _, guard := _ }) (v := ?_) rfl (by kernel_rfl) (by kernel_rfl) (by kernel_rfl) (fun _ _ _ h => h) (Or.inl ⟨by rfl, ?_⟩) (by assumption) ?_
        rotate_left
        · (intro w hSw; (try dsimp only at hSw); go_simp); (try with_reducible rfl)
        simp only [Act.put, List.setIfInBounds_toArray, List.set_cons_zero, List.set_cons_succ]
        refine wpAnyH_take (i := 7) (oi := { dst := some 42, op := _, type := _, pos := _, after := _, guard := _ }) (v := ?_) rfl (by kernel_rfl) (by kernel_rfl) (by kernel_rfl) (fun _ _ _ h => h) (Or.inl ⟨by rfl, ?_⟩) (by assumption) ?_
        rotate_left
        · (intro w hSw; (try dsimp only at hSw); go_simp); (try with_reducible rfl)
        simp only [Act.put, List.setIfInBounds_toArray, List.set_cons_zero, List.set_cons_succ]
        refine wpAnyH_take (i := 8) (oi := { dst := some 43, op := _, type := _, pos := _, after := _, guard := _ }) (v := ?_) rfl (by kernel_rfl) (by kernel_rfl) (by kernel_rfl) (fun _ _ _ h => h) (Or.inl ⟨by rfl, ?_⟩) (by assumption) ?_
        rotate_left
        · (intro w hSw; (try dsimp only at hSw); go_simp); (try with_reducible rfl)
        simp only [Act.put, List.setIfInBounds_toArray, List.set_cons_zero, List.set_cons_succ]
        refine wpAnyH_take (i := 9) (oi := { dst := some 44, op := _, type := _, pos := _, after := _, guard := _ }) (v := ?_) rfl (by kernel_rfl) (by kernel_rfl) (by kernel_rfl) (fun _ _ _ h => h) (Or.inl ⟨by rfl, ?_⟩) (by assumption) ?_
        rotate_left
        · (intro w hSw; (try dsimp only at hSw); go_simp); (try with_reducible rfl)
        simp only [Act.put, List.setIfInBounds_toArray, List.set_cons_zero, List.set_cons_succ]
        refine wpAnyH_take (i := 10) (oi := { dst := some 45, op := _, type := _, pos := _, after := _, guard := _ }) (v := ?_) rfl (by kernel_rfl) (by kernel_rfl) (by kernel_rfl) (fun _ _ _ h => h) (Or.inl ⟨by rfl, ?_⟩) (by assumption) ?_
        rotate_left
        · (intro w hSw; (try dsimp only at hSw); go_simp); (try with_reducible rfl)
        simp only [Act.put, List.setIfInBounds_toArray, List.set_cons_zero, List.set_cons_succ]
        refine wpAnyH_ready (rs := [11]) (by kernel_rfl) (by simp) ?_
        refine AllReadyH.cons (o := { dst := some 46, op := _, type := _, pos := _, after := _, guard := _ }) rfl (fun K hK => ?_) AllReadyH.nil
        go_simp
        go_at_fn 90; refine (HX1.out _ ((Below.refl _ _).drew)).mono ?_; rintro e w2 ⟨rfl, b2, b3⟩
        refine hK.out _ _ ?_ (fun hH11 => ?_)
        · have hk := Rg.bcell b3.out
          exact ⟨(hk.1 _ _ hb1).trans g0, (hk.1 _ _ hb1).trans g1, (hk.1 _ _ hb1).trans g2, (hk.1 _ _ hb1).trans g3, (hk.1 _ _ hb1).trans g4, (hk.1 _ _ hb1).trans g5, (hk.1 _ _ hbF).trans f0, (hk.1 _ _ hbF).trans f1, (hk.1 _ _ hbF).trans f2, (hk.1 _ _ hbF).trans f3, (hk.1 _ _ hbF).trans f4, (hk.1 _ _ hbF).trans f5⟩
        clear hK K hH0
        try simp only [Act.put, List.setIfInBounds_toArray, List.set_cons_zero, List.set_cons_succ]
        refine wpAnyH_take (i := 12) (oi := { dst := some 47, op := _, type := _, pos := _, after := _, guard := _ }) (v := ?_) rfl (by kernel_rfl) (by kernel_rfl) (by kernel_rfl) (fun _ _ _ h => h) (Or.inl ⟨by rfl, ?_⟩) (by assumption) ?_
        rotate_left
        · (intro w hSw; (try dsimp only at hSw); go_simp); (try with_reducible rfl)
        simp only [Act.put, List.setIfInBounds_toArray, List.set_cons_zero, List.set_cons_succ]
        refine wpAnyH_take (i := 13) (oi := { dst := some 48, op := _, type := _, pos := _, after := _, guard := _ }) (v := ?_) rfl (by kernel_rfl) (by kernel_rfl) (by kernel_rfl) (fun _ _ _ h => h) (Or.inl ⟨by rfl, ?_⟩) (by assumption) ?_
        rotate_left
        · (intro w hSw; (try dsimp only at hSw); go_simp); (try with_reducible rfl)
        simp only [Act.put, List.setIfInBounds_toArray, List.set_cons_zero, List.set_cons_succ]
        refine wpAnyH_take (i := 14) (oi := { dst := some 6, op := _, type := _, pos := _, after := _, guard := _ }) (v := ?_) rfl (by kernel_rfl) (by kernel_rfl) (by kernel_rfl) (fun _ _ _ h => h) (Or.inl ⟨by rfl, ?_⟩) (by assumption) ?_
        rotate_left
        · (intro w hSw; (try dsimp only at hSw); go_simp); (try with_reducible rfl)
        simp only [Act.put, List.setIfInBounds_toArray, List.set_cons_zero, List.set_cons_succ]
        refine wpAnyH_take (i := 15) (oi := { dst := some 7, op := _, type := _, pos := _, after := _, guard := _ }) (v := ?_) rfl (by kernel_rfl) (by kernel_rfl) (by kernel_rfl) (fun _ _ _ h => h) (Or.inl ⟨by rfl, ?_⟩) (by assumption) ?_
        rotate_left
        · (intro w hSw; (try dsimp only at hSw); go_simp); (try with_reducible rfl)
        simp only [Act.put, List.setIfInBounds_toArray, List.set_cons_zero, List.set_cons_succ]
        refine wpAnyH_done (by kernel_rfl) ?_ _
        go_wp2
        go_ret2
        refine ⟨?_, b2.out⟩
        rw [← hf1.out]
        rfl
      · obtain rfl : j = n := Nat.le_antisymm hjn (Nat.le_of_not_lt hjn2)
        have hd1 : decide (j < j) = false := decide_eq_false hjn2
        have hf1 : Hid (fnd = false) := by show _ = _; rw [hf.out, hd1]; rfl
        have hbx := Rg.hid (Rg.chain b0.out hbw)
        clear HC HV hr kF b0 hf hn hn15 hjn hjn2
        go_wp2
        refine wp_region_held_drew (S := (fun (_ : World) => True)) (by kernel_rfl) trivial (fun hH0 => ?_)
        refine wpAnyH_take (i := 0) (oi := { dst := some 35, op := _, type := _, pos := _, after := _, guard := _ }) (v := ?_) rfl (by kernel_rfl) (by kernel_rfl) (by kernel_rfl) (fun _ _ _ h => h) (Or.inl ⟨by rfl, ?_⟩) (by assumption) ?_
        rotate_left
        · (intro w hSw; clear hSw; go_simp); (try with_reducible rfl)
        simp only [Act.put, List.setIfInBounds_toArray, List.set_cons_zero, List.set_cons_succ]
        refine wpAnyH_take (i := 1) (oi := { dst := some 36, op := _, type := _, pos := _, after := _, guard := _ }) (v := ?_) rfl (by kernel_rfl) (by kernel_rfl) (by kernel_rfl) (fun _ _ _ h => h) (Or.inl ⟨by rfl, ?_⟩) (by assumption) ?_
        rotate_left
        · (intro w hSw; clear hSw; go_simp); (try with_reducible rfl)
        simp only [Act.put, List.setIfInBounds_toArray, List.set_cons_zero, List.set_cons_succ]
        refine wpAnyH_take (i := 2) (oi := { dst := some 37, op := _, type := _, pos := _, after := _, guard := _ }) (v := ?_) rfl (by kernel_rfl) (by kernel_rfl) (by kernel_rfl) (fun _ _ _ h => h) (Or.inl ⟨by rfl, ?_⟩) (by assumption) ?_
        rotate_left
        · (intro w hSw; clear hSw; go_simp); (try with_reducible rfl)
        simp only [Act.put, List.setIfInBounds_toArray, List.set_cons_zero, List.set_cons_succ]
        refine wpAnyH_take (i := 3) (oi := { dst := some 38, op := _, type := _, pos := _, after := _, guard := _ }) (v := ?_) rfl (by kernel_rfl) (by kernel_rfl) (by kernel_rfl) (fun _ _ _ h => h) (Or.inl ⟨by rfl, ?_⟩) (by assumption) ?_
        rotate_left
        · (intro w hSw; clear hSw; go_simp); (try with_reducible rfl)
        simp only [Act.put, List.setIfInBounds_toArray, List.set_cons_zero, List.set_cons_succ]
        refine wpAnyH_take (i := 4) (oi := { dst := some 39, op := _, type := _, pos := _, after := _, guard := _ }) (v := ?_) rfl (by kernel_rfl) (by kernel_rfl) (by kernel_rfl) (fun _ _ _ h => h) (Or.inl ⟨by rfl, ?_⟩) (by assumption) ?_
        rotate_left
        · (intro w hSw; clear hSw; go_simp); (try with_reducible rfl)
        simp only [Act.put, List.setIfInBounds_toArray, List.set_cons_zero, List.set_cons_succ]
        refine wpAnyH_take (i := 5) (oi := { dst := some 40, op := _, type := _, pos := _, after := _, guard := _ }) (v := undef) rfl (by kernel_rfl) (by kernel_rfl) (by kernel_rfl) (fun _ _ _ h => h) (Or.inr ⟨by rfl, rfl⟩) (by assumption) ?_
        simp only [Act.put, List.setIfInBounds_toArray, List.set_cons_zero, List.set_cons_succ]
        refine wpAnyH_take (i := 6) (oi := { dst := some 41, op := _, type := _, pos := _, after := _, guard := _ }) (v := undef) rfl (by kernel_rfl) (by kernel_rfl) (by kernel_rfl) (fun _ _ _ h => h) (Or.inr ⟨by rfl, rfl⟩) (by assumption) ?_
        simp only [Act.put, List.setIfInBounds_toArray, List.set_cons_zero, List.set_cons_succ]
        refine wpAnyH_take (i := 7) (oi := { dst := some 42, op := _, type := _, pos := _, after := _, guard := _ }) (v := undef) rfl (by kernel_rfl) (by kernel_rfl) (by kernel_rfl) (fun _ _ _ h => h) (Or.inr ⟨by rfl, rfl⟩) (by assumption) ?_
        simp only [Act.put, List.setIfInBounds_toArray, List.set_cons_zero, List.set_cons_succ]
        refine wpAnyH_take (i := 8) (oi := { dst := some 43, op := _, type := _, pos := _, after := _, guard := _ }) (v := undef) rfl (by kernel_rfl) (by kernel_rfl) (by kernel_rfl) (fun _ _ _ h => h) (Or.inr ⟨by rfl, rfl⟩) (by assumption) ?_
        simp only [Act.put, List.setIfInBounds_toArray, List.set_cons_zero, List.set_cons_succ]
        refine wpAnyH_take (i := 9) (oi := { dst := some 44, op := _, type := _, pos := _, after := _, guard := _ }) (v := undef) rfl (by kernel_rfl) (by kernel_rfl) (by kernel_rfl) (fun _ _ _ h => h) (Or.inr ⟨by rfl, rfl⟩) (by assumption) ?_
        simp only [Act.put, List.setIfInBounds_toArray, List.set_cons_zero, List.set_cons_succ]
        refine wpAnyH_take (i := 10) (oi := { dst := some 45, op := _, type := _, pos := _, after := _, guard := _ }) (v := undef) rfl (by kernel_rfl) (by kernel_rfl) (by kernel_rfl) (fun _ _ _ h => h) (Or.inr ⟨by rfl, rfl⟩) (by assumption) ?_
        simp only [Act.put, List.setIfInBounds_toArray, List.set_cons_zero, List.set_cons_succ]
        refine wpAnyH_take (i := 11) (oi := { dst := some 46, op := _, type := _, pos := _, after := _, guard := _ }) (v := undef) rfl (by kernel_rfl) (by kernel_rfl) (by kernel_rfl) (fun _ _ _ h => h) (Or.inr ⟨by rfl, rfl⟩) (by assumption) ?_
        simp only [Act.put, List.setIfInBounds_toArray, List.set_cons_zero, List.set_cons_succ]
        refine wpAnyH_take (i := 12) (oi := { dst := some 47, op := _, type := _, pos := _, after := _, guard := _ }) (v := undef) rfl (by kernel_rfl) (by kernel_rfl) (by kernel_rfl) (fun _ _ _ h => h) (Or.inr ⟨by rfl, rfl⟩) (by assumption) ?_
        simp only [Act.put, List.setIfInBounds_toArray, List.set_cons_zero, List.set_cons_succ]
        refine wpAnyH_take (i := 13) (oi := { dst := some 48, op := _, type := _, pos := _, after := _, guard := _ }) (v := ?_) rfl (by kernel_rfl) (by kernel_rfl) (by kernel_rfl) (fun _ _ _ h => h) (Or.inl ⟨by rfl, ?_⟩) (by assumption) ?_
        rotate_left
        · (intro w hSw; clear hSw; go_simp); (try with_reducible rfl)
        simp only [Act.put, List.setIfInBounds_toArray, List.set_cons_zero, List.set_cons_succ]
        refine wpAnyH_take (i := 14) (oi := { dst := some 6, op := _, type := _, pos := _, after := _, guard := _ }) (v := ?_) rfl (by kernel_rfl) (by kernel_rfl) (by kernel_rfl) (fun _ _ _ h => h) (Or.inl ⟨by rfl, ?_⟩) (by assumption) ?_
        rotate_left
        · (intro w hSw; clear hSw; go_simp); (try with_reducible rfl)
        simp only [Act.put, List.setIfInBounds_toArray, List.set_cons_zero, List.set_cons_succ]
        refine wpAnyH_take (i := 15) (oi := { dst := some 7, op := _, type := _, pos := _, after := _, guard := _ }) (v := ?_) rfl (by kernel_rfl) (by kernel_rfl) (by kernel_rfl) (fun _ _ _ h => h) (Or.inl ⟨by rfl, ?_⟩) (by assumption) ?_
        rotate_left
        · (intro w hSw; clear hSw; go_simp); (try with_reducible rfl)
        simp only [Act.put, List.setIfInBounds_toArray, List.set_cons_zero, List.set_cons_succ]
        refine wpAnyH_done (by kernel_rfl) ?_ _
        go_wp2
        go_ret2
        refine ⟨?_, hbx.out.drew⟩
        rw [hf1.out]
        rfl
end Go.Proofs.Ytlclfkogbfigbaa
