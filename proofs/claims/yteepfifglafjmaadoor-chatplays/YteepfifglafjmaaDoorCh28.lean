/-
  Layer 8: nudgeOf.
-/
import Derived.Test.YteepfifglafjmaaDoorCh14
namespace Go.Proofs.YteepfifglafjmaaDoor
open Go.RowKit

theorem bel_dN {B : Nat} {w w' : World} (h : Below B w w') (q : Nat) : Below B w (w'.drewN q) := ⟨h.1, h.2, h.3, h.4, h.5⟩
theorem placeB (w1 : World) (C : World → Prop) (hC : ∀ W, Below w1.heap.size w1 W → C W) (a n : Int) (r : Bool) (hd : decide (0 ≤ a ∧ a < n) = r) : ∀ W, Below w1.heap.size w1 W → Calls Tryd.prog 40 #[.int .i64 a, .int .i64 n] W fun e w' => e = .returned (.bool r) ∧ Below w1.heap.size w1 w' ∧ C w' := fun W hW => by
  rw [← hd]
  exact (place_any a n W).mono fun e w' ⟨h1, h2⟩ => ⟨h1, by rw [h2]; exact hW, by rw [h2]; exact hC W hW⟩

set_option maxHeartbeats 2000000 in
set_option maxRecDepth 100000 in
theorem nudge_a (sa : Option Addr) (cstep cwant : Int) (sn sc : Nat) (cseen : ByteArray) (cwait cpat : Int) (cover cfailed : Bool) (w : World) (hp : ¬ (0 ≤ cstep ∧ cstep < (sn : Int))) :
    Calls Tryd.prog 28 #[.agg #[.slice sa sn sc, .int .i64 cstep, .int .i64 cwant, .string cseen, .int .i64 cwait, .int .i64 cpat, .bool cover, .bool cfailed]] w fun e w' => e = .returned (.tuple #[.string ⟨#[]⟩, .bool false]) ∧ Below w.heap.size w w' := by
  have kB : Rg.Bk w.heap.size [.slice sa sn sc, .int .i64 cstep, .int .i64 cwant, .string cseen, .int .i64 cwait, .int .i64 cpat, .bool cover, .bool cfailed] 31 (w.alloc (.cells #[.slice sa sn sc, .int .i64 cstep, .int .i64 cwant, .string cseen, .int .i64 cwait, .int .i64 cpat, .bool cover, .bool cfailed] 31)) := Rg.Bk.new rfl
  have hb1 := Rg.al1 w (.cells #[.slice sa sn sc, .int .i64 cstep, .int .i64 cwant, .string cseen, .int .i64 cwait, .int .i64 cpat, .bool cover, .bool cfailed] 31)
  have d0 : decide (0 ≤ cstep ∧ cstep < (sn : Int)) = false := by simp only [decide_eq_false_iff_not]; exact hp
  clear hp
  go_enter Tryd.func28, Tryd.ntmps28
  go_upto_region 1 with fail
  generalize World.alloc _ _ = w1 at *
  obtain ⟨B, hB⟩ : ∃ B, B = w.heap.size := ⟨_, rfl⟩
  rw [← hB] at kB ⊢
  clear hB
  have HC : ∀ W, Below w1.heap.size w1 W → (fun (w' : World) => w'.cell? ⟨B, 0, none⟩ = some (.slice sa sn sc) ∧ w'.cell? ⟨B, 1, none⟩ = some (.int .i64 cstep) ∧ w'.cell? ⟨B, 2, none⟩ = some (.int .i64 cwant)) W := fun W hW => ⟨(kB.below hW kB.lt).cell 0, (kB.below hW kB.lt).cell 1, (kB.below hW kB.lt).cell 2⟩
  have HP := Rg.hid (placeB w1 _ HC cstep sn false d0)
  obtain ⟨a0, a1, a2⟩ := HC w1 (Below.refl _ _)
  clear HC kB
  have HQ : Hid (∀ W, Calls Tryd.prog 40 #[.int .i64 cstep, .int .i64 (sn : Int)] W fun e w' => e = .returned (.bool false) ∧ w' = W) := fun W => by rw [← d0]; exact place_any cstep sn W
  clear d0
  have bW := Below.refl w1.heap.size w1
  go_quiet ((first | (go_at_call 40; exact Calls.quiet_of_same (HQ.out _))))
  all_goals
    clear a0 a1 a2 HP HQ
    go_wp2
    exact bodyPost_ret (v := .tuple #[.string ⟨#[]⟩, .bool false]) (by simp [results, Tryd.results28, go_sem]) rfl ⟨rfl, (by first | exact Rg.chain hb1 bW | exact (Rg.chain hb1 bW).drew | exact bel_dN (Rg.chain hb1 bW) _)⟩

set_option maxHeartbeats 2000000 in
set_option maxRecDepth 100000 in
theorem nudge_b (g o k : Nat) (na : Option Addr) (nn ncp : Nat) (cwant : Int) (sn sc : Nat) (cseen : ByteArray) (cwait cpat : Int) (cover cfailed : Bool) (w : World) (hk : k < sn) (hp : ¬ (0 ≤ cwant ∧ cwant < (nn : Int))) (hc : w.cell? ⟨g, o + k * 3 + 1, none⟩ = some (.slice na nn ncp)) :
    Calls Tryd.prog 28 #[.agg #[.slice (some ⟨g, o, none⟩) sn sc, .int .i64 (k : Int), .int .i64 cwant, .string cseen, .int .i64 cwait, .int .i64 cpat, .bool cover, .bool cfailed]] w fun e w' => e = .returned (.tuple #[.string ⟨#[]⟩, .bool false]) ∧ Below w.heap.size w w' := by
  have kB : Rg.Bk w.heap.size [.slice (some ⟨g, o, none⟩) sn sc, .int .i64 (k : Int), .int .i64 cwant, .string cseen, .int .i64 cwait, .int .i64 cpat, .bool cover, .bool cfailed] 31 (w.alloc (.cells #[.slice (some ⟨g, o, none⟩) sn sc, .int .i64 (k : Int), .int .i64 cwant, .string cseen, .int .i64 cwait, .int .i64 cpat, .bool cover, .bool cfailed] 31)) := Rg.Bk.new rfl
  have hb1 := Rg.al1 w (.cells #[.slice (some ⟨g, o, none⟩) sn sc, .int .i64 (k : Int), .int .i64 cwant, .string cseen, .int .i64 cwait, .int .i64 cpat, .bool cover, .bool cfailed] 31)
  have d0 : decide (0 ≤ (k : Int) ∧ (k : Int) < (sn : Int)) = true := by simp only [decide_eq_true_eq]; omega
  have hz0 : (0 : Int) ≤ (k : Int) := by omega
  have hz1 : (k : Int) < (sn : Int) := by omega
  have d1 : decide (0 ≤ cwant ∧ cwant < (nn : Int)) = false := by simp only [decide_eq_false_iff_not]; exact hp
  clear hp
  go_enter Tryd.func28, Tryd.ntmps28
  go_upto_region 1 with fail
  generalize World.alloc _ _ = w1 at *
  obtain ⟨B, hB⟩ : ∃ B, B = w.heap.size := ⟨_, rfl⟩
  rw [← hB] at kB ⊢
  clear hB
  have HC : ∀ W, Below w1.heap.size w1 W → (fun (w' : World) => w'.cell? ⟨B, 0, none⟩ = some (.slice (some ⟨g, o, none⟩) sn sc) ∧ w'.cell? ⟨B, 1, none⟩ = some (.int .i64 (k : Int)) ∧ w'.cell? ⟨B, 2, none⟩ = some (.int .i64 cwant) ∧ w'.cell? ⟨g, o + k * 3 + 1, none⟩ = some (.slice na nn ncp)) W := fun W hW => ⟨(kB.below hW kB.lt).cell 0, (kB.below hW kB.lt).cell 1, (kB.below hW kB.lt).cell 2, by rw [(Rg.chain hb1 hW).cell (p := ⟨g, o + k * 3 + 1, none⟩) (World.block_lt_of_cell? _ _ hc)]; exact hc⟩
  have HP := Rg.hid (placeB w1 _ HC (k : Int) sn true d0)
  have HQ := Rg.hid (placeB w1 _ HC cwant nn false d1)
  obtain ⟨a0, a1, a2, a3⟩ := HC w1 (Below.refl _ _)
  clear HC kB d0 d1 hc
  go_region_held3 (fun (w' : World) => w'.cell? ⟨B, 0, none⟩ = some (.slice (some ⟨g, o, none⟩) sn sc) ∧ w'.cell? ⟨B, 1, none⟩ = some (.int .i64 (k : Int)) ∧ w'.cell? ⟨B, 2, none⟩ = some (.int .i64 cwant) ∧ w'.cell? ⟨g, o + k * 3 + 1, none⟩ = some (.slice na nn ncp)) (go_keep) (first
    | (go_at_call 40; with_reducible refine (HP.out _ ?_).mono ?_; (first | exact bW | exact bW.drew | exact Below.refl _ _ | exact (Below.refl _ _).drew); rintro e w8 ⟨rfl, bW, p0, p1, p2, p3⟩)
    | (go_at_call 40; with_reducible refine (HQ.out _ ?_).mono ?_; (first | exact bW | exact bW.drew | exact Below.refl _ _ | exact (Below.refl _ _).drew); rintro e w9 ⟨rfl, bW, q0, q1, q2, q3⟩))
  all_goals
    clear p0 p1 p2 p3 q0 q1 q2 q3 a0 a1 a2 a3 HP HQ
    go_wp2
    exact bodyPost_ret (v := .tuple #[.string ⟨#[]⟩, .bool false]) (by simp [results, Tryd.results28, go_sem]) rfl ⟨rfl, (by first | exact Rg.chain hb1 bW | exact (Rg.chain hb1 bW).drew | exact bel_dN (Rg.chain hb1 bW) _)⟩

set_option maxHeartbeats 2000000 in
set_option maxRecDepth 100000 in
theorem nudge_c (g o k ng no nn ncp m : Nat) (s : ByteArray) (sn sc : Nat) (cseen : ByteArray) (cwait cpat : Int) (cover cfailed : Bool) (w : World) (hk : k < sn) (hp : m < nn) (hc : w.cell? ⟨g, o + k * 3 + 1, none⟩ = some (.slice (some ⟨ng, no, none⟩) nn ncp)) (hc2 : w.cell? ⟨ng, no + m, none⟩ = some (.string s)) :
    Calls Tryd.prog 28 #[.agg #[.slice (some ⟨g, o, none⟩) sn sc, .int .i64 (k : Int), .int .i64 (m : Int), .string cseen, .int .i64 cwait, .int .i64 cpat, .bool cover, .bool cfailed]] w fun e w' => e = .returned (.tuple #[.string s, .bool true]) ∧ Below w.heap.size w w' := by
  have kB : Rg.Bk w.heap.size [.slice (some ⟨g, o, none⟩) sn sc, .int .i64 (k : Int), .int .i64 (m : Int), .string cseen, .int .i64 cwait, .int .i64 cpat, .bool cover, .bool cfailed] 31 (w.alloc (.cells #[.slice (some ⟨g, o, none⟩) sn sc, .int .i64 (k : Int), .int .i64 (m : Int), .string cseen, .int .i64 cwait, .int .i64 cpat, .bool cover, .bool cfailed] 31)) := Rg.Bk.new rfl
  have hb1 := Rg.al1 w (.cells #[.slice (some ⟨g, o, none⟩) sn sc, .int .i64 (k : Int), .int .i64 (m : Int), .string cseen, .int .i64 cwait, .int .i64 cpat, .bool cover, .bool cfailed] 31)
  have d0 : decide (0 ≤ (k : Int) ∧ (k : Int) < (sn : Int)) = true := by simp only [decide_eq_true_eq]; omega
  have hz0 : (0 : Int) ≤ (k : Int) := by omega
  have hz1 : (k : Int) < (sn : Int) := by omega
  have d1 : decide (0 ≤ (m : Int) ∧ (m : Int) < (nn : Int)) = true := by simp only [decide_eq_true_eq]; omega
  have hz2 : (0 : Int) ≤ (m : Int) := by omega
  have hz3 : (m : Int) < (nn : Int) := by omega
  go_enter Tryd.func28, Tryd.ntmps28
  go_upto_region 1 with fail
  generalize World.alloc _ _ = w1 at *
  obtain ⟨B, hB⟩ : ∃ B, B = w.heap.size := ⟨_, rfl⟩
  rw [← hB] at kB ⊢
  clear hB
  have HC : ∀ W, Below w1.heap.size w1 W → (fun (w' : World) => w'.cell? ⟨B, 0, none⟩ = some (.slice (some ⟨g, o, none⟩) sn sc) ∧ w'.cell? ⟨B, 1, none⟩ = some (.int .i64 (k : Int)) ∧ w'.cell? ⟨B, 2, none⟩ = some (.int .i64 (m : Int)) ∧ w'.cell? ⟨g, o + k * 3 + 1, none⟩ = some (.slice (some ⟨ng, no, none⟩) nn ncp) ∧ w'.cell? ⟨ng, no + m, none⟩ = some (.string s)) W := fun W hW => ⟨(kB.below hW kB.lt).cell 0, (kB.below hW kB.lt).cell 1, (kB.below hW kB.lt).cell 2, by rw [(Rg.chain hb1 hW).cell (p := ⟨g, o + k * 3 + 1, none⟩) (World.block_lt_of_cell? _ _ hc)]; exact hc, by rw [(Rg.chain hb1 hW).cell (p := ⟨ng, no + m, none⟩) (World.block_lt_of_cell? _ _ hc2)]; exact hc2⟩
  have HP := Rg.hid (placeB w1 _ HC (k : Int) sn true d0)
  have HQ := Rg.hid (placeB w1 _ HC (m : Int) nn true d1)
  obtain ⟨a0, a1, a2, a3, a4⟩ := HC w1 (Below.refl _ _)
  replace HC := Rg.hid HC
  clear kB d0 d1 hc hc2
  go_region_held3 (fun (w' : World) => w'.cell? ⟨B, 0, none⟩ = some (.slice (some ⟨g, o, none⟩) sn sc) ∧ w'.cell? ⟨B, 1, none⟩ = some (.int .i64 (k : Int)) ∧ w'.cell? ⟨B, 2, none⟩ = some (.int .i64 (m : Int)) ∧ w'.cell? ⟨g, o + k * 3 + 1, none⟩ = some (.slice (some ⟨ng, no, none⟩) nn ncp) ∧ w'.cell? ⟨ng, no + m, none⟩ = some (.string s)) (go_keep) (first
    | (go_at_call 40; with_reducible refine (HP.out _ ?_).mono ?_; (first | exact bW | exact bW.drew | exact Below.refl _ _ | exact (Below.refl _ _).drew); rintro e w8 ⟨rfl, bW, p0, p1, p2, p3, p4⟩)
    | (go_at_call 40; with_reducible refine (HQ.out _ ?_).mono ?_; (first | exact bW | exact bW.drew | exact Below.refl _ _ | exact (Below.refl _ _).drew); rintro e w9 ⟨rfl, bW, q0, q1, q2, q3, q4⟩))
  all_goals
    clear p0 p1 p2 p3 p4 q0 q1 q2 q3 q4 a0 a1 a2 a3 a4 HP HQ
    obtain ⟨a0, a1, a2, a3, a4⟩ := HC.out _ bW
    go_upto_region 3 with fail
    go_region_held3 (fun (w' : World) => w'.cell? ⟨B, 0, none⟩ = some (.slice (some ⟨g, o, none⟩) sn sc) ∧ w'.cell? ⟨B, 1, none⟩ = some (.int .i64 (k : Int)) ∧ w'.cell? ⟨B, 2, none⟩ = some (.int .i64 (m : Int)) ∧ w'.cell? ⟨g, o + k * 3 + 1, none⟩ = some (.slice (some ⟨ng, no, none⟩) nn ncp) ∧ w'.cell? ⟨ng, no + m, none⟩ = some (.string s)) (go_keep) (fail)
    all_goals
      clear a0 a1 a2 a3 a4
      go_wp2
      exact bodyPost_ret (v := .tuple #[.string s, .bool true]) (by simp [results, Tryd.results28, go_sem]) rfl ⟨rfl, (by first | exact Rg.chain hb1 bW | exact (Rg.chain hb1 bW).drew | exact bel_dN (Rg.chain hb1 bW) _)⟩
/-- what is sent in the stead of a text -/
def Ch.nudgeOf (c : Ch.Co) : Option ByteArray := if 0 ≤ c.step ∧ c.step < (c.steps.length : Int) then (if 0 ≤ c.want ∧ c.want < ((Ch.at_ c).nudge.length : Int) then some ((Ch.at_ c).nudge.getD c.want.toNat ⟨#[]⟩) else none) else none
/-- behind nudgeOf -/
def NPost (w : World) (r : Option ByteArray) (e : Ending) (w' : World) : Prop := Below w.heap.size w w' ∧ match r with
  | some s => e = .returned (.tuple #[.string s, .bool true])
  | none => e = .returned (.tuple #[.string ⟨#[]⟩, .bool false])
theorem nudge_any (sa : Option Addr) (sc : Nat) (vs : List SV) (c : Ch.Co) (w : World) (hr : Rg.Tow stepE w sa vs) (hx : StsAt w vs c.steps) :
    Calls Tryd.prog 28 #[.agg #[.slice sa c.steps.length sc, .int .i64 c.step, .int .i64 c.want, .string ⟨c.seen.toArray⟩, .int .i64 c.wait, .int .i64 c.pat, .bool c.over, .bool c.failed]] w fun e w' => NPost w (Ch.nudgeOf c) e w' := by
  unfold Ch.nudgeOf
  by_cases h1 : 0 ≤ c.step ∧ c.step < (c.steps.length : Int)
  · rw [if_pos h1]
    obtain ⟨k, hk⟩ : ∃ k : Nat, c.step = k := ⟨c.step.toNat, by omega⟩
    have hkl : k < c.steps.length := by omega
    have hkv : k < vs.length := by rw [hx.len]; exact hkl
    obtain ⟨g, o, rfl, _⟩ := hr.place hkv
    have hat : Ch.at_ c = c.steps[k] := by
      unfold Ch.at_
      rw [hk, Int.toNat_natCast, List.getD_eq_getElem?_getD, List.getElem?_eq_getElem hkl]
      rfl
    rw [hat]
    have hst := hx.get k hkv hkl
    have hc : w.cell? ⟨g, o + k * 3 + 1, none⟩ = some (.slice vs[k].b vs[k].m vs[k].d) := hr.elem hkv 1 _ rfl
    rw [hk]
    by_cases h2 : 0 ≤ c.want ∧ c.want < (c.steps[k].nudge.length : Int)
    · rw [if_pos h2]
      obtain ⟨m, hm⟩ : ∃ m : Nat, c.want = m := ⟨c.want.toNat, by omega⟩
      have hml : m < c.steps[k].nudge.length := by omega
      obtain ⟨ng, no, e, _⟩ := hst.nudge.place hml
      have hn := hst.nudge
      rw [e] at hn hc
      have hc2 := str_cell hn hml
      rw [hm, Int.toNat_natCast, List.getD_eq_getElem?_getD, List.getElem?_eq_getElem hml]
      exact (nudge_c g o k ng no vs[k].m vs[k].d m _ c.steps.length sc _ _ _ _ _ w hkl (by rw [hst.m]; exact hml) hc hc2).mono fun e w' ⟨h1, h2⟩ => ⟨h2, h1⟩
    · rw [if_neg h2]
      exact (nudge_b g o k vs[k].b vs[k].m vs[k].d c.want c.steps.length sc _ _ _ _ _ w hkl (by rw [hst.m]; exact h2) hc).mono fun e w' ⟨h1, h2⟩ => ⟨h2, h1⟩
  · rw [if_neg h1]
    exact (nudge_a sa c.step c.want c.steps.length sc _ _ _ _ _ w h1).mono fun e w' ⟨h1, h2⟩ => ⟨h2, h1⟩
end Go.Proofs.YteepfifglafjmaaDoor
