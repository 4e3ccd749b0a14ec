/-
  Layer 5, Order: byId; swapRange.
-/
import Derived.Test.YthjlhbbhdliffaaDoorSrt1
namespace Go.Proofs.YthjlhbbhdliffaaDoor
open Go.RowKit

namespace Job
def lt (x y : Jb) : Bool := Nam.less x.g x.n y.g y.n
def cf (x y : Jb) : Int := if lt x y = true then -1 else if lt y x = true then 1 else 0
theorem cf_neg (x y : Jb) : decide (cf x y < 0) = lt x y := by
  unfold cf
  cases h : lt x y
  · rw [if_neg (by simp)]
    split <;> rfl
  · rw [if_pos rfl]; rfl
def swp (d : List Jb) (i j : Nat) : List Jb := (d.set i d[j]!).set j d[i]!
theorem swp_length (d : List Jb) (i j : Nat) : (swp d i j).length = d.length := by simp [swp]
def swapR (d : List Jb) (a b : Nat) : Nat → List Jb
  | 0 => d
  | n + 1 => swp (swapR d a b n) (a + n) (b + n)
theorem swapR_length (d : List Jb) (a b : Nat) : ∀ n, (swapR d a b n).length = d.length
  | 0 => rfl
  | n + 1 => by rw [swapR, swp_length, swapR_length d a b n]
theorem at_bang {d : List Jb} {i : Nat} (h : i < d.length) : d[i]! = d[i] := by simp [h]
end Job

set_option maxHeartbeats 1000000 in
theorem byId_any (x y : Job.Jb) (w : World) : Calls Tryd.prog 36 #[jv x, jv y] w fun e w' => e = .returned (.int .i64 (Job.cf x y)) ∧ Below w.heap.size w w' := by
  obtain ⟨g, n, k, u, f, t, c, z⟩ := x
  obtain ⟨g', n', k', u', f', t', c', z'⟩ := y
  have bw := below_alloc2 w (.cells #[.int .i64 g, .int .i64 n, .int .i64 k, .string u, .string f, .string t, .string c, .int .i64 z] 25) (.cells #[.int .i64 g', .int .i64 n', .int .i64 k', .string u', .string f', .string t', .string c', .int .i64 z'] 25)
  have hk1 : Keeps w.heap.size g n k u f t c z ((w.alloc (.cells #[.int .i64 g, .int .i64 n, .int .i64 k, .string u, .string f, .string t, .string c, .int .i64 z] 25)).alloc (.cells #[.int .i64 g', .int .i64 n', .int .i64 k', .string u', .string f', .string t', .string c', .int .i64 z'] 25)) := (keeps_new g n k u f t c z w _).below (below_alloc1 _ _) (by simp)
  have hk2 : Keeps (w.heap.size + 1) g' n' k' u' f' t' c' z' ((w.alloc (.cells #[.int .i64 g, .int .i64 n, .int .i64 k, .string u, .string f, .string t, .string c, .int .i64 z] 25)).alloc (.cells #[.int .i64 g', .int .i64 n', .int .i64 k', .string u', .string f', .string t', .string c', .int .i64 z'] 25)) := by
    have := keeps_new g' n' k' u' f' t' c' z' (w.alloc (.cells #[.int .i64 g, .int .i64 n, .int .i64 k, .string u, .string f, .string t, .string c, .int .i64 z] 25)) 25
    rw [show (w.alloc (.cells #[.int .i64 g, .int .i64 n, .int .i64 k, .string u, .string f, .string t, .string c, .int .i64 z] 25)).heap.size = w.heap.size + 1 by simp] at this
    exact this
  have hr : Hid (Job.cf ⟨g, n, k, u, f, t, c, z⟩ ⟨g', n', k', u', f', t', c', z'⟩ = if Nam.less g n g' n' = true then -1 else if Nam.less g' n' g n = true then 1 else 0) := rfl
  have H1 : Hid (∀ W, Calls Tryd.prog 52 #[.agg #[.int .i64 g, .int .i64 n], .agg #[.int .i64 g', .int .i64 n']] W fun e w' => e = .returned (.bool (Nam.less g n g' n')) ∧ Below W.heap.size W w') := fun W => less_any g n g' n' W
  have H2 : Hid (∀ W, Calls Tryd.prog 52 #[.agg #[.int .i64 g', .int .i64 n'], .agg #[.int .i64 g, .int .i64 n]] W fun e w' => e = .returned (.bool (Nam.less g' n' g n)) ∧ Below W.heap.size W w') := fun W => less_any g' n' g n W
  have hkk : Hid (Keeps w.heap.size g n k u f t c z ((w.alloc (.cells #[.int .i64 g, .int .i64 n, .int .i64 k, .string u, .string f, .string t, .string c, .int .i64 z] 25)).alloc (.cells #[.int .i64 g', .int .i64 n', .int .i64 k', .string u', .string f', .string t', .string c', .int .i64 z'] 25)) ∧ Keeps (w.heap.size + 1) g' n' k' u' f' t' c' z' ((w.alloc (.cells #[.int .i64 g, .int .i64 n, .int .i64 k, .string u, .string f, .string t, .string c, .int .i64 z] 25)).alloc (.cells #[.int .i64 g', .int .i64 n', .int .i64 k', .string u', .string f', .string t', .string c', .int .i64 z'] 25))) := ⟨hk1, hk2⟩
  obtain ⟨j0, j1, j2, j3, j4, j5, j6, j7⟩ := hk1
  obtain ⟨l0, l1, l2, l3, l4, l5, l6, l7⟩ := hk2
  unfold jv
  generalize Nam.less g n g' n' = b1 at *
  generalize Nam.less g' n' g n = b2 at *
  go_enter Tryd.func36, Tryd.ntmps36
  go_wp2_with (go_at_call 52; with_reducible refine (H1.out _).mono ?_)
  rintro e w1 ⟨rfl, c1⟩
  obtain ⟨i0, i1, i2, i3, i4, i5, i6, i7⟩ := hkk.out.1.below c1 (by simp; omega)
  obtain ⟨m0, m1, m2, m3, m4, m5, m6, m7⟩ := hkk.out.2.below c1 (by simp)
  cases b1
  · go_wp2_with (go_at_call 52; with_reducible refine (H2.out _).mono ?_)
    rintro e w2 ⟨rfl, c2⟩
    have bE := bw.trans ((c1.trans (c2.mono c1.size)).mono bw.size)
    cases b2
    · go_wp2
      go_ret
      exact ⟨ret_int (by rw [hr.out]; rfl), bE⟩
    · go_wp2
      go_ret
      exact ⟨ret_int (by rw [hr.out]; rfl), bE⟩
  · go_wp2
    go_ret
    exact ⟨ret_int (by rw [hr.out]; rfl), bw.trans (c1.mono bw.size)⟩

theorem SW.swap {g : Nat} {rest : List Value} {w0 W : World} {d : List Job.Jb} (h : SW g rest w0 d W) (hB : w0.heap.size ≤ g) {p q : Nat} (hp : p < d.length) (hq : q < d.length) {xp xq : Job.Jb} (ep : d[p]! = xp) (eq : d[q]! = xq) :
    SW g rest w0 (Job.swp d p q) ((((((((((((((((W.setCell ⟨g, p * 8, none⟩ (.int .i64 xq.g)).setCell ⟨g, p * 8 + 1, none⟩ (.int .i64 xq.n)).setCell ⟨g, p * 8 + 2, none⟩ (.int .i64 xq.k)).setCell ⟨g, p * 8 + 3, none⟩ (.string xq.u)).setCell ⟨g, p * 8 + 4, none⟩ (.string xq.f)).setCell ⟨g, p * 8 + 5, none⟩ (.string xq.t)).setCell ⟨g, p * 8 + 6, none⟩ (.string xq.c)).setCell ⟨g, p * 8 + 7, none⟩ (.int .i64 xq.z)).setCell ⟨g, q * 8, none⟩ (.int .i64 xp.g)).setCell ⟨g, q * 8 + 1, none⟩ (.int .i64 xp.n)).setCell ⟨g, q * 8 + 2, none⟩ (.int .i64 xp.k)).setCell ⟨g, q * 8 + 3, none⟩ (.string xp.u)).setCell ⟨g, q * 8 + 4, none⟩ (.string xp.f)).setCell ⟨g, q * 8 + 5, none⟩ (.string xp.t)).setCell ⟨g, q * 8 + 6, none⟩ (.string xp.c)).setCell ⟨g, q * 8 + 7, none⟩ (.int .i64 xp.z)).drew := by
  unfold Job.swp
  rw [ep, eq]
  exact ((h.put hB hp xq).put hB (i := q) (by simpa using hq) xp).drew

set_option maxHeartbeats 4000000 in
set_option maxRecDepth 100000 in
theorem swapRange_any (fv : Value) (g : Nat) (rest : List Value) (w0 : World) (hB : w0.heap.size ≤ g) (d : List Job.Jb) (cap a b n : Nat) (hn : d.length ≤ 1000) (ha : a + n ≤ b) (hb : b + n ≤ d.length) (w : World) (hw : SW g rest w0 d w) :
    Calls Tryd.prog 86 #[.slice (some ⟨g, 0, none⟩) d.length cap, .int .i64 a, .int .i64 b, .int .i64 n, fv] w fun e w' => e = .returned (.tuple #[]) ∧ SW g rest w0 (Job.swapR d a b n) w' := by
  have HW : Hid (SW g rest w0 d w) := hw
  clear hw
  go_enter Tryd.func86, Tryd.ntmps86
  go_wp2
  go_loopw [10] (fun i wr => ∃ k : Nat, k ≤ n ∧ i = .int .i64 k ∧ Hid (SW g rest w0 (Job.swapR d a b k) wr)) (fun i _ => n - (intOf i).toNat)
  case atStart => exact ⟨0, Nat.zero_le _, rfl, HW⟩
  case round =>
    obtain ⟨k, hk, rfl, hS⟩ := hrel
    by_cases hlt : k < n
    · have hl := Job.swapR_length d a b k
      have hnx : Hid (Job.swapR d a b (k + 1) = Job.swp (Job.swapR d a b k) (a + k) (b + k)) := rfl
      generalize Job.swapR d a b k = dk at *
      obtain ⟨p, hp⟩ : ∃ p : Nat, p = a + k := ⟨_, rfl⟩
      obtain ⟨q, hq⟩ : ∃ q : Nat, q = b + k := ⟨_, rfl⟩
      have hpq : p < q := by omega
      have hpl : p < dk.length := by omega
      have hql : q < dk.length := by omega
      have jp := hS.out.job hpl
      have jq := hS.out.job hql
      have hP := Job.at_bang hpl
      have hQ := Job.at_bang hql
      rw [← hP] at jp
      rw [← hQ] at jq
      have e1 : IntKind.i64.wrap ((a : Int) + (k : Int)) = (p : Int) := by rw [IntKind.wrap_i64]; omega
      have e2 : IntKind.i64.wrap ((b : Int) + (k : Int)) = (q : Int) := by rw [IntKind.wrap_i64]; omega
      have p0 : (0 : Int) ≤ (p : Int) := by omega
      have q0 : (0 : Int) ≤ (q : Int) := by omega
      have p1 : (p : Int) < (d.length : Int) := by omega
      have q1 : (q : Int) < (d.length : Int) := by omega
      have p2 : p < d.length := by omega
      have q2 : q < d.length := by omega
      have fz := hS.out.thaw
      have r1 : ∀ j, j < 8 → ¬ (p * 8 = q * 8 + j) := fun j hj => by omega
      have r2 : ∀ j, j < 8 → ¬ (q * 8 = p * 8 + j) := fun j hj => by omega
      have r3 : ∀ j, j < 8 → ¬ (p * 8 + j = q * 8) := fun j hj => by omega
      have r4 : ∀ j, j < 8 → ¬ (q * 8 + j = p * 8) := fun j hj => by omega
      have r5 : ¬ (p * 8 = q * 8) := by omega
      have r6 : ¬ (q * 8 = p * 8) := by omega
      have r7 : ¬ (p = q) := by omega
      have r8 : ¬ (q = p) := by omega
      have zg := hS.out.lt
      obtain ⟨xp, hxp⟩ : ∃ x, dk[p]! = x := ⟨_, rfl⟩
      obtain ⟨xq, hxq⟩ : ∃ x, dk[q]! = x := ⟨_, rfl⟩
      rw [hxp] at jp
      rw [hxq] at jq
      clear hP hQ
      obtain ⟨pg, pn, pk, pu, pf, pt, pc, pz⟩ := xp
      obtain ⟨qg, qn, qk, qu, qf, qt, qc, qz⟩ := xq
      obtain ⟨a0, a1, a2, a3, a4, a5, a6, a7⟩ := jp
      obtain ⟨b0, b1, b2, b3, b4, b5, b6, b7⟩ := jq
      dsimp only at a0 a1 a2 a3 a4 a5 a6 a7 b0 b1 b2 b3 b4 b5 b6 b7
      have hsw := hS.out.swap hB hpl hql hxp hxq
      dsimp only at hsw
      rw [hp, hq, ← hnx.out, ← hp, ← hq] at hsw
      replace hsw : Hid _ := hsw
      clear hpq hS hp hq hxp hxq
      go_wp2
      go_big_region
      generalize World.drew _ = WE at *
      go_wp2
      go_roundw
      case rel => exact ⟨k + 1, by omega, by go_num, hsw⟩
      case measure => simp [intOf]; omega
    · obtain rfl : k = n := by omega
      go_wp2
      go_end0
      exact ⟨rfl, hS.out⟩
end Go.Proofs.YthjlhbbhdliffaaDoor
