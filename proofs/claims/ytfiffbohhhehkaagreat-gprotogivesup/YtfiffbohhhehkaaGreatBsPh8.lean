/-
  Layer 15: a pair in memory by what it means; half a round.
-/
import Derived.Test.YtfiffbohhhehkaaGreatBsPh6
import Derived.Test.YtfiffbohhhehkaaGreatBsPh7
import Derived.Test.YtfiffbohhhehkaaGreatBsMathGj
namespace Go.Proofs.YtfiffbohhhehkaaGreat
open Go.RowKit
/-- half a round -/
def Gp.hA (p : Gp.Pr) : Gp.Pr := ⟨(Gp.feed p.a p.w0).1, p.b, [], p.w1 ++ (Gp.feed p.a p.w0).2.1, p.c0 ++ (Gp.feed p.a p.w0).2.2, p.c1⟩
/-- a pair -/
structure PS (Kp : Nat → Prop) (B : Nat) (W : World) (s0 s1 : List UInt8) (p : Gp.Pr) (N M : Nat) : Prop where
  pb : ∃ CA CB t0 t1, PB Kp B W p.a p.b CA CB (pR p.w0 p.w1 s0 s1 p.c0 p.c1 t0 t1) ∧ 0 ≤ t0 ∧ t0 ≤ (N : Int) ∧ 0 ≤ t1 ∧ t1 ≤ (N : Int)
  oka : Gp.Ok N p.a
  okb : Gp.Ok N p.b
  c0 : p.c0.length ≤ M
  c1 : p.c1.length ≤ M
theorem PS.below {Kp : Nat → Prop} {B N M : Nat} {W W' : World} {s0 s1 : List UInt8} {p : Gp.Pr} (h : PS Kp B W s0 s1 p N M) (hb : Below W.heap.size W W') : PS Kp B W' s0 s1 p N M := by
  obtain ⟨⟨CA, CB, t0, t1, h1, h2⟩, h3, h4, h5, h6⟩ := h
  exact ⟨⟨CA, CB, t0, t1, h1.below hb, h2⟩, h3, h4, h5, h6⟩
theorem PB.only {Kp : Nat → Prop} {B B2 : Nat} {W W' : World} {a b : Gp.Dr} {CA CB : Array Value} {R : List Value} (h : PB Kp B W a b CA CB R) (hB : B ≠ B2) (hn : ¬ Kp B2) (o : Rg.Only B2 W W') : PB Kp B W' a b CA CB R := ⟨h.bk.same (o.block B hB), h.ha.only hn o, h.hb.only hn o, h.no⟩
theorem PS.only {Kp : Nat → Prop} {B B2 N M : Nat} {W W' : World} {s0 s1 : List UInt8} {p : Gp.Pr} (h : PS Kp B W s0 s1 p N M) (hB : B ≠ B2) (hn : ¬ Kp B2) (o : Rg.Only B2 W W') : PS Kp B W' s0 s1 p N M := by
  obtain ⟨⟨CA, CB, t0, t1, h1, h2⟩, h3, h4, h5, h6⟩ := h
  exact ⟨⟨CA, CB, t0, t1, h1.only hB hn o, h2⟩, h3, h4, h5, h6⟩
theorem PS.lt {Kp : Nat → Prop} {B N M : Nat} {W : World} {s0 s1 : List UInt8} {p : Gp.Pr} (h : PS Kp B W s0 s1 p N M) : B < W.heap.size := by
  obtain ⟨⟨_, _, _, _, h1, _⟩, _⟩ := h
  exact h1.bk.lt
theorem PS.w0 {Kp : Nat → Prop} {B N M : Nat} {W : World} {s0 s1 : List UInt8} {p : Gp.Pr} (h : PS Kp B W s0 s1 p N M) : W.cell? ⟨B, 36, none⟩ = some (.string ⟨p.w0.toArray⟩) := by
  obtain ⟨⟨_, _, _, _, h1, _⟩, _⟩ := h
  exact h1.cell 0
theorem PS.w1 {Kp : Nat → Prop} {B N M : Nat} {W : World} {s0 s1 : List UInt8} {p : Gp.Pr} (h : PS Kp B W s0 s1 p N M) : W.cell? ⟨B, 37, none⟩ = some (.string ⟨p.w1.toArray⟩) := by
  obtain ⟨⟨_, _, _, _, h1, _⟩, _⟩ := h
  exact h1.cell 1
/-- what half a round leaves -/
def HRPost (Kp : Nat → Prop) (B : Nat) (W : World) (s0 s1 : List UInt8) (p : Gp.Pr) (N M : Nat) (e : Ending) (w' : World) : Prop := e = .returned (.tuple #[]) ∧ Hid (PS Kp B w' s0 s1 p N M) ∧ Hid (Oth B W w')
theorem ok_room {N : Nat} {d : Gp.Dr} (h : Gp.Ok N d) (hN : N ≤ 2000000) (s : List UInt8) (hs : s.length ≤ 6000) : d.at_ + d.buf.length + s.length ≤ 1099511627776 ∧ d.buf.length + s.length ≤ 40000 ∧ (Gp.feed d s).1.took.length ≤ 1000000 := by
  have h1 := h.tot
  have h2 := h.buf
  have h3 := Gp.k_feed d s
  exact ⟨by omega, by omega, by omega⟩
theorem half_a {Kp : Nat → Prop} {B N M : Nat} {W : World} {s0 s1 : List UInt8} {p : Gp.Pr} (h : PS Kp B W s0 s1 p N M) (hs : Gp.Hs p) (hN : N ≤ 2000000) (hC : M ≤ 90000) (hK : ∀ b, W.heap.size ≤ b → Kp b) (n : Nat) (hn : n = p.w0.length) :
    Calls Tryz.prog 24 #[.pointer (some ⟨B, 0, none⟩), .agg #[.int .i64 0, .int .i64 0, .int .i64 (n : Int), .int .i64 0, .string ⟨#[]⟩]] W fun e w' => HRPost Kp B W s0 s1 (Gp.hA p) (N + 6000) (M + 600) e w' := by
  obtain ⟨⟨CA, CB, t0, t1, h1, g0, g1, g2, g3⟩, h3, h4, h5, h6⟩ := h
  have z0 := hs.w0
  have z1 := hs.w1
  have z2 := hs.sa
  have z3 := hs.ca
  obtain ⟨q1, q2, q3⟩ := ok_room h3 hN p.w0 (by omega)
  refine (stepA B n p.a p.b CA CB p.w0 p.w1 s0 s1 p.c0 p.c1 t0 t1 W h1 hn h3.rt q1 q2 hK (by show n ≤ 40000; omega) (by show _ ≤ _; omega) (by show _ ≤ _; omega) ⟨g0, by omega⟩ q3).mono fun e w' ⟨CA', CB', he, hp, ho⟩ => ⟨he, ⟨⟨CA', CB', t0 + n, t1, hp.out, by omega, by omega, g2, by omega⟩, (h3.feed p.w0 (by omega)).mono (by omega), h4.mono (by omega), ?_, by show _ ≤ _; exact Nat.le_trans h6 (Nat.le_add_right _ _)⟩, ho⟩
  show (p.c0 ++ _).length ≤ M + 600
  rw [List.length_append]
  omega
theorem half_b {Kp : Nat → Prop} {B N M : Nat} {W : World} {s0 s1 : List UInt8} {p : Gp.Pr} (h : PS Kp B W s0 s1 (Gp.hA p) N M) (hs : Gp.Hs p) (hN : N ≤ 2000000) (hC : M ≤ 90000) (hK : ∀ b, W.heap.size ≤ b → Kp b) (n : Nat) (hn : n = (Gp.hA p).w1.length) :
    Calls Tryz.prog 24 #[.pointer (some ⟨B, 0, none⟩), .agg #[.int .i64 0, .int .i64 1, .int .i64 (n : Int), .int .i64 0, .string ⟨#[]⟩]] W fun e w' => HRPost Kp B W s0 s1 (Gp.rnd p) (N + 6000) (M + 600) e w' := by
  obtain ⟨⟨CA, CB, t0, t1, h1, g0, g1, g2, g3⟩, h3, h4, h5, h6⟩ := h
  have z1 := hs.w1
  have z2 := hs.sa
  have z4 := hs.sb
  have z5 := hs.cb
  have hl : (Gp.hA p).w1.length ≤ 5200 := by
    show (p.w1 ++ _).length ≤ 5200
    rw [List.length_append]
    omega
  obtain ⟨q1, q2, q3⟩ := ok_room h4 hN (Gp.hA p).w1 (by omega)
  have z4' : (Gp.feed (Gp.hA p).b (Gp.hA p).w1).2.1.length ≤ 100 := z4
  have z5' : (Gp.feed (Gp.hA p).b (Gp.hA p).w1).2.2.length ≤ 600 := z5
  refine (stepB B n (Gp.hA p).a (Gp.hA p).b CA CB (Gp.hA p).w0 (Gp.hA p).w1 s0 s1 (Gp.hA p).c0 (Gp.hA p).c1 t0 t1 W h1 hn h4.rt q1 q2 hK (by show n ≤ 40000; omega) (by show _ ≤ _; have : (Gp.hA p).w0.length = 0 := rfl; omega) (by show _ ≤ _; omega) ⟨g2, by omega⟩ q3).mono fun e w' ⟨CA', CB', he, hp, ho⟩ => ⟨he, ⟨⟨CA', CB', t0, t1 + n, hp.out, g0, by omega, by omega, by omega⟩, h3.mono (by omega), (h4.feed (Gp.hA p).w1 (by omega)).mono (by omega), ?_, ?_⟩, ho⟩
  · exact Nat.le_trans h5 (Nat.le_add_right _ _)
  · show (p.c1 ++ (Gp.feed (Gp.hA p).b (Gp.hA p).w1).2.2).length ≤ M + 600
    have h6' : p.c1.length ≤ M := h6
    rw [List.length_append]
    omega
theorem ok_ticks {N : Nat} (hN : N ≤ 1099511627776) : ∀ (n : Nat) {d : Gp.Dr}, Gp.Ok N d → Gp.Ok N (Gp.ticks n d)
  | 0, _, h => h
  | n + 1, _, h => ok_ticks hN n (h.tick hN)
theorem ok_tick_at {N : Nat} {d : Gp.Dr} (h : Gp.Ok N d) (hN : N ≤ 1099511627776) : d.at_ + d.buf.length ≤ 1099511627776 := by have := h.tot; omega
end Go.Proofs.YtfiffbohhhehkaaGreat
