/-
  Layer 16: a pair in memory by what it means; half a round.
-/
import Derived.Test.YtlclfkogbfigbaaGreatBsIqI
import Derived.Test.YtlclfkogbfigbaaGreatBsIqJ
import Derived.Test.YtlclfkogbfigbaaGreatBsMathIy
namespace Go.Proofs.YtlclfkogbfigbaaGreat
open Go.RowKit
/-- a pair -/
structure IPS (Kp : Nat → Prop) (B : Nat) (W : World) (p : Ip.Pw) (N : Nat) : Prop where
  pb : ∃ CA CB t0 t1, IPB Kp B W p.a p.b CA CB (ipR p.w0 p.w1 t0 t1) ∧ 0 ≤ t0 ∧ t0 ≤ (N : Int) ∧ 0 ≤ t1 ∧ t1 ≤ (N : Int)
  oka : Ip.Ok N 0 p.a
  okb : Ip.Ok N 0 p.b
theorem IPS.below {Kp : Nat → Prop} {B N : Nat} {W W' : World} {p : Ip.Pw} (h : IPS Kp B W p N) (hb : Below W.heap.size W W') : IPS Kp B W' p N := by
  obtain ⟨⟨CA, CB, t0, t1, h1, h2⟩, h3, h4⟩ := h
  exact ⟨⟨CA, CB, t0, t1, h1.below hb, h2⟩, h3, h4⟩
theorem IPB.only {Kp : Nat → Prop} {B B2 : Nat} {W W' : World} {a b : Gp.Dr} {CA CB : Array Value} {R : List Value} (h : IPB Kp B W a b CA CB R) (hB : B ≠ B2) (hn : ¬ Kp B2) (o : Rg.Only B2 W W') : IPB Kp B W' a b CA CB R := ⟨h.bk.same (o.block B hB), h.ha.only hn o, h.hb.only hn o, h.no⟩
theorem IPS.only {Kp : Nat → Prop} {B B2 N : Nat} {W W' : World} {p : Ip.Pw} (h : IPS Kp B W p N) (hB : B ≠ B2) (hn : ¬ Kp B2) (o : Rg.Only B2 W W') : IPS Kp B W' p N := by
  obtain ⟨⟨CA, CB, t0, t1, h1, h2⟩, h3, h4⟩ := h
  exact ⟨⟨CA, CB, t0, t1, h1.only hB hn o, h2⟩, h3, h4⟩
theorem IPS.lt {Kp : Nat → Prop} {B N : Nat} {W : World} {p : Ip.Pw} (h : IPS Kp B W p N) : B < W.heap.size := by
  obtain ⟨⟨_, _, _, _, h1, _⟩, _⟩ := h
  exact h1.bk.lt
theorem IPS.w0 {Kp : Nat → Prop} {B N : Nat} {W : World} {p : Ip.Pw} (h : IPS Kp B W p N) : W.cell? ⟨B, 36, none⟩ = some (.string ⟨p.w0.toArray⟩) := by
  obtain ⟨⟨_, _, _, _, h1, _⟩, _⟩ := h
  exact h1.cell 0
theorem IPS.w1 {Kp : Nat → Prop} {B N : Nat} {W : World} {p : Ip.Pw} (h : IPS Kp B W p N) : W.cell? ⟨B, 37, none⟩ = some (.string ⟨p.w1.toArray⟩) := by
  obtain ⟨⟨_, _, _, _, h1, _⟩, _⟩ := h
  exact h1.cell 1
/-- what half a round leaves -/
def IHRPost (Kp : Nat → Prop) (B : Nat) (W : World) (p : Ip.Pw) (N : Nat) (e : Ending) (w' : World) : Prop := e = .returned (.tuple #[]) ∧ Hid (IPS Kp B w' p N) ∧ Hid (Oth B W w')
theorem iok_room {N : Nat} {d : Gp.Dr} (h : Ip.Ok N 0 d) (hN : N ≤ 2000) (s : List UInt8) (hs : s.length ≤ 13) : d.at_ + d.buf.length + s.length ≤ 1099511627776 ∧ d.buf.length + s.length ≤ 40000 ∧ (Ip.feed d s).1.took.length ≤ 1000000 := by
  have h1 := h.tot
  have h2 := h.buf
  have h3 := Ip.feed_took N 0 h s (by omega)
  exact ⟨by omega, by omega, by omega⟩
theorem ihalf_a {Kp : Nat → Prop} {B N : Nat} {W : World} {p : Ip.Pw} (h : IPS Kp B W p N) (hs : Ip.Hs p) (hN : N ≤ 2000) (hK : ∀ b, W.heap.size ≤ b → Kp b) (n : Nat) (hn : n = p.w0.length) :
    Calls Tryz.prog 24 #[.pointer (some ⟨B, 0, none⟩), .agg #[.int .i64 0, .int .i64 0, .int .i64 (n : Int), .int .i64 0, .string ⟨#[]⟩]] W fun e w' => IHRPost Kp B W (Ip.hA p) (N + 13) e w' := by
  obtain ⟨⟨CA, CB, t0, t1, h1, g0, g1, g2, g3⟩, h3, h4⟩ := h
  have z0 := hs.w0
  have z1 := hs.w1
  have z2 := hs.fa
  obtain ⟨q1, q2, q3⟩ := iok_room h3 hN p.w0 (by omega)
  refine (istepA B n p.a p.b CA CB p.w0 p.w1 t0 t1 W h1 hn h3.rt q1 q2 hK (by show n ≤ 40000; omega) (by show _ ≤ _; rw [z2]; show p.w1.length + 0 ≤ _; omega) (by show _ = _; rw [z2]) ⟨g0, by omega⟩ q3).mono fun e w' ⟨CA', CB', he, hp, ho⟩ => ⟨he, ⟨⟨CA', CB', t0 + n, t1, hp.out, by omega, by omega, g2, by omega⟩, (h3.feed p.w0 (by omega)).1.mono (by omega) (by omega), h4.mono (by omega) (by omega)⟩, ho⟩
theorem ihalf_b {Kp : Nat → Prop} {B N : Nat} {W : World} {p : Ip.Pw} (h : IPS Kp B W (Ip.hA p) N) (hs : Ip.Hs p) (hN : N ≤ 2000) (hK : ∀ b, W.heap.size ≤ b → Kp b) (n : Nat) (hn : n = (Ip.hA p).w1.length) :
    Calls Tryz.prog 24 #[.pointer (some ⟨B, 0, none⟩), .agg #[.int .i64 0, .int .i64 1, .int .i64 (n : Int), .int .i64 0, .string ⟨#[]⟩]] W fun e w' => IHRPost Kp B W (Ip.hB (Ip.hA p)) (N + 13) e w' := by
  obtain ⟨⟨CA, CB, t0, t1, h1, g0, g1, g2, g3⟩, h3, h4⟩ := h
  have z1 := hs.w1
  have z4 := hs.fb
  have e1 : (Ip.hA p).w1 = p.w1 := by rw [Ip.hA_w1 hs]
  have e0 : (Ip.hA p).w0 = [] := rfl
  have eb : (Ip.hA p).b = p.b := rfl
  have z4' : (Ip.feed (Ip.hA p).b (Ip.hA p).w1).2 = ([], []) := by rw [e1, eb]; exact z4
  obtain ⟨q1, q2, q3⟩ := iok_room h4 hN (Ip.hA p).w1 (by rw [e1]; exact z1)
  have hn13 : n ≤ 13 := by rw [hn, e1]; exact z1
  refine (istepB B n (Ip.hA p).a (Ip.hA p).b CA CB (Ip.hA p).w0 (Ip.hA p).w1 t0 t1 W h1 hn h4.rt q1 q2 hK (by show n ≤ 40000; omega) (by show _ ≤ _; rw [z4', e0]; exact Nat.zero_le _) (by show _ = _; rw [z4']) ⟨g2, by omega⟩ q3).mono fun e w' ⟨CA', CB', he, hp, ho⟩ => ⟨he, ⟨⟨CA', CB', t0, t1 + n, hp.out, g0, by omega, by omega, by omega⟩, h3.mono (by omega) (by omega), (h4.feed (Ip.hA p).w1 (by omega)).1.mono (by omega) (by omega)⟩, ho⟩
end Go.Proofs.YtlclfkogbfigbaaGreat
