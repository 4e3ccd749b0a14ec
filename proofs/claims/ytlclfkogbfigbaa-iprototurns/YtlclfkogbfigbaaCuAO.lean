/-
  Walks of layer 16: all of the window is said. Walks of layer 16: tickRunning, tick.
-/
import Derived.Test.YtlclfkogbfigbaaCuAN
namespace Go.Proofs.Ytlclfkogbfigbaa
open Go.RowKit
theorem Ip.allFrom_step (d : Gp.Dr) {l : List ByteArray} {i : Nat} (h : i < l.length) : Ip.allFrom d (l.drop i) i = Ip.packet d (Wn.num d.win i) l[i] ++ Ip.allFrom d (l.drop (i + 1)) (i + 1) := by
  rw [List.drop_eq_getElem_cons h]
  rfl
theorem ipacket_len {d : Gp.Dr} {n : Int} {s : ByteArray} (hz : d.size ≤ 4095) (hs : Ip.okText d.size s) : (Ip.packet d n s).length ≤ 4200 := by
  unfold Ip.packet Ip.pk
  rw [If.text_len]
  have h1 := hs.2.1
  have h2 : s.data.toList.tail.length = s.size - 1 := by rw [List.length_tail, Array.length_toList]; rfl
  have := If.bsz_le s.data.toList.tail.length
  show 6 + If.bsz s.data.toList.tail.length ≤ 4200
  omega
/-- what a round of sayWindow finds -/
structure IW (Kp : Nat → Prop) (eb : Nat) (d : Gp.Dr) (p : Pl) (ag : Option Nat) (cv : Value) (S : List UInt8) (C : List Gp.Pc) (w2 : World) (i : Nat) (wr : World) (Si : List UInt8) : Prop where
  es : ∃ s sb, IAt Kp wr eb d p ⟨s, sb, cv, ag⟩ Si C
  fr : Fr eb eb w2 wr
  out : Si ++ Ip.allFrom d (d.win.l.drop i) i = S ++ Ip.all d
  len : Si.length ≤ S.length + 4200 * i
theorem Wn.inums_get (X : Wn.W) {i : Nat} (h : i < ((List.range X.l.length).map (Wn.num X)).length) : ((List.range X.l.length).map (Wn.num X))[i] = Wn.num X i := by simp
end Go.Proofs.Ytlclfkogbfigbaa

namespace Go.Proofs.Ytlclfkogbfigbaa
open Go.RowKit
theorem IAt.drewN {Kp : Nat → Prop} {W : World} {eb : Nat} {d : Gp.Dr} {p : Pl} {q : Qv} {S : List UInt8} {C : List Gp.Pc} (h : IAt Kp W eb d p q S C) (n : Nat) : IAt Kp (W.drewN n) eb d p q S C := h.below (Rg.drewN (Below.refl _ _) n)
/-- what tickRunning comes to -/
def Ip.ticked (d : Gp.Dr) : Gp.Dr × List UInt8 :=
  if d.win.l = [] then ({ d with step := -1 }, [])
  else if d.step ≠ d.win.bs then ({ d with step := d.win.bs }, [])
  else if 12 < d.tries + 1 then ({ d with tries := d.tries + 1, phase := 5 }, []) else ({ d with tries := d.tries + 1 }, Ip.all { d with tries := d.tries + 1 })
theorem IPost.go {Kp : Nat → Prop} {eb : Nat} {W W1 : World} {d : Gp.Dr} {p : Pl} {ag : Option Nat} {cv : Value} {S : List UInt8} {C : List Gp.Pc} {F : Nat} {args : Array Value} (f : Below eb W W1) (h : Calls Try.prog F args W1 fun e w' => IPostP Kp eb W1 d p ag cv S C e w') : Calls Try.prog F args W1 fun e w' => e = .returned (.tuple #[]) ∧ IPost Kp eb W d S C (.returned (.tuple #[])) w' := h.mono fun _ _ hp => ⟨hp.1, rfl, hp.is.2.1, f.trans hp.is.2.2⟩
end Go.Proofs.Ytlclfkogbfigbaa
