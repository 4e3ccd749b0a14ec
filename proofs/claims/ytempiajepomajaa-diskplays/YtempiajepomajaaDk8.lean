/-
  Layer 6: behind, Files, Used.
-/
import Derived.Test.YtempiajepomajaaDk7
namespace Go.Proofs.Ytempiajepomajaa
open Go.RowKit

namespace Dsk
theorem behind_take (l : List Fl) (ops : List Dop) (i : Nat) (h : i < ops.length) : behind l (ops.take (i + 1)) = after (behind l (ops.take i)) ops[i] := by
  rw [List.take_succ_eq_append_getElem h, behind_snoc]
theorem wt_take (ops : List Dop) (i : Nat) (h : i < ops.length) : wt (ops.take i) + ops[i].d.size + 16 ≤ wt ops := by
  have e : ops = ops.take i ++ ops[i] :: ops.drop (i + 1) := by rw [← List.drop_eq_getElem_cons h, List.take_append_drop]
  have := wt_append (ops.take i) (ops[i] :: ops.drop (i + 1))
  rw [← e, wt] at this
  omega
end Dsk

set_option maxHeartbeats 2000000 in
set_option maxRecDepth 100000 in
theorem behind_any (sa : Option Addr) (sc : Nat) (oa : Option Addr) (oc : Nat) (safe : List Dsk.Fl) (ops : List Dsk.Dop) (w : World) (hs : Dsk.Srt safe) (hu : Dsk.used safe + Dsk.wt ops ≤ 10000000000) (hS : fileE.Row w sa safe) (hO : opE.Row w oa ops) :
    Calls Try.prog 45 #[.slice sa safe.length sc, .slice oa ops.length oc] w fun e w' => PutPost w.heap.size w (Dsk.behind safe ops) e w' := by
  have hsl := Dsk.len_used safe
  have hol := Dsk.len_wt ops
  have HC : Hid (Calls Try.prog 59 #[.slice sa safe.length sc] w fun e w' => ClonePost w safe e w') := clone_any sa sc safe w (by omega) hS
  obtain ⟨N, hN⟩ : ∃ N, N = ops.length := ⟨_, rfl⟩
  have hN1 : N ≤ 1000000000 := by omega
  have HD : Hid (∀ (i : Nat) (h : i < ops.length) (v : Value) (W : World), w.heap.size ≤ W.heap.size → FOwn w.heap.size W v (Dsk.behind safe (ops.take i)) → Calls Try.prog 60 #[v, .agg #[.int .i64 ops[i].k, .string ops[i].n, .string ops[i].t, .string ops[i].d]] W fun e w' => PutPost w.heap.size W (Dsk.behind safe (ops.take (i + 1))) e w') := fun i h v W h1 h2 => by
    have e1 := Dsk.used_behind safe (ops.take i)
    have e2 := Dsk.wt_take ops i h
    have e3 := Dsk.len_used (Dsk.behind safe (ops.take i))
    rw [Dsk.behind_take safe ops i h]
    exact do_any w.heap.size v _ ops[i] W (Dsk.behind_srt _ hs) (by omega) (by omega) h1 h2
  have hO' := Rg.hid hO
  rw [← hN]
  replace hN := Rg.hid hN
  generalize safe.length = SN at *
  clear hO hS hs hu hsl hol
  go_enter Try.func45, Try.ntmps45
  go_wp2_with (go_at_call 59; refine HC.out.mono ?_)
  rintro e w1 ⟨v0, rfl, h0, hb0⟩
  have h0' : Hid (FOwn w.heap.size w1 v0 (Dsk.behind safe (ops.take 0))) := h0
  clear h0 HC
  go_wp2
  go_loopw [5, 12] (fun v vi wr => ∃ i : Nat, i ≤ N ∧ vi = .int .i64 i ∧ Hid (FOwn w.heap.size wr v (Dsk.behind safe (ops.take i))) ∧ Below w.heap.size w wr) (fun _ vi _ => N - (intOf vi).toNat)
  case atStart => exact ⟨0, Nat.zero_le _, rfl, h0', hb0⟩
  case round =>
    obtain ⟨i, hin, rfl, hown, hbw⟩ := hrel
    by_cases hlt : i < N
    · have hil : i < ops.length := by rw [← hN.out]; exact hlt
      obtain ⟨b, o, rfl, hb, hat⟩ : ∃ b o, oa = some ⟨b, o, none⟩ ∧ b < w.heap.size ∧ Rg.At w b o (opE.flat ops) := by
        rcases hO'.out with ⟨_, h⟩ | h
        · rw [h] at hil; simp at hil
        · exact h
      have HD' := Rg.hid (HD.out i hil)
      have at1 : Rg.At wr b (o + i * 4) (opE.enc ops[i]) := (hat.elem hil).below hbw hb
      generalize ops[i] = x at *
      obtain ⟨xk, xn, xt, xd⟩ := x
      obtain ⟨c0, c1, c2, c3⟩ := op_at at1
      dsimp only at HD'
      have hz0 : (0 : Int) ≤ (i : Int) := by omega
      have hz1 : (i : Int) < (N : Int) := by omega
      have hsz := hbw.size
      clear at1 hat hil HD hO'
      have HD2 := Rg.hid (HD'.out _ (wr.alloc (.cells #[.int .i64 xk, .string xn, .string xt, .string xd] 56)) (by simp; omega) (hown.out.below (Rg.al1 _ _)))
      go_wp2_with (go_at_call 60; refine HD2.out.mono ?_)
      rintro e w2 ⟨v2, rfl, h2, h3⟩
      have h2' := Rg.hid h2
      clear h2
      go_wp2
      go_roundw
      case rel => exact ⟨i + 1, by omega, by go_num, h2', (hbw.alloc hbw.size _).trans h3⟩
      case measure => simp [intOf]; omega
    · obtain rfl : i = N := by omega
      go_wp2
      go_ret
      refine ⟨_, rfl, ?_, hbw⟩
      have := hown.out
      rw [List.take_of_length_le (by rw [← hN.out]; exact Nat.le_refl _)] at this
      exact this

namespace Dsk
/-- P6.2: the files -/
def files (d : Dk) : List Fl := if d.down = true then [] else behind d.safe d.ops
/-- what is kept in bounds -/
structure Ok (d : Dk) : Prop where
  srt : Srt d.safe
  wt : used d.safe + wt d.ops ≤ 10000000000
  fuse : -1 ≤ d.fuse
  fuse' : d.fuse ≤ 9223372036854775807
theorem Ok.files {d : Dk} (h : Ok d) : used (Dsk.files d) ≤ 10000000000 := by
  unfold Dsk.files
  split
  · exact Nat.zero_le _
  · have := used_behind d.safe d.ops; have := h.wt; omega
theorem Ok.fsrt {d : Dk} (h : Ok d) : Srt (Dsk.files d) := by
  unfold Dsk.files
  split
  · exact List.Pairwise.nil
  · exact behind_srt _ h.srt
end Dsk

set_option maxHeartbeats 1000000 in
theorem files_any (v : Value) (d : Dsk.Dk) (w : World) (hd : Dsk.Ok d) (h : DAt w v d) :
    Calls Try.prog 19 #[v] w fun e w' => PutPost w.heap.size w (Dsk.files d) e w' := by
  obtain ⟨sa, sc, oa, oc, rfl, hS, hO, hsc, hoc⟩ := h
  obtain ⟨safe, ops, cap, fuse, down⟩ := d
  unfold dval
  dsimp only at *
  cases down
  · have HB : Hid (∀ W, Below w.heap.size w W → Calls Try.prog 45 #[.slice sa safe.length sc, .slice oa ops.length oc] W fun e w' => PutPost w.heap.size w (Dsk.files ⟨safe, ops, cap, fuse, false⟩) e w') := fun W hW => (behind_any sa sc oa oc safe ops W hd.srt hd.wt (hS.below hW) (hO.below hW)).mono fun e w' ⟨v, h1, h2, h3⟩ => ⟨v, h1, h2.mono hW.size, hW.trans (h3.mono hW.size)⟩
    generalize Dsk.files ⟨safe, ops, cap, fuse, false⟩ = l at *
    generalize safe.length = SN at *
    generalize ops.length = ON at *
    clear hS hO hd
    go_enter Try.func19, Try.ntmps19
    go_wp2_with (go_at_call 45; refine (HB.out _ (Rg.al1 _ _)).mono ?_)
    rintro e w2 ⟨v, rfl, h2, h3⟩
    go_wp2
    go_ret
    exact ⟨v, rfl, h2, h3⟩
  · generalize safe.length = SN at *
    generalize ops.length = ON at *
    go_enter Try.func19, Try.ntmps19
    go_wp2
    go_ret
    exact ⟨_, rfl, .inl ⟨rfl, rfl⟩, Rg.al1 _ _⟩

theorem used_take (l : List Dsk.Fl) (i : Nat) (h : i < l.length) : Dsk.used (l.take (i + 1)) = Dsk.used (l.take i) + l[i].d.size + 16 := by
  rw [List.take_succ_eq_append_getElem h, Dsk.used_append, Dsk.used, Dsk.used]; omega
theorem used_take_le (l : List Dsk.Fl) (i : Nat) : Dsk.used (l.take i) ≤ Dsk.used l := by
  have := Dsk.used_append (l.take i) (l.drop i)
  rw [List.take_append_drop] at this; omega

set_option maxHeartbeats 2000000 in
theorem used_any (v : Value) (d : Dsk.Dk) (w : World) (hd : Dsk.Ok d) (h : DAt w v d) :
    Calls Try.prog 16 #[v] w fun e w' => e = .returned (.int .i64 (Dsk.used (Dsk.files d))) ∧ Below w.heap.size w w' := by
  have HF : Hid (∀ W, Below w.heap.size w W → Calls Try.prog 19 #[v] W fun e w' => PutPost w.heap.size w (Dsk.files d) e w') := fun W hW => (files_any v d W hd (h.below hW)).mono fun e w' ⟨v, h1, h2, h3⟩ => ⟨v, h1, h2.mono hW.size, hW.trans (h3.mono hW.size)⟩
  obtain ⟨sa, sc, oa, oc, rfl, hS, hO, hsc, hoc⟩ := h
  have hul := hd.files
  have hll := Dsk.len_used (Dsk.files d)
  generalize Dsk.files d = l at *
  obtain ⟨safe, ops, cap, fuse, down⟩ := d
  unfold dval at *
  dsimp only at *
  generalize safe.length = SN at *
  generalize ops.length = ON at *
  clear hS hO hd
  go_enter Try.func16, Try.ntmps16
  go_wp2_with (go_at_call 19; refine (HF.out _ (Rg.al1 _ _)).mono ?_)
  rintro e w2 ⟨v, rfl, h2, h3⟩
  obtain ⟨a, c, rfl, hrow⟩ := h2.shape
  replace hrow := Rg.hid hrow
  obtain ⟨N, hN⟩ : ∃ N, N = l.length := ⟨_, rfl⟩
  rw [← hN] at hll ⊢
  replace hN := Rg.hid hN
  clear h2 HF
  go_wp2
  go_loopw [3, 9] (fun vu vi wr => ∃ (i u : Nat), i ≤ N ∧ u ≤ 10000000000 ∧ vi = .int .i64 i ∧ vu = .int .i64 u ∧ Hid (u = Dsk.used (l.take i)) ∧ Below w2.heap.size w2 wr) (fun _ vi _ => N - (intOf vi).toNat)
  case atStart => exact ⟨0, 0, Nat.zero_le _, Nat.zero_le _, rfl, rfl, rfl, Below.refl _ _⟩
  case round =>
    obtain ⟨i, u, hin, hub, rfl, rfl, huu, hbw⟩ := hrel
    by_cases hlt : i < N
    · have hil : i < l.length := by rw [← hN.out]; exact hlt
      obtain ⟨b, o, rfl, hb, hat⟩ : ∃ b o, a = some ⟨b, o, none⟩ ∧ b < w2.heap.size ∧ Rg.At w2 b o (fileE.flat l) := by
        rcases hrow.out with ⟨_, h⟩ | h
        · rw [h] at hil; simp at hil
        · exact h
      have hnx := used_take l i hil
      have hle := used_take_le l (i + 1)
      have at1 : Rg.At wr b (o + i * 2) (fileE.enc l[i]) := (hat.elem hil).below hbw hb
      generalize l[i] = x at *
      obtain ⟨xn, xd⟩ := x
      obtain ⟨c0, c1⟩ := file_at at1
      dsimp only at hnx
      have hz0 : (0 : Int) ≤ (i : Int) := by omega
      have hz1 : (i : Int) < (N : Int) := by omega
      have hsum : Hid (u + (xd.size + 16) = Dsk.used (l.take (i + 1))) := by show _ = _; have := huu.out; omega
      have hsum2 : u + xd.size + 16 ≤ 10000000000 := by have := hsum.out; omega
      clear at1 hat hil hrow hnx hle
      go_wp2
      go_roundw
      case rel => exact ⟨i + 1, u + (xd.size + 16), by omega, by omega, by go_num, by go_num, hsum, hbw.alloc hbw.size _⟩
      case measure => simp [intOf]; omega
    · obtain rfl : i = N := by omega
      go_wp2
      go_ret
      refine ⟨ret_int ?_, Rg.chain h3 hbw⟩
      rw [huu.out, List.take_of_length_le (by rw [← hN.out]; exact Nat.le_refl _)]
end Go.Proofs.Ytempiajepomajaa
