/-
  Layer 18: small laws for SpoolCrash's walk: an id stored into a job held, a row's later part, a row beside a block. Layer 18: mathematics: the example. No walk in it. Layer 18: first, awake of the statements. Layer 18: mathematics: one job of a calm disk is done, or has failed. No walk in it.
-/
import Derived.Test.YtmilfamjkiemaaaGreatDoorSzBA
import Derived.Test.YtmilfamjkiemaaaGreatDoorSzBJ
import Derived.Test.YtmilfamjkiemaaaGreatDoorSzBB
import Derived.Test.YtmilfamjkiemaaaGreatDoorSzBI
namespace Go.Proofs.YtmilfamjkiemaaaGreatDoor
open Go.RowKit
theorem hidst {V : Nat} {h : Spl.Hd} {ty : TypeId} {W : World} (k : Rg.Bk V (hc h) ty W) (g n : Int) : ∃ W', (storeVar 31 ⟨V, 1, none⟩ (.agg #[.int .i64 g, .int .i64 n])).run Tryz.prog W = .ok () W' ∧ Rg.Bk V (hc ⟨h.s, ⟨g, n, h.j.k, h.j.u, h.j.f, h.j.t, h.j.c, h.j.z⟩, h.x⟩) ty W' ∧ Rg.Only V W W' := by
  refine ⟨(W.setCell ⟨V, 1, none⟩ (.int .i64 g)).setCell ⟨V, 2, none⟩ (.int .i64 n), ?_, (k.set 1 _).set 2 _, (Rg.Only.setCell W V 1 _).trans (Rg.Only.setCell _ V 2 _)⟩
  refine run_storeVar_mid (P := Tryz.prog) W V 1 31 #[.int .i64 g, .int .i64 n] (fun i hi => ⟨?_, ?_⟩) idU (by simp [Value.oneCell'])
  · rw [k.cell]
    have : i < 2 := hi
    match i, this with
    | 0, _ => rfl
    | 1, _ => rfl
  · exact k.thaw _
theorem lsto1 {P : Program} {w w' : World} {ops : Array Oper} {rest : List Oper} {a : Act} {Q : Exit → Act → World → Prop} {dst : Option Tmp} {ty : TypeId} {ps : String} {af} (x y : Operand) (t : TypeId) {R o : Nat} (hx : a.eval x = .pointer (some ⟨R, o, none⟩)) {v : Value} (hy : a.eval y = v) (hrun : (storeVar t ⟨R, o, none⟩ v).run P w = .ok () w') (h : wpList P ops Q rest (a.put dst undef) w') :
    wpList P ops Q ({ dst := dst, op := .store t x y, type := ty, pos := ps, after := af, guard := none } :: rest) a w := by
  refine wpList_step fun K hK => ?_
  rw [if_pos (by simp [Region.wanted])]
  unfold Oper.wp
  simp [execOp, hx, hy, Instr.storeAt, Instr.sureAddr, hrun, Result.andThen, Oper.upon]
  exact hK _ _ h
theorem held_sameB {W W' : World} {A : Option Addr} {l : List Spl.Hd} {V : Nat} (h : heldE.Row W A l) (hA : ∀ b o s, A = some ⟨b, o, s⟩ → b < V) (ho : Rg.Only V W W') : heldE.Row W' A l := by
  rcases h with h | ⟨b, o, h1, h2, h3⟩
  · exact .inl h
  · exact .inr ⟨b, o, h1, by rw [ho.size]; exact h2, h3.same (ho.block b (Nat.ne_of_lt (hA _ _ _ h1)))⟩
theorem held_from (b o len cap j : Nat) (hj : j ≤ len) (W : World) :
    (Instr.sliceAt 49 (.slice (some ⟨b, o, none⟩) len cap) (some (.int .i64 (j : Int))) none none).run Tryz.prog W = .ok (.slice (if cap = j then some ⟨b, o, none⟩ else some ⟨b, o + j * 10, none⟩) (len - j) (cap - j)) W := by
  have hu : Tryz.prog.underlying 49 = some (.slice (Tryz.prog.elem 49)) := by kernel_rfl
  obtain ⟨i0, hi, _, hz1, _⟩ := infoHeld'
  have he : Tryz.prog.elem 49 = 42 := by kernel_rfl
  have hs : (sizeOf (Tryz.prog.elem 49)).run Tryz.prog W = .ok 10 W := by
    rw [he]
    simp [sizeOf, typeInfo, hi, hz1]
  rw [run_sliceAt_slice (h := hu), run_slice_l (ht := hu) (kl := .i64) (l := (j : Int)) (h0 := by omega) (h1 := by omega), hs]
  show Result.ok (sliced _ _ _ _ _) W = _
  unfold sliced
  rw [Int.toNat_natCast]
  split
  · rfl
  · rw [Option.map_some, Addr.add_lit]
theorem held_to (b o len cap k : Nat) (hk : k ≤ cap) (W : World) :
    (Instr.sliceAt 49 (.slice (some ⟨b, o, none⟩) len cap) none (some (.int .i64 (k : Int))) none).run Tryz.prog W = .ok (.slice (some ⟨b, o, none⟩) k cap) W := by
  have hu : Tryz.prog.underlying 49 = some (.slice (Tryz.prog.elem 49)) := by kernel_rfl
  obtain ⟨i0, hi, _, hz1, _⟩ := infoHeld'
  have he : Tryz.prog.elem 49 = 42 := by kernel_rfl
  have hs : (sizeOf (Tryz.prog.elem 49)).run Tryz.prog W = .ok 10 W := by
    rw [he]
    simp [sizeOf, typeInfo, hi, hz1]
  rw [run_sliceAt_slice (h := hu), run_slice_h (ht := hu) (kh := .i64) (h := (k : Int)) (h0 := by omega) (h2 := by omega), hs]
  show Result.ok (sliced _ _ _ _ _) W = _
  unfold sliced
  rw [Int.toNat_natCast]
  split
  · rfl
  · rw [Option.map_some, Addr.add_lit]; simp
theorem xsliceT {P : Program} {ρ : Operand → Value} {o : Oper} {w : World} (t : TypeId) (x hi : Operand) (ho : o.op = .slice t x none (some hi) none) {v u r : Value} (hx : ρ x = v) (hl : ρ hi = u) (hrun : (Instr.sliceAt t v none (some u) none).run P w = .ok r w) : (execOp ρ o).run P w = .ok (.value r) w := by
  simp [execOp, ho, hx, hl, hrun, Result.andThen]
theorem xslice {P : Program} {ρ : Operand → Value} {o : Oper} {w : World} (t : TypeId) (x lo : Operand) (ho : o.op = .slice t x (some lo) none none) {v u r : Value} (hx : ρ x = v) (hl : ρ lo = u) (hrun : (Instr.sliceAt t v (some u) none none).run P w = .ok r w) : (execOp ρ o).run P w = .ok (.value r) w := by
  simp [execOp, ho, hx, hl, hrun, Result.andThen]
theorem held_fromRow {W : World} {b o : Nat} {l : List Spl.Hd} (h : heldE.Row W (some ⟨b, o, none⟩) l) (j cap : Nat) (hj : j ≤ l.length) (hc : l.length ≤ cap) : heldE.Row W (if cap = j then some ⟨b, o, none⟩ else some ⟨b, o + j * 10, none⟩) (l.drop j) := by
  split
  · next e =>
    rw [List.drop_of_length_le (by omega)]
    exact .inr ⟨b, o, rfl, h.some.1, Rg.At.nil⟩
  · exact held_drop h j hj
theorem held_cellC {W : World} {A : Option Addr} {ws : List Spl.Hd} (h : heldE.Row W A ws) {i : Nat} (hi : i < ws.length) : ∃ b o, A = some ⟨b, o, none⟩ ∧ Rg.At W b (o + i * 10) (heldE.enc ws[i]) := by
  rcases h with ⟨_, rfl⟩ | ⟨b, o, h1, h2, h3⟩
  · simp at hi
  · exact ⟨b, o, h1, h3.elem hi⟩
theorem kthC (x : Int) {M : Nat} (hM : 0 < M) (h6 : M ≤ 60) : ∃ k : Nat, k < M ∧ wrap64 ((IntKind.u64.wrap x).tmod (M : Int)) = (k : Int) := by
  have h : 0 ≤ IntKind.u64.wrap x := by rw [IntKind.wrap_u64]; omega
  have h1 := Int.emod_nonneg (IntKind.u64.wrap x) (show (M : Int) ≠ 0 by omega)
  have h2 := Int.emod_lt_of_pos (IntKind.u64.wrap x) (show (0 : Int) < (M : Int) by omega)
  refine ⟨(IntKind.u64.wrap x % (M : Int)).toNat, by omega, ?_⟩
  rw [Int.tmod_eq_emod_of_nonneg h]
  unfold wrap64
  omega
end Go.Proofs.YtmilfamjkiemaaaGreatDoor

namespace Go.Proofs.YtmilfamjkiemaaaGreatDoor
namespace Spl
open Dsk
def duke : ByteArray := ⟨#[100, 117, 107, 101]⟩
def abc : ByteArray := ⟨#[97, 98, 99]⟩
def j0 : Job.Jb := ⟨110, 0, 1, ⟨#[97, 110, 110]⟩, ⟨#[47, 97]⟩, ⟨#[47, 98]⟩, ⟨#[]⟩, 0⟩
def q0 : Dk × (Int × Int) × Int := queue (Dsk.new 20000) duke j0 abc
def h0 : Hd := ⟨duke, ⟨110, 1, 1, ⟨#[97, 110, 110]⟩, ⟨#[47, 97]⟩, ⟨#[47, 98]⟩, ⟨#[]⟩, 3⟩, abc⟩
theorem q0_err : q0.2 = ((110, 1), 0) := by decide +kernel
theorem q0_num : numbered (Dsk.new 20000) j0 abc = h0.j := by decide +kernel
theorem q0_calm : Calm q0.1 [h0] := by
  rcases (Calm.new 20000).queue duke j0 abc with ⟨h, _⟩ | ⟨d', h, hc, _⟩
  · have : q0.2.2 = 0 := by rw [q0_err]
    exact absurd this h
  · have e : q0.1 = d' := by show (queue _ _ _ _).1 = _; rw [h]
    rw [e]
    rw [q0_num] at hc
    exact hc
theorem q0_fit : Fit 6300 q0.1 := by have := (Fit.new 20000).queue (s := duke) (j := j0) (x := abc) (by omega); exact this
/-- those of that system: it alone -/
theorem q0_jobs {L : List Hd} (h : Row ((files q0.1).filterMap (pick (files q0.1) 67 duke)) L) : L = [h0] := by
  have hc := q0_calm
  have hf := hc.files
  rw [hf] at h
  have hp : L.Perm [h0] := by
    refine h.perm.trans ((List.perm_ext_iff_of_nodup (jobs_nodup hc.que.srt _ _) (by simp)).2 fun a => ?_)
    rw [mem_jobs hc.que.ne, List.mem_singleton]
    constructor
    · rintro ⟨q, _⟩
      have := (hc.que.wait a).2 q
      simpa using this
    · rintro rfl
      exact ⟨(hc.que.wait h0).1 (by simp), .inr rfl⟩
  exact List.perm_singleton.1 hp
theorem q0_done : (done q0.1 duke 110 1).2 = 0 ∧ Calm (done q0.1 duke 110 1).1 [] := by
  have := q0_calm.done (a := h0) (by simp)
  have e : [h0].erase h0 = [] := by simp
  rw [e] at this
  exact this
theorem q0_none {L : List Hd} (h : Row ((files (done q0.1 duke 110 1).1).filterMap (pick (files (done q0.1 duke 110 1).1) 67 ⟨#[]⟩)) L) : L = [] := by
  have := q0_done.2.jobs (L := L) h
  exact List.perm_nil.1 this
end Spl
end Go.Proofs.YtmilfamjkiemaaaGreatDoor

namespace Go.Proofs.YtmilfamjkiemaaaGreatDoor
open Go.RowKit
/-- what first answers -/
def FstPost (w : World) (e : Ending) (w' : World) : Prop := ∃ CS, e = .returned (.tuple #[.agg CS, .agg #[.int .i64 110, .int .i64 1], .bool true]) ∧ Hid (DAt w' (.agg CS) Spl.q0.1) ∧ Hid (Below w.heap.size w w')
theorem held_onlyB {B : Nat} {CS : Array Value} {d : Dsk.Dk} {a : Option Addr} {L : List Spl.Hd} {W W' : World} (h : heldE.Row W a L) (h0 : DB B CS d W) (ho : Rg.Only B W W') : heldE.Row W' a L := by
  obtain ⟨sa, sc, oa, oc, e⟩ := h0.dt.cells
  have k := h0.bk
  subst e
  refine h.only k 0 (by decide) (fun x u hu => ?_) ho
  intro c
  simp at hu
  rcases hu with rfl | rfl | rfl | rfl | rfl <;> (simp [heldE, hc] at c)
set_option maxHeartbeats 2000000 in
set_option maxRecDepth 100000 in
theorem sfirst_any (w : World) (hw : Ok w) : Calls Tryz.prog 30 #[] w fun e w' => FstPost w e w' := by
  have HN : Hid (∀ W, Calls Tryz.prog 10 #[.int .i64 20000] W fun e w' => e = .returned (.agg #[.slice none 0 0, .slice none 0 0, .int .i64 20000, .int .i64 (-1), .bool false]) ∧ Below W.heap.size W w') := fun W => new_any 20000 W
  have hDn : Hid (∀ W, DAt W (.agg #[.slice none 0 0, .slice none 0 0, .int .i64 20000, .int .i64 (-1), .bool false]) (Dsk.new 20000)) := fun W => ⟨none, 0, none, 0, rfl, .inl ⟨rfl, rfl⟩, .inl ⟨rfl, rfl⟩, Nat.le_refl _, Nat.le_refl _⟩
  have HQ : Hid (∀ W, Below w.heap.size w W → Calls Tryz.prog 18 #[.agg #[.slice none 0 0, .slice none 0 0, .int .i64 20000, .int .i64 (-1), .bool false], .string ⟨#[100, 117, 107, 101]⟩, .agg #[.int .i64 110, .int .i64 0, .int .i64 1, .string ⟨#[97, 110, 110]⟩, .string ⟨#[47, 97]⟩, .string ⟨#[47, 98]⟩, .string ⟨#[]⟩, .int .i64 0], .string ⟨#[97, 98, 99]⟩] W fun e w' => ∃ CS, e = .returned (.tuple #[.agg CS, .agg #[.int .i64 110, .int .i64 1], .int .i64 0]) ∧ Hid (DAt w' (.agg CS) Spl.q0.1) ∧ Hid (Below W.heap.size W w')) := fun W hW => by
    have := queue_any _ (Dsk.new 20000) Spl.duke Spl.abc Spl.j0 W (Spl.Fit.new 20000) (by omega) ⟨by decide, by decide, by decide, by decide, by decide⟩ (hDn.out W) (hw.below hW)
    refine this.mono fun e w' ⟨CS, h1, h2, h3⟩ => ⟨CS, ?_, h2, h3⟩
    rw [h1]
    have e2 := Spl.q0_err
    show Ending.returned (.tuple #[.agg CS, .agg #[.int .i64 Spl.q0.2.1.1, .int .i64 Spl.q0.2.1.2], .int .i64 Spl.q0.2.2]) = _
    rw [e2]
  have kR : Hid (DB w.heap.size zcD zdk ((w.alloc (.cells #[.slice none 0 0, .slice none 0 0, .int .i64 0, .int .i64 0, .bool false] 28)).alloc (.cells #[.int .i64 0, .int .i64 0] 31))) := DB.old ⟨Rg.Bk.new rfl, zdk_at _⟩ _
  have kD : Hid (Rg.Bk (w.heap.size + 1) [.int .i64 0, .int .i64 0] 31 ((w.alloc (.cells #[.slice none 0 0, .slice none 0 0, .int .i64 0, .int .i64 0, .bool false] 28)).alloc (.cells #[.int .i64 0, .int .i64 0] 31))) := Rg.Bk.new (by simp)
  have hb := Rg.hid (Rg.al2 w (.cells #[.slice none 0 0, .slice none 0 0, .int .i64 0, .int .i64 0, .bool false] 28) (.cells #[.int .i64 0, .int .i64 0] 31))
  obtain ⟨dq, hdq⟩ : ∃ dq, dq = Spl.q0.1 := ⟨_, rfl⟩
  rw [← hdq] at HQ
  replace hdq := Rg.hid hdq
  clear hw hDn
  go_enter Tryz.func30, Tryz.ntmps30
  go_upto_region 1 with fail
  generalize World.alloc _ _ = w1 at *
  obtain ⟨R, hR⟩ : ∃ R, R = w.heap.size := ⟨_, rfl⟩
  obtain ⟨D, hD⟩ : ∃ D, D = w.heap.size + 1 := ⟨_, rfl⟩
  rw [← hD] at kD ⊢
  rw [← hR] at kR ⊢
  have hRw : Hid (w.heap.size ≤ R) := by show _ ≤ _; omega
  have nRD : R ≠ D := by omega
  have hDw : Hid (w.heap.size ≤ D) := by show _ ≤ _; omega
  clear hR hD
  go_upto_region 2 with (first | (go_at_call 10; refine (HN.out _).mono ?_; rintro e wn ⟨rfl, bn⟩; have hbn := Rg.hid (Rg.chain hb.out bn)) | (go_at_call 18; refine (HQ.out _ hbn.out).mono ?_; rintro e w2 ⟨CS1, rfl, a2, b2⟩; obtain ⟨w4, st4, k4, o4⟩ := (show DB w2.heap.size zcD zdk ((w2.alloc (.cells #[.slice none 0 0, .slice none 0 0, .int .i64 0, .int .i64 0, .bool false] 28)).alloc (.cells #[.int .i64 0, .int .i64 0] 31)) from DB.old ⟨Rg.Bk.new rfl, zdk_at _⟩ _).st (a2.out.below (Rg.al2 w2 (.cells #[.slice none 0 0, .slice none 0 0, .int .i64 0, .int .i64 0, .bool false] 28) (.cells #[.int .i64 0, .int .i64 0] 31))); obtain ⟨w5, st5, k5, o5⟩ := idst ((show Rg.Bk (w2.heap.size + 1) [.int .i64 0, .int .i64 0] 31 ((w2.alloc (.cells #[.slice none 0 0, .slice none 0 0, .int .i64 0, .int .i64 0, .bool false] 28)).alloc (.cells #[.int .i64 0, .int .i64 0] 31)) from Rg.Bk.new (by simp)).same (o4.block (w2.heap.size + 1) (by omega))) rfl 110 1) | (with_reducible refine Rg.isst (.tmp 3) (.tmp 11) 28 ?_; refine Rg.lst (.tmp 3) (.tmp 11) 28 rfl rfl st4 ?_) | (with_reducible refine Rg.isst (.tmp 4) (.tmp 12) 31 ?_; refine Rg.lst (.tmp 4) (.tmp 12) 31 rfl rfl st5 ?_))
  have k4' := Rg.hid (k4.onlyI ((show Rg.Bk (w2.heap.size + 1) [.int .i64 0, .int .i64 0] 31 ((w2.alloc (.cells #[.slice none 0 0, .slice none 0 0, .int .i64 0, .int .i64 0, .bool false] 28)).alloc (.cells #[.int .i64 0, .int .i64 0] 31)) from Rg.Bk.new (by simp)).same (o4.block (w2.heap.size + 1) (by omega))) (by omega) o5)
  have k5' := Rg.hid k5
  have b25 : Below w2.heap.size w2 w5 := ((Rg.al2 w2 (.cells #[.slice none 0 0, .slice none 0 0, .int .i64 0, .int .i64 0, .bool false] 28) (.cells #[.int .i64 0, .int .i64 0] 31)).trans (o4.bel (Nat.le_refl _))).trans (o5.bel (by omega))
  have hb5 := Rg.hid (Rg.chain (Rg.chain hbn.out b2.out) b25)
  have bw5 : Below w1.heap.size w1 w5 := Rg.chain (Rg.chain bn b2.out) b25
  have kR5 : Hid (DB R zcD zdk w5) := ⟨(kR.out.below bw5).bk, zdk_at _⟩
  have kD5 := Rg.hid (kD.out.below bw5 kD.out.lt)
  have hXl : w1.heap.size ≤ w2.heap.size := (Rg.chain bn b2.out).size
  obtain ⟨X, hX⟩ : ∃ X, X = w2.heap.size := ⟨_, rfl⟩
  obtain ⟨Y, hY⟩ : ∃ Y, Y = w2.heap.size + 1 := ⟨_, rfl⟩
  have l1 := kR.out.lt
  have l2 := kD.out.lt
  have nRX : R ≠ X := by omega
  have nRY : R ≠ Y := by omega
  have nDX : D ≠ X := by omega
  have nDY : D ≠ Y := by omega
  rw [← hY] at k5' ⊢
  rw [← hX] at k4' ⊢
  clear hX hY l1 l2 hXl bw5 b25 k4 k5 o4 o5 st4 st5 a2 b2 bn hbn kR kD hb HN HQ
  try dsimp only at k4'
  refine Rg.beginL (fun (w' : World) => DB X CS1 dq w' ∧ Rg.Bk Y [.int .i64 110, .int .i64 1] 31 w') [] (by kernel_rfl) ?_ (fun hH0 => ?_)
  · exact ⟨k4'.out.drew, k5'.out.drew⟩
  refine Rg.tlv 0 (some 14) (.agg CS1) (fun w hSw => Rg.xload _ _ rfl rfl (hSw.1.ld)) ?_
  refine Rg.tlv 1 (some 15) (.agg #[.int .i64 110, .int .i64 1]) (fun w hSw => Rg.xload _ _ rfl rfl (idld hSw.2)) ?_
  refine Rg.tlq 2 (some 16) ?_
  refine Rg.tlq 3 (some 17) ?_
  obtain ⟨w7, st7, k7, o7⟩ := kR5.out.drew.st k4'.out.drew.dt
  have kD7 := Rg.hid (kD5.out.drew.same (o7.block D nRD.symm))
  obtain ⟨w8, st8, k8, o8⟩ := idst kD7.out rfl 110 1
  have k9 := Rg.hid (k7.onlyI kD7.out nRD o8)
  have kX7 := Rg.hid (k4'.out.drew.only kR5.out.drew nRX.symm o7)
  have kY7 := Rg.hid (k5'.out.drew.same (o7.block Y nRY.symm))
  have kX8 := Rg.hid (kX7.out.onlyI kD7.out nDX.symm o8)
  have kY8 := Rg.hid (kY7.out.same (o8.block Y nDY.symm))
  refine Rg.AnyL.one 4 (o := { dst := none, op := _, type := _, pos := _, after := _, guard := _ }) (by decide) (fun K hK => ?_)
  refine Rg.xstore rfl _ _ _ rfl rfl rfl st7 ?_
  refine hK.out _ _ ?_ (fun hH1 => ?_)
  · exact ⟨kX7.out, kY7.out⟩
  clear hK K hH0
  try simp only [Act.put]
  refine Rg.AnyL.one 5 (o := { dst := none, op := _, type := _, pos := _, after := _, guard := _ }) (by decide) (fun K hK => ?_)
  refine Rg.xstore rfl _ _ _ rfl rfl rfl st8 ?_
  refine hK.out _ _ ?_ (fun hH2 => ?_)
  · exact ⟨kX8.out, kY8.out⟩
  clear hK K hH1
  try simp only [Act.put]
  refine Rg.tlq 6 (some 2) ?_
  refine Rg.AnyL.done ?_
  go_wp2
  exact bodyPost_ret (v := .tuple #[.agg CS1, .agg #[.int .i64 110, .int .i64 1], .bool true]) (Rg.rescc rfl rfl rfl rfl k9.out.ld (idld k8)) rfl ⟨CS1, rfl, (by rw [← hdq.out]; exact k9.out.dt : DAt w8 (.agg CS1) Spl.q0.1), (hb5.out.drew.trans (o7.bel hRw.out)).trans (o8.bel hDw.out)⟩
set_option maxHeartbeats 2000000 in
set_option maxRecDepth 100000 in
theorem sawake_any (w : World) (hw : Ok w) : Calls Tryz.prog 9 #[] w fun e w' => e = .returned (.bool true) ∧ Below w.heap.size w w' := by
  have HF := Rg.hid (sfirst_any w hw)
  obtain ⟨dq, hdq⟩ : ∃ dq, dq = Spl.q0.1 := ⟨_, rfl⟩
  obtain ⟨rd, hrd⟩ : ∃ rd, rd = Spl.done Spl.q0.1 Spl.duke 110 1 := ⟨_, rfl⟩
  have hr0 : Hid (rd.2 = 0) := by show _ = _; rw [hrd]; exact Spl.q0_done.1
  have HJ : Hid (∀ W CS, Below w.heap.size w W → DAt W (.agg CS) dq → Calls Tryz.prog 22 #[.agg CS, .string ⟨#[100, 117, 107, 101]⟩] W fun e w' => ∃ a c, e = .returned (.slice a 1 c) ∧ Hid (heldE.Row w' a [Spl.h0]) ∧ Hid (Below W.heap.size W w')) := fun W CS hW hv => by
    rw [hdq] at hv
    refine (jobs_any _ Spl.q0.1 Spl.duke W Spl.q0_fit.sm.ok (Fit.mild Spl.q0_fit (by omega)) hv (hw.below hW)).mono fun e w' ⟨a, c, L, h1, h2, h3, h4, _⟩ => ?_
    have hL := Spl.q0_jobs h2.out
    subst hL
    exact ⟨a, c, h1, h3, h4⟩
  have HD : Hid (∀ W CS, Below w.heap.size w W → DAt W (.agg CS) dq → Calls Tryz.prog 12 #[.agg CS, .string ⟨#[100, 117, 107, 101]⟩, .agg #[.int .i64 110, .int .i64 1]] W fun e w' => ∃ CS', e = .returned (.tuple #[.agg CS', .int .i64 0]) ∧ Hid (DAt w' (.agg CS') rd.1) ∧ Hid (Below W.heap.size W w')) := fun W CS hW hv => by
    rw [hdq] at hv
    refine (done_any _ Spl.q0.1 Spl.duke 110 1 W Spl.q0_fit (by omega) (by decide) hv (hw.below hW)).mono fun e w' ⟨CS', h1, h2, h3⟩ => ⟨CS', ?_, ?_, h3⟩
    · rw [h1, ← hrd, hr0.out]
    · rw [hrd]; exact h2
  have HE : Hid (∀ W CS, Below w.heap.size w W → DAt W (.agg CS) rd.1 → Calls Tryz.prog 22 #[.agg CS, .string ⟨#[]⟩] W fun e w' => ∃ a c, e = .returned (.slice a 0 c) ∧ Hid (Below W.heap.size W w')) := fun W CS hW hv => by
    rw [hrd] at hv
    have hf := Spl.q0_fit.done (by omega) Spl.duke 110 1
    refine (jobs_any _ _ ⟨#[]⟩ W hf.sm.ok (Fit.mild hf (by omega)) hv (hw.below hW)).mono fun e w' ⟨a, c, L, h1, h2, h3, h4, _⟩ => ?_
    have hL := Spl.q0_none h2.out
    subst hL
    exact ⟨a, c, h1, h4⟩
  unfold FstPost at HF
  rw [← hdq] at HF
  generalize rd.1 = d2 at *
  clear hdq hrd hr0 rd hw
  go_enter Tryz.func9, Tryz.ntmps9
  go_upto_region 2 with (first | (go_at_call 30; refine HF.out.mono ?_; rintro e w1 ⟨CS1, rfl, a1, b1⟩; obtain ⟨w4, st4, k4, o4⟩ := (show DB w1.heap.size zcD zdk ((w1.alloc (.cells #[.slice none 0 0, .slice none 0 0, .int .i64 0, .int .i64 0, .bool false] 28)).alloc (.cells #[.int .i64 0, .int .i64 0] 31)) from DB.old ⟨Rg.Bk.new rfl, zdk_at _⟩ _).st (a1.out.below (Rg.al2 w1 (.cells #[.slice none 0 0, .slice none 0 0, .int .i64 0, .int .i64 0, .bool false] 28) (.cells #[.int .i64 0, .int .i64 0] 31))); obtain ⟨w5, st5, k5, o5⟩ := idst ((show Rg.Bk (w1.heap.size + 1) [.int .i64 0, .int .i64 0] 31 ((w1.alloc (.cells #[.slice none 0 0, .slice none 0 0, .int .i64 0, .int .i64 0, .bool false] 28)).alloc (.cells #[.int .i64 0, .int .i64 0] 31)) from Rg.Bk.new (by simp)).same (o4.block (w1.heap.size + 1) (by omega))) rfl 110 1) | (with_reducible refine Rg.isst (.tmp 1) (.tmp 8) 28 ?_; refine Rg.lst (.tmp 1) (.tmp 8) 28 rfl rfl st4 ?_) | (with_reducible refine Rg.isst (.tmp 2) (.tmp 9) 31 ?_; refine Rg.lst (.tmp 2) (.tmp 9) 31 rfl rfl st5 ?_))
  have kX := Rg.hid (k4.onlyI ((show Rg.Bk (w1.heap.size + 1) [.int .i64 0, .int .i64 0] 31 ((w1.alloc (.cells #[.slice none 0 0, .slice none 0 0, .int .i64 0, .int .i64 0, .bool false] 28)).alloc (.cells #[.int .i64 0, .int .i64 0] 31)) from Rg.Bk.new (by simp)).same (o4.block (w1.heap.size + 1) (by omega))) (by omega) o5)
  have kY := Rg.hid k5
  have hb5 : Hid (Below w.heap.size w w5) := Rg.chain b1.out (((Rg.al2 w1 (.cells #[.slice none 0 0, .slice none 0 0, .int .i64 0, .int .i64 0, .bool false] 28) (.cells #[.int .i64 0, .int .i64 0] 31)).trans (o4.bel (Nat.le_refl _))).trans (o5.bel (by omega)))
  obtain ⟨X, hX⟩ : ∃ X, X = w1.heap.size := ⟨_, rfl⟩
  obtain ⟨Y, hY⟩ : ∃ Y, Y = w1.heap.size + 1 := ⟨_, rfl⟩
  have nXY : X ≠ Y := by omega
  have hXw : Hid (w.heap.size ≤ X) := by show _ ≤ _; rw [hX]; exact b1.out.size
  rw [← hY] at kY ⊢
  rw [← hX] at kX ⊢
  clear hX hY k4 k5 o4 o5 st4 st5 a1 b1 HF
  try dsimp only at kX
  have hl5 := Rg.hid kX.out.ld
  go_upto_region 3 with (first | (with_reducible refine Rg.isld (.tmp 1) 28 ?_; refine Rg.lld (.tmp 1) 28 rfl hl5.out ?_) | (go_at_call 22; refine (HJ.out _ _ hb5.out kX.out.dt).mono ?_; rintro e w6 ⟨ja, jc, rfl, jr, jb⟩))
  have kX6 := Rg.hid (kX.out.below jb.out)
  have kY6 := Rg.hid (kY.out.below jb.out kY.out.lt)
  have hb6 := Rg.hid (Rg.chain hb5.out jb.out)
  clear kX kY hb5 jb HJ hl5
  have hl6 := Rg.hid kX6.out.ld
  have y0 : w6.cell? ⟨Y, 0, none⟩ = some (.int .i64 110) := kY6.out.cell 0
  have y1 : w6.cell? ⟨Y, 1, none⟩ = some (.int .i64 1) := kY6.out.cell 1
  go_upto_region 4 with (first | (with_reducible refine Rg.isld (.tmp 1) 28 ?_; refine Rg.lld (.tmp 1) 28 rfl hl6.out ?_) | (go_at_call 12; refine (HD.out _ _ hb6.out kX6.out.dt).mono ?_; rintro e w7 ⟨CS7, rfl, a7, b7⟩; obtain ⟨w8, st8, k8, o8⟩ := (kX6.out.below b7.out).st a7.out) | (with_reducible refine Rg.isst (.tmp 1) (.tmp 17) 28 ?_; refine Rg.lst (.tmp 1) (.tmp 17) 28 rfl rfl st8 ?_))
  have kX8 := Rg.hid k8
  have kY8 := Rg.hid ((kY6.out.below b7.out kY6.out.lt).same (o8.block Y nXY.symm))
  have hb8 := Rg.hid ((Rg.chain hb6.out b7.out).trans (o8.bel hXw.out))
  have jr8 := held_onlyB (jr.out.below b7.out) (kX6.out.below b7.out) o8
  clear kX6 kY6 hb6 b7 a7 st8 k8 o8 y0 y1 hl6 HD jr
  obtain ⟨rb, ro, rfl, hrb, hat⟩ : ∃ b o, ja = some ⟨b, o, none⟩ ∧ b < w8.heap.size ∧ Rg.At w8 b o (heldE.flat [Spl.h0]) := by
    rcases jr8 with ⟨_, h⟩ | h
    · cases h
    · exact h
  have at0 : Rg.At w8 rb (ro + 0 * 10) (heldE.enc Spl.h0) := hat.elem (l := [Spl.h0]) (i := 0) (by simp)
  rw [Nat.zero_mul, Nat.add_zero] at at0
  obtain ⟨_, _, _, _, _, _, _, _, q8, q9⟩ := held_at at0
  have r8 : w8.cell? ⟨rb, ro + 8, none⟩ = some (.int .i64 3) := q8
  have r9 : w8.cell? ⟨rb, ro + 9, none⟩ = some (.string ⟨#[97, 98, 99]⟩) := q9
  have y0 : w8.cell? ⟨Y, 0, none⟩ = some (.int .i64 110) := kY8.out.cell 0
  have y1 : w8.cell? ⟨Y, 1, none⟩ = some (.int .i64 1) := kY8.out.cell 1
  have hl8 := Rg.hid kX8.out.ld
  clear hat at0 q8 q9 jr8 hrb
  go_wp2_with (first | (refine Rg.wpList_load_row rfl (.tmp 1) 28 rfl rfl hl8.out ?_) | (go_at_call 22; refine (HE.out _ _ hb8.out kX8.out.dt).mono ?_; rintro e w9 ⟨ka, kc, rfl, kb⟩))
  go_ret
  exact ⟨by first | rfl | simp, Rg.chain hb8.out kb.out⟩
end Go.Proofs.YtmilfamjkiemaaaGreatDoor

namespace Go.Proofs.YtmilfamjkiemaaaGreatDoor
namespace Spl
open Dsk

/-- one of them is gone -/
structure LeftI (m : Nat) (d : Dk) (ws : List Hd) (k : Nat) (b : Bool) : Prop where
  fit : Fit m d
  still : Still d (ws.eraseIdx k)
  fl : (Spl.jobs d 69 ⟨#[]⟩).length = if b = true then 1 else 0
  up : ws.Pairwise fun a b => a.j.n < b.j.n
theorem FullI.done {m : Nat} {d : Dk} {ws : List Hd} (h : FullI m d ws) (hm : m ≤ 1000000) {k : Nat} (hk : k < ws.length) : (Spl.done d ws[k].s ws[k].j.g ws[k].j.n).2 = 0 ∧ LeftI (m + 6300) (Spl.done d ws[k].s ws[k].j.g ws[k].j.n).1 ws k false := by
  obtain ⟨h1, h2⟩ := h.calm.done (List.getElem_mem hk)
  rw [h.calm.que.erase hk] at h2
  exact ⟨h1, h.fit.done hm _ _ _, h2.still, by rw [h2.failed]; rfl, h.calm.que.up⟩
theorem FullI.fail {m : Nat} {d : Dk} {ws : List Hd} (h : FullI m d ws) (hm : m ≤ 1000000) {k : Nat} (hk : k < ws.length) : (Spl.fail d ws[k].s ws[k].j.g ws[k].j.n).2 = 0 ∧ LeftI (m + 6300) (Spl.fail d ws[k].s ws[k].j.g ws[k].j.n).1 ws k true := by
  obtain ⟨h1, h2⟩ := h.calm.fail (List.getElem_mem hk)
  rw [h.calm.que.erase hk] at h2
  exact ⟨h1, h.fit.fail hm _ _ _, h2.still, h2.one, h.calm.que.up⟩
theorem LeftI.jobs {m : Nat} {d : Dk} {ws : List Hd} {k : Nat} {b : Bool} (h : LeftI m d ws k b) (hk : k < ws.length) {L : List Hd} (hr : Row (Spl.jobs d 67 ⟨#[]⟩) L) : L.length = ws.length - 1 := by
  rw [(h.still.jobs hr).length_eq, List.length_eraseIdx, if_pos hk]
theorem LeftI.load {m : Nat} {d : Dk} {ws : List Hd} {k : Nat} {b : Bool} (h : LeftI m d ws k b) (hk : k < ws.length) {i : Nat} (hi : i < ws.length) : Spl.load d ws[i].s ws[i].j.g ws[i].j.n = if i = k then (Hd.zero, 6) else (ws[i], 0) := by
  by_cases e : i = k
  · subst e
    rw [if_pos rfl]
    refine h.still.noload fun a ha => ?_
    obtain ⟨q, hq, rfl⟩ := List.mem_iff_getElem.1 ha
    rw [List.length_eraseIdx, if_pos hk] at hq
    rw [List.getElem_eraseIdx]
    split
    · next c => have := List.pairwise_iff_getElem.1 h.up q i (by omega) hi c; omega
    · next c => have := List.pairwise_iff_getElem.1 h.up i (q + 1) hi (by omega) (by omega); omega
  · rw [if_neg e]
    refine h.still.load ?_
    rw [List.mem_eraseIdx_iff_getElem]
    exact ⟨i, hi, e, rfl⟩
end Spl
end Go.Proofs.YtmilfamjkiemaaaGreatDoor
