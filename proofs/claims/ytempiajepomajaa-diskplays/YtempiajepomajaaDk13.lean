/-
  Layer 6: settle; Sync, Crash, Start, Arm, Room.
-/
import Derived.Test.YtempiajepomajaaDk12
namespace Go.Proofs.Ytempiajepomajaa
open Go.RowKit

namespace Dsk
def settle (d : Dk) (n : Nat) : Dk := { d with safe := behind d.safe (d.ops.take n), ops := [] }
def sync (d : Dk) : Dk × Int := if d.down = true then (d, 9) else if d.fuse = 0 then ({ d with down := true }, 9) else (settle (burn d) d.ops.length, 0)
/-- as many as are kept -/
def keep (n : Int) (m : Nat) : Nat := (min (max n 0) (m : Int)).toNat
theorem keep_le (n : Int) (m : Nat) : keep n m ≤ m := by unfold keep; omega
theorem keep_eq (n : Int) (m : Nat) : min (max n 0) (m : Int) = (keep n m : Int) := by unfold keep; omega
def crash (d : Dk) (n : Int) : Dk := { settle d (keep n d.ops.length) with fuse := -1, down := true }
def arm (d : Dk) (n : Int) : Dk := { d with fuse := max n (-1) }
def setRoom (d : Dk) (n : Int) : Dk := { d with cap := room n }
def start (d : Dk) : Dk := { d with down := false }
end Dsk

set_option maxHeartbeats 2000000 in
set_option maxRecDepth 100000 in
theorem settle_any (v : Value) (d : Dsk.Dk) (m : Nat) (hm : m ≤ d.ops.length) (w : World) (hd : Dsk.Ok d) (h : DAt w v d) :
    Calls Try.prog 48 #[v, .int .i64 m] w fun e w' => NotePost w (Dsk.settle d m) e w' := by
  obtain ⟨sa, sc, oa, oc, rfl, hS, hO, hsc, hoc⟩ := h
  have hwt : Dsk.wt (d.ops.take m) ≤ Dsk.wt d.ops := by
    have := Dsk.wt_append (d.ops.take m) (d.ops.drop m)
    rw [List.take_append_drop] at this; omega
  have hw := hd.wt
  have hon := hd.ops
  have htk : (d.ops.take m).length = m := by rw [List.length_take]; omega
  have HB : Hid (∀ W oc', Below w.heap.size w W → Calls Try.prog 45 #[.slice sa d.safe.length sc, .slice oa m oc'] W fun e w' => ∃ a c, e = .returned (.slice a (Dsk.behind d.safe (d.ops.take m)).length c) ∧ fileE.Row w' a (Dsk.behind d.safe (d.ops.take m)) ∧ (Dsk.behind d.safe (d.ops.take m)).length ≤ c ∧ Below W.heap.size W w') := fun W oc' hW => by
    have := behind_any sa sc oa oc' d.safe (d.ops.take m) W hd.srt (by omega) (hS.below hW) ((hO.below hW).take m)
    rw [htk] at this
    refine this.mono fun e w' ⟨v, h1, h2, h3⟩ => ?_
    obtain ⟨a, c, h4, h5⟩ := h2.shape
    refine ⟨a, c, by rw [h1, h4], h5, ?_, h3⟩
    rcases h2 with ⟨e1, e2⟩ | ⟨g, cap, rest, e1, e2⟩
    · rw [e2]; exact Nat.zero_le _
    · rw [e1] at h4; injection h4 with _ _ h6; rw [← h6]; exact e2.le
  have hfin : Hid (∀ W a c, fileE.Row W a (Dsk.behind d.safe (d.ops.take m)) → (Dsk.behind d.safe (d.ops.take m)).length ≤ c → DAt W (.agg #[.slice a (Dsk.behind d.safe (d.ops.take m)).length c, .slice none 0 0, .int .i64 d.cap, .int .i64 d.fuse, .bool d.down]) (Dsk.settle d m)) := fun W a c h1 h2 => ⟨a, c, none, 0, rfl, h1, .inl ⟨rfl, rfl⟩, h2, Nat.le_refl _⟩
  generalize Dsk.settle d m = d' at *
  generalize Dsk.behind d.safe (d.ops.take m) = lb at *
  generalize hln : lb.length = ln at *
  obtain ⟨safe, ops, cap, fuse, down⟩ := d
  dsimp only at *
  clear hS hO
  unfold dval at *
  generalize safe.length = SN at *
  generalize ops.length = ON at *
  have e0 : (0 : Int) ≤ (m : Int) := by omega
  have e1 : (m : Int) ≤ (oc : Int) := by omega
  go_enter Try.func48, Try.ntmps48
  go_wp2
  go_region_with (first
    | (go_at_call 45; refine (HB.out _ _ ?_).mono ?_; (first | exact Rg.al2 _ _ _ | exact (Rg.al2 _ _ _).drew); rintro e w1 ⟨a, c, rfl, hrow, hlc, hb⟩; obtain ⟨hc, hf⟩ := Rg.bcell hb))
  all_goals
    have kB : Rg.Bk (w.heap.size) [.slice sa SN sc, .slice oa ON oc, .int .i64 cap, .int .i64 fuse, .bool down] 28 w1 := Rg.Bk.below ((Rg.Bk.new rfl).old _).drew hb (by simp; omega)
    have kR0 : Rg.Bk (w.heap.size + 1) [.slice none 0 0, .slice none 0 0, .int .i64 0, .int .i64 0, .bool false] 28 w1 := Rg.Bk.below (Rg.Bk.new (by simp)).drew hb (by simp)
    have kB' := (kB.set 0 (.slice a ln c)).set 1 (.slice none 0 0)
    have kR := (kR0.other (c := w.heap.size) (i := 0) (by omega) (.slice a ln c)).other (c := w.heap.size) (i := 1) (by omega) (.slice none 0 0)
    have oB := (Rg.Only.setCell w1 (w.heap.size) 0 (.slice a ln c)).trans (Rg.Only.setCell _ (w.heap.size) 1 (.slice none 0 0))
    have hrow' := hrow.only kB 0 (by decide) (fun x u hu e => plain5 (fun _ h => by cases h) (fun _ h => by cases h) (fun _ h => by cases h) (fun _ h => by cases h) (fun _ h => by cases h) u hu x.n (by simpa [fileE] using e.symm)) oB
    have hbw : Below w.heap.size w ((w1.setCell ⟨w.heap.size, 0, none⟩ (.slice a ln c)).setCell ⟨w.heap.size, 1, none⟩ (.slice none 0 0)) := ((Rg.al2 _ _ _).drew.trans (hb.mono (by simp; omega))).trans (oB.bel (Nat.le_refl _))
    clear hc hf hb hrow kB kR0 HB oB
    generalize (w1.setCell ⟨w.heap.size, 0, none⟩ (.slice a ln c)).setCell ⟨w.heap.size, 1, none⟩ (.slice none 0 0) = W5 at *
    have hDD := hfin.out W5 a c hrow' hlc
    have b0 : W5.cell? ⟨w.heap.size, 0, none⟩ = some (.slice a ln c) := kB'.cell 0
    have b1 : W5.cell? ⟨w.heap.size, 1, none⟩ = some (.slice none 0 0) := kB'.cell 1
    have b2 : W5.cell? ⟨w.heap.size, 2, none⟩ = some (.int .i64 cap) := kB'.cell 2
    have b3 : W5.cell? ⟨w.heap.size, 3, none⟩ = some (.int .i64 fuse) := kB'.cell 3
    have b4 : W5.cell? ⟨w.heap.size, 4, none⟩ = some (.bool down) := kB'.cell 4
    clear kB' hrow' hfin
    obtain ⟨kE, oE⟩ := Rg.ret5 kR rfl (.slice a ln c) (.slice none 0 0) (.int .i64 cap) (.int .i64 fuse) (.bool down)
    replace kE := Rg.hid kE
    have post := Rg.hid ((⟨_, rfl, DAt.only hDD kR plainZ oE, hbw.trans (oE.bel (by omega))⟩ : NotePost w d' _ _))
    have r0 := kR.cell 0
    have r1 := kR.cell 1
    have r2 := kR.cell 2
    have r3 := kR.cell 3
    have r4 := kR.cell 4
    simp only [List.getElem?_cons_zero, List.getElem?_cons_succ] at r0 r1 r2 r3 r4
    have rf := kR.thaw
    clear oE kR
    go_wp2
    replace kE := kE.out
    replace post := post.out
    generalize World.setCell _ _ _ = WE at *
    exact bodyPost_ret (v := .agg #[.slice a ln c, .slice none 0 0, .int .i64 cap, .int .i64 fuse, .bool down]) (by simp [results, Try.results48, go_sem, kE.cell]) rfl post

set_option maxHeartbeats 1000000 in
theorem start_any (v : Value) (d : Dsk.Dk)  (w : World) (h : DAt w v d) :
    Calls Try.prog 30 #[v] w fun e w' => NotePost w (Dsk.start d) e w' := by
  obtain ⟨sa, sc, oa, oc, rfl, hS, hO, hsc, hoc⟩ := h
  have hE : Hid (∀ W, Below w.heap.size w W → DAt W (dval sa d.safe.length sc oa d.ops.length oc (Dsk.start d).cap (Dsk.start d).fuse (Dsk.start d).down) (Dsk.start d)) := fun W hW => ⟨sa, sc, oa, oc, rfl, hS.below hW, hO.below hW, hsc, hoc⟩
  have e1 : (Dsk.start d).cap = d.cap := rfl
  have e2 : (Dsk.start d).fuse = d.fuse := rfl
  have e3 : (Dsk.start d).down = false := rfl
  rw [e1, e2, e3] at hE
  generalize Dsk.start d = d' at *
  obtain ⟨safe, ops, cap, fuse, down⟩ := d
  dsimp only at *
  clear e1 e2 e3
  clear hS hO
  unfold dval at *
  generalize safe.length = SN at *
  generalize ops.length = ON at *
  go_enter Try.func30, Try.ntmps30
  go_wp2
  exact bodyPost_ret (v := .agg #[.slice sa SN sc, .slice oa ON oc, .int .i64 cap, .int .i64 fuse, .bool false]) (by simp [results, Try.results30, go_sem]) rfl ⟨_, rfl, hE.out _ (Rg.al2 _ _ _), Rg.al2 _ _ _⟩

set_option maxHeartbeats 1000000 in
theorem room_any (v : Value) (d : Dsk.Dk) (n : Int) (w : World) (h : DAt w v d) :
    Calls Try.prog 29 #[v, .int .i64 n] w fun e w' => NotePost w (Dsk.setRoom d n) e w' := by
  obtain ⟨sa, sc, oa, oc, rfl, hS, hO, hsc, hoc⟩ := h
  have hE : Hid (∀ W, Below w.heap.size w W → DAt W (dval sa d.safe.length sc oa d.ops.length oc (Dsk.setRoom d n).cap (Dsk.setRoom d n).fuse (Dsk.setRoom d n).down) (Dsk.setRoom d n)) := fun W hW => ⟨sa, sc, oa, oc, rfl, hS.below hW, hO.below hW, hsc, hoc⟩
  have HR := Rg.hid (roomOf_any n)
  have e1 : (Dsk.setRoom d n).cap = Dsk.room n := rfl
  have e2 : (Dsk.setRoom d n).fuse = d.fuse := rfl
  have e3 : (Dsk.setRoom d n).down = d.down := rfl
  rw [e1, e2, e3] at hE
  generalize Dsk.setRoom d n = d' at *
  generalize Dsk.room n = rn at *
  obtain ⟨safe, ops, cap, fuse, down⟩ := d
  dsimp only at *
  clear e1 e2 e3
  clear hS hO
  unfold dval at *
  generalize safe.length = SN at *
  generalize ops.length = ON at *
  go_enter Try.func29, Try.ntmps29
  go_wp2_with (go_at_call 23; refine (HR.out _).mono ?_; rintro e w' ⟨rfl, rfl⟩)
  exact bodyPost_ret (v := .agg #[.slice sa SN sc, .slice oa ON oc, .int .i64 rn, .int .i64 fuse, .bool down]) (by simp [results, Try.results29, go_sem]) rfl ⟨_, rfl, hE.out _ (Rg.al2 _ _ _), Rg.al2 _ _ _⟩

set_option maxHeartbeats 1000000 in
theorem arm_any (v : Value) (d : Dsk.Dk) (n : Int) (w : World) (h : DAt w v d) :
    Calls Try.prog 28 #[v, .int .i64 n] w fun e w' => NotePost w (Dsk.arm d n) e w' := by
  obtain ⟨sa, sc, oa, oc, rfl, hS, hO, hsc, hoc⟩ := h
  have hE : Hid (∀ W, Below w.heap.size w W → DAt W (dval sa d.safe.length sc oa d.ops.length oc (Dsk.arm d n).cap (Dsk.arm d n).fuse (Dsk.arm d n).down) (Dsk.arm d n)) := fun W hW => ⟨sa, sc, oa, oc, rfl, hS.below hW, hO.below hW, hsc, hoc⟩
  have e1 : (Dsk.arm d n).cap = d.cap := rfl
  have e2 : (Dsk.arm d n).fuse = max n (-1) := rfl
  have e3 : (Dsk.arm d n).down = d.down := rfl
  rw [e1, e2, e3] at hE
  generalize Dsk.arm d n = d' at *
  obtain ⟨safe, ops, cap, fuse, down⟩ := d
  dsimp only at *
  clear e1 e2 e3
  clear hS hO
  unfold dval at *
  generalize safe.length = SN at *
  generalize ops.length = ON at *
  go_enter Try.func28, Try.ntmps28
  go_wp2
  exact bodyPost_ret (v := .agg #[.slice sa SN sc, .slice oa ON oc, .int .i64 cap, .int .i64 (max n (-1)), .bool down]) (by simp [results, Try.results28, go_sem]) rfl ⟨_, rfl, hE.out _ (Rg.al2 _ _ _), Rg.al2 _ _ _⟩
end Go.Proofs.Ytempiajepomajaa
