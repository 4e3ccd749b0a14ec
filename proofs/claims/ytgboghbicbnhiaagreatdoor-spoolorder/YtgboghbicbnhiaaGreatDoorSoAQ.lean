/-
  Layer 6: settle; Sync, Crash, Start, Arm, Room. Layer 6: Sync, Crash. Layer 6: lists held against one another; Same; List.
-/
import Derived.Test.YtgboghbicbnhiaaGreatDoorSoAP
import Derived.Deep.DeepCutAuto
namespace Go.Proofs.YtgboghbicbnhiaaGreatDoor
open Go.RowKit

namespace Dsk
def settle (d : Dk) (n : Nat) : Dk := { d with safe := behind d.safe (d.ops.take n), ops := [] }
def sync (d : Dk) : Dk × Int := if d.down = true then (d, 9) else if d.fuse = 0 then ({ d with down := true }, 9) else (settle (burn d) d.ops.length, 0)
/-- as many as are kept -/
def keep (n : Int) (m : Nat) : Nat := (min (max n 0) (m : Int)).toNat
theorem keep_le (n : Int) (m : Nat) : keep n m ≤ m := by unfold keep; omega
def crash (d : Dk) (n : Int) : Dk := { settle d (keep n d.ops.length) with fuse := -1, down := true }
def arm (d : Dk) (n : Int) : Dk := { d with fuse := max n (-1) }
def setRoom (d : Dk) (n : Int) : Dk := { d with cap := room n }
def start (d : Dk) : Dk := { d with down := false }
end Dsk

set_option maxHeartbeats 2000000 in
set_option maxRecDepth 100000 in
theorem settle_any (v : Value) (d : Dsk.Dk) (m : Nat) (hm : m ≤ d.ops.length) (w : World) (hd : Dsk.Ok d) (h : DAt w v d) :
    Calls Tryz.prog 60 #[v, .int .i64 m] w fun e w' => NotePost w (Dsk.settle d m) e w' := by
  obtain ⟨sa, sc, oa, oc, rfl, hS, hO, hsc, hoc⟩ := h
  have hwt : Dsk.wt (d.ops.take m) ≤ Dsk.wt d.ops := by
    have := Dsk.wt_append (d.ops.take m) (d.ops.drop m)
    rw [List.take_append_drop] at this; omega
  have hw := hd.wt
  have hon := hd.ops
  have htk : (d.ops.take m).length = m := by rw [List.length_take]; omega
  have HB : Hid (∀ W oc', Below w.heap.size w W → Calls Tryz.prog 81 #[.slice sa d.safe.length sc, .slice oa m oc'] W fun e w' => ∃ a c, e = .returned (.slice a (Dsk.behind d.safe (d.ops.take m)).length c) ∧ fileE.Row w' a (Dsk.behind d.safe (d.ops.take m)) ∧ (Dsk.behind d.safe (d.ops.take m)).length ≤ c ∧ Below W.heap.size W w') := fun W oc' hW => by
    have := behind_any sa sc oa oc' d.safe (d.ops.take m) W hd.srt (by omega) (hS.below hW) ((hO.below hW).take m)
    rw [htk] at this
    refine this.mono fun e w' ⟨v, h1, h2, h3⟩ => ?_
    obtain ⟨a, c, h4, h5⟩ := h2.shape
    refine ⟨a, c, by rw [h1, h4], h5, ?_, h3⟩
    rcases h2 with ⟨e1, e2⟩ | ⟨g, cap, rest, e1, e2⟩
    · rw [e2]; exact Nat.zero_le _
    · rw [e1] at h4; injection h4 with _ _ h6; rw [← h6]; exact e2.le
  have hfin : Hid (∀ W a c, fileE.Row W a (Dsk.behind d.safe (d.ops.take m)) → (Dsk.behind d.safe (d.ops.take m)).length ≤ c → DAt W (.agg #[.slice a (Dsk.behind d.safe (d.ops.take m)).length c, .slice none 0 0, .int .i64 d.cap, .int .i64 d.fuse, .bool d.down]) (Dsk.settle d m)) := fun W a c h1 h2 => ⟨a, c, none, 0, rfl, h1, .inl ⟨rfl, rfl⟩, h2, Nat.le_refl _⟩
  generalize Dsk.settle d m = d' at *
  generalize Dsk.behind d.safe (d.ops.take m) = lb at *
  generalize hln : lb.length = ln at *
  obtain ⟨safe, ops, cap, fuse, down⟩ := d
  dsimp only at *
  clear hS hO
  unfold dval at *
  generalize safe.length = SN at *
  generalize ops.length = ON at *
  have e0 : (0 : Int) ≤ (m : Int) := by omega
  have e1 : (m : Int) ≤ (oc : Int) := by omega
  go_enter Tryz.func60, Tryz.ntmps60
  go_wp2
  go_region_with (first
    | (go_at_call 81; refine (HB.out _ _ ?_).mono ?_; (first | exact Rg.al2 _ _ _ | exact (Rg.al2 _ _ _).drew); rintro e w1 ⟨a, c, rfl, hrow, hlc, hb⟩; obtain ⟨hc, hf⟩ := Rg.bcell hb))
  all_goals
    have kB : Rg.Bk (w.heap.size) [.slice sa SN sc, .slice oa ON oc, .int .i64 cap, .int .i64 fuse, .bool down] 28 w1 := Rg.Bk.below ((Rg.Bk.new rfl).old _).drew hb (by simp; omega)
    have kR0 : Rg.Bk (w.heap.size + 1) [.slice none 0 0, .slice none 0 0, .int .i64 0, .int .i64 0, .bool false] 28 w1 := Rg.Bk.below (Rg.Bk.new (by simp)).drew hb (by simp)
    have kB' := (kB.set 0 (.slice a ln c)).set 1 (.slice none 0 0)
    have kR := (kR0.other (c := w.heap.size) (i := 0) (by omega) (.slice a ln c)).other (c := w.heap.size) (i := 1) (by omega) (.slice none 0 0)
    have oB := (Rg.Only.setCell w1 (w.heap.size) 0 (.slice a ln c)).trans (Rg.Only.setCell _ (w.heap.size) 1 (.slice none 0 0))
    have hrow' := hrow.only kB 0 (by decide) (fun x u hu e => plain5 (fun _ h => by cases h) (fun _ h => by cases h) (fun _ h => by cases h) (fun _ h => by cases h) (fun _ h => by cases h) u hu x.n (by simpa [fileE] using e.symm)) oB
    have hbw : Below w.heap.size w ((w1.setCell ⟨w.heap.size, 0, none⟩ (.slice a ln c)).setCell ⟨w.heap.size, 1, none⟩ (.slice none 0 0)) := ((Rg.al2 _ _ _).drew.trans (hb.mono (by simp; omega))).trans (oB.bel (Nat.le_refl _))
    clear hc hf hb hrow kB kR0 HB oB
    generalize (w1.setCell ⟨w.heap.size, 0, none⟩ (.slice a ln c)).setCell ⟨w.heap.size, 1, none⟩ (.slice none 0 0) = W5 at *
    have hDD := hfin.out W5 a c hrow' hlc
    have b0 : W5.cell? ⟨w.heap.size, 0, none⟩ = some (.slice a ln c) := kB'.cell 0
    have b1 : W5.cell? ⟨w.heap.size, 1, none⟩ = some (.slice none 0 0) := kB'.cell 1
    have b2 : W5.cell? ⟨w.heap.size, 2, none⟩ = some (.int .i64 cap) := kB'.cell 2
    have b3 : W5.cell? ⟨w.heap.size, 3, none⟩ = some (.int .i64 fuse) := kB'.cell 3
    have b4 : W5.cell? ⟨w.heap.size, 4, none⟩ = some (.bool down) := kB'.cell 4
    clear kB' hrow' hfin
    obtain ⟨kE, oE⟩ := Rg.ret5 kR rfl (.slice a ln c) (.slice none 0 0) (.int .i64 cap) (.int .i64 fuse) (.bool down)
    replace kE := Rg.hid kE
    have post := Rg.hid ((⟨_, rfl, DAt.only hDD kR plainZ oE, hbw.trans (oE.bel (by omega))⟩ : NotePost w d' _ _))
    have r0 := kR.cell 0
    have r1 := kR.cell 1
    have r2 := kR.cell 2
    have r3 := kR.cell 3
    have r4 := kR.cell 4
    simp only [List.getElem?_cons_zero, List.getElem?_cons_succ] at r0 r1 r2 r3 r4
    have rf := kR.thaw
    clear oE kR
    go_wp2
    replace kE := kE.out
    replace post := post.out
    generalize World.setCell _ _ _ = WE at *
    exact bodyPost_ret (v := .agg #[.slice a ln c, .slice none 0 0, .int .i64 cap, .int .i64 fuse, .bool down]) (by simp [results, Tryz.results60, go_sem, kE.cell]) rfl post

end Go.Proofs.YtgboghbicbnhiaaGreatDoor

namespace Go.Proofs.YtgboghbicbnhiaaGreatDoor
open Go.RowKit

/-- a disk that is handed back, its value written out -/
def NEx (w : World) (d : Dsk.Dk) (e : Ending) (w' : World) : Prop := ∃ sa' sn' sc' oa' on' oc' cp' fs' dn', e = .returned (.agg #[.slice sa' sn' sc', .slice oa' on' oc', .int .i64 cp', .int .i64 fs', .bool dn']) ∧ DAt w' (.agg #[.slice sa' sn' sc', .slice oa' on' oc', .int .i64 cp', .int .i64 fs', .bool dn']) d ∧ Below w.heap.size w w'
theorem NotePost.ex {w w' : World} {d : Dsk.Dk} {e : Ending} (h : NotePost w d e w') : NEx w d e w' := by
  obtain ⟨v, h1, h2, h3⟩ := h
  obtain ⟨sa, sc, oa, oc, h4⟩ := h2.form
  exact ⟨sa, _, sc, oa, _, oc, _, _, _, by rw [h1, h4], by rw [h4] at h2; exact h2, h3⟩
/-- a value that is handed back -/
def VPost (r : Value) (w : World) (e : Ending) (w' : World) : Prop := e = .returned r ∧ Below w.heap.size w w'
set_option maxHeartbeats 1000000 in
set_option maxRecDepth 100000 in
theorem sync_any (v : Value) (d : Dsk.Dk) (w : World) (hd : Dsk.Ok d) (h : DAt w v d) :
    Calls Tryz.prog 71 #[v] w fun e w' => DPost w (Dsk.sync d) e w' := by
  have hD : Hid (∀ W, Below w.heap.size w W → DAt W v d) := fun W hW => h.below hW
  have hch : Hid (Dsk.sync d = if d.down = true then (d, 9) else if d.fuse = 0 then ({ d with down := true }, 9) else (Dsk.settle (Dsk.burn d) d.ops.length, 0)) := rfl
  obtain ⟨sa, sc, oa, oc, rfl, hS, hO, hsc, hoc⟩ := h
  generalize Dsk.sync d = r at *
  obtain ⟨safe, ops, cap, fuse, down⟩ := d
  dsimp only at *
  cases down
  case true =>
    rw [if_pos rfl] at hch
    have hch' := hch.out
    subst hch'
    clear hS hO
    unfold dval at *
    generalize safe.length = SN at *
    generalize ops.length = ON at *
    have hE := Rg.hid (hD.out _ (Rg.al2 w (.cells #[.slice sa SN sc, .slice oa ON oc, .int .i64 cap, .int .i64 fuse, .bool true] 28) (.cells #[.slice sa SN sc, .slice oa ON oc, .int .i64 cap, .int .i64 fuse, .bool true] 28)))
    go_enter Tryz.func71, Tryz.ntmps71
    go_wp2
    exact bodyPost_ret (v := .tuple #[.agg #[.slice sa SN sc, .slice oa ON oc, .int .i64 cap, .int .i64 fuse, .bool true], .int .i64 9]) (by simp [results, Tryz.results71, go_sem]) rfl (DPost.mk' hE.out (Rg.al2 _ _ _))
  case false =>
    rw [if_neg (by simp)] at hch
    by_cases hz : fuse = 0
    · subst hz
      rw [if_pos rfl] at hch
      have hch' := hch.out
      subst hch'
      have HS : Hid (∀ W, Calls Tryz.prog 110 #[.agg #[.slice sa safe.length sc, .slice oa ops.length oc, .int .i64 cap, .int .i64 0, .bool false]] W fun e w' => VPost (.tuple #[.agg #[.slice sa safe.length sc, .slice oa ops.length oc, .int .i64 cap, .int .i64 0, .bool true], .int .i64 9]) W e w') := fun W => (spend_any sa safe.length sc oa ops.length oc cap 0 false W (by omega) (by omega)).mono fun e w' ⟨h1, h2⟩ => ⟨by rw [h1]; simp, h2⟩
      have hfin : Hid (∀ W, Below w.heap.size w W → DAt W (.agg #[.slice sa safe.length sc, .slice oa ops.length oc, .int .i64 cap, .int .i64 0, .bool true]) ⟨safe, ops, cap, 0, true⟩) := fun W hW => ⟨sa, sc, oa, oc, rfl, hS.below hW, hO.below hW, hsc, hoc⟩
      clear hD hS hO hd
      unfold dval
      generalize safe.length = SN at *
      generalize ops.length = ON at *
      go_enter Tryz.func71, Tryz.ntmps71
      go_wp2_with (go_at_call 110; refine (HS.out _).mono ?_)
      rintro e w1 ⟨rfl, hb⟩
      have kR : Rg.Bk (w.heap.size + 1) [.slice none 0 0, .slice none 0 0, .int .i64 0, .int .i64 0, .bool false] 28 w1 := Rg.Bk.below (Rg.Bk.new (by simp)) hb (by simp)
      have hbw : Below w.heap.size w w1 := Rg.chain (Rg.al2 _ _ _) hb
      have hz1 : w.heap.size + 1 < w1.heap.size := kR.lt
      clear HS hb
      obtain ⟨kE, oE⟩ := Rg.ret5 kR rfl (.slice sa SN sc) (.slice oa ON oc) (.int .i64 cap) (.int .i64 0) (.bool true)
      replace kE := Rg.hid kE
      have post := Rg.hid (DPost.mk' (x := 9) (DAt.below (DAt.only (hfin.out _ hbw) kR plainZ oE) (Rg.al1 _ (.cells #[.slice sa SN sc, .slice oa ON oc, .int .i64 cap, .int .i64 0, .bool true] 28))) (Rg.chain (hbw.trans (oE.bel (by omega))) (Rg.al1 _ _)))
      have r0 := kR.cell 0
      have r1 := kR.cell 1
      have r2 := kR.cell 2
      have r3 := kR.cell 3
      have r4 := kR.cell 4
      simp only [List.getElem?_cons_zero, List.getElem?_cons_succ] at r0 r1 r2 r3 r4
      have rf := kR.thaw
      clear oE kR
      go_wp2
      replace kE := kE.out
      replace post := post.out
      generalize World.setCell _ _ _ = WE at *
      have kE2 := kE.old (.cells #[.slice sa SN sc, .slice oa ON oc, .int .i64 cap, .int .i64 0, .bool true] 28)
      generalize World.alloc WE _ = WF at *
      exact bodyPost_ret (v := .tuple #[.agg #[.slice sa SN sc, .slice oa ON oc, .int .i64 cap, .int .i64 0, .bool true], .int .i64 9]) (by simp [results, Tryz.results71, go_sem, kE2.cell]) rfl post
    · rw [if_neg hz, Dsk.burn_eq] at hch
      have hch' := hch.out
      subst hch'
      obtain ⟨fz, hfz⟩ : ∃ fz, fz = if fuse > 0 then fuse - 1 else fuse := ⟨_, rfl⟩
      have hf := hd.fuse
      have hf' := hd.fuse'
      dsimp only at hf hf'
      have hdz : Dsk.Ok ⟨safe, ops, cap, fz, false⟩ := ⟨hd.srt, hd.wt, by show -1 ≤ fz; rw [hfz]; split <;> omega, by show fz ≤ _; rw [hfz]; split <;> omega⟩
      have HS : Hid (∀ W, Calls Tryz.prog 110 #[.agg #[.slice sa safe.length sc, .slice oa ops.length oc, .int .i64 cap, .int .i64 fuse, .bool false]] W fun e w' => VPost (.tuple #[.agg #[.slice sa safe.length sc, .slice oa ops.length oc, .int .i64 cap, .int .i64 fz, .bool false], .int .i64 0]) W e w') := fun W => (spend_any sa safe.length sc oa ops.length oc cap fuse false W hf hf').mono fun e w' ⟨h1, h2⟩ => ⟨by rw [h1, hfz, if_neg hz]; simp [hz], h2⟩
      rw [show ({ safe := safe, ops := ops, cap := cap, fuse := if fuse > 0 then fuse - 1 else fuse, down := false } : Dsk.Dk) = ⟨safe, ops, cap, fz, false⟩ by rw [hfz]]
      have HT : Hid (∀ W, Below w.heap.size w W → Calls Tryz.prog 60 #[.agg #[.slice sa safe.length sc, .slice oa ops.length oc, .int .i64 cap, .int .i64 fz, .bool false], .int .i64 ops.length] W fun e w' => NEx W (Dsk.settle ⟨safe, ops, cap, fz, false⟩ ops.length) e w') := fun W hW => (settle_any _ ⟨safe, ops, cap, fz, false⟩ ops.length (Nat.le_refl _) W hdz ⟨sa, sc, oa, oc, rfl, hS.below hW, hO.below hW, hsc, hoc⟩).mono fun e w' q => q.ex
      generalize Dsk.settle ⟨safe, ops, cap, fz, false⟩ ops.length = d' at *
      clear hD hS hO hd hdz hf hf' hfz hch
      unfold dval
      generalize safe.length = SN at *
      generalize ops.length = ON at *
      go_enter Tryz.func71, Tryz.ntmps71
      go_wp2_with (go_at_call 110; refine (HS.out _).mono ?_)
      rintro e w1 ⟨rfl, hb⟩
      have kR' := Rg.hid (show Rg.Bk (w.heap.size + 1) [.slice none 0 0, .slice none 0 0, .int .i64 0, .int .i64 0, .bool false] 28 w1 from Rg.Bk.below (Rg.Bk.new (by simp)) hb (by simp))
      have hbw : Below w.heap.size w w1 := Rg.chain (Rg.al2 _ _ _) hb
      clear HS hb
      go_wp2_with (go_at_call 60; refine (HT.out _ (Rg.chain hbw (Rg.al1 _ _))).mono ?_)
      rintro e w2 ⟨sa', sn', sc', oa', on', oc', cp', fs', dn', rfl, hD, hb2⟩
      have kR := (kR'.out.old (.cells #[.slice sa SN sc, .slice oa ON oc, .int .i64 cap, .int .i64 fz, .bool false] 28)).below hb2 (by have := kR'.out.lt; simp; omega)
      have hbw2 : Below w.heap.size w w2 := Rg.chain (Rg.chain hbw (Rg.al1 _ _)) hb2
      clear HT hb2 hbw kR'
      obtain ⟨kE, oE⟩ := Rg.ret5 kR rfl (.slice sa' sn' sc') (.slice oa' on' oc') (.int .i64 cp') (.int .i64 fs') (.bool dn')
      replace kE := Rg.hid kE
      have post := Rg.hid (DPost.mk' (x := 0) (DAt.only hD kR plainZ oE) (hbw2.trans (oE.bel (by omega))))
      have r0 := kR.cell 0
      have r1 := kR.cell 1
      have r2 := kR.cell 2
      have r3 := kR.cell 3
      have r4 := kR.cell 4
      simp only [List.getElem?_cons_zero, List.getElem?_cons_succ] at r0 r1 r2 r3 r4
      have rf := kR.thaw
      clear oE kR
      go_wp2
      replace kE := kE.out
      replace post := post.out
      generalize World.setCell _ _ _ = WE at *
      exact bodyPost_ret (v := .tuple #[.agg #[.slice sa' sn' sc', .slice oa' on' oc', .int .i64 cp', .int .i64 fs', .bool dn'], .int .i64 0]) (by simp [results, Tryz.results71, go_sem, kE.cell]) rfl post


end Go.Proofs.YtgboghbicbnhiaaGreatDoor

namespace Go.Proofs.YtgboghbicbnhiaaGreatDoor
open Go.RowKit

theorem tl_inj (a b : ByteArray) : a.toList = b.toList ↔ a = b := ⟨fun h => Dsk.ba_ext (by rw [← tl_eq, ← tl_eq]; exact h), fun h => by rw [h]⟩
end Go.Proofs.YtgboghbicbnhiaaGreatDoor
