/-
  Layer 6: Sync, Crash. Layer 6: lists held against one another; Same; List. Layer 6: mathematics of a disk that knows no law of layer 6; a variable that holds a disk (out of Dk17 to Dk21).
-/
import Derived.Test.YtmilfamjkiemaaaGreatDoorSzAQ
import Derived.Deep.DeepCutAuto
import Derived.OwnWalk
namespace Go.Proofs.YtmilfamjkiemaaaGreatDoor
open Go.RowKit

/-- a disk that is handed back, its value written out -/
def NEx (w : World) (d : Dsk.Dk) (e : Ending) (w' : World) : Prop := ∃ sa' sn' sc' oa' on' oc' cp' fs' dn', e = .returned (.agg #[.slice sa' sn' sc', .slice oa' on' oc', .int .i64 cp', .int .i64 fs', .bool dn']) ∧ DAt w' (.agg #[.slice sa' sn' sc', .slice oa' on' oc', .int .i64 cp', .int .i64 fs', .bool dn']) d ∧ Below w.heap.size w w'
theorem NotePost.ex {w w' : World} {d : Dsk.Dk} {e : Ending} (h : NotePost w d e w') : NEx w d e w' := by
  obtain ⟨v, h1, h2, h3⟩ := h
  obtain ⟨sa, sc, oa, oc, h4⟩ := h2.form
  exact ⟨sa, _, sc, oa, _, oc, _, _, _, by rw [h1, h4], by rw [h4] at h2; exact h2, h3⟩
/-- a value that is handed back -/
def VPost (r : Value) (w : World) (e : Ending) (w' : World) : Prop := e = .returned r ∧ Below w.heap.size w w'
theorem DAt.look {W : World} {sa oa : Option Addr} {sn sc on oc : Nat} {cp fs : Int} {dn : Bool} {d : Dsk.Dk} (h : DAt W (.agg #[.slice sa sn sc, .slice oa on oc, .int .i64 cp, .int .i64 fs, .bool dn]) d) : sn = d.safe.length ∧ on = d.ops.length ∧ cp = d.cap ∧ fs = d.fuse ∧ dn = d.down ∧ fileE.Row W sa d.safe ∧ opE.Row W oa d.ops ∧ d.safe.length ≤ sc ∧ d.ops.length ≤ oc := by
  obtain ⟨sa', sc', oa', oc', h1, h2, h3, h4, h5⟩ := h
  unfold dval at h1
  injection h1 with h1
  have e0 := congrArg (fun a => a[0]?) h1
  have e1 := congrArg (fun a => a[1]?) h1
  have e2 := congrArg (fun a => a[2]?) h1
  have e3 := congrArg (fun a => a[3]?) h1
  have e4 := congrArg (fun a => a[4]?) h1
  simp at e0 e1 e2 e3 e4
  obtain ⟨rfl, rfl, rfl⟩ := e0
  obtain ⟨rfl, rfl, rfl⟩ := e1
  exact ⟨rfl, rfl, e2, e3, e4, h2, h3, h4, h5⟩

set_option maxHeartbeats 1000000 in
set_option maxRecDepth 100000 in
theorem sync_any (v : Value) (d : Dsk.Dk) (w : World) (hd : Dsk.Ok d) (h : DAt w v d) :
    Calls Tryz.prog 71 #[v] w fun e w' => DPost w (Dsk.sync d) e w' := by
  have hD : Hid (∀ W, Below w.heap.size w W → DAt W v d) := fun W hW => h.below hW
  have hch : Hid (Dsk.sync d = if d.down = true then (d, 9) else if d.fuse = 0 then ({ d with down := true }, 9) else (Dsk.settle (Dsk.burn d) d.ops.length, 0)) := rfl
  obtain ⟨sa, sc, oa, oc, rfl, hS, hO, hsc, hoc⟩ := h
  generalize Dsk.sync d = r at *
  obtain ⟨safe, ops, cap, fuse, down⟩ := d
  dsimp only at *
  cases down
  case true =>
    rw [if_pos rfl] at hch
    have hch' := hch.out
    subst hch'
    clear hS hO
    unfold dval at *
    generalize safe.length = SN at *
    generalize ops.length = ON at *
    have hE := Rg.hid (hD.out _ (Rg.al2 w (.cells #[.slice sa SN sc, .slice oa ON oc, .int .i64 cap, .int .i64 fuse, .bool true] 28) (.cells #[.slice sa SN sc, .slice oa ON oc, .int .i64 cap, .int .i64 fuse, .bool true] 28)))
    go_enter Tryz.func71, Tryz.ntmps71
    go_wp2
    exact bodyPost_ret (v := .tuple #[.agg #[.slice sa SN sc, .slice oa ON oc, .int .i64 cap, .int .i64 fuse, .bool true], .int .i64 9]) (by simp [results, Tryz.results71, go_sem]) rfl (DPost.mk' hE.out (Rg.al2 _ _ _))
  case false =>
    rw [if_neg (by simp)] at hch
    by_cases hz : fuse = 0
    · subst hz
      rw [if_pos rfl] at hch
      have hch' := hch.out
      subst hch'
      have HS : Hid (∀ W, Calls Tryz.prog 110 #[.agg #[.slice sa safe.length sc, .slice oa ops.length oc, .int .i64 cap, .int .i64 0, .bool false]] W fun e w' => VPost (.tuple #[.agg #[.slice sa safe.length sc, .slice oa ops.length oc, .int .i64 cap, .int .i64 0, .bool true], .int .i64 9]) W e w') := fun W => (spend_any sa safe.length sc oa ops.length oc cap 0 false W (by omega) (by omega)).mono fun e w' ⟨h1, h2⟩ => ⟨by rw [h1]; simp, h2⟩
      have hfin : Hid (∀ W, Below w.heap.size w W → DAt W (.agg #[.slice sa safe.length sc, .slice oa ops.length oc, .int .i64 cap, .int .i64 0, .bool true]) ⟨safe, ops, cap, 0, true⟩) := fun W hW => ⟨sa, sc, oa, oc, rfl, hS.below hW, hO.below hW, hsc, hoc⟩
      clear hD hS hO hd
      unfold dval
      generalize safe.length = SN at *
      generalize ops.length = ON at *
      go_enter Tryz.func71, Tryz.ntmps71
      go_wp2_with (go_at_call 110; refine (HS.out _).mono ?_)
      rintro e w1 ⟨rfl, hb⟩
      have kR : Rg.Bk (w.heap.size + 1) [.slice none 0 0, .slice none 0 0, .int .i64 0, .int .i64 0, .bool false] 28 w1 := Rg.Bk.below (Rg.Bk.new (by simp)) hb (by simp)
      have hbw : Below w.heap.size w w1 := Rg.chain (Rg.al2 _ _ _) hb
      have hz1 : w.heap.size + 1 < w1.heap.size := kR.lt
      clear HS hb
      obtain ⟨kE, oE⟩ := Rg.ret5 kR rfl (.slice sa SN sc) (.slice oa ON oc) (.int .i64 cap) (.int .i64 0) (.bool true)
      replace kE := Rg.hid kE
      have post := Rg.hid (DPost.mk' (x := 9) (DAt.below (DAt.only (hfin.out _ hbw) kR plainZ oE) (Rg.al1 _ (.cells #[.slice sa SN sc, .slice oa ON oc, .int .i64 cap, .int .i64 0, .bool true] 28))) (Rg.chain (hbw.trans (oE.bel (by omega))) (Rg.al1 _ _)))
      have r0 := kR.cell 0
      have r1 := kR.cell 1
      have r2 := kR.cell 2
      have r3 := kR.cell 3
      have r4 := kR.cell 4
      simp only [List.getElem?_cons_zero, List.getElem?_cons_succ] at r0 r1 r2 r3 r4
      have rf := kR.thaw
      clear oE kR
      go_wp2
      replace kE := kE.out
      replace post := post.out
      generalize World.setCell _ _ _ = WE at *
      have kE2 := kE.old (.cells #[.slice sa SN sc, .slice oa ON oc, .int .i64 cap, .int .i64 0, .bool true] 28)
      generalize World.alloc WE _ = WF at *
      exact bodyPost_ret (v := .tuple #[.agg #[.slice sa SN sc, .slice oa ON oc, .int .i64 cap, .int .i64 0, .bool true], .int .i64 9]) (by simp [results, Tryz.results71, go_sem, kE2.cell]) rfl post
    · rw [if_neg hz, Dsk.burn_eq] at hch
      have hch' := hch.out
      subst hch'
      obtain ⟨fz, hfz⟩ : ∃ fz, fz = if fuse > 0 then fuse - 1 else fuse := ⟨_, rfl⟩
      have hf := hd.fuse
      have hf' := hd.fuse'
      dsimp only at hf hf'
      have hdz : Dsk.Ok ⟨safe, ops, cap, fz, false⟩ := ⟨hd.srt, hd.wt, by show -1 ≤ fz; rw [hfz]; split <;> omega, by show fz ≤ _; rw [hfz]; split <;> omega⟩
      have HS : Hid (∀ W, Calls Tryz.prog 110 #[.agg #[.slice sa safe.length sc, .slice oa ops.length oc, .int .i64 cap, .int .i64 fuse, .bool false]] W fun e w' => VPost (.tuple #[.agg #[.slice sa safe.length sc, .slice oa ops.length oc, .int .i64 cap, .int .i64 fz, .bool false], .int .i64 0]) W e w') := fun W => (spend_any sa safe.length sc oa ops.length oc cap fuse false W hf hf').mono fun e w' ⟨h1, h2⟩ => ⟨by rw [h1, hfz, if_neg hz]; simp [hz], h2⟩
      rw [show ({ safe := safe, ops := ops, cap := cap, fuse := if fuse > 0 then fuse - 1 else fuse, down := false } : Dsk.Dk) = ⟨safe, ops, cap, fz, false⟩ by rw [hfz]]
      have HT : Hid (∀ W, Below w.heap.size w W → Calls Tryz.prog 60 #[.agg #[.slice sa safe.length sc, .slice oa ops.length oc, .int .i64 cap, .int .i64 fz, .bool false], .int .i64 ops.length] W fun e w' => NEx W (Dsk.settle ⟨safe, ops, cap, fz, false⟩ ops.length) e w') := fun W hW => (settle_any _ ⟨safe, ops, cap, fz, false⟩ ops.length (Nat.le_refl _) W hdz ⟨sa, sc, oa, oc, rfl, hS.below hW, hO.below hW, hsc, hoc⟩).mono fun e w' q => q.ex
      generalize Dsk.settle ⟨safe, ops, cap, fz, false⟩ ops.length = d' at *
      clear hD hS hO hd hdz hf hf' hfz hch
      unfold dval
      generalize safe.length = SN at *
      generalize ops.length = ON at *
      go_enter Tryz.func71, Tryz.ntmps71
      go_wp2_with (go_at_call 110; refine (HS.out _).mono ?_)
      rintro e w1 ⟨rfl, hb⟩
      have kR' := Rg.hid (show Rg.Bk (w.heap.size + 1) [.slice none 0 0, .slice none 0 0, .int .i64 0, .int .i64 0, .bool false] 28 w1 from Rg.Bk.below (Rg.Bk.new (by simp)) hb (by simp))
      have hbw : Below w.heap.size w w1 := Rg.chain (Rg.al2 _ _ _) hb
      clear HS hb
      go_wp2_with (go_at_call 60; refine (HT.out _ (Rg.chain hbw (Rg.al1 _ _))).mono ?_)
      rintro e w2 ⟨sa', sn', sc', oa', on', oc', cp', fs', dn', rfl, hD, hb2⟩
      have kR := (kR'.out.old (.cells #[.slice sa SN sc, .slice oa ON oc, .int .i64 cap, .int .i64 fz, .bool false] 28)).below hb2 (by have := kR'.out.lt; simp; omega)
      have hbw2 : Below w.heap.size w w2 := Rg.chain (Rg.chain hbw (Rg.al1 _ _)) hb2
      clear HT hb2 hbw kR'
      obtain ⟨kE, oE⟩ := Rg.ret5 kR rfl (.slice sa' sn' sc') (.slice oa' on' oc') (.int .i64 cp') (.int .i64 fs') (.bool dn')
      replace kE := Rg.hid kE
      have post := Rg.hid (DPost.mk' (x := 0) (DAt.only hD kR plainZ oE) (hbw2.trans (oE.bel (by omega))))
      have r0 := kR.cell 0
      have r1 := kR.cell 1
      have r2 := kR.cell 2
      have r3 := kR.cell 3
      have r4 := kR.cell 4
      simp only [List.getElem?_cons_zero, List.getElem?_cons_succ] at r0 r1 r2 r3 r4
      have rf := kR.thaw
      clear oE kR
      go_wp2
      replace kE := kE.out
      replace post := post.out
      generalize World.setCell _ _ _ = WE at *
      exact bodyPost_ret (v := .tuple #[.agg #[.slice sa' sn' sc', .slice oa' on' oc', .int .i64 cp', .int .i64 fs', .bool dn'], .int .i64 0]) (by simp [results, Tryz.results71, go_sem, kE.cell]) rfl post


set_option maxHeartbeats 1000000 in
set_option maxRecDepth 100000 in
theorem crash_any (v : Value) (d : Dsk.Dk) (n : Int) (w : World) (hd : Dsk.Ok d) (h : DAt w v d) :
    Calls Tryz.prog 28 #[v, .int .i64 n] w fun e w' => NotePost w (Dsk.crash d n) e w' := by
  obtain ⟨m, hm⟩ : ∃ m, m = Dsk.keep n d.ops.length := ⟨_, rfl⟩
  have hme := Dsk.keep_eq n d.ops.length
  have hon := hd.ops
  have HT : Hid (∀ W, Below w.heap.size w W → Calls Tryz.prog 60 #[v, .int .i64 m] W fun e w' => NEx W (Dsk.settle d m) e w') := fun W hW => (settle_any v d m (by rw [hm]; exact Dsk.keep_le _ _) W hd (h.below hW)).mono fun e w' q => q.ex
  have hcr : Hid (Dsk.crash d n = { Dsk.settle d m with fuse := -1, down := true }) := by show _ = _; rw [hm]; rfl
  rw [← hm] at hme
  obtain ⟨sa, sc, oa, oc, rfl, hS, hO, hsc, hoc⟩ := h
  rw [hcr.out]
  generalize Dsk.settle d m = d' at *
  obtain ⟨safe, ops, cap, fuse, down⟩ := d
  dsimp only at *
  clear hcr hd hm
  clear hS hO
  unfold dval at *
  generalize safe.length = SN at *
  generalize ops.length = ON at *
  go_enter Tryz.func28, Tryz.ntmps28
  have HT2 := Rg.hid (HT.out _ (Rg.al2 w (.cells #[.slice sa SN sc, .slice oa ON oc, .int .i64 cap, .int .i64 fuse, .bool down] 28) (.cells #[.slice none 0 0, .slice none 0 0, .int .i64 0, .int .i64 0, .bool false] 28)))
  go_upto_region 2 with (go_at_call 60; refine HT2.out.mono ?_; rintro e w1 ⟨sa', sn', sc', oa', on', oc', cp', fs', dn', rfl, hD, hb⟩; have kB : Rg.Bk (w.heap.size) [.slice sa SN sc, .slice oa ON oc, .int .i64 cap, .int .i64 fuse, .bool down] 28 w1 := Rg.Bk.below ((Rg.Bk.new rfl).old _) hb (by simp; omega); have b0 := kB.cell 0; have b1 := kB.cell 1; have b2 := kB.cell 2; have b3 := kB.cell 3; have b4 := kB.cell 4; simp only [List.getElem?_cons_zero, List.getElem?_cons_succ] at b0 b1 b2 b3 b4; have bf := kB.thaw)
  have kR : Rg.Bk (w.heap.size + 1) [.slice none 0 0, .slice none 0 0, .int .i64 0, .int .i64 0, .bool false] 28 w1 := Rg.Bk.below (Rg.Bk.new (by simp)) hb (by simp)
  have hbw : Below w.heap.size w w1 := Rg.chain (Rg.al2 _ _ _) hb
  obtain ⟨kB1, oB1⟩ := Rg.ret5 kB rfl (.slice sa' sn' sc') (.slice oa' on' oc') (.int .i64 cp') (.int .i64 fs') (.bool dn')
  have kR1 := kR.same (oB1.block (w.heap.size + 1) (by omega))
  have hD1 := hD.only kB (plain5 (fun _ h => by cases h) (fun _ h => by cases h) (fun _ h => by cases h) (fun _ h => by cases h) (fun _ h => by cases h)) oB1
  have hbw1 := hbw.trans (oB1.bel (Nat.le_refl _))
  clear HT HT2 hb kB b0 b1 b2 b3 b4 bf kR hbw oB1 hD
  generalize World.setCell _ _ _ = W1 at *
  have b3 : W1.cell? ⟨w.heap.size, 3, none⟩ = some (.int .i64 fs') := kB1.cell 3
  have b4 : W1.cell? ⟨w.heap.size, 4, none⟩ = some (.bool dn') := kB1.cell 4
  have bf := kB1.thaw
  go_upto_region 3 with fail
  have kB2 := (kB1.set 3 (.int .i64 (-1))).set 4 (.bool true)
  have oB2 := (Rg.Only.setCell W1 (w.heap.size) 3 (.int .i64 (-1))).trans (Rg.Only.setCell _ (w.heap.size) 4 (.bool true))
  have kR := kR1.same (oB2.block (w.heap.size + 1) (by omega))
  have hD2 := hD1.only kB1 (plain5 (fun _ h => by cases h) (fun _ h => by cases h) (fun _ h => by cases h) (fun _ h => by cases h) (fun _ h => by cases h)) oB2
  have hbw := hbw1.trans (oB2.bel (Nat.le_refl _))
  clear kB1 kR1 hD1 hbw1 oB2 b3 b4 bf
  generalize World.setCell _ _ _ = W2 at *
  have hD3 : DAt W2 (.agg #[.slice sa' sn' sc', .slice oa' on' oc', .int .i64 cp', .int .i64 (-1), .bool true]) { d' with fuse := -1, down := true } := by
    obtain ⟨q1, q2, q3, q4, q5, q6, q7, q8, q9⟩ := hD2.look
    subst q1 q2 q3
    exact ⟨_, _, _, _, rfl, q6, q7, q8, q9⟩
  clear hD2
  have b0 : W2.cell? ⟨w.heap.size, 0, none⟩ = some (.slice sa' sn' sc') := kB2.cell 0
  have b1 : W2.cell? ⟨w.heap.size, 1, none⟩ = some (.slice oa' on' oc') := kB2.cell 1
  have b2 : W2.cell? ⟨w.heap.size, 2, none⟩ = some (.int .i64 cp') := kB2.cell 2
  have b3 : W2.cell? ⟨w.heap.size, 3, none⟩ = some (.int .i64 (-1)) := kB2.cell 3
  have b4 : W2.cell? ⟨w.heap.size, 4, none⟩ = some (.bool true) := kB2.cell 4
  clear kB2
  obtain ⟨kE, oE⟩ := Rg.ret5 kR rfl (.slice sa' sn' sc') (.slice oa' on' oc') (.int .i64 cp') (.int .i64 (-1)) (.bool true)
  replace kE := Rg.hid kE
  have post := Rg.hid ((⟨_, rfl, DAt.only hD3 kR plainZ oE, hbw.trans (oE.bel (by omega))⟩ : NotePost w _ _ _))
  have r0 := kR.cell 0
  have r1 := kR.cell 1
  have r2 := kR.cell 2
  have r3 := kR.cell 3
  have r4 := kR.cell 4
  simp only [List.getElem?_cons_zero, List.getElem?_cons_succ] at r0 r1 r2 r3 r4
  have rf := kR.thaw
  clear oE kR
  go_wp2
  replace kE := kE.out
  replace post := post.out
  generalize World.setCell _ _ _ = WE at *
  exact bodyPost_ret (v := .agg #[.slice sa' sn' sc', .slice oa' on' oc', .int .i64 cp', .int .i64 (-1), .bool true]) (by simp [results, Tryz.results28, go_sem, kE.cell]) rfl post
end Go.Proofs.YtmilfamjkiemaaaGreatDoor

namespace Go.Proofs.YtmilfamjkiemaaaGreatDoor
open Go.RowKit

theorem tl_inj (a b : ByteArray) : a.toList = b.toList ↔ a = b := ⟨fun h => Dsk.ba_ext (by rw [← tl_eq, ← tl_eq]; exact h), fun h => by rw [h]⟩
end Go.Proofs.YtmilfamjkiemaaaGreatDoor

namespace Go.Proofs.YtmilfamjkiemaaaGreatDoor
open Go.RowKit
namespace Dsk
/-- a call -/
structure Cl where
  k : Int
  n : ByteArray
  t : ByteArray
  x : ByteArray
  m : Int
def play (d : Dk) (c : Cl) : Dk × Int :=
  if c.k = 1 then write d c.n c.x else if c.k = 2 then append d c.n c.x else if c.k = 3 then rename d c.n c.t else if c.k = 4 then remove d c.n
  else if c.k = 5 then sync d else if c.k = 6 then (arm d c.m, 0) else if c.k = 7 then (setRoom d c.m, 0) else if c.k = 8 then (crash d c.m, 0) else (start d, 0)
end Dsk
namespace Dsk
theorem new_ok (n : Int) : Ok (new n) := ⟨List.Pairwise.nil, by show 0 + 0 ≤ 10000000000; omega, by show (-1 : Int) ≤ -1; omega, by show (-1 : Int) ≤ _; omega⟩
end Dsk
namespace Dsk

/-- the weight of a disk -/
def Wt (d : Dk) : Nat := used d.safe + wt d.ops
theorem burn_ok {d : Dk} (h : Ok d) : Ok (burn d) := by
  rw [burn_eq]
  have h1 := h.fuse
  have h2 := h.fuse'
  refine ⟨h.srt, h.wt, ?_, ?_⟩
  · show -1 ≤ if d.fuse > 0 then d.fuse - 1 else d.fuse
    split <;> omega
  · show (if d.fuse > 0 then d.fuse - 1 else d.fuse) ≤ _
    split <;> omega
theorem burn_safe (d : Dk) : (burn d).safe = d.safe := by rw [burn_eq]
theorem burn_ops (d : Dk) : (burn d).ops = d.ops := by rw [burn_eq]
theorem burn_cap (d : Dk) : (burn d).cap = d.cap := by rw [burn_eq]
theorem burn_down (d : Dk) : (burn d).down = d.down := by rw [burn_eq]
theorem note_wt (d : Dk) (o : Dop) : Wt (note d o) = Wt d + o.d.size + 16 := by
  show used d.safe + wt (d.ops ++ [o]) = _
  rw [wt_append, wt, wt]; unfold Wt; omega
theorem burn_wt (d : Dk) : Wt (burn d) = Wt d := by unfold Wt; rw [burn_safe, burn_ops]
/-- what an operation leaves -/
theorem operate_cases (d : Dk) (o : Dop) : (d.fuse = 0 ∧ operate d o = ({ d with down := true }, 9)) ∨ (d.fuse ≠ 0 ∧ operate d o = (note (burn d) o, 0)) := by
  by_cases h : d.fuse = 0
  · exact .inl ⟨h, if_pos h⟩
  · exact .inr ⟨h, if_neg h⟩
theorem fill_cases (d : Dk) (o : Dop) : (∃ e, e ≠ 0 ∧ fill d o = (d, e)) ∨ (d.down = false ∧ isName o.n = true ∧ (used (files (note d o)) : Int) ≤ d.cap ∧ fill d o = operate d o) := by
  unfold fill
  by_cases h1 : d.down = true
  · exact .inl ⟨9, by omega, if_pos h1⟩
  · by_cases h2 : isName o.n = true
    · by_cases h3 : (used (files (note d o)) : Int) > d.cap
      · exact .inl ⟨8, by omega, by rw [if_neg h1, if_pos h2, if_pos h3]⟩
      · exact .inr ⟨by simpa using h1, h2, by omega, by rw [if_neg h1, if_pos h2, if_neg h3]⟩
    · exact .inl ⟨11, by omega, by rw [if_neg h1, if_neg h2]⟩
theorem read_err (d : Dk) (n : ByteArray) : (read d n).2 = 0 ↔ d.down = false ∧ has (files d) n = true := by
  unfold read has
  cases h : d.down
  · simp only [Bool.false_eq_true, if_false, true_and]
    cases get (files d) n <;> simp
  · simp
theorem change_cases (d : Dk) (o : Dop) : (∃ e, e ≠ 0 ∧ change d o = (d, e)) ∨ (d.down = false ∧ has (files d) o.n = true ∧ change d o = operate d o) := by
  unfold change
  by_cases h : (read d o.n).2 = 0
  · have := (read_err d o.n).1 h
    exact .inr ⟨this.1, this.2, if_pos h⟩
  · exact .inl ⟨_, h, if_neg h⟩
/-- an operation or none: what the four calls that do something leave -/
theorem do_cases (d : Dk) (c : Cl) (hk : 1 ≤ c.k) (hk' : c.k ≤ 4) : ∃ o : Dop, o.k = c.k ∧ o.n = c.n ∧ (o.t = c.t ∨ o.t = ByteArray.empty) ∧ o.d.size ≤ c.x.size ∧
    ((∃ e, e ≠ 0 ∧ play d c = (d, e)) ∨ (d.down = false ∧ (c.k ≤ 2 → (used (files (note d o)) : Int) ≤ d.cap) ∧ play d c = operate d o)) := by
  unfold play
  by_cases h1 : c.k = 1
  · rw [if_pos h1]
    refine ⟨⟨1, c.n, ByteArray.empty, c.x⟩, h1.symm, rfl, .inr rfl, Nat.le_refl _, ?_⟩
    rcases fill_cases d ⟨1, c.n, ByteArray.empty, c.x⟩ with h | ⟨h2, _, h3, h4⟩
    · exact .inl h
    · exact .inr ⟨h2, fun _ => h3, h4⟩
  rw [if_neg h1]
  by_cases h2 : c.k = 2
  · rw [if_pos h2]
    refine ⟨⟨2, c.n, ByteArray.empty, c.x⟩, h2.symm, rfl, .inr rfl, Nat.le_refl _, ?_⟩
    rcases fill_cases d ⟨2, c.n, ByteArray.empty, c.x⟩ with h | ⟨h2, _, h3, h4⟩
    · exact .inl h
    · exact .inr ⟨h2, fun _ => h3, h4⟩
  rw [if_neg h2]
  by_cases h3 : c.k = 3
  · rw [if_pos h3]
    refine ⟨⟨3, c.n, c.t, ByteArray.empty⟩, h3.symm, rfl, .inl rfl, Nat.zero_le _, ?_⟩
    unfold rename
    by_cases h4 : d.down = true
    · rw [if_pos h4]; exact .inl ⟨9, by omega, rfl⟩
    · rw [if_neg h4]
      by_cases h5 : isName c.t = true
      · rw [if_pos h5]
        rcases change_cases d ⟨3, c.n, c.t, ByteArray.empty⟩ with h | ⟨h6, _, h7⟩
        · exact .inl h
        · exact .inr ⟨h6, fun h => by omega, h7⟩
      · rw [if_neg h5]; exact .inl ⟨11, by omega, rfl⟩
  rw [if_neg h3]
  have h4 : c.k = 4 := by omega
  rw [if_pos h4]
  refine ⟨⟨4, c.n, ByteArray.empty, ByteArray.empty⟩, h4.symm, rfl, .inr rfl, Nat.zero_le _, ?_⟩
  rcases change_cases d ⟨4, c.n, ByteArray.empty, ByteArray.empty⟩ with h | ⟨h6, _, h7⟩
  · exact .inl h
  · exact .inr ⟨h6, fun h => by omega, h7⟩
/-- the kinds of a call -/
theorem play_other (d : Dk) (c : Cl) (h : ¬ (1 ≤ c.k ∧ c.k ≤ 4)) : (c.k = 5 ∧ play d c = sync d) ∨ (c.k = 6 ∧ play d c = (arm d c.m, 0)) ∨ (c.k = 7 ∧ play d c = (setRoom d c.m, 0)) ∨ (c.k = 8 ∧ play d c = (crash d c.m, 0)) ∨ ((c.k < 1 ∨ 8 < c.k) ∧ play d c = (start d, 0)) := by
  unfold play
  rw [if_neg (by omega), if_neg (by omega), if_neg (by omega), if_neg (by omega)]
  by_cases h5 : c.k = 5
  · exact .inl ⟨h5, if_pos h5⟩
  rw [if_neg h5]
  by_cases h6 : c.k = 6
  · exact .inr (.inl ⟨h6, if_pos h6⟩)
  rw [if_neg h6]
  by_cases h7 : c.k = 7
  · exact .inr (.inr (.inl ⟨h7, if_pos h7⟩))
  rw [if_neg h7]
  by_cases h8 : c.k = 8
  · exact .inr (.inr (.inr (.inl ⟨h8, if_pos h8⟩)))
  rw [if_neg h8]
  exact .inr (.inr (.inr (.inr ⟨by omega, rfl⟩)))
theorem sync_cases (d : Dk) : (d.down = true ∧ sync d = (d, 9)) ∨ (d.down = false ∧ d.fuse = 0 ∧ sync d = ({ d with down := true }, 9)) ∨ (d.down = false ∧ d.fuse ≠ 0 ∧ sync d = (settle (burn d) d.ops.length, 0)) := by
  unfold sync
  by_cases h1 : d.down = true
  · exact .inl ⟨h1, if_pos h1⟩
  rw [if_neg h1]
  by_cases h2 : d.fuse = 0
  · exact .inr (.inl ⟨by simpa using h1, h2, if_pos h2⟩)
  · exact .inr (.inr ⟨by simpa using h1, h2, if_neg h2⟩)
theorem wt_take_le (ops : List Dop) (n : Nat) : wt (ops.take n) ≤ wt ops := by
  have := wt_append (ops.take n) (ops.drop n)
  rw [List.take_append_drop] at this; omega
theorem settle_wt (d : Dk) (n : Nat) : Wt (settle d n) ≤ Wt d := by
  show used (behind d.safe (d.ops.take n)) + wt [] ≤ _
  have h1 := used_behind d.safe (d.ops.take n)
  have h2 := wt_take_le d.ops n
  unfold Wt; rw [wt]; omega
theorem settle_ok {d : Dk} (h : Ok d) (n : Nat) : Ok (settle d n) :=
  ⟨behind_srt _ h.srt, by have h1 := settle_wt d n; have h2 := h.wt; unfold Wt at h1; omega, h.fuse, h.fuse'⟩
theorem operate_ok {d : Dk} (h : Ok d) (o : Dop) (hw : Wt d + o.d.size + 16 ≤ 10000000000) : Ok (operate d o).1 ∧ Wt (operate d o).1 ≤ Wt d + o.d.size + 16 := by
  rcases operate_cases d o with ⟨_, e⟩ | ⟨_, e⟩
  · rw [e]
    exact ⟨⟨h.srt, h.wt, h.fuse, h.fuse'⟩, by show Wt d ≤ _; omega⟩
  · rw [e]
    refine ⟨(burn_ok h).note o ?_, ?_⟩
    · rw [burn_safe, burn_ops]; unfold Wt at hw; exact hw
    · show Wt (note (burn d) o) ≤ _
      rw [note_wt, burn_wt]; exact Nat.le_refl _
theorem play_ok {d : Dk} (h : Ok d) (c : Cl) (hw : Wt d + c.x.size + 16 ≤ 10000000000) (hm : c.m ≤ 9223372036854775807) : Ok (play d c).1 ∧ Wt (play d c).1 ≤ Wt d + c.x.size + 16 := by
  by_cases hk : 1 ≤ c.k ∧ c.k ≤ 4
  · obtain ⟨o, _, _, _, ho, h1 | ⟨_, _, h1⟩⟩ := do_cases d c hk.1 hk.2
    · obtain ⟨e, _, h1⟩ := h1
      rw [h1]; exact ⟨h, by show Wt d ≤ _; omega⟩
    · rw [h1]
      have := operate_ok h o (by omega)
      exact ⟨this.1, by omega⟩
  · rcases play_other d c hk with ⟨_, e⟩ | ⟨_, e⟩ | ⟨_, e⟩ | ⟨_, e⟩ | ⟨_, e⟩
    · rw [e]
      rcases sync_cases d with ⟨_, e⟩ | ⟨_, _, e⟩ | ⟨_, _, e⟩
      · rw [e]; exact ⟨h, by show Wt d ≤ _; omega⟩
      · rw [e]; exact ⟨⟨h.srt, h.wt, h.fuse, h.fuse'⟩, by show Wt d ≤ _; omega⟩
      · rw [e]
        have := settle_wt (burn d) d.ops.length
        rw [burn_wt] at this
        exact ⟨settle_ok (burn_ok h) _, by show Wt (settle (burn d) d.ops.length) ≤ _; omega⟩
    · rw [e]; exact ⟨⟨h.srt, h.wt, by show -1 ≤ max c.m (-1); omega, by show max c.m (-1) ≤ _; omega⟩, by show Wt d ≤ _; omega⟩
    · rw [e]; exact ⟨⟨h.srt, h.wt, h.fuse, h.fuse'⟩, by show Wt d ≤ _; omega⟩
    · rw [e]
      have h1 := settle_ok h (keep c.m d.ops.length)
      have h2 := settle_wt d (keep c.m d.ops.length)
      exact ⟨⟨h1.srt, h1.wt, by show (-1 : Int) ≤ -1; omega, by show (-1 : Int) ≤ _; omega⟩, by show Wt (settle d _) ≤ _; omega⟩
    · rw [e]; exact ⟨⟨h.srt, h.wt, h.fuse, h.fuse'⟩, by show Wt d ≤ _; omega⟩

/-- DiskSafe: the file is safe, and nothing is done to it -/
structure Kept (K data : ByteArray) (d : Dk) : Prop where
  ok : Ok d
  safe : get d.safe K = some data
  ops : ∀ o ∈ d.ops, o.n ≠ K ∧ o.t ≠ K
theorem Kept.settle {K data : ByteArray} {d : Dk} (h : Kept K data d) (n : Nat) : Kept K data (Dsk.settle d n) :=
  ⟨settle_ok h.ok n, by
    show get (behind d.safe (d.ops.take n)) K = _
    rw [behind_other _ _ h.ok.srt (fun o ho => h.ops o (List.mem_of_mem_take ho))]; exact h.safe, fun o ho => by cases ho⟩
theorem Kept.play {K data : ByteArray} {d : Dk} (h : Kept K data d) (c : Cl) (hw : Wt d + c.x.size + 16 ≤ 10000000000) (hm : c.m ≤ 9223372036854775807) (h1 : c.n ≠ K) (h2 : c.t ≠ K) (h3 : ByteArray.empty ≠ K) : Kept K data (Dsk.play d c).1 := by
  have hok := (play_ok h.ok c hw hm).1
  by_cases hk : 1 ≤ c.k ∧ c.k ≤ 4
  · obtain ⟨o, _, hon, hot, ho, q | ⟨_, _, q⟩⟩ := do_cases d c hk.1 hk.2
    · obtain ⟨e, _, q⟩ := q
      rw [q]; exact h
    · rw [q] at hok ⊢
      rcases operate_cases d o with ⟨_, e⟩ | ⟨_, e⟩
      · rw [e] at hok ⊢; exact ⟨hok, h.safe, h.ops⟩
      · rw [e] at hok ⊢
        refine ⟨hok, ?_, ?_⟩
        · show get (burn d).safe K = _
          rw [burn_safe]; exact h.safe
        · intro p hp
          have hp' : p ∈ d.ops ++ [o] := by
            have : p ∈ (burn d).ops ++ [o] := hp
            rw [burn_ops] at this; exact this
          rcases List.mem_append.1 hp' with q' | q'
          · exact h.ops p q'
          · rw [List.mem_singleton.1 q', hon]
            refine ⟨h1, ?_⟩
            rcases hot with e | e
            · rw [e]; exact h2
            · rw [e]; exact h3
  · rcases play_other d c hk with ⟨_, e⟩ | ⟨_, e⟩ | ⟨_, e⟩ | ⟨_, e⟩ | ⟨_, e⟩
    · rw [e] at hok ⊢
      rcases sync_cases d with ⟨_, e⟩ | ⟨_, _, e⟩ | ⟨_, _, e⟩
      · rw [e]; exact h
      · rw [e] at hok ⊢; exact ⟨hok, h.safe, h.ops⟩
      · rw [e] at hok ⊢
        have hb : Kept K data (burn d) := ⟨burn_ok h.ok, by rw [burn_safe]; exact h.safe, by rw [burn_ops]; exact h.ops⟩
        exact hb.settle _
    · rw [e] at hok ⊢; exact ⟨hok, h.safe, h.ops⟩
    · rw [e] at hok ⊢; exact ⟨hok, h.safe, h.ops⟩
    · rw [e] at hok ⊢
      have := h.settle (keep c.m d.ops.length)
      exact ⟨hok, this.safe, this.ops⟩
    · rw [e] at hok ⊢; exact ⟨hok, h.safe, h.ops⟩
theorem Kept.reads {K data : ByteArray} {d : Dk} (h : Kept K data d) (n : Int) : read (start (crash d n)) K = (data, 0) := by
  have h1 := (h.settle (keep n d.ops.length)).safe
  unfold read
  have e : files (start (crash d n)) = (Dsk.settle d (keep n d.ops.length)).safe := rfl
  rw [if_neg (by show ¬ (false = true); simp), e, h1]
end Dsk
/-- a variable, block V, that holds a disk -/
def DVar (V : Nat) (W : World) (d : Dsk.Dk) : Prop := ∃ sa' sn' sc' oa' on' oc' cp' fs' dn', Rg.Bk V [.slice sa' sn' sc', .slice oa' on' oc', .int .i64 cp', .int .i64 fs', .bool dn'] 28 W ∧ DAt W (.agg #[.slice sa' sn' sc', .slice oa' on' oc', .int .i64 cp', .int .i64 fs', .bool dn']) d
theorem plainD {sa oa : Option Addr} {sn sc on oc : Nat} {cp fs : Int} {dn : Bool} : ∀ u ∈ ([.slice sa sn sc, .slice oa on oc, .int .i64 cp, .int .i64 fs, .bool dn] : List Value), ∀ s, u ≠ .string s := plain5 (fun _ h => by cases h) (fun _ h => by cases h) (fun _ h => by cases h) (fun _ h => by cases h) (fun _ h => by cases h)
theorem DVar.below {V : Nat} {W W' : World} {d : Dsk.Dk} (h : DVar V W d) (hb : Below W.heap.size W W') : DVar V W' d := by
  obtain ⟨sa', sn', sc', oa', on', oc', cp', fs', dn', k, hD⟩ := h
  exact ⟨sa', sn', sc', oa', on', oc', cp', fs', dn', k.below hb k.lt, hD.below hb⟩
theorem DVar.lt {V : Nat} {W : World} {d : Dsk.Dk} (h : DVar V W d) : V < W.heap.size := by
  obtain ⟨sa', sn', sc', oa', on', oc', cp', fs', dn', k, hD⟩ := h
  exact k.lt
theorem DVar.new {W : World} {sa oa : Option Addr} {sn sc on oc : Nat} {cp fs : Int} {dn : Bool} {d : Dsk.Dk} (h : DAt W (.agg #[.slice sa sn sc, .slice oa on oc, .int .i64 cp, .int .i64 fs, .bool dn]) d) : DVar W.heap.size (W.alloc (.cells #[.slice sa sn sc, .slice oa on oc, .int .i64 cp, .int .i64 fs, .bool dn] 28)) d :=
  ⟨sa, sn, sc, oa, on, oc, cp, fs, dn, Rg.Bk.new rfl, h.below (Rg.al1 _ _)⟩
/-- a store into the variable -/
theorem DVar.store {V : Nat} {W : World} {d d' : Dsk.Dk} {sa oa : Option Addr} {sn sc on oc : Nat} {cp fs : Int} {dn : Bool} (h : DVar V W d) (hD : DAt W (.agg #[.slice sa sn sc, .slice oa on oc, .int .i64 cp, .int .i64 fs, .bool dn]) d') :
    DVar V (((((W.setCell ⟨V, 0, none⟩ (.slice sa sn sc)).setCell ⟨V, 1, none⟩ (.slice oa on oc)).setCell ⟨V, 2, none⟩ (.int .i64 cp)).setCell ⟨V, 3, none⟩ (.int .i64 fs)).setCell ⟨V, 4, none⟩ (.bool dn)) d' ∧
    Rg.Only V W (((((W.setCell ⟨V, 0, none⟩ (.slice sa sn sc)).setCell ⟨V, 1, none⟩ (.slice oa on oc)).setCell ⟨V, 2, none⟩ (.int .i64 cp)).setCell ⟨V, 3, none⟩ (.int .i64 fs)).setCell ⟨V, 4, none⟩ (.bool dn)) := by
  obtain ⟨sa', sn', sc', oa', on', oc', cp', fs', dn', k, hD0⟩ := h
  obtain ⟨kE, oE⟩ := Rg.ret5 k rfl (.slice sa sn sc) (.slice oa on oc) (.int .i64 cp) (.int .i64 fs) (.bool dn)
  exact ⟨⟨sa, sn, sc, oa, on, oc, cp, fs, dn, kE, hD.only k plainD oE⟩, oE⟩
/-- a store into another one -/
theorem DVar.other {V V' : Nat} {W W' : World} {d d' : Dsk.Dk} (h : DVar V W d) (h' : DVar V' W d') (hne : V ≠ V') (ho : Rg.Only V' W W') : DVar V W' d := by
  obtain ⟨sa', sn', sc', oa', on', oc', cp', fs', dn', k, hD0⟩ := h
  obtain ⟨sa2, sn2, sc2, oa2, on2, oc2, cp2, fs2, dn2, k2, hD2⟩ := h'
  exact ⟨sa', sn', sc', oa', on', oc', cp', fs', dn', k.same (ho.block V hne), hD0.only k2 plainD ho⟩
end Go.Proofs.YtmilfamjkiemaaaGreatDoor
