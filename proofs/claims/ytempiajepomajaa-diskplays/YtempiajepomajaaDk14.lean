/-
  Layer 6: Sync, Crash.
-/
import Derived.Test.YtempiajepomajaaDk13
import Derived.Deep.DeepCutAuto
namespace Go.Proofs.Ytempiajepomajaa
open Go.RowKit

/-- a disk that is handed back, its value written out -/
def NEx (w : World) (d : Dsk.Dk) (e : Ending) (w' : World) : Prop := ∃ sa' sn' sc' oa' on' oc' cp' fs' dn', e = .returned (.agg #[.slice sa' sn' sc', .slice oa' on' oc', .int .i64 cp', .int .i64 fs', .bool dn']) ∧ DAt w' (.agg #[.slice sa' sn' sc', .slice oa' on' oc', .int .i64 cp', .int .i64 fs', .bool dn']) d ∧ Below w.heap.size w w'
theorem NotePost.ex {w w' : World} {d : Dsk.Dk} {e : Ending} (h : NotePost w d e w') : NEx w d e w' := by
  obtain ⟨v, h1, h2, h3⟩ := h
  obtain ⟨sa, sc, oa, oc, h4⟩ := h2.form
  exact ⟨sa, _, sc, oa, _, oc, _, _, _, by rw [h1, h4], by rw [h4] at h2; exact h2, h3⟩
/-- a value that is handed back -/
def VPost (r : Value) (w : World) (e : Ending) (w' : World) : Prop := e = .returned r ∧ Below w.heap.size w w'
theorem DAt.look {W : World} {sa oa : Option Addr} {sn sc on oc : Nat} {cp fs : Int} {dn : Bool} {d : Dsk.Dk} (h : DAt W (.agg #[.slice sa sn sc, .slice oa on oc, .int .i64 cp, .int .i64 fs, .bool dn]) d) : sn = d.safe.length ∧ on = d.ops.length ∧ cp = d.cap ∧ fs = d.fuse ∧ dn = d.down ∧ fileE.Row W sa d.safe ∧ opE.Row W oa d.ops ∧ d.safe.length ≤ sc ∧ d.ops.length ≤ oc := by
  obtain ⟨sa', sc', oa', oc', h1, h2, h3, h4, h5⟩ := h
  unfold dval at h1
  injection h1 with h1
  have e0 := congrArg (fun a => a[0]?) h1
  have e1 := congrArg (fun a => a[1]?) h1
  have e2 := congrArg (fun a => a[2]?) h1
  have e3 := congrArg (fun a => a[3]?) h1
  have e4 := congrArg (fun a => a[4]?) h1
  simp at e0 e1 e2 e3 e4
  obtain ⟨rfl, rfl, rfl⟩ := e0
  obtain ⟨rfl, rfl, rfl⟩ := e1
  exact ⟨rfl, rfl, e2, e3, e4, h2, h3, h4, h5⟩

set_option maxHeartbeats 1000000 in
set_option maxRecDepth 100000 in
theorem sync_any (v : Value) (d : Dsk.Dk) (w : World) (hd : Dsk.Ok d) (h : DAt w v d) :
    Calls Try.prog 27 #[v] w fun e w' => DPost w (Dsk.sync d) e w' := by
  have hD : Hid (∀ W, Below w.heap.size w W → DAt W v d) := fun W hW => h.below hW
  have hch : Hid (Dsk.sync d = if d.down = true then (d, 9) else if d.fuse = 0 then ({ d with down := true }, 9) else (Dsk.settle (Dsk.burn d) d.ops.length, 0)) := rfl
  obtain ⟨sa, sc, oa, oc, rfl, hS, hO, hsc, hoc⟩ := h
  generalize Dsk.sync d = r at *
  obtain ⟨safe, ops, cap, fuse, down⟩ := d
  dsimp only at *
  cases down
  case true =>
    rw [if_pos rfl] at hch
    have hch' := hch.out
    subst hch'
    clear hS hO
    unfold dval at *
    generalize safe.length = SN at *
    generalize ops.length = ON at *
    have hE := Rg.hid (hD.out _ (Rg.al2 w (.cells #[.slice sa SN sc, .slice oa ON oc, .int .i64 cap, .int .i64 fuse, .bool true] 28) (.cells #[.slice sa SN sc, .slice oa ON oc, .int .i64 cap, .int .i64 fuse, .bool true] 28)))
    go_enter Try.func27, Try.ntmps27
    go_wp2
    exact bodyPost_ret (v := .tuple #[.agg #[.slice sa SN sc, .slice oa ON oc, .int .i64 cap, .int .i64 fuse, .bool true], .int .i64 9]) (by simp [results, Try.results27, go_sem]) rfl (DPost.mk' hE.out (Rg.al2 _ _ _))
  case false =>
    rw [if_neg (by simp)] at hch
    by_cases hz : fuse = 0
    · subst hz
      rw [if_pos rfl] at hch
      have hch' := hch.out
      subst hch'
      have HS : Hid (∀ W, Calls Try.prog 51 #[.agg #[.slice sa safe.length sc, .slice oa ops.length oc, .int .i64 cap, .int .i64 0, .bool false]] W fun e w' => VPost (.tuple #[.agg #[.slice sa safe.length sc, .slice oa ops.length oc, .int .i64 cap, .int .i64 0, .bool true], .int .i64 9]) W e w') := fun W => (spend_any sa safe.length sc oa ops.length oc cap 0 false W (by omega) (by omega)).mono fun e w' ⟨h1, h2⟩ => ⟨by rw [h1]; simp, h2⟩
      have hfin : Hid (∀ W, Below w.heap.size w W → DAt W (.agg #[.slice sa safe.length sc, .slice oa ops.length oc, .int .i64 cap, .int .i64 0, .bool true]) ⟨safe, ops, cap, 0, true⟩) := fun W hW => ⟨sa, sc, oa, oc, rfl, hS.below hW, hO.below hW, hsc, hoc⟩
      clear hD hS hO hd
      unfold dval
      generalize safe.length = SN at *
      generalize ops.length = ON at *
      go_enter Try.func27, Try.ntmps27
      go_wp2_with (go_at_call 51; refine (HS.out _).mono ?_)
      rintro e w1 ⟨rfl, hb⟩
      have kR : Rg.Bk (w.heap.size + 1) [.slice none 0 0, .slice none 0 0, .int .i64 0, .int .i64 0, .bool false] 28 w1 := Rg.Bk.below (Rg.Bk.new (by simp)) hb (by simp)
      have hbw : Below w.heap.size w w1 := Rg.chain (Rg.al2 _ _ _) hb
      have hz1 : w.heap.size + 1 < w1.heap.size := kR.lt
      clear HS hb
      obtain ⟨kE, oE⟩ := Rg.ret5 kR rfl (.slice sa SN sc) (.slice oa ON oc) (.int .i64 cap) (.int .i64 0) (.bool true)
      replace kE := Rg.hid kE
      have post := Rg.hid (DPost.mk' (x := 9) (DAt.below (DAt.only (hfin.out _ hbw) kR plainZ oE) (Rg.al1 _ (.cells #[.slice sa SN sc, .slice oa ON oc, .int .i64 cap, .int .i64 0, .bool true] 28))) (Rg.chain (hbw.trans (oE.bel (by omega))) (Rg.al1 _ _)))
      have r0 := kR.cell 0
      have r1 := kR.cell 1
      have r2 := kR.cell 2
      have r3 := kR.cell 3
      have r4 := kR.cell 4
      simp only [List.getElem?_cons_zero, List.getElem?_cons_succ] at r0 r1 r2 r3 r4
      have rf := kR.thaw
      clear oE kR
      go_wp2
      replace kE := kE.out
      replace post := post.out
      generalize World.setCell _ _ _ = WE at *
      have kE2 := kE.old (.cells #[.slice sa SN sc, .slice oa ON oc, .int .i64 cap, .int .i64 0, .bool true] 28)
      generalize World.alloc WE _ = WF at *
      exact bodyPost_ret (v := .tuple #[.agg #[.slice sa SN sc, .slice oa ON oc, .int .i64 cap, .int .i64 0, .bool true], .int .i64 9]) (by simp [results, Try.results27, go_sem, kE2.cell]) rfl post
    · rw [if_neg hz, Dsk.burn_eq] at hch
      have hch' := hch.out
      subst hch'
      obtain ⟨fz, hfz⟩ : ∃ fz, fz = if fuse > 0 then fuse - 1 else fuse := ⟨_, rfl⟩
      have hf := hd.fuse
      have hf' := hd.fuse'
      dsimp only at hf hf'
      have hdz : Dsk.Ok ⟨safe, ops, cap, fz, false⟩ := ⟨hd.srt, hd.wt, by show -1 ≤ fz; rw [hfz]; split <;> omega, by show fz ≤ _; rw [hfz]; split <;> omega⟩
      have HS : Hid (∀ W, Calls Try.prog 51 #[.agg #[.slice sa safe.length sc, .slice oa ops.length oc, .int .i64 cap, .int .i64 fuse, .bool false]] W fun e w' => VPost (.tuple #[.agg #[.slice sa safe.length sc, .slice oa ops.length oc, .int .i64 cap, .int .i64 fz, .bool false], .int .i64 0]) W e w') := fun W => (spend_any sa safe.length sc oa ops.length oc cap fuse false W hf hf').mono fun e w' ⟨h1, h2⟩ => ⟨by rw [h1, hfz, if_neg hz]; simp [hz], h2⟩
      rw [show ({ safe := safe, ops := ops, cap := cap, fuse := if fuse > 0 then fuse - 1 else fuse, down := false } : Dsk.Dk) = ⟨safe, ops, cap, fz, false⟩ by rw [hfz]]
      have HT : Hid (∀ W, Below w.heap.size w W → Calls Try.prog 48 #[.agg #[.slice sa safe.length sc, .slice oa ops.length oc, .int .i64 cap, .int .i64 fz, .bool false], .int .i64 ops.length] W fun e w' => NEx W (Dsk.settle ⟨safe, ops, cap, fz, false⟩ ops.length) e w') := fun W hW => (settle_any _ ⟨safe, ops, cap, fz, false⟩ ops.length (Nat.le_refl _) W hdz ⟨sa, sc, oa, oc, rfl, hS.below hW, hO.below hW, hsc, hoc⟩).mono fun e w' q => q.ex
      generalize Dsk.settle ⟨safe, ops, cap, fz, false⟩ ops.length = d' at *
      clear hD hS hO hd hdz hf hf' hfz hch
      unfold dval
      generalize safe.length = SN at *
      generalize ops.length = ON at *
      go_enter Try.func27, Try.ntmps27
      go_wp2_with (go_at_call 51; refine (HS.out _).mono ?_)
      rintro e w1 ⟨rfl, hb⟩
      have kR' := Rg.hid (show Rg.Bk (w.heap.size + 1) [.slice none 0 0, .slice none 0 0, .int .i64 0, .int .i64 0, .bool false] 28 w1 from Rg.Bk.below (Rg.Bk.new (by simp)) hb (by simp))
      have hbw : Below w.heap.size w w1 := Rg.chain (Rg.al2 _ _ _) hb
      clear HS hb
      go_wp2_with (go_at_call 48; refine (HT.out _ (Rg.chain hbw (Rg.al1 _ _))).mono ?_)
      rintro e w2 ⟨sa', sn', sc', oa', on', oc', cp', fs', dn', rfl, hD, hb2⟩
      have kR := (kR'.out.old (.cells #[.slice sa SN sc, .slice oa ON oc, .int .i64 cap, .int .i64 fz, .bool false] 28)).below hb2 (by have := kR'.out.lt; simp; omega)
      have hbw2 : Below w.heap.size w w2 := Rg.chain (Rg.chain hbw (Rg.al1 _ _)) hb2
      clear HT hb2 hbw kR'
      obtain ⟨kE, oE⟩ := Rg.ret5 kR rfl (.slice sa' sn' sc') (.slice oa' on' oc') (.int .i64 cp') (.int .i64 fs') (.bool dn')
      replace kE := Rg.hid kE
      have post := Rg.hid (DPost.mk' (x := 0) (DAt.only hD kR plainZ oE) (hbw2.trans (oE.bel (by omega))))
      have r0 := kR.cell 0
      have r1 := kR.cell 1
      have r2 := kR.cell 2
      have r3 := kR.cell 3
      have r4 := kR.cell 4
      simp only [List.getElem?_cons_zero, List.getElem?_cons_succ] at r0 r1 r2 r3 r4
      have rf := kR.thaw
      clear oE kR
      go_wp2
      replace kE := kE.out
      replace post := post.out
      generalize World.setCell _ _ _ = WE at *
      exact bodyPost_ret (v := .tuple #[.agg #[.slice sa' sn' sc', .slice oa' on' oc', .int .i64 cp', .int .i64 fs', .bool dn'], .int .i64 0]) (by simp [results, Try.results27, go_sem, kE.cell]) rfl post


set_option maxHeartbeats 1000000 in
set_option maxRecDepth 100000 in
theorem crash_any (v : Value) (d : Dsk.Dk) (n : Int) (w : World) (hd : Dsk.Ok d) (h : DAt w v d) :
    Calls Try.prog 22 #[v, .int .i64 n] w fun e w' => NotePost w (Dsk.crash d n) e w' := by
  obtain ⟨m, hm⟩ : ∃ m, m = Dsk.keep n d.ops.length := ⟨_, rfl⟩
  have hme := Dsk.keep_eq n d.ops.length
  have hon := hd.ops
  have HT : Hid (∀ W, Below w.heap.size w W → Calls Try.prog 48 #[v, .int .i64 m] W fun e w' => NEx W (Dsk.settle d m) e w') := fun W hW => (settle_any v d m (by rw [hm]; exact Dsk.keep_le _ _) W hd (h.below hW)).mono fun e w' q => q.ex
  have hcr : Hid (Dsk.crash d n = { Dsk.settle d m with fuse := -1, down := true }) := by show _ = _; rw [hm]; rfl
  rw [← hm] at hme
  obtain ⟨sa, sc, oa, oc, rfl, hS, hO, hsc, hoc⟩ := h
  rw [hcr.out]
  generalize Dsk.settle d m = d' at *
  obtain ⟨safe, ops, cap, fuse, down⟩ := d
  dsimp only at *
  clear hcr hd hm
  clear hS hO
  unfold dval at *
  generalize safe.length = SN at *
  generalize ops.length = ON at *
  go_enter Try.func22, Try.ntmps22
  have HT2 := Rg.hid (HT.out _ (Rg.al2 w (.cells #[.slice sa SN sc, .slice oa ON oc, .int .i64 cap, .int .i64 fuse, .bool down] 28) (.cells #[.slice none 0 0, .slice none 0 0, .int .i64 0, .int .i64 0, .bool false] 28)))
  go_upto_region 2 with (go_at_call 48; refine HT2.out.mono ?_; rintro e w1 ⟨sa', sn', sc', oa', on', oc', cp', fs', dn', rfl, hD, hb⟩; have kB : Rg.Bk (w.heap.size) [.slice sa SN sc, .slice oa ON oc, .int .i64 cap, .int .i64 fuse, .bool down] 28 w1 := Rg.Bk.below ((Rg.Bk.new rfl).old _) hb (by simp; omega); have b0 := kB.cell 0; have b1 := kB.cell 1; have b2 := kB.cell 2; have b3 := kB.cell 3; have b4 := kB.cell 4; simp only [List.getElem?_cons_zero, List.getElem?_cons_succ] at b0 b1 b2 b3 b4; have bf := kB.thaw)
  have kR : Rg.Bk (w.heap.size + 1) [.slice none 0 0, .slice none 0 0, .int .i64 0, .int .i64 0, .bool false] 28 w1 := Rg.Bk.below (Rg.Bk.new (by simp)) hb (by simp)
  have hbw : Below w.heap.size w w1 := Rg.chain (Rg.al2 _ _ _) hb
  obtain ⟨kB1, oB1⟩ := Rg.ret5 kB rfl (.slice sa' sn' sc') (.slice oa' on' oc') (.int .i64 cp') (.int .i64 fs') (.bool dn')
  have kR1 := kR.same (oB1.block (w.heap.size + 1) (by omega))
  have hD1 := hD.only kB (plain5 (fun _ h => by cases h) (fun _ h => by cases h) (fun _ h => by cases h) (fun _ h => by cases h) (fun _ h => by cases h)) oB1
  have hbw1 := hbw.trans (oB1.bel (Nat.le_refl _))
  clear HT HT2 hb kB b0 b1 b2 b3 b4 bf kR hbw oB1 hD
  generalize World.setCell _ _ _ = W1 at *
  have b3 : W1.cell? ⟨w.heap.size, 3, none⟩ = some (.int .i64 fs') := kB1.cell 3
  have b4 : W1.cell? ⟨w.heap.size, 4, none⟩ = some (.bool dn') := kB1.cell 4
  have bf := kB1.thaw
  go_upto_region 3 with fail
  have kB2 := (kB1.set 3 (.int .i64 (-1))).set 4 (.bool true)
  have oB2 := (Rg.Only.setCell W1 (w.heap.size) 3 (.int .i64 (-1))).trans (Rg.Only.setCell _ (w.heap.size) 4 (.bool true))
  have kR := kR1.same (oB2.block (w.heap.size + 1) (by omega))
  have hD2 := hD1.only kB1 (plain5 (fun _ h => by cases h) (fun _ h => by cases h) (fun _ h => by cases h) (fun _ h => by cases h) (fun _ h => by cases h)) oB2
  have hbw := hbw1.trans (oB2.bel (Nat.le_refl _))
  clear kB1 kR1 hD1 hbw1 oB2 b3 b4 bf
  generalize World.setCell _ _ _ = W2 at *
  have hD3 : DAt W2 (.agg #[.slice sa' sn' sc', .slice oa' on' oc', .int .i64 cp', .int .i64 (-1), .bool true]) { d' with fuse := -1, down := true } := by
    obtain ⟨q1, q2, q3, q4, q5, q6, q7, q8, q9⟩ := hD2.look
    subst q1 q2 q3
    exact ⟨_, _, _, _, rfl, q6, q7, q8, q9⟩
  clear hD2
  have b0 : W2.cell? ⟨w.heap.size, 0, none⟩ = some (.slice sa' sn' sc') := kB2.cell 0
  have b1 : W2.cell? ⟨w.heap.size, 1, none⟩ = some (.slice oa' on' oc') := kB2.cell 1
  have b2 : W2.cell? ⟨w.heap.size, 2, none⟩ = some (.int .i64 cp') := kB2.cell 2
  have b3 : W2.cell? ⟨w.heap.size, 3, none⟩ = some (.int .i64 (-1)) := kB2.cell 3
  have b4 : W2.cell? ⟨w.heap.size, 4, none⟩ = some (.bool true) := kB2.cell 4
  clear kB2
  obtain ⟨kE, oE⟩ := Rg.ret5 kR rfl (.slice sa' sn' sc') (.slice oa' on' oc') (.int .i64 cp') (.int .i64 (-1)) (.bool true)
  replace kE := Rg.hid kE
  have post := Rg.hid ((⟨_, rfl, DAt.only hD3 kR plainZ oE, hbw.trans (oE.bel (by omega))⟩ : NotePost w _ _ _))
  have r0 := kR.cell 0
  have r1 := kR.cell 1
  have r2 := kR.cell 2
  have r3 := kR.cell 3
  have r4 := kR.cell 4
  simp only [List.getElem?_cons_zero, List.getElem?_cons_succ] at r0 r1 r2 r3 r4
  have rf := kR.thaw
  clear oE kR
  go_wp2
  replace kE := kE.out
  replace post := post.out
  generalize World.setCell _ _ _ = WE at *
  exact bodyPost_ret (v := .agg #[.slice sa' sn' sc', .slice oa' on' oc', .int .i64 cp', .int .i64 (-1), .bool true]) (by simp [results, Try.results22, go_sem, kE.cell]) rfl post
end Go.Proofs.Ytempiajepomajaa
