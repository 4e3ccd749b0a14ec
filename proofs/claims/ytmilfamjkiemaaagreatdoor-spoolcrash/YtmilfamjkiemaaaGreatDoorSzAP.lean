/-
  Layer 6: change, fill; Write, Append, Rename, Remove.
-/
import Derived.Test.YtmilfamjkiemaaaGreatDoorSzAO
namespace Go.Proofs.YtmilfamjkiemaaaGreatDoor
open Go.RowKit

namespace Dsk
def change (d : Dk) (o : Dop) : Dk × Int := if (read d o.n).2 = 0 then operate d o else (d, (read d o.n).2)
def fill (d : Dk) (o : Dop) : Dk × Int := if d.down = true then (d, 9) else if isName o.n = true then (if (used (files (note d o)) : Int) > d.cap then (d, 8) else operate d o) else (d, 11)
def write (d : Dk) (n x : ByteArray) : Dk × Int := fill d ⟨1, n, ByteArray.empty, x⟩
def append (d : Dk) (n x : ByteArray) : Dk × Int := fill d ⟨2, n, ByteArray.empty, x⟩
def rename (d : Dk) (n t : ByteArray) : Dk × Int := if d.down = true then (d, 9) else if isName t = true then change d ⟨3, n, t, ByteArray.empty⟩ else (d, 11)
def remove (d : Dk) (n : ByteArray) : Dk × Int := change d ⟨4, n, ByteArray.empty, ByteArray.empty⟩
theorem Ok.ops {d : Dk} (h : Ok d) : d.ops.length ≤ 1000000000 := by have := h.wt; have := len_wt d.ops; omega
theorem Ok.note {d : Dk} (h : Ok d) (o : Dop) (hw : used d.safe + Dsk.wt d.ops + o.d.size + 16 ≤ 10000000000) : Ok (Dsk.note d o) :=
  ⟨h.srt, by show used d.safe + Dsk.wt (d.ops ++ [o]) ≤ _; rw [wt_append, Dsk.wt, Dsk.wt]; omega, h.fuse, h.fuse'⟩
end Dsk

/-- the same, the disk's value written out -/
def DEx (w : World) (r : Dsk.Dk × Int) (e : Ending) (w' : World) : Prop := ∃ sa' sn' sc' oa' on' oc' cp' fs' dn', e = .returned (.tuple #[.agg #[.slice sa' sn' sc', .slice oa' on' oc', .int .i64 cp', .int .i64 fs', .bool dn'], .int .i64 r.2]) ∧ DAt w' (.agg #[.slice sa' sn' sc', .slice oa' on' oc', .int .i64 cp', .int .i64 fs', .bool dn']) r.1 ∧ Below w.heap.size w w'
theorem DPost.ex {w w' : World} {r : Dsk.Dk × Int} {e : Ending} (h : DPost w r e w') : DEx w r e w' := by
  obtain ⟨v, h1, h2, h3⟩ := h
  obtain ⟨sa, sc, oa, oc, h4⟩ := h2.form
  exact ⟨sa, _, sc, oa, _, oc, _, _, _, by rw [h1, h4], by rw [h4] at h2; exact h2, h3⟩
theorem DEx.chain {w W w' : World} {r : Dsk.Dk × Int} {e : Ending} (h : DEx W r e w') (hb : Below w.heap.size w W) : DEx w r e w' := by
  obtain ⟨sa', sn', sc', oa', on', oc', cp', fs', dn', h1, h2, h3⟩ := h
  exact ⟨sa', sn', sc', oa', on', oc', cp', fs', dn', h1, h2, Rg.chain hb h3⟩

set_option maxHeartbeats 1000000 in
set_option maxRecDepth 100000 in
theorem change_any (v : Value) (d : Dsk.Dk) (o : Dsk.Dop) (w : World) (hd : Dsk.Ok d) (h : DAt w v d) :
    Calls Tryz.prog 70 #[v, .agg #[.int .i64 o.k, .string o.n, .string o.t, .string o.d]] w fun e w' => DPost w (Dsk.change d o) e w' := by
  have HR : Hid (∀ W, Below w.heap.size w W → Calls Tryz.prog 85 #[v, .string o.n] W fun e w' => e = .returned (.tuple #[.string (Dsk.read d o.n).1, .int .i64 (Dsk.read d o.n).2]) ∧ Below W.heap.size W w') := fun W hW => read_any v d o.n W hd (h.below hW)
  have HO : Hid (∀ W, Below w.heap.size w W → Calls Tryz.prog 109 #[v, .agg #[.int .i64 o.k, .string o.n, .string o.t, .string o.d]] W fun e w' => DEx W (Dsk.operate d o) e w') := fun W hW => (operate_any v d o W hd.ops hd.fuse hd.fuse' (h.below hW)).mono fun e w' q => q.ex
  have hD : Hid (∀ W, Below w.heap.size w W → DAt W v d) := fun W hW => h.below hW
  have hch : Hid (Dsk.change d o = if (Dsk.read d o.n).2 = 0 then Dsk.operate d o else (d, (Dsk.read d o.n).2)) := rfl
  obtain ⟨sa, sc, oa, oc, rfl, hS, hO, hsc, hoc⟩ := h
  generalize Dsk.change d o = r at *
  generalize Dsk.operate d o = r1 at *
  generalize (Dsk.read d o.n).1 = rs at *
  generalize (Dsk.read d o.n).2 = re at *
  obtain ⟨safe, ops, cap, fuse, down⟩ := d
  obtain ⟨k, n, t, x⟩ := o
  dsimp only at *
  clear hS hO
  unfold dval at *
  generalize safe.length = SN at *
  generalize ops.length = ON at *
  by_cases hz : re = 0
  · rw [if_pos hz] at hch
    have hch' := hch.out
    subst hch'
    subst hz
    clear hch
    go_enter Tryz.func70, Tryz.ntmps70
    go_wp2_with (go_at_call 85; refine (HR.out _ (Rg.al3 _ _ _ _)).mono ?_)
    rintro e w1 ⟨rfl, hb⟩
    have kD : Rg.Bk (w.heap.size) [.slice sa SN sc, .slice oa ON oc, .int .i64 cap, .int .i64 fuse, .bool down] 28 w1 := Rg.Bk.below (((Rg.Bk.new rfl).old _).old _) hb (by simp; omega)
    have kO : Rg.Bk (w.heap.size + 1) [.int .i64 k, .string n, .string t, .string x] 87 w1 := Rg.Bk.below ((Rg.Bk.new (by simp)).old _) hb (by simp)
    have kR' := Rg.hid (show Rg.Bk (w.heap.size + 1 + 1) [.slice none 0 0, .slice none 0 0, .int .i64 0, .int .i64 0, .bool false] 28 w1 from Rg.Bk.below (Rg.Bk.new (by simp)) hb (by simp))
    have hbw : Below w.heap.size w w1 := Rg.chain (Rg.al3 _ _ _ _) hb
    have b0 : w1.cell? ⟨w.heap.size, 0, none⟩ = some (.slice sa SN sc) := kD.cell 0
    have b1 : w1.cell? ⟨w.heap.size, 1, none⟩ = some (.slice oa ON oc) := kD.cell 1
    have b2 : w1.cell? ⟨w.heap.size, 2, none⟩ = some (.int .i64 cap) := kD.cell 2
    have b3 : w1.cell? ⟨w.heap.size, 3, none⟩ = some (.int .i64 fuse) := kD.cell 3
    have b4 : w1.cell? ⟨w.heap.size, 4, none⟩ = some (.bool down) := kD.cell 4
    have o0 : w1.cell? ⟨w.heap.size + 1, 0, none⟩ = some (.int .i64 k) := kO.cell 0
    have o1 : w1.cell? ⟨w.heap.size + 1, 1, none⟩ = some (.string n) := kO.cell 1
    have o2 : w1.cell? ⟨w.heap.size + 1, 2, none⟩ = some (.string t) := kO.cell 2
    have o3 : w1.cell? ⟨w.heap.size + 1, 3, none⟩ = some (.string x) := kO.cell 3
    clear kD kO hb HR hD
    go_wp2_with (go_at_call 109; refine (HO.out _ hbw).mono ?_)
    rintro e w2 ⟨sa', sn', sc', oa', on', oc', cp', fs', dn', rfl, hD, hb2⟩
    have kR := kR'.out.below hb2 kR'.out.lt
    have hbw2 := Rg.chain hbw hb2
    clear hb2 hbw kR' b0 b1 b2 b3 b4 o0 o1 o2 o3 HO
    obtain ⟨kE, oE⟩ := Rg.ret5 kR rfl (.slice sa' sn' sc') (.slice oa' on' oc') (.int .i64 cp') (.int .i64 fs') (.bool dn')
    replace kE := Rg.hid kE
    have post := Rg.hid ((⟨_, rfl, DAt.only hD kR plainZ oE, hbw2.trans (oE.bel (by omega))⟩ : DPost w r _ _))
    have r0 := kR.cell 0
    have r1 := kR.cell 1
    have r2 := kR.cell 2
    have r3 := kR.cell 3
    have r4 := kR.cell 4
    simp only [List.getElem?_cons_zero, List.getElem?_cons_succ] at r0 r1 r2 r3 r4
    have rf := kR.thaw
    clear oE kR
    go_wp2
    replace kE := kE.out
    replace post := post.out
    generalize World.setCell _ _ _ = WE at *
    exact bodyPost_ret (v := .tuple #[.agg #[.slice sa' sn' sc', .slice oa' on' oc', .int .i64 cp', .int .i64 fs', .bool dn'], .int .i64 r.2]) (by simp [results, Tryz.results70, go_sem, kE.cell]) rfl post
  · rw [if_neg hz] at hch
    have hch' := hch.out
    subst hch'
    have dz : (re == 0) = false := by simp [hz]
    have dz' : (re != 0) = true := by simp [hz]
    clear hch HO
    go_enter Tryz.func70, Tryz.ntmps70
    go_wp2_with (go_at_call 85; refine (HR.out _ (Rg.al3 _ _ _ _)).mono ?_)
    rintro e w1 ⟨rfl, hb⟩
    have kD : Rg.Bk (w.heap.size) [.slice sa SN sc, .slice oa ON oc, .int .i64 cap, .int .i64 fuse, .bool down] 28 w1 := Rg.Bk.below (((Rg.Bk.new rfl).old _).old _) hb (by simp; omega)
    have kR : Rg.Bk (w.heap.size + 1 + 1) [.slice none 0 0, .slice none 0 0, .int .i64 0, .int .i64 0, .bool false] 28 w1 := Rg.Bk.below (Rg.Bk.new (by simp)) hb (by simp)
    have hbw : Below w.heap.size w w1 := Rg.chain (Rg.al3 _ _ _ _) hb
    have hD1 := hD.out w1 hbw
    have b0 : w1.cell? ⟨w.heap.size, 0, none⟩ = some (.slice sa SN sc) := kD.cell 0
    have b1 : w1.cell? ⟨w.heap.size, 1, none⟩ = some (.slice oa ON oc) := kD.cell 1
    have b2 : w1.cell? ⟨w.heap.size, 2, none⟩ = some (.int .i64 cap) := kD.cell 2
    have b3 : w1.cell? ⟨w.heap.size, 3, none⟩ = some (.int .i64 fuse) := kD.cell 3
    have b4 : w1.cell? ⟨w.heap.size, 4, none⟩ = some (.bool down) := kD.cell 4
    clear kD hb HR hD
    obtain ⟨kE, oE⟩ := Rg.ret5 kR rfl (.slice sa SN sc) (.slice oa ON oc) (.int .i64 cap) (.int .i64 fuse) (.bool down)
    replace kE := Rg.hid kE
    have post := Rg.hid ((⟨_, rfl, DAt.only hD1 kR plainZ oE, hbw.trans (oE.bel (by omega))⟩ : DPost w (_, re) _ _))
    have r0 := kR.cell 0
    have r1 := kR.cell 1
    have r2 := kR.cell 2
    have r3 := kR.cell 3
    have r4 := kR.cell 4
    simp only [List.getElem?_cons_zero, List.getElem?_cons_succ] at r0 r1 r2 r3 r4
    have rf := kR.thaw
    clear oE kR
    go_wp2
    replace kE := kE.out
    replace post := post.out
    generalize World.setCell _ _ _ = WE at *
    exact bodyPost_ret (v := .tuple #[.agg #[.slice sa SN sc, .slice oa ON oc, .int .i64 cap, .int .i64 fuse, .bool down], .int .i64 re]) (by simp [results, Tryz.results70, go_sem, kE.cell]) rfl post


set_option maxHeartbeats 1000000 in
set_option maxRecDepth 100000 in
theorem remove_any (v : Value) (d : Dsk.Dk) (n : ByteArray) (w : World) (hd : Dsk.Ok d) (h : DAt w v d) :
    Calls Tryz.prog 35 #[v, .string n] w fun e w' => DPost w (Dsk.remove d n) e w' := by
  have HC : Hid (∀ W, Below w.heap.size w W → Calls Tryz.prog 70 #[v, .agg #[.int .i64 4, .string n, .string ByteArray.empty, .string ByteArray.empty]] W fun e w' => DEx W (Dsk.remove d n) e w') := fun W hW => (change_any v d ⟨4, n, ByteArray.empty, ByteArray.empty⟩ W hd (h.below hW)).mono fun e w' q => q.ex
  obtain ⟨sa, sc, oa, oc, rfl, hS, hO, hsc, hoc⟩ := h
  generalize Dsk.remove d n = r at *
  obtain ⟨safe, ops, cap, fuse, down⟩ := d
  dsimp only at *
  clear hS hO
  unfold dval at *
  generalize safe.length = SN at *
  generalize ops.length = ON at *
  go_enter Tryz.func35, Tryz.ntmps35
  go_wp2_with (go_at_call 70; refine (HC.out _ (Rg.al2 _ _ _)).mono ?_)
  rintro e w1 ⟨sa', sn', sc', oa', on', oc', cp', fs', dn', rfl, hD, hb⟩
  have kR : Rg.Bk (w.heap.size + 1) [.slice none 0 0, .slice none 0 0, .int .i64 0, .int .i64 0, .bool false] 28 w1 := Rg.Bk.below (Rg.Bk.new (by simp)) hb (by simp)
  have hbw : Below w.heap.size w w1 := Rg.chain (Rg.al2 _ _ _) hb
  clear hb HC
  obtain ⟨kE, oE⟩ := Rg.ret5 kR rfl (.slice sa' sn' sc') (.slice oa' on' oc') (.int .i64 cp') (.int .i64 fs') (.bool dn')
  replace kE := Rg.hid kE
  have post := Rg.hid ((⟨_, rfl, DAt.only hD kR plainZ oE, hbw.trans (oE.bel (by omega))⟩ : DPost w r _ _))
  have r0 := kR.cell 0
  have r1 := kR.cell 1
  have r2 := kR.cell 2
  have r3 := kR.cell 3
  have r4 := kR.cell 4
  simp only [List.getElem?_cons_zero, List.getElem?_cons_succ] at r0 r1 r2 r3 r4
  have rf := kR.thaw
  clear oE kR
  go_wp2
  replace kE := kE.out
  replace post := post.out
  generalize World.setCell _ _ _ = WE at *
  exact bodyPost_ret (v := .tuple #[.agg #[.slice sa' sn' sc', .slice oa' on' oc', .int .i64 cp', .int .i64 fs', .bool dn'], .int .i64 r.2]) (by simp [results, Tryz.results35, go_sem, kE.cell]) rfl post
end Go.Proofs.YtmilfamjkiemaaaGreatDoor
