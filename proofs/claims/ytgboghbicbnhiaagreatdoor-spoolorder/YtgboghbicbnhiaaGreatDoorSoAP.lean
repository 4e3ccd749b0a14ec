/-
  Layer 6: change, fill; Write, Append, Rename, Remove. Layer 6: fill; Write, Append, Rename.
-/
import Derived.Test.YtgboghbicbnhiaaGreatDoorSoAO
namespace Go.Proofs.YtgboghbicbnhiaaGreatDoor
open Go.RowKit

namespace Dsk
def change (d : Dk) (o : Dop) : Dk × Int := if (read d o.n).2 = 0 then operate d o else (d, (read d o.n).2)
def fill (d : Dk) (o : Dop) : Dk × Int := if d.down = true then (d, 9) else if isName o.n = true then (if (used (files (note d o)) : Int) > d.cap then (d, 8) else operate d o) else (d, 11)
def write (d : Dk) (n x : ByteArray) : Dk × Int := fill d ⟨1, n, ByteArray.empty, x⟩
def append (d : Dk) (n x : ByteArray) : Dk × Int := fill d ⟨2, n, ByteArray.empty, x⟩
def rename (d : Dk) (n t : ByteArray) : Dk × Int := if d.down = true then (d, 9) else if isName t = true then change d ⟨3, n, t, ByteArray.empty⟩ else (d, 11)
def remove (d : Dk) (n : ByteArray) : Dk × Int := change d ⟨4, n, ByteArray.empty, ByteArray.empty⟩
theorem Ok.ops {d : Dk} (h : Ok d) : d.ops.length ≤ 1000000000 := by have := h.wt; have := len_wt d.ops; omega
theorem Ok.note {d : Dk} (h : Ok d) (o : Dop) (hw : used d.safe + Dsk.wt d.ops + o.d.size + 16 ≤ 10000000000) : Ok (Dsk.note d o) :=
  ⟨h.srt, by show used d.safe + Dsk.wt (d.ops ++ [o]) ≤ _; rw [wt_append, Dsk.wt, Dsk.wt]; omega, h.fuse, h.fuse'⟩
end Dsk

/-- the same, the disk's value written out -/
def DEx (w : World) (r : Dsk.Dk × Int) (e : Ending) (w' : World) : Prop := ∃ sa' sn' sc' oa' on' oc' cp' fs' dn', e = .returned (.tuple #[.agg #[.slice sa' sn' sc', .slice oa' on' oc', .int .i64 cp', .int .i64 fs', .bool dn'], .int .i64 r.2]) ∧ DAt w' (.agg #[.slice sa' sn' sc', .slice oa' on' oc', .int .i64 cp', .int .i64 fs', .bool dn']) r.1 ∧ Below w.heap.size w w'
theorem DPost.ex {w w' : World} {r : Dsk.Dk × Int} {e : Ending} (h : DPost w r e w') : DEx w r e w' := by
  obtain ⟨v, h1, h2, h3⟩ := h
  obtain ⟨sa, sc, oa, oc, h4⟩ := h2.form
  exact ⟨sa, _, sc, oa, _, oc, _, _, _, by rw [h1, h4], by rw [h4] at h2; exact h2, h3⟩
theorem DEx.chain {w W w' : World} {r : Dsk.Dk × Int} {e : Ending} (h : DEx W r e w') (hb : Below w.heap.size w W) : DEx w r e w' := by
  obtain ⟨sa', sn', sc', oa', on', oc', cp', fs', dn', h1, h2, h3⟩ := h
  exact ⟨sa', sn', sc', oa', on', oc', cp', fs', dn', h1, h2, Rg.chain hb h3⟩

set_option maxHeartbeats 1000000 in
set_option maxRecDepth 100000 in
theorem change_any (v : Value) (d : Dsk.Dk) (o : Dsk.Dop) (w : World) (hd : Dsk.Ok d) (h : DAt w v d) :
    Calls Tryz.prog 70 #[v, .agg #[.int .i64 o.k, .string o.n, .string o.t, .string o.d]] w fun e w' => DPost w (Dsk.change d o) e w' := by
  have HR : Hid (∀ W, Below w.heap.size w W → Calls Tryz.prog 85 #[v, .string o.n] W fun e w' => e = .returned (.tuple #[.string (Dsk.read d o.n).1, .int .i64 (Dsk.read d o.n).2]) ∧ Below W.heap.size W w') := fun W hW => read_any v d o.n W hd (h.below hW)
  have HO : Hid (∀ W, Below w.heap.size w W → Calls Tryz.prog 109 #[v, .agg #[.int .i64 o.k, .string o.n, .string o.t, .string o.d]] W fun e w' => DEx W (Dsk.operate d o) e w') := fun W hW => (operate_any v d o W hd.ops hd.fuse hd.fuse' (h.below hW)).mono fun e w' q => q.ex
  have hD : Hid (∀ W, Below w.heap.size w W → DAt W v d) := fun W hW => h.below hW
  have hch : Hid (Dsk.change d o = if (Dsk.read d o.n).2 = 0 then Dsk.operate d o else (d, (Dsk.read d o.n).2)) := rfl
  obtain ⟨sa, sc, oa, oc, rfl, hS, hO, hsc, hoc⟩ := h
  generalize Dsk.change d o = r at *
  generalize Dsk.operate d o = r1 at *
  generalize (Dsk.read d o.n).1 = rs at *
  generalize (Dsk.read d o.n).2 = re at *
  obtain ⟨safe, ops, cap, fuse, down⟩ := d
  obtain ⟨k, n, t, x⟩ := o
  dsimp only at *
  clear hS hO
  unfold dval at *
  generalize safe.length = SN at *
  generalize ops.length = ON at *
  by_cases hz : re = 0
  · rw [if_pos hz] at hch
    have hch' := hch.out
    subst hch'
    subst hz
    clear hch
    go_enter Tryz.func70, Tryz.ntmps70
    go_wp2_with (go_at_call 85; refine (HR.out _ (Rg.al3 _ _ _ _)).mono ?_)
    rintro e w1 ⟨rfl, hb⟩
    have kD : Rg.Bk (w.heap.size) [.slice sa SN sc, .slice oa ON oc, .int .i64 cap, .int .i64 fuse, .bool down] 28 w1 := Rg.Bk.below (((Rg.Bk.new rfl).old _).old _) hb (by simp; omega)
    have kO : Rg.Bk (w.heap.size + 1) [.int .i64 k, .string n, .string t, .string x] 87 w1 := Rg.Bk.below ((Rg.Bk.new (by simp)).old _) hb (by simp)
    have kR' := Rg.hid (show Rg.Bk (w.heap.size + 1 + 1) [.slice none 0 0, .slice none 0 0, .int .i64 0, .int .i64 0, .bool false] 28 w1 from Rg.Bk.below (Rg.Bk.new (by simp)) hb (by simp))
    have hbw : Below w.heap.size w w1 := Rg.chain (Rg.al3 _ _ _ _) hb
    have b0 : w1.cell? ⟨w.heap.size, 0, none⟩ = some (.slice sa SN sc) := kD.cell 0
    have b1 : w1.cell? ⟨w.heap.size, 1, none⟩ = some (.slice oa ON oc) := kD.cell 1
    have b2 : w1.cell? ⟨w.heap.size, 2, none⟩ = some (.int .i64 cap) := kD.cell 2
    have b3 : w1.cell? ⟨w.heap.size, 3, none⟩ = some (.int .i64 fuse) := kD.cell 3
    have b4 : w1.cell? ⟨w.heap.size, 4, none⟩ = some (.bool down) := kD.cell 4
    have o0 : w1.cell? ⟨w.heap.size + 1, 0, none⟩ = some (.int .i64 k) := kO.cell 0
    have o1 : w1.cell? ⟨w.heap.size + 1, 1, none⟩ = some (.string n) := kO.cell 1
    have o2 : w1.cell? ⟨w.heap.size + 1, 2, none⟩ = some (.string t) := kO.cell 2
    have o3 : w1.cell? ⟨w.heap.size + 1, 3, none⟩ = some (.string x) := kO.cell 3
    clear kD kO hb HR hD
    go_wp2_with (go_at_call 109; refine (HO.out _ hbw).mono ?_)
    rintro e w2 ⟨sa', sn', sc', oa', on', oc', cp', fs', dn', rfl, hD, hb2⟩
    have kR := kR'.out.below hb2 kR'.out.lt
    have hbw2 := Rg.chain hbw hb2
    clear hb2 hbw kR' b0 b1 b2 b3 b4 o0 o1 o2 o3 HO
    obtain ⟨kE, oE⟩ := Rg.ret5 kR rfl (.slice sa' sn' sc') (.slice oa' on' oc') (.int .i64 cp') (.int .i64 fs') (.bool dn')
    replace kE := Rg.hid kE
    have post := Rg.hid ((⟨_, rfl, DAt.only hD kR plainZ oE, hbw2.trans (oE.bel (by omega))⟩ : DPost w r _ _))
    have r0 := kR.cell 0
    have r1 := kR.cell 1
    have r2 := kR.cell 2
    have r3 := kR.cell 3
    have r4 := kR.cell 4
    simp only [List.getElem?_cons_zero, List.getElem?_cons_succ] at r0 r1 r2 r3 r4
    have rf := kR.thaw
    clear oE kR
    go_wp2
    replace kE := kE.out
    replace post := post.out
    generalize World.setCell _ _ _ = WE at *
    exact bodyPost_ret (v := .tuple #[.agg #[.slice sa' sn' sc', .slice oa' on' oc', .int .i64 cp', .int .i64 fs', .bool dn'], .int .i64 r.2]) (by simp [results, Tryz.results70, go_sem, kE.cell]) rfl post
  · rw [if_neg hz] at hch
    have hch' := hch.out
    subst hch'
    have dz : (re == 0) = false := by simp [hz]
    have dz' : (re != 0) = true := by simp [hz]
    clear hch HO
    go_enter Tryz.func70, Tryz.ntmps70
    go_wp2_with (go_at_call 85; refine (HR.out _ (Rg.al3 _ _ _ _)).mono ?_)
    rintro e w1 ⟨rfl, hb⟩
    have kD : Rg.Bk (w.heap.size) [.slice sa SN sc, .slice oa ON oc, .int .i64 cap, .int .i64 fuse, .bool down] 28 w1 := Rg.Bk.below (((Rg.Bk.new rfl).old _).old _) hb (by simp; omega)
    have kR : Rg.Bk (w.heap.size + 1 + 1) [.slice none 0 0, .slice none 0 0, .int .i64 0, .int .i64 0, .bool false] 28 w1 := Rg.Bk.below (Rg.Bk.new (by simp)) hb (by simp)
    have hbw : Below w.heap.size w w1 := Rg.chain (Rg.al3 _ _ _ _) hb
    have hD1 := hD.out w1 hbw
    have b0 : w1.cell? ⟨w.heap.size, 0, none⟩ = some (.slice sa SN sc) := kD.cell 0
    have b1 : w1.cell? ⟨w.heap.size, 1, none⟩ = some (.slice oa ON oc) := kD.cell 1
    have b2 : w1.cell? ⟨w.heap.size, 2, none⟩ = some (.int .i64 cap) := kD.cell 2
    have b3 : w1.cell? ⟨w.heap.size, 3, none⟩ = some (.int .i64 fuse) := kD.cell 3
    have b4 : w1.cell? ⟨w.heap.size, 4, none⟩ = some (.bool down) := kD.cell 4
    clear kD hb HR hD
    obtain ⟨kE, oE⟩ := Rg.ret5 kR rfl (.slice sa SN sc) (.slice oa ON oc) (.int .i64 cap) (.int .i64 fuse) (.bool down)
    replace kE := Rg.hid kE
    have post := Rg.hid ((⟨_, rfl, DAt.only hD1 kR plainZ oE, hbw.trans (oE.bel (by omega))⟩ : DPost w (_, re) _ _))
    have r0 := kR.cell 0
    have r1 := kR.cell 1
    have r2 := kR.cell 2
    have r3 := kR.cell 3
    have r4 := kR.cell 4
    simp only [List.getElem?_cons_zero, List.getElem?_cons_succ] at r0 r1 r2 r3 r4
    have rf := kR.thaw
    clear oE kR
    go_wp2
    replace kE := kE.out
    replace post := post.out
    generalize World.setCell _ _ _ = WE at *
    exact bodyPost_ret (v := .tuple #[.agg #[.slice sa SN sc, .slice oa ON oc, .int .i64 cap, .int .i64 fuse, .bool down], .int .i64 re]) (by simp [results, Tryz.results70, go_sem, kE.cell]) rfl post


set_option maxHeartbeats 1000000 in
set_option maxRecDepth 100000 in
theorem remove_any (v : Value) (d : Dsk.Dk) (n : ByteArray) (w : World) (hd : Dsk.Ok d) (h : DAt w v d) :
    Calls Tryz.prog 35 #[v, .string n] w fun e w' => DPost w (Dsk.remove d n) e w' := by
  have HC : Hid (∀ W, Below w.heap.size w W → Calls Tryz.prog 70 #[v, .agg #[.int .i64 4, .string n, .string ByteArray.empty, .string ByteArray.empty]] W fun e w' => DEx W (Dsk.remove d n) e w') := fun W hW => (change_any v d ⟨4, n, ByteArray.empty, ByteArray.empty⟩ W hd (h.below hW)).mono fun e w' q => q.ex
  obtain ⟨sa, sc, oa, oc, rfl, hS, hO, hsc, hoc⟩ := h
  generalize Dsk.remove d n = r at *
  obtain ⟨safe, ops, cap, fuse, down⟩ := d
  dsimp only at *
  clear hS hO
  unfold dval at *
  generalize safe.length = SN at *
  generalize ops.length = ON at *
  go_enter Tryz.func35, Tryz.ntmps35
  go_wp2_with (go_at_call 70; refine (HC.out _ (Rg.al2 _ _ _)).mono ?_)
  rintro e w1 ⟨sa', sn', sc', oa', on', oc', cp', fs', dn', rfl, hD, hb⟩
  have kR : Rg.Bk (w.heap.size + 1) [.slice none 0 0, .slice none 0 0, .int .i64 0, .int .i64 0, .bool false] 28 w1 := Rg.Bk.below (Rg.Bk.new (by simp)) hb (by simp)
  have hbw : Below w.heap.size w w1 := Rg.chain (Rg.al2 _ _ _) hb
  clear hb HC
  obtain ⟨kE, oE⟩ := Rg.ret5 kR rfl (.slice sa' sn' sc') (.slice oa' on' oc') (.int .i64 cp') (.int .i64 fs') (.bool dn')
  replace kE := Rg.hid kE
  have post := Rg.hid ((⟨_, rfl, DAt.only hD kR plainZ oE, hbw.trans (oE.bel (by omega))⟩ : DPost w r _ _))
  have r0 := kR.cell 0
  have r1 := kR.cell 1
  have r2 := kR.cell 2
  have r3 := kR.cell 3
  have r4 := kR.cell 4
  simp only [List.getElem?_cons_zero, List.getElem?_cons_succ] at r0 r1 r2 r3 r4
  have rf := kR.thaw
  clear oE kR
  go_wp2
  replace kE := kE.out
  replace post := post.out
  generalize World.setCell _ _ _ = WE at *
  exact bodyPost_ret (v := .tuple #[.agg #[.slice sa' sn' sc', .slice oa' on' oc', .int .i64 cp', .int .i64 fs', .bool dn'], .int .i64 r.2]) (by simp [results, Tryz.results35, go_sem, kE.cell]) rfl post
end Go.Proofs.YtgboghbicbnhiaaGreatDoor

namespace Go.Proofs.YtgboghbicbnhiaaGreatDoor
open Go.RowKit

set_option maxHeartbeats 2000000 in
set_option maxRecDepth 100000 in
theorem fill_any (v : Value) (d : Dsk.Dk) (o : Dsk.Dop) (w : World) (hd : Dsk.Ok d) (hw : Dsk.used d.safe + Dsk.wt d.ops + o.d.size + 16 ≤ 10000000000) (hn : o.n.size ≤ maxLen) (h : DAt w v d) :
    Calls Tryz.prog 69 #[v, .agg #[.int .i64 o.k, .string o.n, .string o.t, .string o.d]] w fun e w' => DPost w (Dsk.fill d o) e w' := by
  have hdn := hd.note o hw
  have HI : Hid (∀ W, Calls Tryz.prog 77 #[.string o.n] W fun e w' => e = .returned (.bool (Dsk.isName o.n)) ∧ w' = W) := fun W => isName_any o.n W hn
  have HN0 : Hid (∀ W, Below w.heap.size w W → Calls Tryz.prog 108 #[v, .agg #[.int .i64 o.k, .string o.n, .string o.t, .string o.d]] W fun e w' => ∃ sa' sn' sc' oa' on' oc' cp' fs' dn', e = .returned (.agg #[.slice sa' sn' sc', .slice oa' on' oc', .int .i64 cp', .int .i64 fs', .bool dn']) ∧ DAt w' (.agg #[.slice sa' sn' sc', .slice oa' on' oc', .int .i64 cp', .int .i64 fs', .bool dn']) (Dsk.note d o) ∧ Below W.heap.size W w') := fun W hW => (note_any v d o W hd.ops (h.below hW)).mono fun e w' ⟨v, h1, h2, h3⟩ => by
    obtain ⟨sa', sc', oa', oc', h4⟩ := h2.form
    exact ⟨sa', _, sc', oa', _, oc', _, _, _, by rw [h1, h4], by rw [h4] at h2; exact h2, h3⟩
  have HU0 : Hid (∀ W v, DAt W v (Dsk.note d o) → Calls Tryz.prog 87 #[v] W fun e w' => e = .returned (.int .i64 (Dsk.used (Dsk.files (Dsk.note d o)))) ∧ Below W.heap.size W w') := fun W v hv => used_any v (Dsk.note d o) W hdn hv
  have HO : Hid (∀ W, Below w.heap.size w W → Calls Tryz.prog 109 #[v, .agg #[.int .i64 o.k, .string o.n, .string o.t, .string o.d]] W fun e w' => DEx W (Dsk.operate d o) e w') := fun W hW => (operate_any v d o W hd.ops hd.fuse hd.fuse' (h.below hW)).mono fun e w' q => q.ex
  have hD : Hid (∀ W, Below w.heap.size w W → DAt W v d) := fun W hW => h.below hW
  have hch : Hid (Dsk.fill d o = if d.down = true then (d, 9) else if Dsk.isName o.n = true then (if (Dsk.used (Dsk.files (Dsk.note d o)) : Int) > d.cap then (d, 8) else Dsk.operate d o) else (d, 11)) := rfl
  have hub := hdn.files
  obtain ⟨sa, sc, oa, oc, rfl, hS, hO, hsc, hoc⟩ := h
  generalize Dsk.fill d o = r at *
  generalize Dsk.operate d o = r1 at *
  generalize Dsk.used (Dsk.files (Dsk.note d o)) = u at *
  generalize Dsk.note d o = dn at *
  generalize Dsk.isName o.n = nm at *
  obtain ⟨safe, ops, cap, fuse, down⟩ := d
  obtain ⟨k, n, t, x⟩ := o
  dsimp only at *
  clear hS hO
  unfold dval at *
  generalize safe.length = SN at *
  generalize ops.length = ON at *
  cases down
  case true =>
    rw [if_pos rfl] at hch
    have hch' := hch.out
    subst hch'
    have hE := Rg.hid (hD.out _ (Rg.al3 w (.cells #[.slice sa SN sc, .slice oa ON oc, .int .i64 cap, .int .i64 fuse, .bool true] 28) (.cells #[.int .i64 k, .string n, .string t, .string x] 87) (.cells #[.slice sa SN sc, .slice oa ON oc, .int .i64 cap, .int .i64 fuse, .bool true] 28)))
    go_enter Tryz.func69, Tryz.ntmps69
    go_wp2
    exact bodyPost_ret (v := .tuple #[.agg #[.slice sa SN sc, .slice oa ON oc, .int .i64 cap, .int .i64 fuse, .bool true], .int .i64 9]) (by simp [results, Tryz.results69, go_sem]) rfl (DPost.mk' hE.out (Rg.al3 _ _ _ _))
  case false =>
    rw [if_neg (by simp)] at hch
    cases nm
    case false =>
      rw [if_neg (by simp)] at hch
      have hch' := hch.out
      subst hch'
      have hE := Rg.hid (hD.out _ (Rg.al3 w (.cells #[.slice sa SN sc, .slice oa ON oc, .int .i64 cap, .int .i64 fuse, .bool false] 28) (.cells #[.int .i64 k, .string n, .string t, .string x] 87) (.cells #[.slice sa SN sc, .slice oa ON oc, .int .i64 cap, .int .i64 fuse, .bool false] 28)))
      go_enter Tryz.func69, Tryz.ntmps69
      go_wp2_with (go_at_call 77; refine (HI.out _).mono ?_; rintro e w' ⟨rfl, rfl⟩)
      exact bodyPost_ret (v := .tuple #[.agg #[.slice sa SN sc, .slice oa ON oc, .int .i64 cap, .int .i64 fuse, .bool false], .int .i64 11]) (by simp [results, Tryz.results69, go_sem]) rfl (DPost.mk' hE.out (Rg.al3 _ _ _ _))
    case true =>
      rw [if_pos rfl] at hch
      have hfacts : Hid (∀ W, Below (((w.alloc (.cells #[.slice sa SN sc, .slice oa ON oc, .int .i64 cap, .int .i64 fuse, .bool false] 28)).alloc (.cells #[.int .i64 k, .string n, .string t, .string x] 87)).alloc (.cells #[.slice none 0 0, .slice none 0 0, .int .i64 0, .int .i64 0, .bool false] 28)).heap.size (((w.alloc (.cells #[.slice sa SN sc, .slice oa ON oc, .int .i64 cap, .int .i64 fuse, .bool false] 28)).alloc (.cells #[.int .i64 k, .string n, .string t, .string x] 87)).alloc (.cells #[.slice none 0 0, .slice none 0 0, .int .i64 0, .int .i64 0, .bool false] 28)) W → W.cell? ⟨w.heap.size, 0, none⟩ = some (.slice sa SN sc) ∧ W.cell? ⟨w.heap.size, 1, none⟩ = some (.slice oa ON oc) ∧ W.cell? ⟨w.heap.size, 2, none⟩ = some (.int .i64 cap) ∧ W.cell? ⟨w.heap.size, 3, none⟩ = some (.int .i64 fuse) ∧ W.cell? ⟨w.heap.size, 4, none⟩ = some (.bool false) ∧ W.cell? ⟨w.heap.size + 1, 0, none⟩ = some (.int .i64 k) ∧ W.cell? ⟨w.heap.size + 1, 1, none⟩ = some (.string n) ∧ W.cell? ⟨w.heap.size + 1, 2, none⟩ = some (.string t) ∧ W.cell? ⟨w.heap.size + 1, 3, none⟩ = some (.string x)) := fun W hW => by
        have kD : Rg.Bk (w.heap.size) [.slice sa SN sc, .slice oa ON oc, .int .i64 cap, .int .i64 fuse, .bool false] 28 W := Rg.Bk.below (((Rg.Bk.new rfl).old _).old _) hW (by simp; omega)
        have kO : Rg.Bk (w.heap.size + 1) [.int .i64 k, .string n, .string t, .string x] 87 W := Rg.Bk.below ((Rg.Bk.new (by simp)).old _) hW (by simp)
        exact ⟨kD.cell 0, kD.cell 1, kD.cell 2, kD.cell 3, kD.cell 4, kO.cell 0, kO.cell 1, kO.cell 2, kO.cell 3⟩
      have HN : Hid (∀ W, Below (((w.alloc (.cells #[.slice sa SN sc, .slice oa ON oc, .int .i64 cap, .int .i64 fuse, .bool false] 28)).alloc (.cells #[.int .i64 k, .string n, .string t, .string x] 87)).alloc (.cells #[.slice none 0 0, .slice none 0 0, .int .i64 0, .int .i64 0, .bool false] 28)).heap.size (((w.alloc (.cells #[.slice sa SN sc, .slice oa ON oc, .int .i64 cap, .int .i64 fuse, .bool false] 28)).alloc (.cells #[.int .i64 k, .string n, .string t, .string x] 87)).alloc (.cells #[.slice none 0 0, .slice none 0 0, .int .i64 0, .int .i64 0, .bool false] 28)) W → Calls Tryz.prog 108 #[.agg #[.slice sa SN sc, .slice oa ON oc, .int .i64 cap, .int .i64 fuse, .bool false], .agg #[.int .i64 k, .string n, .string t, .string x]] W fun e w' => ∃ sa' sn' sc' oa' on' oc' cp' fs' dn', e = .returned (.agg #[.slice sa' sn' sc', .slice oa' on' oc', .int .i64 cp', .int .i64 fs', .bool dn']) ∧ DAt w' (.agg #[.slice sa' sn' sc', .slice oa' on' oc', .int .i64 cp', .int .i64 fs', .bool dn']) dn ∧ Below (((w.alloc (.cells #[.slice sa SN sc, .slice oa ON oc, .int .i64 cap, .int .i64 fuse, .bool false] 28)).alloc (.cells #[.int .i64 k, .string n, .string t, .string x] 87)).alloc (.cells #[.slice none 0 0, .slice none 0 0, .int .i64 0, .int .i64 0, .bool false] 28)).heap.size (((w.alloc (.cells #[.slice sa SN sc, .slice oa ON oc, .int .i64 cap, .int .i64 fuse, .bool false] 28)).alloc (.cells #[.int .i64 k, .string n, .string t, .string x] 87)).alloc (.cells #[.slice none 0 0, .slice none 0 0, .int .i64 0, .int .i64 0, .bool false] 28)) w' ∧ w'.cell? ⟨w.heap.size, 0, none⟩ = some (.slice sa SN sc) ∧ w'.cell? ⟨w.heap.size, 1, none⟩ = some (.slice oa ON oc) ∧ w'.cell? ⟨w.heap.size, 2, none⟩ = some (.int .i64 cap) ∧ w'.cell? ⟨w.heap.size, 3, none⟩ = some (.int .i64 fuse) ∧ w'.cell? ⟨w.heap.size, 4, none⟩ = some (.bool false) ∧ w'.cell? ⟨w.heap.size + 1, 0, none⟩ = some (.int .i64 k) ∧ w'.cell? ⟨w.heap.size + 1, 1, none⟩ = some (.string n) ∧ w'.cell? ⟨w.heap.size + 1, 2, none⟩ = some (.string t) ∧ w'.cell? ⟨w.heap.size + 1, 3, none⟩ = some (.string x)) := fun W hW => (HN0.out W (Rg.chain (Rg.al3 _ _ _ _) hW)).mono fun e w' ⟨sa', sn', sc', oa', on', oc', cp', fs', dn', h1, h2, h3⟩ => ⟨sa', sn', sc', oa', on', oc', cp', fs', dn', h1, h2, Rg.chain hW h3, hfacts.out w' (Rg.chain hW h3)⟩
      have HU : Hid (∀ W v, Below (((w.alloc (.cells #[.slice sa SN sc, .slice oa ON oc, .int .i64 cap, .int .i64 fuse, .bool false] 28)).alloc (.cells #[.int .i64 k, .string n, .string t, .string x] 87)).alloc (.cells #[.slice none 0 0, .slice none 0 0, .int .i64 0, .int .i64 0, .bool false] 28)).heap.size (((w.alloc (.cells #[.slice sa SN sc, .slice oa ON oc, .int .i64 cap, .int .i64 fuse, .bool false] 28)).alloc (.cells #[.int .i64 k, .string n, .string t, .string x] 87)).alloc (.cells #[.slice none 0 0, .slice none 0 0, .int .i64 0, .int .i64 0, .bool false] 28)) W → DAt W v dn → Calls Tryz.prog 87 #[v] W fun e w' => e = .returned (.int .i64 u) ∧ Below (((w.alloc (.cells #[.slice sa SN sc, .slice oa ON oc, .int .i64 cap, .int .i64 fuse, .bool false] 28)).alloc (.cells #[.int .i64 k, .string n, .string t, .string x] 87)).alloc (.cells #[.slice none 0 0, .slice none 0 0, .int .i64 0, .int .i64 0, .bool false] 28)).heap.size (((w.alloc (.cells #[.slice sa SN sc, .slice oa ON oc, .int .i64 cap, .int .i64 fuse, .bool false] 28)).alloc (.cells #[.int .i64 k, .string n, .string t, .string x] 87)).alloc (.cells #[.slice none 0 0, .slice none 0 0, .int .i64 0, .int .i64 0, .bool false] 28)) w' ∧ w'.cell? ⟨w.heap.size, 0, none⟩ = some (.slice sa SN sc) ∧ w'.cell? ⟨w.heap.size, 1, none⟩ = some (.slice oa ON oc) ∧ w'.cell? ⟨w.heap.size, 2, none⟩ = some (.int .i64 cap) ∧ w'.cell? ⟨w.heap.size, 3, none⟩ = some (.int .i64 fuse) ∧ w'.cell? ⟨w.heap.size, 4, none⟩ = some (.bool false) ∧ w'.cell? ⟨w.heap.size + 1, 0, none⟩ = some (.int .i64 k) ∧ w'.cell? ⟨w.heap.size + 1, 1, none⟩ = some (.string n) ∧ w'.cell? ⟨w.heap.size + 1, 2, none⟩ = some (.string t) ∧ w'.cell? ⟨w.heap.size + 1, 3, none⟩ = some (.string x)) := fun W v hW hv => (HU0.out W v hv).mono fun e w' ⟨h1, h3⟩ => ⟨h1, Rg.chain hW h3, hfacts.out w' (Rg.chain hW h3)⟩
      clear HN0 HU0
      go_enter Tryz.func69, Tryz.ntmps69
      go_wp2_with (go_at_call 77; refine (HI.out _).mono ?_; rintro e w' ⟨rfl, rfl⟩)
      go_region_held3 (fun w' => w'.cell? ⟨w.heap.size, 0, none⟩ = some (.slice sa SN sc) ∧ w'.cell? ⟨w.heap.size, 1, none⟩ = some (.slice oa ON oc) ∧ w'.cell? ⟨w.heap.size, 2, none⟩ = some (.int .i64 cap) ∧ w'.cell? ⟨w.heap.size, 3, none⟩ = some (.int .i64 fuse) ∧ w'.cell? ⟨w.heap.size, 4, none⟩ = some (.bool false) ∧ w'.cell? ⟨w.heap.size + 1, 0, none⟩ = some (.int .i64 k) ∧ w'.cell? ⟨w.heap.size + 1, 1, none⟩ = some (.string n) ∧ w'.cell? ⟨w.heap.size + 1, 2, none⟩ = some (.string t) ∧ w'.cell? ⟨w.heap.size + 1, 3, none⟩ = some (.string x)) (go_keep) (first
        | (go_at_call 108; refine (HN.out _ ?_).mono ?_; (first | exact Below.refl _ _ | exact (Below.refl _ _).drew); rintro e w1 ⟨sa', sn', sc', oa', on', oc', cp', fs', dn', rfl, hDn, hb1, pb0, pb1, pb2, pb3, pb4, po0, po1, po2, po3⟩)
        | (go_at_call 87; refine (HU.out _ _ hb1 hDn).mono ?_; rintro e w2 ⟨rfl, hb2, qb0, qb1, qb2, qb3, qb4, qo0, qo1, qo2, qo3⟩))
      clear pb0 pb1 pb2 pb3 pb4 po0 po1 po2 po3 HN HU hfacts hb1 hDn
      have kR' := Rg.hid (show Rg.Bk (w.heap.size + 1 + 1) [.slice none 0 0, .slice none 0 0, .int .i64 0, .int .i64 0, .bool false] 28 w2 from Rg.Bk.below (Rg.Bk.new (by simp)) hb2 (by simp))
      have hbw : Below w.heap.size w w2 := Rg.chain (Rg.al3 _ _ _ _) hb2
      clear hb2
      by_cases hz : cap < (u : Int)
      · have dz : decide (cap < (u : Int)) = true := by simp [hz]
        rw [if_pos hz] at hch
        have hch' := hch.out
        subst hch'
        have hD1 := hD.out w2 hbw
        have kR := kR'.out
        clear HO hD HI kR'
        obtain ⟨kE, oE⟩ := Rg.ret5 kR rfl (.slice sa SN sc) (.slice oa ON oc) (.int .i64 cap) (.int .i64 fuse) (.bool false)
        replace kE := Rg.hid kE
        have post := Rg.hid ((⟨_, rfl, DAt.only hD1 kR plainZ oE, hbw.trans (oE.bel (by omega))⟩ : DPost w (_, 8) _ _))
        have r0 := kR.cell 0
        have r1 := kR.cell 1
        have r2 := kR.cell 2
        have r3 := kR.cell 3
        have r4 := kR.cell 4
        simp only [List.getElem?_cons_zero, List.getElem?_cons_succ] at r0 r1 r2 r3 r4
        have rf := kR.thaw
        clear oE kR
        go_wp2
        replace kE := kE.out
        replace post := post.out
        generalize World.setCell _ _ _ = WE at *
        exact bodyPost_ret (v := .tuple #[.agg #[.slice sa SN sc, .slice oa ON oc, .int .i64 cap, .int .i64 fuse, .bool false], .int .i64 8]) (by simp [results, Tryz.results69, go_sem, kE.cell]) rfl post
      · have dz : decide (cap < (u : Int)) = false := by simp; omega
        rw [if_neg hz] at hch
        have hch' := hch.out
        subst hch'
        clear hD HI
        go_wp2_with (go_at_call 109; refine (HO.out _ hbw).mono ?_)
        rintro e w3 ⟨sa', sn', sc', oa', on', oc', cp', fs', dn', rfl, hD, hb3⟩
        have kR := kR'.out.below hb3 kR'.out.lt
        have hbw3 := Rg.chain hbw hb3
        clear hb3 hbw kR' qb0 qb1 qb2 qb3 qb4 qo0 qo1 qo2 qo3 HO
        obtain ⟨kE, oE⟩ := Rg.ret5 kR rfl (.slice sa' sn' sc') (.slice oa' on' oc') (.int .i64 cp') (.int .i64 fs') (.bool dn')
        replace kE := Rg.hid kE
        have post := Rg.hid ((⟨_, rfl, DAt.only hD kR plainZ oE, hbw3.trans (oE.bel (by omega))⟩ : DPost w r _ _))
        have r0 := kR.cell 0
        have r1 := kR.cell 1
        have r2 := kR.cell 2
        have r3 := kR.cell 3
        have r4 := kR.cell 4
        simp only [List.getElem?_cons_zero, List.getElem?_cons_succ] at r0 r1 r2 r3 r4
        have rf := kR.thaw
        clear oE kR
        go_wp2
        replace kE := kE.out
        replace post := post.out
        generalize World.setCell _ _ _ = WE at *
        exact bodyPost_ret (v := .tuple #[.agg #[.slice sa' sn' sc', .slice oa' on' oc', .int .i64 cp', .int .i64 fs', .bool dn'], .int .i64 r.2]) (by simp [results, Tryz.results69, go_sem, kE.cell]) rfl post


set_option maxHeartbeats 1000000 in
set_option maxRecDepth 100000 in
theorem write_any (v : Value) (d : Dsk.Dk) (n x : ByteArray) (w : World) (hd : Dsk.Ok d) (hw : Dsk.used d.safe + Dsk.wt d.ops + x.size + 16 ≤ 10000000000) (hn : n.size ≤ maxLen) (h : DAt w v d) :
    Calls Tryz.prog 34 #[v, .string n, .string x] w fun e w' => DPost w (Dsk.write d n x) e w' := by
  have HC : Hid (∀ W, Below w.heap.size w W → Calls Tryz.prog 69 #[v, .agg #[.int .i64 1, .string n, .string ByteArray.empty, .string x]] W fun e w' => DEx W (Dsk.write d n x) e w') := fun W hW => (fill_any v d ⟨1, n, ByteArray.empty, x⟩ W hd hw hn (h.below hW)).mono fun e w' q => q.ex
  obtain ⟨sa, sc, oa, oc, rfl, hS, hO, hsc, hoc⟩ := h
  generalize Dsk.write d n x = r at *
  obtain ⟨safe, ops, cap, fuse, down⟩ := d
  dsimp only at *
  clear hS hO
  unfold dval at *
  generalize safe.length = SN at *
  generalize ops.length = ON at *
  go_enter Tryz.func34, Tryz.ntmps34
  go_wp2_with (go_at_call 69; refine (HC.out _ (Rg.al2 _ _ _)).mono ?_)
  rintro e w1 ⟨sa', sn', sc', oa', on', oc', cp', fs', dn', rfl, hD, hb⟩
  have kR : Rg.Bk (w.heap.size + 1) [.slice none 0 0, .slice none 0 0, .int .i64 0, .int .i64 0, .bool false] 28 w1 := Rg.Bk.below (Rg.Bk.new (by simp)) hb (by simp)
  have hbw : Below w.heap.size w w1 := Rg.chain (Rg.al2 _ _ _) hb
  clear hb HC
  obtain ⟨kE, oE⟩ := Rg.ret5 kR rfl (.slice sa' sn' sc') (.slice oa' on' oc') (.int .i64 cp') (.int .i64 fs') (.bool dn')
  replace kE := Rg.hid kE
  have post := Rg.hid ((⟨_, rfl, DAt.only hD kR plainZ oE, hbw.trans (oE.bel (by omega))⟩ : DPost w r _ _))
  have r0 := kR.cell 0
  have r1 := kR.cell 1
  have r2 := kR.cell 2
  have r3 := kR.cell 3
  have r4 := kR.cell 4
  simp only [List.getElem?_cons_zero, List.getElem?_cons_succ] at r0 r1 r2 r3 r4
  have rf := kR.thaw
  clear oE kR
  go_wp2
  replace kE := kE.out
  replace post := post.out
  generalize World.setCell _ _ _ = WE at *
  exact bodyPost_ret (v := .tuple #[.agg #[.slice sa' sn' sc', .slice oa' on' oc', .int .i64 cp', .int .i64 fs', .bool dn'], .int .i64 r.2]) (by simp [results, Tryz.results34, go_sem, kE.cell]) rfl post

end Go.Proofs.YtgboghbicbnhiaaGreatDoor
