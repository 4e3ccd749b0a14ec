/-
  Layer 6: fill; Write, Append, Rename. Layer 6: settle; Sync, Crash, Start, Arm, Room.
-/
import Derived.Test.YtmilfamjkiemaaaGreatDoorSzAP
namespace Go.Proofs.YtmilfamjkiemaaaGreatDoor
open Go.RowKit

set_option maxHeartbeats 2000000 in
set_option maxRecDepth 100000 in
theorem fill_any (v : Value) (d : Dsk.Dk) (o : Dsk.Dop) (w : World) (hd : Dsk.Ok d) (hw : Dsk.used d.safe + Dsk.wt d.ops + o.d.size + 16 ≤ 10000000000) (hn : o.n.size ≤ maxLen) (h : DAt w v d) :
    Calls Tryz.prog 69 #[v, .agg #[.int .i64 o.k, .string o.n, .string o.t, .string o.d]] w fun e w' => DPost w (Dsk.fill d o) e w' := by
  have hdn := hd.note o hw
  have HI : Hid (∀ W, Calls Tryz.prog 77 #[.string o.n] W fun e w' => e = .returned (.bool (Dsk.isName o.n)) ∧ w' = W) := fun W => isName_any o.n W hn
  have HN0 : Hid (∀ W, Below w.heap.size w W → Calls Tryz.prog 108 #[v, .agg #[.int .i64 o.k, .string o.n, .string o.t, .string o.d]] W fun e w' => ∃ sa' sn' sc' oa' on' oc' cp' fs' dn', e = .returned (.agg #[.slice sa' sn' sc', .slice oa' on' oc', .int .i64 cp', .int .i64 fs', .bool dn']) ∧ DAt w' (.agg #[.slice sa' sn' sc', .slice oa' on' oc', .int .i64 cp', .int .i64 fs', .bool dn']) (Dsk.note d o) ∧ Below W.heap.size W w') := fun W hW => (note_any v d o W hd.ops (h.below hW)).mono fun e w' ⟨v, h1, h2, h3⟩ => by
    obtain ⟨sa', sc', oa', oc', h4⟩ := h2.form
    exact ⟨sa', _, sc', oa', _, oc', _, _, _, by rw [h1, h4], by rw [h4] at h2; exact h2, h3⟩
  have HU0 : Hid (∀ W v, DAt W v (Dsk.note d o) → Calls Tryz.prog 87 #[v] W fun e w' => e = .returned (.int .i64 (Dsk.used (Dsk.files (Dsk.note d o)))) ∧ Below W.heap.size W w') := fun W v hv => used_any v (Dsk.note d o) W hdn hv
  have HO : Hid (∀ W, Below w.heap.size w W → Calls Tryz.prog 109 #[v, .agg #[.int .i64 o.k, .string o.n, .string o.t, .string o.d]] W fun e w' => DEx W (Dsk.operate d o) e w') := fun W hW => (operate_any v d o W hd.ops hd.fuse hd.fuse' (h.below hW)).mono fun e w' q => q.ex
  have hD : Hid (∀ W, Below w.heap.size w W → DAt W v d) := fun W hW => h.below hW
  have hch : Hid (Dsk.fill d o = if d.down = true then (d, 9) else if Dsk.isName o.n = true then (if (Dsk.used (Dsk.files (Dsk.note d o)) : Int) > d.cap then (d, 8) else Dsk.operate d o) else (d, 11)) := rfl
  have hub := hdn.files
  obtain ⟨sa, sc, oa, oc, rfl, hS, hO, hsc, hoc⟩ := h
  generalize Dsk.fill d o = r at *
  generalize Dsk.operate d o = r1 at *
  generalize Dsk.used (Dsk.files (Dsk.note d o)) = u at *
  generalize Dsk.note d o = dn at *
  generalize Dsk.isName o.n = nm at *
  obtain ⟨safe, ops, cap, fuse, down⟩ := d
  obtain ⟨k, n, t, x⟩ := o
  dsimp only at *
  clear hS hO
  unfold dval at *
  generalize safe.length = SN at *
  generalize ops.length = ON at *
  cases down
  case true =>
    rw [if_pos rfl] at hch
    have hch' := hch.out
    subst hch'
    have hE := Rg.hid (hD.out _ (Rg.al3 w (.cells #[.slice sa SN sc, .slice oa ON oc, .int .i64 cap, .int .i64 fuse, .bool true] 28) (.cells #[.int .i64 k, .string n, .string t, .string x] 87) (.cells #[.slice sa SN sc, .slice oa ON oc, .int .i64 cap, .int .i64 fuse, .bool true] 28)))
    go_enter Tryz.func69, Tryz.ntmps69
    go_wp2
    exact bodyPost_ret (v := .tuple #[.agg #[.slice sa SN sc, .slice oa ON oc, .int .i64 cap, .int .i64 fuse, .bool true], .int .i64 9]) (by simp [results, Tryz.results69, go_sem]) rfl (DPost.mk' hE.out (Rg.al3 _ _ _ _))
  case false =>
    rw [if_neg (by simp)] at hch
    cases nm
    case false =>
      rw [if_neg (by simp)] at hch
      have hch' := hch.out
      subst hch'
      have hE := Rg.hid (hD.out _ (Rg.al3 w (.cells #[.slice sa SN sc, .slice oa ON oc, .int .i64 cap, .int .i64 fuse, .bool false] 28) (.cells #[.int .i64 k, .string n, .string t, .string x] 87) (.cells #[.slice sa SN sc, .slice oa ON oc, .int .i64 cap, .int .i64 fuse, .bool false] 28)))
      go_enter Tryz.func69, Tryz.ntmps69
      go_wp2_with (go_at_call 77; refine (HI.out _).mono ?_; rintro e w' ⟨rfl, rfl⟩)
      exact bodyPost_ret (v := .tuple #[.agg #[.slice sa SN sc, .slice oa ON oc, .int .i64 cap, .int .i64 fuse, .bool false], .int .i64 11]) (by simp [results, Tryz.results69, go_sem]) rfl (DPost.mk' hE.out (Rg.al3 _ _ _ _))
    case true =>
      rw [if_pos rfl] at hch
      have hfacts : Hid (∀ W, Below (((w.alloc (.cells #[.slice sa SN sc, .slice oa ON oc, .int .i64 cap, .int .i64 fuse, .bool false] 28)).alloc (.cells #[.int .i64 k, .string n, .string t, .string x] 87)).alloc (.cells #[.slice none 0 0, .slice none 0 0, .int .i64 0, .int .i64 0, .bool false] 28)).heap.size (((w.alloc (.cells #[.slice sa SN sc, .slice oa ON oc, .int .i64 cap, .int .i64 fuse, .bool false] 28)).alloc (.cells #[.int .i64 k, .string n, .string t, .string x] 87)).alloc (.cells #[.slice none 0 0, .slice none 0 0, .int .i64 0, .int .i64 0, .bool false] 28)) W → W.cell? ⟨w.heap.size, 0, none⟩ = some (.slice sa SN sc) ∧ W.cell? ⟨w.heap.size, 1, none⟩ = some (.slice oa ON oc) ∧ W.cell? ⟨w.heap.size, 2, none⟩ = some (.int .i64 cap) ∧ W.cell? ⟨w.heap.size, 3, none⟩ = some (.int .i64 fuse) ∧ W.cell? ⟨w.heap.size, 4, none⟩ = some (.bool false) ∧ W.cell? ⟨w.heap.size + 1, 0, none⟩ = some (.int .i64 k) ∧ W.cell? ⟨w.heap.size + 1, 1, none⟩ = some (.string n) ∧ W.cell? ⟨w.heap.size + 1, 2, none⟩ = some (.string t) ∧ W.cell? ⟨w.heap.size + 1, 3, none⟩ = some (.string x)) := fun W hW => by
        have kD : Rg.Bk (w.heap.size) [.slice sa SN sc, .slice oa ON oc, .int .i64 cap, .int .i64 fuse, .bool false] 28 W := Rg.Bk.below (((Rg.Bk.new rfl).old _).old _) hW (by simp; omega)
        have kO : Rg.Bk (w.heap.size + 1) [.int .i64 k, .string n, .string t, .string x] 87 W := Rg.Bk.below ((Rg.Bk.new (by simp)).old _) hW (by simp)
        exact ⟨kD.cell 0, kD.cell 1, kD.cell 2, kD.cell 3, kD.cell 4, kO.cell 0, kO.cell 1, kO.cell 2, kO.cell 3⟩
      have HN : Hid (∀ W, Below (((w.alloc (.cells #[.slice sa SN sc, .slice oa ON oc, .int .i64 cap, .int .i64 fuse, .bool false] 28)).alloc (.cells #[.int .i64 k, .string n, .string t, .string x] 87)).alloc (.cells #[.slice none 0 0, .slice none 0 0, .int .i64 0, .int .i64 0, .bool false] 28)).heap.size (((w.alloc (.cells #[.slice sa SN sc, .slice oa ON oc, .int .i64 cap, .int .i64 fuse, .bool false] 28)).alloc (.cells #[.int .i64 k, .string n, .string t, .string x] 87)).alloc (.cells #[.slice none 0 0, .slice none 0 0, .int .i64 0, .int .i64 0, .bool false] 28)) W → Calls Tryz.prog 108 #[.agg #[.slice sa SN sc, .slice oa ON oc, .int .i64 cap, .int .i64 fuse, .bool false], .agg #[.int .i64 k, .string n, .string t, .string x]] W fun e w' => ∃ sa' sn' sc' oa' on' oc' cp' fs' dn', e = .returned (.agg #[.slice sa' sn' sc', .slice oa' on' oc', .int .i64 cp', .int .i64 fs', .bool dn']) ∧ DAt w' (.agg #[.slice sa' sn' sc', .slice oa' on' oc', .int .i64 cp', .int .i64 fs', .bool dn']) dn ∧ Below (((w.alloc (.cells #[.slice sa SN sc, .slice oa ON oc, .int .i64 cap, .int .i64 fuse, .bool false] 28)).alloc (.cells #[.int .i64 k, .string n, .string t, .string x] 87)).alloc (.cells #[.slice none 0 0, .slice none 0 0, .int .i64 0, .int .i64 0, .bool false] 28)).heap.size (((w.alloc (.cells #[.slice sa SN sc, .slice oa ON oc, .int .i64 cap, .int .i64 fuse, .bool false] 28)).alloc (.cells #[.int .i64 k, .string n, .string t, .string x] 87)).alloc (.cells #[.slice none 0 0, .slice none 0 0, .int .i64 0, .int .i64 0, .bool false] 28)) w' ∧ w'.cell? ⟨w.heap.size, 0, none⟩ = some (.slice sa SN sc) ∧ w'.cell? ⟨w.heap.size, 1, none⟩ = some (.slice oa ON oc) ∧ w'.cell? ⟨w.heap.size, 2, none⟩ = some (.int .i64 cap) ∧ w'.cell? ⟨w.heap.size, 3, none⟩ = some (.int .i64 fuse) ∧ w'.cell? ⟨w.heap.size, 4, none⟩ = some (.bool false) ∧ w'.cell? ⟨w.heap.size + 1, 0, none⟩ = some (.int .i64 k) ∧ w'.cell? ⟨w.heap.size + 1, 1, none⟩ = some (.string n) ∧ w'.cell? ⟨w.heap.size + 1, 2, none⟩ = some (.string t) ∧ w'.cell? ⟨w.heap.size + 1, 3, none⟩ = some (.string x)) := fun W hW => (HN0.out W (Rg.chain (Rg.al3 _ _ _ _) hW)).mono fun e w' ⟨sa', sn', sc', oa', on', oc', cp', fs', dn', h1, h2, h3⟩ => ⟨sa', sn', sc', oa', on', oc', cp', fs', dn', h1, h2, Rg.chain hW h3, hfacts.out w' (Rg.chain hW h3)⟩
      have HU : Hid (∀ W v, Below (((w.alloc (.cells #[.slice sa SN sc, .slice oa ON oc, .int .i64 cap, .int .i64 fuse, .bool false] 28)).alloc (.cells #[.int .i64 k, .string n, .string t, .string x] 87)).alloc (.cells #[.slice none 0 0, .slice none 0 0, .int .i64 0, .int .i64 0, .bool false] 28)).heap.size (((w.alloc (.cells #[.slice sa SN sc, .slice oa ON oc, .int .i64 cap, .int .i64 fuse, .bool false] 28)).alloc (.cells #[.int .i64 k, .string n, .string t, .string x] 87)).alloc (.cells #[.slice none 0 0, .slice none 0 0, .int .i64 0, .int .i64 0, .bool false] 28)) W → DAt W v dn → Calls Tryz.prog 87 #[v] W fun e w' => e = .returned (.int .i64 u) ∧ Below (((w.alloc (.cells #[.slice sa SN sc, .slice oa ON oc, .int .i64 cap, .int .i64 fuse, .bool false] 28)).alloc (.cells #[.int .i64 k, .string n, .string t, .string x] 87)).alloc (.cells #[.slice none 0 0, .slice none 0 0, .int .i64 0, .int .i64 0, .bool false] 28)).heap.size (((w.alloc (.cells #[.slice sa SN sc, .slice oa ON oc, .int .i64 cap, .int .i64 fuse, .bool false] 28)).alloc (.cells #[.int .i64 k, .string n, .string t, .string x] 87)).alloc (.cells #[.slice none 0 0, .slice none 0 0, .int .i64 0, .int .i64 0, .bool false] 28)) w' ∧ w'.cell? ⟨w.heap.size, 0, none⟩ = some (.slice sa SN sc) ∧ w'.cell? ⟨w.heap.size, 1, none⟩ = some (.slice oa ON oc) ∧ w'.cell? ⟨w.heap.size, 2, none⟩ = some (.int .i64 cap) ∧ w'.cell? ⟨w.heap.size, 3, none⟩ = some (.int .i64 fuse) ∧ w'.cell? ⟨w.heap.size, 4, none⟩ = some (.bool false) ∧ w'.cell? ⟨w.heap.size + 1, 0, none⟩ = some (.int .i64 k) ∧ w'.cell? ⟨w.heap.size + 1, 1, none⟩ = some (.string n) ∧ w'.cell? ⟨w.heap.size + 1, 2, none⟩ = some (.string t) ∧ w'.cell? ⟨w.heap.size + 1, 3, none⟩ = some (.string x)) := fun W v hW hv => (HU0.out W v hv).mono fun e w' ⟨h1, h3⟩ => ⟨h1, Rg.chain hW h3, hfacts.out w' (Rg.chain hW h3)⟩
      clear HN0 HU0
      go_enter Tryz.func69, Tryz.ntmps69
      go_wp2_with (go_at_call 77; refine (HI.out _).mono ?_; rintro e w' ⟨rfl, rfl⟩)
      go_region_held3 (fun w' => w'.cell? ⟨w.heap.size, 0, none⟩ = some (.slice sa SN sc) ∧ w'.cell? ⟨w.heap.size, 1, none⟩ = some (.slice oa ON oc) ∧ w'.cell? ⟨w.heap.size, 2, none⟩ = some (.int .i64 cap) ∧ w'.cell? ⟨w.heap.size, 3, none⟩ = some (.int .i64 fuse) ∧ w'.cell? ⟨w.heap.size, 4, none⟩ = some (.bool false) ∧ w'.cell? ⟨w.heap.size + 1, 0, none⟩ = some (.int .i64 k) ∧ w'.cell? ⟨w.heap.size + 1, 1, none⟩ = some (.string n) ∧ w'.cell? ⟨w.heap.size + 1, 2, none⟩ = some (.string t) ∧ w'.cell? ⟨w.heap.size + 1, 3, none⟩ = some (.string x)) (go_keep) (first
        | (go_at_call 108; refine (HN.out _ ?_).mono ?_; (first | exact Below.refl _ _ | exact (Below.refl _ _).drew); rintro e w1 ⟨sa', sn', sc', oa', on', oc', cp', fs', dn', rfl, hDn, hb1, pb0, pb1, pb2, pb3, pb4, po0, po1, po2, po3⟩)
        | (go_at_call 87; refine (HU.out _ _ hb1 hDn).mono ?_; rintro e w2 ⟨rfl, hb2, qb0, qb1, qb2, qb3, qb4, qo0, qo1, qo2, qo3⟩))
      clear pb0 pb1 pb2 pb3 pb4 po0 po1 po2 po3 HN HU hfacts hb1 hDn
      have kR' := Rg.hid (show Rg.Bk (w.heap.size + 1 + 1) [.slice none 0 0, .slice none 0 0, .int .i64 0, .int .i64 0, .bool false] 28 w2 from Rg.Bk.below (Rg.Bk.new (by simp)) hb2 (by simp))
      have hbw : Below w.heap.size w w2 := Rg.chain (Rg.al3 _ _ _ _) hb2
      clear hb2
      by_cases hz : cap < (u : Int)
      · have dz : decide (cap < (u : Int)) = true := by simp [hz]
        rw [if_pos hz] at hch
        have hch' := hch.out
        subst hch'
        have hD1 := hD.out w2 hbw
        have kR := kR'.out
        clear HO hD HI kR'
        obtain ⟨kE, oE⟩ := Rg.ret5 kR rfl (.slice sa SN sc) (.slice oa ON oc) (.int .i64 cap) (.int .i64 fuse) (.bool false)
        replace kE := Rg.hid kE
        have post := Rg.hid ((⟨_, rfl, DAt.only hD1 kR plainZ oE, hbw.trans (oE.bel (by omega))⟩ : DPost w (_, 8) _ _))
        have r0 := kR.cell 0
        have r1 := kR.cell 1
        have r2 := kR.cell 2
        have r3 := kR.cell 3
        have r4 := kR.cell 4
        simp only [List.getElem?_cons_zero, List.getElem?_cons_succ] at r0 r1 r2 r3 r4
        have rf := kR.thaw
        clear oE kR
        go_wp2
        replace kE := kE.out
        replace post := post.out
        generalize World.setCell _ _ _ = WE at *
        exact bodyPost_ret (v := .tuple #[.agg #[.slice sa SN sc, .slice oa ON oc, .int .i64 cap, .int .i64 fuse, .bool false], .int .i64 8]) (by simp [results, Tryz.results69, go_sem, kE.cell]) rfl post
      · have dz : decide (cap < (u : Int)) = false := by simp; omega
        rw [if_neg hz] at hch
        have hch' := hch.out
        subst hch'
        clear hD HI
        go_wp2_with (go_at_call 109; refine (HO.out _ hbw).mono ?_)
        rintro e w3 ⟨sa', sn', sc', oa', on', oc', cp', fs', dn', rfl, hD, hb3⟩
        have kR := kR'.out.below hb3 kR'.out.lt
        have hbw3 := Rg.chain hbw hb3
        clear hb3 hbw kR' qb0 qb1 qb2 qb3 qb4 qo0 qo1 qo2 qo3 HO
        obtain ⟨kE, oE⟩ := Rg.ret5 kR rfl (.slice sa' sn' sc') (.slice oa' on' oc') (.int .i64 cp') (.int .i64 fs') (.bool dn')
        replace kE := Rg.hid kE
        have post := Rg.hid ((⟨_, rfl, DAt.only hD kR plainZ oE, hbw3.trans (oE.bel (by omega))⟩ : DPost w r _ _))
        have r0 := kR.cell 0
        have r1 := kR.cell 1
        have r2 := kR.cell 2
        have r3 := kR.cell 3
        have r4 := kR.cell 4
        simp only [List.getElem?_cons_zero, List.getElem?_cons_succ] at r0 r1 r2 r3 r4
        have rf := kR.thaw
        clear oE kR
        go_wp2
        replace kE := kE.out
        replace post := post.out
        generalize World.setCell _ _ _ = WE at *
        exact bodyPost_ret (v := .tuple #[.agg #[.slice sa' sn' sc', .slice oa' on' oc', .int .i64 cp', .int .i64 fs', .bool dn'], .int .i64 r.2]) (by simp [results, Tryz.results69, go_sem, kE.cell]) rfl post


set_option maxHeartbeats 1000000 in
set_option maxRecDepth 100000 in
theorem write_any (v : Value) (d : Dsk.Dk) (n x : ByteArray) (w : World) (hd : Dsk.Ok d) (hw : Dsk.used d.safe + Dsk.wt d.ops + x.size + 16 ≤ 10000000000) (hn : n.size ≤ maxLen) (h : DAt w v d) :
    Calls Tryz.prog 34 #[v, .string n, .string x] w fun e w' => DPost w (Dsk.write d n x) e w' := by
  have HC : Hid (∀ W, Below w.heap.size w W → Calls Tryz.prog 69 #[v, .agg #[.int .i64 1, .string n, .string ByteArray.empty, .string x]] W fun e w' => DEx W (Dsk.write d n x) e w') := fun W hW => (fill_any v d ⟨1, n, ByteArray.empty, x⟩ W hd hw hn (h.below hW)).mono fun e w' q => q.ex
  obtain ⟨sa, sc, oa, oc, rfl, hS, hO, hsc, hoc⟩ := h
  generalize Dsk.write d n x = r at *
  obtain ⟨safe, ops, cap, fuse, down⟩ := d
  dsimp only at *
  clear hS hO
  unfold dval at *
  generalize safe.length = SN at *
  generalize ops.length = ON at *
  go_enter Tryz.func34, Tryz.ntmps34
  go_wp2_with (go_at_call 69; refine (HC.out _ (Rg.al2 _ _ _)).mono ?_)
  rintro e w1 ⟨sa', sn', sc', oa', on', oc', cp', fs', dn', rfl, hD, hb⟩
  have kR : Rg.Bk (w.heap.size + 1) [.slice none 0 0, .slice none 0 0, .int .i64 0, .int .i64 0, .bool false] 28 w1 := Rg.Bk.below (Rg.Bk.new (by simp)) hb (by simp)
  have hbw : Below w.heap.size w w1 := Rg.chain (Rg.al2 _ _ _) hb
  clear hb HC
  obtain ⟨kE, oE⟩ := Rg.ret5 kR rfl (.slice sa' sn' sc') (.slice oa' on' oc') (.int .i64 cp') (.int .i64 fs') (.bool dn')
  replace kE := Rg.hid kE
  have post := Rg.hid ((⟨_, rfl, DAt.only hD kR plainZ oE, hbw.trans (oE.bel (by omega))⟩ : DPost w r _ _))
  have r0 := kR.cell 0
  have r1 := kR.cell 1
  have r2 := kR.cell 2
  have r3 := kR.cell 3
  have r4 := kR.cell 4
  simp only [List.getElem?_cons_zero, List.getElem?_cons_succ] at r0 r1 r2 r3 r4
  have rf := kR.thaw
  clear oE kR
  go_wp2
  replace kE := kE.out
  replace post := post.out
  generalize World.setCell _ _ _ = WE at *
  exact bodyPost_ret (v := .tuple #[.agg #[.slice sa' sn' sc', .slice oa' on' oc', .int .i64 cp', .int .i64 fs', .bool dn'], .int .i64 r.2]) (by simp [results, Tryz.results34, go_sem, kE.cell]) rfl post

set_option maxHeartbeats 1000000 in
set_option maxRecDepth 100000 in
theorem rename_any (v : Value) (d : Dsk.Dk) (n t : ByteArray) (w : World) (hd : Dsk.Ok d) (hn : t.size ≤ maxLen) (h : DAt w v d) :
    Calls Tryz.prog 41 #[v, .string n, .string t] w fun e w' => DPost w (Dsk.rename d n t) e w' := by
  have HI : Hid (∀ W, Calls Tryz.prog 77 #[.string t] W fun e w' => e = .returned (.bool (Dsk.isName t)) ∧ w' = W) := fun W => isName_any t W hn
  have HC : Hid (∀ W, Below w.heap.size w W → Calls Tryz.prog 70 #[v, .agg #[.int .i64 3, .string n, .string t, .string ByteArray.empty]] W fun e w' => DEx W (Dsk.change d ⟨3, n, t, ByteArray.empty⟩) e w') := fun W hW => (change_any v d ⟨3, n, t, ByteArray.empty⟩ W hd (h.below hW)).mono fun e w' q => q.ex
  have hD : Hid (∀ W, Below w.heap.size w W → DAt W v d) := fun W hW => h.below hW
  have hch : Hid (Dsk.rename d n t = if d.down = true then (d, 9) else if Dsk.isName t = true then Dsk.change d ⟨3, n, t, ByteArray.empty⟩ else (d, 11)) := rfl
  obtain ⟨sa, sc, oa, oc, rfl, hS, hO, hsc, hoc⟩ := h
  generalize Dsk.rename d n t = r at *
  generalize Dsk.change d ⟨3, n, t, ByteArray.empty⟩ = r1 at *
  generalize Dsk.isName t = nm at *
  obtain ⟨safe, ops, cap, fuse, down⟩ := d
  dsimp only at *
  clear hS hO
  unfold dval at *
  generalize safe.length = SN at *
  generalize ops.length = ON at *
  cases down
  case true =>
    rw [if_pos rfl] at hch
    have hch' := hch.out
    subst hch'
    have hE := Rg.hid (hD.out _ (Rg.al2 w (.cells #[.slice sa SN sc, .slice oa ON oc, .int .i64 cap, .int .i64 fuse, .bool true] 28) (.cells #[.slice sa SN sc, .slice oa ON oc, .int .i64 cap, .int .i64 fuse, .bool true] 28)))
    go_enter Tryz.func41, Tryz.ntmps41
    go_wp2
    exact bodyPost_ret (v := .tuple #[.agg #[.slice sa SN sc, .slice oa ON oc, .int .i64 cap, .int .i64 fuse, .bool true], .int .i64 9]) (by simp [results, Tryz.results41, go_sem]) rfl (DPost.mk' hE.out (Rg.al2 _ _ _))
  case false =>
    rw [if_neg (by simp)] at hch
    cases nm
    case false =>
      rw [if_neg (by simp)] at hch
      have hch' := hch.out
      subst hch'
      have hE := Rg.hid (hD.out _ (Rg.al2 w (.cells #[.slice sa SN sc, .slice oa ON oc, .int .i64 cap, .int .i64 fuse, .bool false] 28) (.cells #[.slice sa SN sc, .slice oa ON oc, .int .i64 cap, .int .i64 fuse, .bool false] 28)))
      go_enter Tryz.func41, Tryz.ntmps41
      go_wp2_with (go_at_call 77; refine (HI.out _).mono ?_; rintro e w' ⟨rfl, rfl⟩)
      exact bodyPost_ret (v := .tuple #[.agg #[.slice sa SN sc, .slice oa ON oc, .int .i64 cap, .int .i64 fuse, .bool false], .int .i64 11]) (by simp [results, Tryz.results41, go_sem]) rfl (DPost.mk' hE.out (Rg.al2 _ _ _))
    case true =>
      rw [if_pos rfl] at hch
      have hch' := hch.out
      subst hch'
      go_enter Tryz.func41, Tryz.ntmps41
      go_wp2_with (first
        | (go_at_call 77; refine (HI.out _).mono ?_; rintro e w' ⟨rfl, rfl⟩)
        | (go_at_call 70; refine (HC.out _ (Rg.al2 _ _ _)).mono ?_))
      rintro e w1 ⟨sa', sn', sc', oa', on', oc', cp', fs', dn', rfl, hD1, hb⟩
      have kR : Rg.Bk (w.heap.size + 1) [.slice none 0 0, .slice none 0 0, .int .i64 0, .int .i64 0, .bool false] 28 w1 := Rg.Bk.below (Rg.Bk.new (by simp)) hb (by simp)
      have hbw : Below w.heap.size w w1 := Rg.chain (Rg.al2 _ _ _) hb
      clear hb HC HI hD
      obtain ⟨kE, oE⟩ := Rg.ret5 kR rfl (.slice sa' sn' sc') (.slice oa' on' oc') (.int .i64 cp') (.int .i64 fs') (.bool dn')
      replace kE := Rg.hid kE
      have post := Rg.hid ((⟨_, rfl, DAt.only hD1 kR plainZ oE, hbw.trans (oE.bel (by omega))⟩ : DPost w r _ _))
      have r0 := kR.cell 0
      have r1 := kR.cell 1
      have r2 := kR.cell 2
      have r3 := kR.cell 3
      have r4 := kR.cell 4
      simp only [List.getElem?_cons_zero, List.getElem?_cons_succ] at r0 r1 r2 r3 r4
      have rf := kR.thaw
      clear oE kR
      go_wp2
      replace kE := kE.out
      replace post := post.out
      generalize World.setCell _ _ _ = WE at *
      exact bodyPost_ret (v := .tuple #[.agg #[.slice sa' sn' sc', .slice oa' on' oc', .int .i64 cp', .int .i64 fs', .bool dn'], .int .i64 r.2]) (by simp [results, Tryz.results41, go_sem, kE.cell]) rfl post
end Go.Proofs.YtmilfamjkiemaaaGreatDoor

namespace Go.Proofs.YtmilfamjkiemaaaGreatDoor
open Go.RowKit

namespace Dsk
def settle (d : Dk) (n : Nat) : Dk := { d with safe := behind d.safe (d.ops.take n), ops := [] }
def sync (d : Dk) : Dk × Int := if d.down = true then (d, 9) else if d.fuse = 0 then ({ d with down := true }, 9) else (settle (burn d) d.ops.length, 0)
/-- as many as are kept -/
def keep (n : Int) (m : Nat) : Nat := (min (max n 0) (m : Int)).toNat
theorem keep_le (n : Int) (m : Nat) : keep n m ≤ m := by unfold keep; omega
theorem keep_eq (n : Int) (m : Nat) : min (max n 0) (m : Int) = (keep n m : Int) := by unfold keep; omega
def crash (d : Dk) (n : Int) : Dk := { settle d (keep n d.ops.length) with fuse := -1, down := true }
def arm (d : Dk) (n : Int) : Dk := { d with fuse := max n (-1) }
def setRoom (d : Dk) (n : Int) : Dk := { d with cap := room n }
def start (d : Dk) : Dk := { d with down := false }
end Dsk

set_option maxHeartbeats 2000000 in
set_option maxRecDepth 100000 in
theorem settle_any (v : Value) (d : Dsk.Dk) (m : Nat) (hm : m ≤ d.ops.length) (w : World) (hd : Dsk.Ok d) (h : DAt w v d) :
    Calls Tryz.prog 60 #[v, .int .i64 m] w fun e w' => NotePost w (Dsk.settle d m) e w' := by
  obtain ⟨sa, sc, oa, oc, rfl, hS, hO, hsc, hoc⟩ := h
  have hwt : Dsk.wt (d.ops.take m) ≤ Dsk.wt d.ops := by
    have := Dsk.wt_append (d.ops.take m) (d.ops.drop m)
    rw [List.take_append_drop] at this; omega
  have hw := hd.wt
  have hon := hd.ops
  have htk : (d.ops.take m).length = m := by rw [List.length_take]; omega
  have HB : Hid (∀ W oc', Below w.heap.size w W → Calls Tryz.prog 81 #[.slice sa d.safe.length sc, .slice oa m oc'] W fun e w' => ∃ a c, e = .returned (.slice a (Dsk.behind d.safe (d.ops.take m)).length c) ∧ fileE.Row w' a (Dsk.behind d.safe (d.ops.take m)) ∧ (Dsk.behind d.safe (d.ops.take m)).length ≤ c ∧ Below W.heap.size W w') := fun W oc' hW => by
    have := behind_any sa sc oa oc' d.safe (d.ops.take m) W hd.srt (by omega) (hS.below hW) ((hO.below hW).take m)
    rw [htk] at this
    refine this.mono fun e w' ⟨v, h1, h2, h3⟩ => ?_
    obtain ⟨a, c, h4, h5⟩ := h2.shape
    refine ⟨a, c, by rw [h1, h4], h5, ?_, h3⟩
    rcases h2 with ⟨e1, e2⟩ | ⟨g, cap, rest, e1, e2⟩
    · rw [e2]; exact Nat.zero_le _
    · rw [e1] at h4; injection h4 with _ _ h6; rw [← h6]; exact e2.le
  have hfin : Hid (∀ W a c, fileE.Row W a (Dsk.behind d.safe (d.ops.take m)) → (Dsk.behind d.safe (d.ops.take m)).length ≤ c → DAt W (.agg #[.slice a (Dsk.behind d.safe (d.ops.take m)).length c, .slice none 0 0, .int .i64 d.cap, .int .i64 d.fuse, .bool d.down]) (Dsk.settle d m)) := fun W a c h1 h2 => ⟨a, c, none, 0, rfl, h1, .inl ⟨rfl, rfl⟩, h2, Nat.le_refl _⟩
  generalize Dsk.settle d m = d' at *
  generalize Dsk.behind d.safe (d.ops.take m) = lb at *
  generalize hln : lb.length = ln at *
  obtain ⟨safe, ops, cap, fuse, down⟩ := d
  dsimp only at *
  clear hS hO
  unfold dval at *
  generalize safe.length = SN at *
  generalize ops.length = ON at *
  have e0 : (0 : Int) ≤ (m : Int) := by omega
  have e1 : (m : Int) ≤ (oc : Int) := by omega
  go_enter Tryz.func60, Tryz.ntmps60
  go_wp2
  go_region_with (first
    | (go_at_call 81; refine (HB.out _ _ ?_).mono ?_; (first | exact Rg.al2 _ _ _ | exact (Rg.al2 _ _ _).drew); rintro e w1 ⟨a, c, rfl, hrow, hlc, hb⟩; obtain ⟨hc, hf⟩ := Rg.bcell hb))
  all_goals
    have kB : Rg.Bk (w.heap.size) [.slice sa SN sc, .slice oa ON oc, .int .i64 cap, .int .i64 fuse, .bool down] 28 w1 := Rg.Bk.below ((Rg.Bk.new rfl).old _).drew hb (by simp; omega)
    have kR0 : Rg.Bk (w.heap.size + 1) [.slice none 0 0, .slice none 0 0, .int .i64 0, .int .i64 0, .bool false] 28 w1 := Rg.Bk.below (Rg.Bk.new (by simp)).drew hb (by simp)
    have kB' := (kB.set 0 (.slice a ln c)).set 1 (.slice none 0 0)
    have kR := (kR0.other (c := w.heap.size) (i := 0) (by omega) (.slice a ln c)).other (c := w.heap.size) (i := 1) (by omega) (.slice none 0 0)
    have oB := (Rg.Only.setCell w1 (w.heap.size) 0 (.slice a ln c)).trans (Rg.Only.setCell _ (w.heap.size) 1 (.slice none 0 0))
    have hrow' := hrow.only kB 0 (by decide) (fun x u hu e => plain5 (fun _ h => by cases h) (fun _ h => by cases h) (fun _ h => by cases h) (fun _ h => by cases h) (fun _ h => by cases h) u hu x.n (by simpa [fileE] using e.symm)) oB
    have hbw : Below w.heap.size w ((w1.setCell ⟨w.heap.size, 0, none⟩ (.slice a ln c)).setCell ⟨w.heap.size, 1, none⟩ (.slice none 0 0)) := ((Rg.al2 _ _ _).drew.trans (hb.mono (by simp; omega))).trans (oB.bel (Nat.le_refl _))
    clear hc hf hb hrow kB kR0 HB oB
    generalize (w1.setCell ⟨w.heap.size, 0, none⟩ (.slice a ln c)).setCell ⟨w.heap.size, 1, none⟩ (.slice none 0 0) = W5 at *
    have hDD := hfin.out W5 a c hrow' hlc
    have b0 : W5.cell? ⟨w.heap.size, 0, none⟩ = some (.slice a ln c) := kB'.cell 0
    have b1 : W5.cell? ⟨w.heap.size, 1, none⟩ = some (.slice none 0 0) := kB'.cell 1
    have b2 : W5.cell? ⟨w.heap.size, 2, none⟩ = some (.int .i64 cap) := kB'.cell 2
    have b3 : W5.cell? ⟨w.heap.size, 3, none⟩ = some (.int .i64 fuse) := kB'.cell 3
    have b4 : W5.cell? ⟨w.heap.size, 4, none⟩ = some (.bool down) := kB'.cell 4
    clear kB' hrow' hfin
    obtain ⟨kE, oE⟩ := Rg.ret5 kR rfl (.slice a ln c) (.slice none 0 0) (.int .i64 cap) (.int .i64 fuse) (.bool down)
    replace kE := Rg.hid kE
    have post := Rg.hid ((⟨_, rfl, DAt.only hDD kR plainZ oE, hbw.trans (oE.bel (by omega))⟩ : NotePost w d' _ _))
    have r0 := kR.cell 0
    have r1 := kR.cell 1
    have r2 := kR.cell 2
    have r3 := kR.cell 3
    have r4 := kR.cell 4
    simp only [List.getElem?_cons_zero, List.getElem?_cons_succ] at r0 r1 r2 r3 r4
    have rf := kR.thaw
    clear oE kR
    go_wp2
    replace kE := kE.out
    replace post := post.out
    generalize World.setCell _ _ _ = WE at *
    exact bodyPost_ret (v := .agg #[.slice a ln c, .slice none 0 0, .int .i64 cap, .int .i64 fuse, .bool down]) (by simp [results, Tryz.results60, go_sem, kE.cell]) rfl post

set_option maxHeartbeats 1000000 in
theorem start_any (v : Value) (d : Dsk.Dk)  (w : World) (h : DAt w v d) :
    Calls Tryz.prog 27 #[v] w fun e w' => NotePost w (Dsk.start d) e w' := by
  obtain ⟨sa, sc, oa, oc, rfl, hS, hO, hsc, hoc⟩ := h
  have hE : Hid (∀ W, Below w.heap.size w W → DAt W (dval sa d.safe.length sc oa d.ops.length oc (Dsk.start d).cap (Dsk.start d).fuse (Dsk.start d).down) (Dsk.start d)) := fun W hW => ⟨sa, sc, oa, oc, rfl, hS.below hW, hO.below hW, hsc, hoc⟩
  have e1 : (Dsk.start d).cap = d.cap := rfl
  have e2 : (Dsk.start d).fuse = d.fuse := rfl
  have e3 : (Dsk.start d).down = false := rfl
  rw [e1, e2, e3] at hE
  generalize Dsk.start d = d' at *
  obtain ⟨safe, ops, cap, fuse, down⟩ := d
  dsimp only at *
  clear e1 e2 e3
  clear hS hO
  unfold dval at *
  generalize safe.length = SN at *
  generalize ops.length = ON at *
  go_enter Tryz.func27, Tryz.ntmps27
  go_wp2
  exact bodyPost_ret (v := .agg #[.slice sa SN sc, .slice oa ON oc, .int .i64 cap, .int .i64 fuse, .bool false]) (by simp [results, Tryz.results27, go_sem]) rfl ⟨_, rfl, hE.out _ (Rg.al2 _ _ _), Rg.al2 _ _ _⟩

set_option maxHeartbeats 1000000 in
theorem arm_any (v : Value) (d : Dsk.Dk) (n : Int) (w : World) (h : DAt w v d) :
    Calls Tryz.prog 29 #[v, .int .i64 n] w fun e w' => NotePost w (Dsk.arm d n) e w' := by
  obtain ⟨sa, sc, oa, oc, rfl, hS, hO, hsc, hoc⟩ := h
  have hE : Hid (∀ W, Below w.heap.size w W → DAt W (dval sa d.safe.length sc oa d.ops.length oc (Dsk.arm d n).cap (Dsk.arm d n).fuse (Dsk.arm d n).down) (Dsk.arm d n)) := fun W hW => ⟨sa, sc, oa, oc, rfl, hS.below hW, hO.below hW, hsc, hoc⟩
  have e1 : (Dsk.arm d n).cap = d.cap := rfl
  have e2 : (Dsk.arm d n).fuse = max n (-1) := rfl
  have e3 : (Dsk.arm d n).down = d.down := rfl
  rw [e1, e2, e3] at hE
  generalize Dsk.arm d n = d' at *
  obtain ⟨safe, ops, cap, fuse, down⟩ := d
  dsimp only at *
  clear e1 e2 e3
  clear hS hO
  unfold dval at *
  generalize safe.length = SN at *
  generalize ops.length = ON at *
  go_enter Tryz.func29, Tryz.ntmps29
  go_wp2
  exact bodyPost_ret (v := .agg #[.slice sa SN sc, .slice oa ON oc, .int .i64 cap, .int .i64 (max n (-1)), .bool down]) (by simp [results, Tryz.results29, go_sem]) rfl ⟨_, rfl, hE.out _ (Rg.al2 _ _ _), Rg.al2 _ _ _⟩
end Go.Proofs.YtmilfamjkiemaaaGreatDoor
