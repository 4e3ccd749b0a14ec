/-
  Layer 6: the document's disk: Write, Append, Rename, Remove.
-/
import Derived.Test.YtempiajepomajaaRf14
namespace Go.Proofs.Ytempiajepomajaa
open Go.RowKit
theorem write_dod (d : Dsk.Dk) (n x : ByteArray) : Dsk.write d n x = if d.down = true then (d, 9) else if Dsk.isName n = true then (Dsk.dod d ⟨1, n, ByteArray.empty, x⟩) else (d, 11) := by
  unfold Dsk.write Dsk.fill Dsk.dod
  cases d.down <;> simp
theorem append_dod (d : Dsk.Dk) (n x : ByteArray) : Dsk.append d n x = if d.down = true then (d, 9) else if Dsk.isName n = true then (Dsk.dod d ⟨2, n, ByteArray.empty, x⟩) else (d, 11) := by
  unfold Dsk.append Dsk.fill Dsk.dod
  cases d.down <;> simp
theorem change_dod (d : Dsk.Dk) (o : Dsk.Dop) (h1 : o.k ≠ 1) (h2 : o.k ≠ 2) : Dsk.change d o = if d.down = true then (d, 9) else if Dsk.has (Dsk.files d) o.n = true then Dsk.dod d o else (d, 6) := by
  unfold Dsk.change Dsk.dod Dsk.read
  cases d.down
  · cases hh : Dsk.has (Dsk.files d) o.n
    · have hg : Dsk.get (Dsk.files d) o.n = none := by unfold Dsk.has at hh; cases e : Dsk.get (Dsk.files d) o.n; (· rfl); rw [e] at hh; cases hh
      simp [hg]
    · obtain ⟨x, hg⟩ := has_get hh
      simp [hg, h1, h2]
  · simp
theorem rename_dod (d : Dsk.Dk) (n t : ByteArray) : Dsk.rename d n t = if d.down = true then (d, 9) else if Dsk.isName t = true then (if Dsk.has (Dsk.files d) n = true then Dsk.dod d ⟨3, n, t, ByteArray.empty⟩ else (d, 6)) else (d, 11) := by
  unfold Dsk.rename
  rw [change_dod _ _ (by simp) (by simp)]
  cases d.down <;> simp
theorem remove_dod (d : Dsk.Dk) (n : ByteArray) : Dsk.remove d n = if d.down = true then (d, 9) else if Dsk.has (Dsk.files d) n = true then Dsk.dod d ⟨4, n, ByteArray.empty, ByteArray.empty⟩ else (d, 6) := by
  unfold Dsk.remove
  rw [change_dod _ _ (by simp) (by simp)]

set_option maxHeartbeats 1000000 in
set_option maxRecDepth 100000 in
theorem rwrite_any (v : Value) (d : Dsk.Dk) (n x : ByteArray) (w : World) (hd : Dsk.Ok d) (hw : Dsk.used d.safe + Dsk.wt d.ops + x.size + 16 ≤ 10000000000) (hn : n.size ≤ maxLen) (h : DAt w v d) :
    Calls Try.prog 31 #[v, .string n, .string x] w fun e w' => DPost w (Dsk.write d n x) e w' := by
  have HO : Hid (∀ W, Below w.heap.size w W → Calls Try.prog 52 #[v] W fun e w' => NEx W d e w') := fun W hW => (rown_any v d W hd (h.below hW)).mono fun e w' ⟨gs, cs, go, co, rest, h1, h2, h3, h4, h5⟩ => NotePost.ex ⟨_, h1, ⟨some ⟨gs, 0, none⟩, cs, some ⟨go, 0, none⟩, co, rfl, h2, h4.toRow, h3, h4.le⟩, h5⟩
  have HC : Hid (d.down = false → ∀ W, Below w.heap.size w W → Calls Try.prog 54 #[v, .agg #[.int .i64 1, .string n, .string ByteArray.empty, .string x]] W fun e w' => DEx W (Dsk.dod d ⟨1, n, ByteArray.empty, x⟩) e w') := fun hdn W hW => (rdo_1 v d n ByteArray.empty x W hd hdn hw (h.below hW)).mono fun e w' q => q.ex
  have hch : Hid (Dsk.write d n x = if d.down = true then (d, 9) else if Dsk.isName n = true then (Dsk.dod d ⟨1, n, ByteArray.empty, x⟩) else (d, 11)) := write_dod d n x
  have HI : Hid (∀ W, Calls Try.prog 53 #[.string n] W fun e w' => e = .returned (.bool (Dsk.isName n)) ∧ w' = W) := fun W => rname_any n W hn
  obtain ⟨sa, sc, oa, oc, rfl, hS, hO, hsc, hoc⟩ := h
  generalize Dsk.write d n x = r at *
  generalize Dsk.dod d ⟨1, n, ByteArray.empty, x⟩ = rd at *
  generalize Dsk.isName n = nm at *
  obtain ⟨safe, ops, cap, fuse, down⟩ := d
  dsimp only at *
  clear hS hO hd hsc hoc
  unfold dval at *
  generalize safe.length = SN at *
  generalize ops.length = ON at *
  cases down
  case true =>
    clear HC
    rw [if_pos rfl] at hch
    have hch' := hch.out
    subst hch'
    go_enter Try.func31, Try.ntmps31
    go_wp2_with (go_at_call 52; refine (HO.out _ (Rg.al2 _ _ _)).mono ?_)
    rintro e w1 ⟨sa', sn', sc', oa', on', oc', cp', fs', dn', rfl, hD1, hb⟩
    have kR : Rg.Bk (w.heap.size + 1) [.slice none 0 0, .slice none 0 0, .int .i64 0, .int .i64 0, .bool false] 28 w1 := Rg.Bk.below (Rg.Bk.new (by simp)) hb (by simp)
    have hbw : Below w.heap.size w w1 := Rg.chain (Rg.al2 _ _ _) hb
    clear hb HO
    obtain ⟨kE, oE⟩ := Rg.ret5 kR rfl (.slice sa' sn' sc') (.slice oa' on' oc') (.int .i64 cp') (.int .i64 fs') (.bool dn')
    replace kE := Rg.hid kE
    have post := Rg.hid ((⟨_, rfl, DAt.only hD1 kR plainZ oE, hbw.trans (oE.bel (by omega))⟩ : DPost w ((⟨safe, ops, cap, fuse, true⟩ : Dsk.Dk), (9 : Int)) _ _))
    have r0 := kR.cell 0
    have r1 := kR.cell 1
    have r2 := kR.cell 2
    have r3 := kR.cell 3
    have r4 := kR.cell 4
    simp only [List.getElem?_cons_zero, List.getElem?_cons_succ] at r0 r1 r2 r3 r4
    have rf := kR.thaw
    clear oE kR
    go_wp2
    replace kE := kE.out
    replace post := post.out
    generalize World.setCell _ _ _ = WE at *
    exact bodyPost_ret (v := .tuple #[.agg #[.slice sa' sn' sc', .slice oa' on' oc', .int .i64 cp', .int .i64 fs', .bool dn'], .int .i64 ((⟨safe, ops, cap, fuse, true⟩ : Dsk.Dk), (9 : Int)).2]) (by simp [results, Try.results31, go_sem, kE.cell]) rfl post
  case false =>
    rw [if_neg (by simp)] at hch
    replace HC := Rg.hid (HC.out rfl)
    cases nm
    case false =>
      clear HC
      rw [if_neg (by simp)] at hch
      have hch' := hch.out
      subst hch'
      go_enter Try.func31, Try.ntmps31
      go_wp2_with (first
        | (go_at_call 53; refine (HI.out _).mono ?_; rintro e w' ⟨rfl, rfl⟩)
        | (go_at_call 52; refine (HO.out _ (Rg.al2 _ _ _)).mono ?_))
      rintro e w1 ⟨sa', sn', sc', oa', on', oc', cp', fs', dn', rfl, hD1, hb⟩
      have kR : Rg.Bk (w.heap.size + 1) [.slice none 0 0, .slice none 0 0, .int .i64 0, .int .i64 0, .bool false] 28 w1 := Rg.Bk.below (Rg.Bk.new (by simp)) hb (by simp)
      have hbw : Below w.heap.size w w1 := Rg.chain (Rg.al2 _ _ _) hb
      clear hb HO HI
      obtain ⟨kE, oE⟩ := Rg.ret5 kR rfl (.slice sa' sn' sc') (.slice oa' on' oc') (.int .i64 cp') (.int .i64 fs') (.bool dn')
      replace kE := Rg.hid kE
      have post := Rg.hid ((⟨_, rfl, DAt.only hD1 kR plainZ oE, hbw.trans (oE.bel (by omega))⟩ : DPost w ((⟨safe, ops, cap, fuse, false⟩ : Dsk.Dk), (11 : Int)) _ _))
      have r0 := kR.cell 0
      have r1 := kR.cell 1
      have r2 := kR.cell 2
      have r3 := kR.cell 3
      have r4 := kR.cell 4
      simp only [List.getElem?_cons_zero, List.getElem?_cons_succ] at r0 r1 r2 r3 r4
      have rf := kR.thaw
      clear oE kR
      go_wp2
      replace kE := kE.out
      replace post := post.out
      generalize World.setCell _ _ _ = WE at *
      exact bodyPost_ret (v := .tuple #[.agg #[.slice sa' sn' sc', .slice oa' on' oc', .int .i64 cp', .int .i64 fs', .bool dn'], .int .i64 ((⟨safe, ops, cap, fuse, false⟩ : Dsk.Dk), (11 : Int)).2]) (by simp [results, Try.results31, go_sem, kE.cell]) rfl post
    rw [if_pos rfl] at hch
    have hch' := hch.out
    subst hch'
    clear HO
    go_enter Try.func31, Try.ntmps31
    go_wp2_with (first
      | (go_at_call 53; refine (HI.out _).mono ?_; rintro e w' ⟨rfl, rfl⟩)
      | (go_at_call 54; refine (HC.out _ (Rg.al2 _ _ _)).mono ?_))
    rintro e w1 ⟨sa', sn', sc', oa', on', oc', cp', fs', dn', rfl, hD1, hb⟩
    have kR : Rg.Bk (w.heap.size + 1) [.slice none 0 0, .slice none 0 0, .int .i64 0, .int .i64 0, .bool false] 28 w1 := Rg.Bk.below (Rg.Bk.new (by simp)) hb (by simp)
    have hbw : Below w.heap.size w w1 := Rg.chain (Rg.al2 _ _ _) hb
    clear hb HC HI
    obtain ⟨kE, oE⟩ := Rg.ret5 kR rfl (.slice sa' sn' sc') (.slice oa' on' oc') (.int .i64 cp') (.int .i64 fs') (.bool dn')
    replace kE := Rg.hid kE
    have post := Rg.hid ((⟨_, rfl, DAt.only hD1 kR plainZ oE, hbw.trans (oE.bel (by omega))⟩ : DPost w r _ _))
    have r0 := kR.cell 0
    have r1 := kR.cell 1
    have r2 := kR.cell 2
    have r3 := kR.cell 3
    have r4 := kR.cell 4
    simp only [List.getElem?_cons_zero, List.getElem?_cons_succ] at r0 r1 r2 r3 r4
    have rf := kR.thaw
    clear oE kR
    go_wp2
    replace kE := kE.out
    replace post := post.out
    generalize World.setCell _ _ _ = WE at *
    exact bodyPost_ret (v := .tuple #[.agg #[.slice sa' sn' sc', .slice oa' on' oc', .int .i64 cp', .int .i64 fs', .bool dn'], .int .i64 r.2]) (by simp [results, Try.results31, go_sem, kE.cell]) rfl post

set_option maxHeartbeats 1000000 in
set_option maxRecDepth 100000 in
theorem rappend_any (v : Value) (d : Dsk.Dk) (n x : ByteArray) (w : World) (hd : Dsk.Ok d) (hw : Dsk.used d.safe + Dsk.wt d.ops + x.size + 16 ≤ 10000000000) (hn : n.size ≤ maxLen) (h : DAt w v d) :
    Calls Try.prog 32 #[v, .string n, .string x] w fun e w' => DPost w (Dsk.append d n x) e w' := by
  have HO : Hid (∀ W, Below w.heap.size w W → Calls Try.prog 52 #[v] W fun e w' => NEx W d e w') := fun W hW => (rown_any v d W hd (h.below hW)).mono fun e w' ⟨gs, cs, go, co, rest, h1, h2, h3, h4, h5⟩ => NotePost.ex ⟨_, h1, ⟨some ⟨gs, 0, none⟩, cs, some ⟨go, 0, none⟩, co, rfl, h2, h4.toRow, h3, h4.le⟩, h5⟩
  have HC : Hid (d.down = false → ∀ W, Below w.heap.size w W → Calls Try.prog 54 #[v, .agg #[.int .i64 2, .string n, .string ByteArray.empty, .string x]] W fun e w' => DEx W (Dsk.dod d ⟨2, n, ByteArray.empty, x⟩) e w') := fun hdn W hW => (rdo_2 v d n ByteArray.empty x W hd hdn hw (h.below hW)).mono fun e w' q => q.ex
  have hch : Hid (Dsk.append d n x = if d.down = true then (d, 9) else if Dsk.isName n = true then (Dsk.dod d ⟨2, n, ByteArray.empty, x⟩) else (d, 11)) := append_dod d n x
  have HI : Hid (∀ W, Calls Try.prog 53 #[.string n] W fun e w' => e = .returned (.bool (Dsk.isName n)) ∧ w' = W) := fun W => rname_any n W hn
  obtain ⟨sa, sc, oa, oc, rfl, hS, hO, hsc, hoc⟩ := h
  generalize Dsk.append d n x = r at *
  generalize Dsk.dod d ⟨2, n, ByteArray.empty, x⟩ = rd at *
  generalize Dsk.isName n = nm at *
  obtain ⟨safe, ops, cap, fuse, down⟩ := d
  dsimp only at *
  clear hS hO hd hsc hoc
  unfold dval at *
  generalize safe.length = SN at *
  generalize ops.length = ON at *
  cases down
  case true =>
    clear HC
    rw [if_pos rfl] at hch
    have hch' := hch.out
    subst hch'
    go_enter Try.func32, Try.ntmps32
    go_wp2_with (go_at_call 52; refine (HO.out _ (Rg.al2 _ _ _)).mono ?_)
    rintro e w1 ⟨sa', sn', sc', oa', on', oc', cp', fs', dn', rfl, hD1, hb⟩
    have kR : Rg.Bk (w.heap.size + 1) [.slice none 0 0, .slice none 0 0, .int .i64 0, .int .i64 0, .bool false] 28 w1 := Rg.Bk.below (Rg.Bk.new (by simp)) hb (by simp)
    have hbw : Below w.heap.size w w1 := Rg.chain (Rg.al2 _ _ _) hb
    clear hb HO
    obtain ⟨kE, oE⟩ := Rg.ret5 kR rfl (.slice sa' sn' sc') (.slice oa' on' oc') (.int .i64 cp') (.int .i64 fs') (.bool dn')
    replace kE := Rg.hid kE
    have post := Rg.hid ((⟨_, rfl, DAt.only hD1 kR plainZ oE, hbw.trans (oE.bel (by omega))⟩ : DPost w ((⟨safe, ops, cap, fuse, true⟩ : Dsk.Dk), (9 : Int)) _ _))
    have r0 := kR.cell 0
    have r1 := kR.cell 1
    have r2 := kR.cell 2
    have r3 := kR.cell 3
    have r4 := kR.cell 4
    simp only [List.getElem?_cons_zero, List.getElem?_cons_succ] at r0 r1 r2 r3 r4
    have rf := kR.thaw
    clear oE kR
    go_wp2
    replace kE := kE.out
    replace post := post.out
    generalize World.setCell _ _ _ = WE at *
    exact bodyPost_ret (v := .tuple #[.agg #[.slice sa' sn' sc', .slice oa' on' oc', .int .i64 cp', .int .i64 fs', .bool dn'], .int .i64 ((⟨safe, ops, cap, fuse, true⟩ : Dsk.Dk), (9 : Int)).2]) (by simp [results, Try.results32, go_sem, kE.cell]) rfl post
  case false =>
    rw [if_neg (by simp)] at hch
    replace HC := Rg.hid (HC.out rfl)
    cases nm
    case false =>
      clear HC
      rw [if_neg (by simp)] at hch
      have hch' := hch.out
      subst hch'
      go_enter Try.func32, Try.ntmps32
      go_wp2_with (first
        | (go_at_call 53; refine (HI.out _).mono ?_; rintro e w' ⟨rfl, rfl⟩)
        | (go_at_call 52; refine (HO.out _ (Rg.al2 _ _ _)).mono ?_))
      rintro e w1 ⟨sa', sn', sc', oa', on', oc', cp', fs', dn', rfl, hD1, hb⟩
      have kR : Rg.Bk (w.heap.size + 1) [.slice none 0 0, .slice none 0 0, .int .i64 0, .int .i64 0, .bool false] 28 w1 := Rg.Bk.below (Rg.Bk.new (by simp)) hb (by simp)
      have hbw : Below w.heap.size w w1 := Rg.chain (Rg.al2 _ _ _) hb
      clear hb HO HI
      obtain ⟨kE, oE⟩ := Rg.ret5 kR rfl (.slice sa' sn' sc') (.slice oa' on' oc') (.int .i64 cp') (.int .i64 fs') (.bool dn')
      replace kE := Rg.hid kE
      have post := Rg.hid ((⟨_, rfl, DAt.only hD1 kR plainZ oE, hbw.trans (oE.bel (by omega))⟩ : DPost w ((⟨safe, ops, cap, fuse, false⟩ : Dsk.Dk), (11 : Int)) _ _))
      have r0 := kR.cell 0
      have r1 := kR.cell 1
      have r2 := kR.cell 2
      have r3 := kR.cell 3
      have r4 := kR.cell 4
      simp only [List.getElem?_cons_zero, List.getElem?_cons_succ] at r0 r1 r2 r3 r4
      have rf := kR.thaw
      clear oE kR
      go_wp2
      replace kE := kE.out
      replace post := post.out
      generalize World.setCell _ _ _ = WE at *
      exact bodyPost_ret (v := .tuple #[.agg #[.slice sa' sn' sc', .slice oa' on' oc', .int .i64 cp', .int .i64 fs', .bool dn'], .int .i64 ((⟨safe, ops, cap, fuse, false⟩ : Dsk.Dk), (11 : Int)).2]) (by simp [results, Try.results32, go_sem, kE.cell]) rfl post
    rw [if_pos rfl] at hch
    have hch' := hch.out
    subst hch'
    clear HO
    go_enter Try.func32, Try.ntmps32
    go_wp2_with (first
      | (go_at_call 53; refine (HI.out _).mono ?_; rintro e w' ⟨rfl, rfl⟩)
      | (go_at_call 54; refine (HC.out _ (Rg.al2 _ _ _)).mono ?_))
    rintro e w1 ⟨sa', sn', sc', oa', on', oc', cp', fs', dn', rfl, hD1, hb⟩
    have kR : Rg.Bk (w.heap.size + 1) [.slice none 0 0, .slice none 0 0, .int .i64 0, .int .i64 0, .bool false] 28 w1 := Rg.Bk.below (Rg.Bk.new (by simp)) hb (by simp)
    have hbw : Below w.heap.size w w1 := Rg.chain (Rg.al2 _ _ _) hb
    clear hb HC HI
    obtain ⟨kE, oE⟩ := Rg.ret5 kR rfl (.slice sa' sn' sc') (.slice oa' on' oc') (.int .i64 cp') (.int .i64 fs') (.bool dn')
    replace kE := Rg.hid kE
    have post := Rg.hid ((⟨_, rfl, DAt.only hD1 kR plainZ oE, hbw.trans (oE.bel (by omega))⟩ : DPost w r _ _))
    have r0 := kR.cell 0
    have r1 := kR.cell 1
    have r2 := kR.cell 2
    have r3 := kR.cell 3
    have r4 := kR.cell 4
    simp only [List.getElem?_cons_zero, List.getElem?_cons_succ] at r0 r1 r2 r3 r4
    have rf := kR.thaw
    clear oE kR
    go_wp2
    replace kE := kE.out
    replace post := post.out
    generalize World.setCell _ _ _ = WE at *
    exact bodyPost_ret (v := .tuple #[.agg #[.slice sa' sn' sc', .slice oa' on' oc', .int .i64 cp', .int .i64 fs', .bool dn'], .int .i64 r.2]) (by simp [results, Try.results32, go_sem, kE.cell]) rfl post

set_option maxHeartbeats 1000000 in
set_option maxRecDepth 100000 in
theorem rrename_any (v : Value) (d : Dsk.Dk) (n t : ByteArray) (w : World) (hd : Dsk.Ok d) (hw : Dsk.used d.safe + Dsk.wt d.ops + 16 ≤ 10000000000) (hn : t.size ≤ maxLen) (h : DAt w v d) :
    Calls Try.prog 33 #[v, .string n, .string t] w fun e w' => DPost w (Dsk.rename d n t) e w' := by
  have HO : Hid (∀ W, Below w.heap.size w W → Calls Try.prog 52 #[v] W fun e w' => NEx W d e w') := fun W hW => (rown_any v d W hd (h.below hW)).mono fun e w' ⟨gs, cs, go, co, rest, h1, h2, h3, h4, h5⟩ => NotePost.ex ⟨_, h1, ⟨some ⟨gs, 0, none⟩, cs, some ⟨go, 0, none⟩, co, rfl, h2, h4.toRow, h3, h4.le⟩, h5⟩
  have HC : Hid (d.down = false → ∀ W, Below w.heap.size w W → Calls Try.prog 54 #[v, .agg #[.int .i64 3, .string n, .string t, .string ByteArray.empty]] W fun e w' => DEx W (Dsk.dod d ⟨3, n, t, ByteArray.empty⟩) e w') := fun hdn W hW => (rdo_3 v d n t ByteArray.empty W hd hdn (by simpa using hw) (h.below hW)).mono fun e w' q => q.ex
  have hch : Hid (Dsk.rename d n t = if d.down = true then (d, 9) else if Dsk.isName t = true then (if Dsk.has (Dsk.files d) n = true then Dsk.dod d ⟨3, n, t, ByteArray.empty⟩ else (d, 6)) else (d, 11)) := rename_dod d n t
  have HI : Hid (∀ W, Calls Try.prog 53 #[.string t] W fun e w' => e = .returned (.bool (Dsk.isName t)) ∧ w' = W) := fun W => rname_any t W hn
  have HH : Hid (∀ W, Below w.heap.size w W → Calls Try.prog 55 #[v, .string n] W fun e w' => e = .returned (.bool (Dsk.has (Dsk.files d) n)) ∧ Below W.heap.size W w') := fun W hW => rhas_any v d n W hd (h.below hW)
  obtain ⟨sa, sc, oa, oc, rfl, hS, hO, hsc, hoc⟩ := h
  generalize Dsk.rename d n t = r at *
  generalize Dsk.dod d ⟨3, n, t, ByteArray.empty⟩ = rd at *
  generalize Dsk.isName t = nm at *
  generalize Dsk.has (Dsk.files d) n = hh at *
  obtain ⟨safe, ops, cap, fuse, down⟩ := d
  dsimp only at *
  clear hS hO hd hsc hoc
  unfold dval at *
  generalize safe.length = SN at *
  generalize ops.length = ON at *
  cases down
  case true =>
    clear HC
    rw [if_pos rfl] at hch
    have hch' := hch.out
    subst hch'
    go_enter Try.func33, Try.ntmps33
    go_wp2_with (go_at_call 52; refine (HO.out _ (Rg.al2 _ _ _)).mono ?_)
    rintro e w1 ⟨sa', sn', sc', oa', on', oc', cp', fs', dn', rfl, hD1, hb⟩
    have kR : Rg.Bk (w.heap.size + 1) [.slice none 0 0, .slice none 0 0, .int .i64 0, .int .i64 0, .bool false] 28 w1 := Rg.Bk.below (Rg.Bk.new (by simp)) hb (by simp)
    have hbw : Below w.heap.size w w1 := Rg.chain (Rg.al2 _ _ _) hb
    clear hb HO
    obtain ⟨kE, oE⟩ := Rg.ret5 kR rfl (.slice sa' sn' sc') (.slice oa' on' oc') (.int .i64 cp') (.int .i64 fs') (.bool dn')
    replace kE := Rg.hid kE
    have post := Rg.hid ((⟨_, rfl, DAt.only hD1 kR plainZ oE, hbw.trans (oE.bel (by omega))⟩ : DPost w ((⟨safe, ops, cap, fuse, true⟩ : Dsk.Dk), (9 : Int)) _ _))
    have r0 := kR.cell 0
    have r1 := kR.cell 1
    have r2 := kR.cell 2
    have r3 := kR.cell 3
    have r4 := kR.cell 4
    simp only [List.getElem?_cons_zero, List.getElem?_cons_succ] at r0 r1 r2 r3 r4
    have rf := kR.thaw
    clear oE kR
    go_wp2
    replace kE := kE.out
    replace post := post.out
    generalize World.setCell _ _ _ = WE at *
    exact bodyPost_ret (v := .tuple #[.agg #[.slice sa' sn' sc', .slice oa' on' oc', .int .i64 cp', .int .i64 fs', .bool dn'], .int .i64 ((⟨safe, ops, cap, fuse, true⟩ : Dsk.Dk), (9 : Int)).2]) (by simp [results, Try.results33, go_sem, kE.cell]) rfl post
  case false =>
    rw [if_neg (by simp)] at hch
    replace HC := Rg.hid (HC.out rfl)
    cases nm
    case false =>
      clear HC
      rw [if_neg (by simp)] at hch
      have hch' := hch.out
      subst hch'
      go_enter Try.func33, Try.ntmps33
      go_wp2_with (first
        | (go_at_call 53; refine (HI.out _).mono ?_; rintro e w' ⟨rfl, rfl⟩)
        | (go_at_call 52; refine (HO.out _ (Rg.al2 _ _ _)).mono ?_))
      rintro e w1 ⟨sa', sn', sc', oa', on', oc', cp', fs', dn', rfl, hD1, hb⟩
      have kR : Rg.Bk (w.heap.size + 1) [.slice none 0 0, .slice none 0 0, .int .i64 0, .int .i64 0, .bool false] 28 w1 := Rg.Bk.below (Rg.Bk.new (by simp)) hb (by simp)
      have hbw : Below w.heap.size w w1 := Rg.chain (Rg.al2 _ _ _) hb
      clear hb HO HI
      obtain ⟨kE, oE⟩ := Rg.ret5 kR rfl (.slice sa' sn' sc') (.slice oa' on' oc') (.int .i64 cp') (.int .i64 fs') (.bool dn')
      replace kE := Rg.hid kE
      have post := Rg.hid ((⟨_, rfl, DAt.only hD1 kR plainZ oE, hbw.trans (oE.bel (by omega))⟩ : DPost w ((⟨safe, ops, cap, fuse, false⟩ : Dsk.Dk), (11 : Int)) _ _))
      have r0 := kR.cell 0
      have r1 := kR.cell 1
      have r2 := kR.cell 2
      have r3 := kR.cell 3
      have r4 := kR.cell 4
      simp only [List.getElem?_cons_zero, List.getElem?_cons_succ] at r0 r1 r2 r3 r4
      have rf := kR.thaw
      clear oE kR
      go_wp2
      replace kE := kE.out
      replace post := post.out
      generalize World.setCell _ _ _ = WE at *
      exact bodyPost_ret (v := .tuple #[.agg #[.slice sa' sn' sc', .slice oa' on' oc', .int .i64 cp', .int .i64 fs', .bool dn'], .int .i64 ((⟨safe, ops, cap, fuse, false⟩ : Dsk.Dk), (11 : Int)).2]) (by simp [results, Try.results33, go_sem, kE.cell]) rfl post
    rw [if_pos rfl] at hch
    cases hh
    case false =>
      clear HC
      rw [if_neg (by simp)] at hch
      have hch' := hch.out
      subst hch'
      go_enter Try.func33, Try.ntmps33
      go_upto_region 6 with (first
      | (go_at_call 53; refine (HI.out _).mono ?_; rintro e w' ⟨rfl, rfl⟩)
      | (go_at_call 55; refine (HH.out _ (Rg.al2 _ _ _)).mono ?_; rintro e w0 ⟨rfl, b0⟩; have kB0 : Rg.Bk w.heap.size [.slice sa SN sc, .slice oa ON oc, .int .i64 cap, .int .i64 fuse, .bool false] 28 w0 := Rg.Bk.below ((Rg.Bk.new rfl).old _) b0 (by simp; omega)))
      have kR0 : Rg.Bk (w.heap.size + 1) [.slice none 0 0, .slice none 0 0, .int .i64 0, .int .i64 0, .bool false] 28 w0 := Rg.Bk.below (Rg.Bk.new (by simp)) b0 (by simp)
      have hb0 : Below w.heap.size w w0 := Rg.chain (Rg.al2 _ _ _) b0
      have z0 : w0.cell? ⟨w.heap.size, 0, none⟩ = some (.slice sa SN sc) := kB0.cell 0
      have z1 : w0.cell? ⟨w.heap.size, 1, none⟩ = some (.slice oa ON oc) := kB0.cell 1
      have z2 : w0.cell? ⟨w.heap.size, 2, none⟩ = some (.int .i64 cap) := kB0.cell 2
      have z3 : w0.cell? ⟨w.heap.size, 3, none⟩ = some (.int .i64 fuse) := kB0.cell 3
      have z4 : w0.cell? ⟨w.heap.size, 4, none⟩ = some (.bool false) := kB0.cell 4
      have kR0' := Rg.hid kR0
      clear kB0 kR0 b0 HH HI
      go_wp2_with (go_at_call 52; refine (HO.out _ hb0).mono ?_)
      rintro e w1 ⟨sa', sn', sc', oa', on', oc', cp', fs', dn', rfl, hD1, hb⟩
      have kR := kR0'.out.below hb kR0'.out.lt
      have hbw := Rg.chain hb0 hb
      clear hb hb0 z0 z1 z2 z3 z4 kR0' HO
      obtain ⟨kE, oE⟩ := Rg.ret5 kR rfl (.slice sa' sn' sc') (.slice oa' on' oc') (.int .i64 cp') (.int .i64 fs') (.bool dn')
      replace kE := Rg.hid kE
      have post := Rg.hid ((⟨_, rfl, DAt.only hD1 kR plainZ oE, hbw.trans (oE.bel (by omega))⟩ : DPost w ((⟨safe, ops, cap, fuse, false⟩ : Dsk.Dk), (6 : Int)) _ _))
      have r0 := kR.cell 0
      have r1 := kR.cell 1
      have r2 := kR.cell 2
      have r3 := kR.cell 3
      have r4 := kR.cell 4
      simp only [List.getElem?_cons_zero, List.getElem?_cons_succ] at r0 r1 r2 r3 r4
      have rf := kR.thaw
      clear oE kR
      go_wp2
      replace kE := kE.out
      replace post := post.out
      generalize World.setCell _ _ _ = WE at *
      exact bodyPost_ret (v := .tuple #[.agg #[.slice sa' sn' sc', .slice oa' on' oc', .int .i64 cp', .int .i64 fs', .bool dn'], .int .i64 ((⟨safe, ops, cap, fuse, false⟩ : Dsk.Dk), (6 : Int)).2]) (by simp [results, Try.results33, go_sem, kE.cell]) rfl post
    case true =>
      clear HO
      rw [if_pos rfl] at hch
      have hch' := hch.out
      subst hch'
      go_enter Try.func33, Try.ntmps33
      go_upto_region 7 with (first
      | (go_at_call 53; refine (HI.out _).mono ?_; rintro e w' ⟨rfl, rfl⟩)
      | (go_at_call 55; refine (HH.out _ (Rg.al2 _ _ _)).mono ?_; rintro e w0 ⟨rfl, b0⟩; have kB0 : Rg.Bk w.heap.size [.slice sa SN sc, .slice oa ON oc, .int .i64 cap, .int .i64 fuse, .bool false] 28 w0 := Rg.Bk.below ((Rg.Bk.new rfl).old _) b0 (by simp; omega)))
      have kR0 : Rg.Bk (w.heap.size + 1) [.slice none 0 0, .slice none 0 0, .int .i64 0, .int .i64 0, .bool false] 28 w0 := Rg.Bk.below (Rg.Bk.new (by simp)) b0 (by simp)
      have hb0 : Below w.heap.size w w0 := Rg.chain (Rg.al2 _ _ _) b0
      have z0 : w0.cell? ⟨w.heap.size, 0, none⟩ = some (.slice sa SN sc) := kB0.cell 0
      have z1 : w0.cell? ⟨w.heap.size, 1, none⟩ = some (.slice oa ON oc) := kB0.cell 1
      have z2 : w0.cell? ⟨w.heap.size, 2, none⟩ = some (.int .i64 cap) := kB0.cell 2
      have z3 : w0.cell? ⟨w.heap.size, 3, none⟩ = some (.int .i64 fuse) := kB0.cell 3
      have z4 : w0.cell? ⟨w.heap.size, 4, none⟩ = some (.bool false) := kB0.cell 4
      have kR0' := Rg.hid kR0
      clear kB0 kR0 b0 HH HI
      go_wp2_with (go_at_call 54; refine (HC.out _ hb0).mono ?_)
      rintro e w1 ⟨sa', sn', sc', oa', on', oc', cp', fs', dn', rfl, hD1, hb⟩
      have kR := kR0'.out.below hb kR0'.out.lt
      have hbw := Rg.chain hb0 hb
      clear hb hb0 z0 z1 z2 z3 z4 kR0' HC
      obtain ⟨kE, oE⟩ := Rg.ret5 kR rfl (.slice sa' sn' sc') (.slice oa' on' oc') (.int .i64 cp') (.int .i64 fs') (.bool dn')
      replace kE := Rg.hid kE
      have post := Rg.hid ((⟨_, rfl, DAt.only hD1 kR plainZ oE, hbw.trans (oE.bel (by omega))⟩ : DPost w r _ _))
      have r0 := kR.cell 0
      have r1 := kR.cell 1
      have r2 := kR.cell 2
      have r3 := kR.cell 3
      have r4 := kR.cell 4
      simp only [List.getElem?_cons_zero, List.getElem?_cons_succ] at r0 r1 r2 r3 r4
      have rf := kR.thaw
      clear oE kR
      go_wp2
      replace kE := kE.out
      replace post := post.out
      generalize World.setCell _ _ _ = WE at *
      exact bodyPost_ret (v := .tuple #[.agg #[.slice sa' sn' sc', .slice oa' on' oc', .int .i64 cp', .int .i64 fs', .bool dn'], .int .i64 r.2]) (by simp [results, Try.results33, go_sem, kE.cell]) rfl post

set_option maxHeartbeats 1000000 in
set_option maxRecDepth 100000 in
theorem rremove_any (v : Value) (d : Dsk.Dk) (n : ByteArray) (w : World) (hd : Dsk.Ok d) (hw : Dsk.used d.safe + Dsk.wt d.ops + 16 ≤ 10000000000) (h : DAt w v d) :
    Calls Try.prog 34 #[v, .string n] w fun e w' => DPost w (Dsk.remove d n) e w' := by
  have HO : Hid (∀ W, Below w.heap.size w W → Calls Try.prog 52 #[v] W fun e w' => NEx W d e w') := fun W hW => (rown_any v d W hd (h.below hW)).mono fun e w' ⟨gs, cs, go, co, rest, h1, h2, h3, h4, h5⟩ => NotePost.ex ⟨_, h1, ⟨some ⟨gs, 0, none⟩, cs, some ⟨go, 0, none⟩, co, rfl, h2, h4.toRow, h3, h4.le⟩, h5⟩
  have HC : Hid (d.down = false → ∀ W, Below w.heap.size w W → Calls Try.prog 54 #[v, .agg #[.int .i64 4, .string n, .string ByteArray.empty, .string ByteArray.empty]] W fun e w' => DEx W (Dsk.dod d ⟨4, n, ByteArray.empty, ByteArray.empty⟩) e w') := fun hdn W hW => (rdo_4 v d n ByteArray.empty ByteArray.empty W hd hdn (by simpa using hw) (h.below hW)).mono fun e w' q => q.ex
  have hch : Hid (Dsk.remove d n = if d.down = true then (d, 9) else if Dsk.has (Dsk.files d) n = true then Dsk.dod d ⟨4, n, ByteArray.empty, ByteArray.empty⟩ else (d, 6)) := remove_dod d n
  have HH : Hid (∀ W, Below w.heap.size w W → Calls Try.prog 55 #[v, .string n] W fun e w' => e = .returned (.bool (Dsk.has (Dsk.files d) n)) ∧ Below W.heap.size W w') := fun W hW => rhas_any v d n W hd (h.below hW)
  obtain ⟨sa, sc, oa, oc, rfl, hS, hO, hsc, hoc⟩ := h
  generalize Dsk.remove d n = r at *
  generalize Dsk.dod d ⟨4, n, ByteArray.empty, ByteArray.empty⟩ = rd at *
  generalize Dsk.has (Dsk.files d) n = hh at *
  obtain ⟨safe, ops, cap, fuse, down⟩ := d
  dsimp only at *
  clear hS hO hd hsc hoc
  unfold dval at *
  generalize safe.length = SN at *
  generalize ops.length = ON at *
  cases down
  case true =>
    clear HC
    rw [if_pos rfl] at hch
    have hch' := hch.out
    subst hch'
    go_enter Try.func34, Try.ntmps34
    go_wp2_with (go_at_call 52; refine (HO.out _ (Rg.al2 _ _ _)).mono ?_)
    rintro e w1 ⟨sa', sn', sc', oa', on', oc', cp', fs', dn', rfl, hD1, hb⟩
    have kR : Rg.Bk (w.heap.size + 1) [.slice none 0 0, .slice none 0 0, .int .i64 0, .int .i64 0, .bool false] 28 w1 := Rg.Bk.below (Rg.Bk.new (by simp)) hb (by simp)
    have hbw : Below w.heap.size w w1 := Rg.chain (Rg.al2 _ _ _) hb
    clear hb HO
    obtain ⟨kE, oE⟩ := Rg.ret5 kR rfl (.slice sa' sn' sc') (.slice oa' on' oc') (.int .i64 cp') (.int .i64 fs') (.bool dn')
    replace kE := Rg.hid kE
    have post := Rg.hid ((⟨_, rfl, DAt.only hD1 kR plainZ oE, hbw.trans (oE.bel (by omega))⟩ : DPost w ((⟨safe, ops, cap, fuse, true⟩ : Dsk.Dk), (9 : Int)) _ _))
    have r0 := kR.cell 0
    have r1 := kR.cell 1
    have r2 := kR.cell 2
    have r3 := kR.cell 3
    have r4 := kR.cell 4
    simp only [List.getElem?_cons_zero, List.getElem?_cons_succ] at r0 r1 r2 r3 r4
    have rf := kR.thaw
    clear oE kR
    go_wp2
    replace kE := kE.out
    replace post := post.out
    generalize World.setCell _ _ _ = WE at *
    exact bodyPost_ret (v := .tuple #[.agg #[.slice sa' sn' sc', .slice oa' on' oc', .int .i64 cp', .int .i64 fs', .bool dn'], .int .i64 ((⟨safe, ops, cap, fuse, true⟩ : Dsk.Dk), (9 : Int)).2]) (by simp [results, Try.results34, go_sem, kE.cell]) rfl post
  case false =>
    rw [if_neg (by simp)] at hch
    replace HC := Rg.hid (HC.out rfl)
    cases hh
    case false =>
      clear HC
      rw [if_neg (by simp)] at hch
      have hch' := hch.out
      subst hch'
      go_enter Try.func34, Try.ntmps34
      go_upto_region 4 with (go_at_call 55; refine (HH.out _ (Rg.al2 _ _ _)).mono ?_; rintro e w0 ⟨rfl, b0⟩; have kB0 : Rg.Bk w.heap.size [.slice sa SN sc, .slice oa ON oc, .int .i64 cap, .int .i64 fuse, .bool false] 28 w0 := Rg.Bk.below ((Rg.Bk.new rfl).old _) b0 (by simp; omega))
      have kR0 : Rg.Bk (w.heap.size + 1) [.slice none 0 0, .slice none 0 0, .int .i64 0, .int .i64 0, .bool false] 28 w0 := Rg.Bk.below (Rg.Bk.new (by simp)) b0 (by simp)
      have hb0 : Below w.heap.size w w0 := Rg.chain (Rg.al2 _ _ _) b0
      have z0 : w0.cell? ⟨w.heap.size, 0, none⟩ = some (.slice sa SN sc) := kB0.cell 0
      have z1 : w0.cell? ⟨w.heap.size, 1, none⟩ = some (.slice oa ON oc) := kB0.cell 1
      have z2 : w0.cell? ⟨w.heap.size, 2, none⟩ = some (.int .i64 cap) := kB0.cell 2
      have z3 : w0.cell? ⟨w.heap.size, 3, none⟩ = some (.int .i64 fuse) := kB0.cell 3
      have z4 : w0.cell? ⟨w.heap.size, 4, none⟩ = some (.bool false) := kB0.cell 4
      have kR0' := Rg.hid kR0
      clear kB0 kR0 b0 HH
      go_wp2_with (go_at_call 52; refine (HO.out _ hb0).mono ?_)
      rintro e w1 ⟨sa', sn', sc', oa', on', oc', cp', fs', dn', rfl, hD1, hb⟩
      have kR := kR0'.out.below hb kR0'.out.lt
      have hbw := Rg.chain hb0 hb
      clear hb hb0 z0 z1 z2 z3 z4 kR0' HO
      obtain ⟨kE, oE⟩ := Rg.ret5 kR rfl (.slice sa' sn' sc') (.slice oa' on' oc') (.int .i64 cp') (.int .i64 fs') (.bool dn')
      replace kE := Rg.hid kE
      have post := Rg.hid ((⟨_, rfl, DAt.only hD1 kR plainZ oE, hbw.trans (oE.bel (by omega))⟩ : DPost w ((⟨safe, ops, cap, fuse, false⟩ : Dsk.Dk), (6 : Int)) _ _))
      have r0 := kR.cell 0
      have r1 := kR.cell 1
      have r2 := kR.cell 2
      have r3 := kR.cell 3
      have r4 := kR.cell 4
      simp only [List.getElem?_cons_zero, List.getElem?_cons_succ] at r0 r1 r2 r3 r4
      have rf := kR.thaw
      clear oE kR
      go_wp2
      replace kE := kE.out
      replace post := post.out
      generalize World.setCell _ _ _ = WE at *
      exact bodyPost_ret (v := .tuple #[.agg #[.slice sa' sn' sc', .slice oa' on' oc', .int .i64 cp', .int .i64 fs', .bool dn'], .int .i64 ((⟨safe, ops, cap, fuse, false⟩ : Dsk.Dk), (6 : Int)).2]) (by simp [results, Try.results34, go_sem, kE.cell]) rfl post
    case true =>
      clear HO
      rw [if_pos rfl] at hch
      have hch' := hch.out
      subst hch'
      go_enter Try.func34, Try.ntmps34
      go_upto_region 5 with (go_at_call 55; refine (HH.out _ (Rg.al2 _ _ _)).mono ?_; rintro e w0 ⟨rfl, b0⟩; have kB0 : Rg.Bk w.heap.size [.slice sa SN sc, .slice oa ON oc, .int .i64 cap, .int .i64 fuse, .bool false] 28 w0 := Rg.Bk.below ((Rg.Bk.new rfl).old _) b0 (by simp; omega))
      have kR0 : Rg.Bk (w.heap.size + 1) [.slice none 0 0, .slice none 0 0, .int .i64 0, .int .i64 0, .bool false] 28 w0 := Rg.Bk.below (Rg.Bk.new (by simp)) b0 (by simp)
      have hb0 : Below w.heap.size w w0 := Rg.chain (Rg.al2 _ _ _) b0
      have z0 : w0.cell? ⟨w.heap.size, 0, none⟩ = some (.slice sa SN sc) := kB0.cell 0
      have z1 : w0.cell? ⟨w.heap.size, 1, none⟩ = some (.slice oa ON oc) := kB0.cell 1
      have z2 : w0.cell? ⟨w.heap.size, 2, none⟩ = some (.int .i64 cap) := kB0.cell 2
      have z3 : w0.cell? ⟨w.heap.size, 3, none⟩ = some (.int .i64 fuse) := kB0.cell 3
      have z4 : w0.cell? ⟨w.heap.size, 4, none⟩ = some (.bool false) := kB0.cell 4
      have kR0' := Rg.hid kR0
      clear kB0 kR0 b0 HH
      go_wp2_with (go_at_call 54; refine (HC.out _ hb0).mono ?_)
      rintro e w1 ⟨sa', sn', sc', oa', on', oc', cp', fs', dn', rfl, hD1, hb⟩
      have kR := kR0'.out.below hb kR0'.out.lt
      have hbw := Rg.chain hb0 hb
      clear hb hb0 z0 z1 z2 z3 z4 kR0' HC
      obtain ⟨kE, oE⟩ := Rg.ret5 kR rfl (.slice sa' sn' sc') (.slice oa' on' oc') (.int .i64 cp') (.int .i64 fs') (.bool dn')
      replace kE := Rg.hid kE
      have post := Rg.hid ((⟨_, rfl, DAt.only hD1 kR plainZ oE, hbw.trans (oE.bel (by omega))⟩ : DPost w r _ _))
      have r0 := kR.cell 0
      have r1 := kR.cell 1
      have r2 := kR.cell 2
      have r3 := kR.cell 3
      have r4 := kR.cell 4
      simp only [List.getElem?_cons_zero, List.getElem?_cons_succ] at r0 r1 r2 r3 r4
      have rf := kR.thaw
      clear oE kR
      go_wp2
      replace kE := kE.out
      replace post := post.out
      generalize World.setCell _ _ _ = WE at *
      exact bodyPost_ret (v := .tuple #[.agg #[.slice sa' sn' sc', .slice oa' on' oc', .int .i64 cp', .int .i64 fs', .bool dn'], .int .i64 r.2]) (by simp [results, Try.results34, go_sem, kE.cell]) rfl post
end Go.Proofs.Ytempiajepomajaa
