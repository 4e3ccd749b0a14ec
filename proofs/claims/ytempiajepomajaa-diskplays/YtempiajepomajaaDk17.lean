/-
  Layer 6: the statements' calls of a disk (play).
-/
import Derived.Test.YtempiajepomajaaDk16
namespace Go.Proofs.Ytempiajepomajaa
open Go.RowKit

namespace Dsk
/-- a call -/
structure Cl where
  k : Int
  n : ByteArray
  t : ByteArray
  x : ByteArray
  m : Int
def play (d : Dk) (c : Cl) : Dk × Int :=
  if c.k = 1 then write d c.n c.x else if c.k = 2 then append d c.n c.x else if c.k = 3 then rename d c.n c.t else if c.k = 4 then remove d c.n
  else if c.k = 5 then sync d else if c.k = 6 then (arm d c.m, 0) else if c.k = 7 then (setRoom d c.m, 0) else if c.k = 8 then (crash d c.m, 0) else (start d, 0)
end Dsk
/-- a call's cells -/
def callE : Rg.El Dsk.Cl := { enc := fun c => [.int .i64 c.k, .string c.n, .string c.t, .string c.x, .int .i64 c.m], m := 5, hm := fun _ => rfl, pos := by decide, one := fun x u hu => by simp at hu; rcases hu with rfl | rfl | rfl | rfl | rfl <;> rfl, ty := 31 }
theorem call_at {W : World} {b o : Nat} {k : Int} {n t x : ByteArray} {m : Int} (h : Rg.At W b o (callE.enc ⟨k, n, t, x, m⟩)) : W.cell? ⟨b, o, none⟩ = some (.int .i64 k) ∧ W.cell? ⟨b, o + 1, none⟩ = some (.string n) ∧ W.cell? ⟨b, o + 2, none⟩ = some (.string t) ∧ W.cell? ⟨b, o + 3, none⟩ = some (.string x) ∧ W.cell? ⟨b, o + 4, none⟩ = some (.int .i64 m) := ⟨h 0 _ rfl, h 1 _ rfl, h 2 _ rfl, h 3 _ rfl, h 4 _ rfl⟩

set_option maxHeartbeats 1000000 in
set_option maxRecDepth 100000 in
theorem play_1 (v : Value) (d : Dsk.Dk) (n t x : ByteArray) (m : Int) (w : World) (hd : Dsk.Ok d) (hw : Dsk.used d.safe + Dsk.wt d.ops + x.size + 16 ≤ 10000000000) (hn : n.size ≤ maxLen) (ht : t.size ≤ maxLen) (h : DAt w v d) :
    Calls Try.prog 8 #[v, .agg #[.int .i64 1, .string n, .string t, .string x, .int .i64 m]] w fun e w' => DPost w (Dsk.write d n x) e w' := by
  have HC : Hid (∀ W, Below w.heap.size w W → Calls Try.prog 21 #[v, .string n, .string x] W fun e w' => DEx W (Dsk.write d n x) e w') := fun W hW => (write_any v d n x W hd hw hn (h.below hW)).mono fun e w' q => q.ex
  obtain ⟨sa, sc, oa, oc, rfl, hS, hO, hsc, hoc⟩ := h
  generalize Dsk.write d n x = r at *
  obtain ⟨safe, ops, cap, fuse, down⟩ := d
  dsimp only at *
  have q := And.intro hd (And.intro hw (And.intro hn ht))
  clear q hd hw hn ht
  clear hS hO
  unfold dval at *
  generalize safe.length = SN at *
  generalize ops.length = ON at *
  go_enter Try.func8, Try.ntmps8
  go_wp2_with (go_at_call 21; refine (HC.out _ (Rg.al3 _ _ _ _)).mono ?_)
  rintro e w1 ⟨sa', sn', sc', oa', on', oc', cp', fs', dn', rfl, hD, hb⟩
  have kR : Rg.Bk (w.heap.size + 1 + 1) [.slice none 0 0, .slice none 0 0, .int .i64 0, .int .i64 0, .bool false] 28 w1 := Rg.Bk.below (Rg.Bk.new (by simp)) hb (by simp)
  have hbw : Below w.heap.size w w1 := Rg.chain (Rg.al3 _ _ _ _) hb
  clear hb HC
  obtain ⟨kE, oE⟩ := Rg.ret5 kR rfl (.slice sa' sn' sc') (.slice oa' on' oc') (.int .i64 cp') (.int .i64 fs') (.bool dn')
  replace kE := Rg.hid kE
  have post := Rg.hid ((⟨_, rfl, DAt.only hD kR plainZ oE, hbw.trans (oE.bel (by omega))⟩ : DPost w r _ _))
  have r0 := kR.cell 0
  have r1 := kR.cell 1
  have r2 := kR.cell 2
  have r3 := kR.cell 3
  have r4 := kR.cell 4
  simp only [List.getElem?_cons_zero, List.getElem?_cons_succ] at r0 r1 r2 r3 r4
  have rf := kR.thaw
  clear oE kR
  go_wp2
  replace kE := kE.out
  replace post := post.out
  generalize World.setCell _ _ _ = WE at *
  exact bodyPost_ret (v := .tuple #[.agg #[.slice sa' sn' sc', .slice oa' on' oc', .int .i64 cp', .int .i64 fs', .bool dn'], .int .i64 r.2]) (by simp [results, Try.results8, go_sem, kE.cell]) rfl post

set_option maxHeartbeats 1000000 in
set_option maxRecDepth 100000 in
theorem play_2 (v : Value) (d : Dsk.Dk) (n t x : ByteArray) (m : Int) (w : World) (hd : Dsk.Ok d) (hw : Dsk.used d.safe + Dsk.wt d.ops + x.size + 16 ≤ 10000000000) (hn : n.size ≤ maxLen) (ht : t.size ≤ maxLen) (h : DAt w v d) :
    Calls Try.prog 8 #[v, .agg #[.int .i64 2, .string n, .string t, .string x, .int .i64 m]] w fun e w' => DPost w (Dsk.append d n x) e w' := by
  have HC : Hid (∀ W, Below w.heap.size w W → Calls Try.prog 24 #[v, .string n, .string x] W fun e w' => DEx W (Dsk.append d n x) e w') := fun W hW => (append_any v d n x W hd hw hn (h.below hW)).mono fun e w' q => q.ex
  obtain ⟨sa, sc, oa, oc, rfl, hS, hO, hsc, hoc⟩ := h
  generalize Dsk.append d n x = r at *
  obtain ⟨safe, ops, cap, fuse, down⟩ := d
  dsimp only at *
  have q := And.intro hd (And.intro hw (And.intro hn ht))
  clear q hd hw hn ht
  clear hS hO
  unfold dval at *
  generalize safe.length = SN at *
  generalize ops.length = ON at *
  go_enter Try.func8, Try.ntmps8
  go_wp2_with (go_at_call 24; refine (HC.out _ (Rg.al3 _ _ _ _)).mono ?_)
  rintro e w1 ⟨sa', sn', sc', oa', on', oc', cp', fs', dn', rfl, hD, hb⟩
  have kR : Rg.Bk (w.heap.size + 1 + 1) [.slice none 0 0, .slice none 0 0, .int .i64 0, .int .i64 0, .bool false] 28 w1 := Rg.Bk.below (Rg.Bk.new (by simp)) hb (by simp)
  have hbw : Below w.heap.size w w1 := Rg.chain (Rg.al3 _ _ _ _) hb
  clear hb HC
  obtain ⟨kE, oE⟩ := Rg.ret5 kR rfl (.slice sa' sn' sc') (.slice oa' on' oc') (.int .i64 cp') (.int .i64 fs') (.bool dn')
  replace kE := Rg.hid kE
  have post := Rg.hid ((⟨_, rfl, DAt.only hD kR plainZ oE, hbw.trans (oE.bel (by omega))⟩ : DPost w r _ _))
  have r0 := kR.cell 0
  have r1 := kR.cell 1
  have r2 := kR.cell 2
  have r3 := kR.cell 3
  have r4 := kR.cell 4
  simp only [List.getElem?_cons_zero, List.getElem?_cons_succ] at r0 r1 r2 r3 r4
  have rf := kR.thaw
  clear oE kR
  go_wp2
  replace kE := kE.out
  replace post := post.out
  generalize World.setCell _ _ _ = WE at *
  exact bodyPost_ret (v := .tuple #[.agg #[.slice sa' sn' sc', .slice oa' on' oc', .int .i64 cp', .int .i64 fs', .bool dn'], .int .i64 r.2]) (by simp [results, Try.results8, go_sem, kE.cell]) rfl post

set_option maxHeartbeats 1000000 in
set_option maxRecDepth 100000 in
theorem play_3 (v : Value) (d : Dsk.Dk) (n t x : ByteArray) (m : Int) (w : World) (hd : Dsk.Ok d) (hw : Dsk.used d.safe + Dsk.wt d.ops + x.size + 16 ≤ 10000000000) (hn : n.size ≤ maxLen) (ht : t.size ≤ maxLen) (h : DAt w v d) :
    Calls Try.prog 8 #[v, .agg #[.int .i64 3, .string n, .string t, .string x, .int .i64 m]] w fun e w' => DPost w (Dsk.rename d n t) e w' := by
  have HC : Hid (∀ W, Below w.heap.size w W → Calls Try.prog 25 #[v, .string n, .string t] W fun e w' => DEx W (Dsk.rename d n t) e w') := fun W hW => (rename_any v d n t W hd ht (h.below hW)).mono fun e w' q => q.ex
  obtain ⟨sa, sc, oa, oc, rfl, hS, hO, hsc, hoc⟩ := h
  generalize Dsk.rename d n t = r at *
  obtain ⟨safe, ops, cap, fuse, down⟩ := d
  dsimp only at *
  have q := And.intro hd (And.intro hw (And.intro hn ht))
  clear q hd hw hn ht
  clear hS hO
  unfold dval at *
  generalize safe.length = SN at *
  generalize ops.length = ON at *
  go_enter Try.func8, Try.ntmps8
  go_wp2_with (go_at_call 25; refine (HC.out _ (Rg.al3 _ _ _ _)).mono ?_)
  rintro e w1 ⟨sa', sn', sc', oa', on', oc', cp', fs', dn', rfl, hD, hb⟩
  have kR : Rg.Bk (w.heap.size + 1 + 1) [.slice none 0 0, .slice none 0 0, .int .i64 0, .int .i64 0, .bool false] 28 w1 := Rg.Bk.below (Rg.Bk.new (by simp)) hb (by simp)
  have hbw : Below w.heap.size w w1 := Rg.chain (Rg.al3 _ _ _ _) hb
  clear hb HC
  obtain ⟨kE, oE⟩ := Rg.ret5 kR rfl (.slice sa' sn' sc') (.slice oa' on' oc') (.int .i64 cp') (.int .i64 fs') (.bool dn')
  replace kE := Rg.hid kE
  have post := Rg.hid ((⟨_, rfl, DAt.only hD kR plainZ oE, hbw.trans (oE.bel (by omega))⟩ : DPost w r _ _))
  have r0 := kR.cell 0
  have r1 := kR.cell 1
  have r2 := kR.cell 2
  have r3 := kR.cell 3
  have r4 := kR.cell 4
  simp only [List.getElem?_cons_zero, List.getElem?_cons_succ] at r0 r1 r2 r3 r4
  have rf := kR.thaw
  clear oE kR
  go_wp2
  replace kE := kE.out
  replace post := post.out
  generalize World.setCell _ _ _ = WE at *
  exact bodyPost_ret (v := .tuple #[.agg #[.slice sa' sn' sc', .slice oa' on' oc', .int .i64 cp', .int .i64 fs', .bool dn'], .int .i64 r.2]) (by simp [results, Try.results8, go_sem, kE.cell]) rfl post

set_option maxHeartbeats 1000000 in
set_option maxRecDepth 100000 in
theorem play_4 (v : Value) (d : Dsk.Dk) (n t x : ByteArray) (m : Int) (w : World) (hd : Dsk.Ok d) (hw : Dsk.used d.safe + Dsk.wt d.ops + x.size + 16 ≤ 10000000000) (hn : n.size ≤ maxLen) (ht : t.size ≤ maxLen) (h : DAt w v d) :
    Calls Try.prog 8 #[v, .agg #[.int .i64 4, .string n, .string t, .string x, .int .i64 m]] w fun e w' => DPost w (Dsk.remove d n) e w' := by
  have HC : Hid (∀ W, Below w.heap.size w W → Calls Try.prog 26 #[v, .string n] W fun e w' => DEx W (Dsk.remove d n) e w') := fun W hW => (remove_any v d n W hd (h.below hW)).mono fun e w' q => q.ex
  obtain ⟨sa, sc, oa, oc, rfl, hS, hO, hsc, hoc⟩ := h
  generalize Dsk.remove d n = r at *
  obtain ⟨safe, ops, cap, fuse, down⟩ := d
  dsimp only at *
  have q := And.intro hd (And.intro hw (And.intro hn ht))
  clear q hd hw hn ht
  clear hS hO
  unfold dval at *
  generalize safe.length = SN at *
  generalize ops.length = ON at *
  go_enter Try.func8, Try.ntmps8
  go_wp2_with (go_at_call 26; refine (HC.out _ (Rg.al3 _ _ _ _)).mono ?_)
  rintro e w1 ⟨sa', sn', sc', oa', on', oc', cp', fs', dn', rfl, hD, hb⟩
  have kR : Rg.Bk (w.heap.size + 1 + 1) [.slice none 0 0, .slice none 0 0, .int .i64 0, .int .i64 0, .bool false] 28 w1 := Rg.Bk.below (Rg.Bk.new (by simp)) hb (by simp)
  have hbw : Below w.heap.size w w1 := Rg.chain (Rg.al3 _ _ _ _) hb
  clear hb HC
  obtain ⟨kE, oE⟩ := Rg.ret5 kR rfl (.slice sa' sn' sc') (.slice oa' on' oc') (.int .i64 cp') (.int .i64 fs') (.bool dn')
  replace kE := Rg.hid kE
  have post := Rg.hid ((⟨_, rfl, DAt.only hD kR plainZ oE, hbw.trans (oE.bel (by omega))⟩ : DPost w r _ _))
  have r0 := kR.cell 0
  have r1 := kR.cell 1
  have r2 := kR.cell 2
  have r3 := kR.cell 3
  have r4 := kR.cell 4
  simp only [List.getElem?_cons_zero, List.getElem?_cons_succ] at r0 r1 r2 r3 r4
  have rf := kR.thaw
  clear oE kR
  go_wp2
  replace kE := kE.out
  replace post := post.out
  generalize World.setCell _ _ _ = WE at *
  exact bodyPost_ret (v := .tuple #[.agg #[.slice sa' sn' sc', .slice oa' on' oc', .int .i64 cp', .int .i64 fs', .bool dn'], .int .i64 r.2]) (by simp [results, Try.results8, go_sem, kE.cell]) rfl post

set_option maxHeartbeats 1000000 in
set_option maxRecDepth 100000 in
theorem play_5 (v : Value) (d : Dsk.Dk) (n t x : ByteArray) (m : Int) (w : World) (hd : Dsk.Ok d) (hw : Dsk.used d.safe + Dsk.wt d.ops + x.size + 16 ≤ 10000000000) (hn : n.size ≤ maxLen) (ht : t.size ≤ maxLen) (h : DAt w v d) :
    Calls Try.prog 8 #[v, .agg #[.int .i64 5, .string n, .string t, .string x, .int .i64 m]] w fun e w' => DPost w (Dsk.sync d) e w' := by
  have HC : Hid (∀ W, Below w.heap.size w W → Calls Try.prog 27 #[v] W fun e w' => DEx W (Dsk.sync d) e w') := fun W hW => (sync_any v d W hd (h.below hW)).mono fun e w' q => q.ex
  obtain ⟨sa, sc, oa, oc, rfl, hS, hO, hsc, hoc⟩ := h
  generalize Dsk.sync d = r at *
  obtain ⟨safe, ops, cap, fuse, down⟩ := d
  dsimp only at *
  have q := And.intro hd (And.intro hw (And.intro hn ht))
  clear q hd hw hn ht
  clear hS hO
  unfold dval at *
  generalize safe.length = SN at *
  generalize ops.length = ON at *
  go_enter Try.func8, Try.ntmps8
  go_wp2_with (go_at_call 27; refine (HC.out _ (Rg.al3 _ _ _ _)).mono ?_)
  rintro e w1 ⟨sa', sn', sc', oa', on', oc', cp', fs', dn', rfl, hD, hb⟩
  have kR : Rg.Bk (w.heap.size + 1 + 1) [.slice none 0 0, .slice none 0 0, .int .i64 0, .int .i64 0, .bool false] 28 w1 := Rg.Bk.below (Rg.Bk.new (by simp)) hb (by simp)
  have hbw : Below w.heap.size w w1 := Rg.chain (Rg.al3 _ _ _ _) hb
  clear hb HC
  obtain ⟨kE, oE⟩ := Rg.ret5 kR rfl (.slice sa' sn' sc') (.slice oa' on' oc') (.int .i64 cp') (.int .i64 fs') (.bool dn')
  replace kE := Rg.hid kE
  have post := Rg.hid ((⟨_, rfl, DAt.only hD kR plainZ oE, hbw.trans (oE.bel (by omega))⟩ : DPost w r _ _))
  have r0 := kR.cell 0
  have r1 := kR.cell 1
  have r2 := kR.cell 2
  have r3 := kR.cell 3
  have r4 := kR.cell 4
  simp only [List.getElem?_cons_zero, List.getElem?_cons_succ] at r0 r1 r2 r3 r4
  have rf := kR.thaw
  clear oE kR
  go_wp2
  replace kE := kE.out
  replace post := post.out
  generalize World.setCell _ _ _ = WE at *
  exact bodyPost_ret (v := .tuple #[.agg #[.slice sa' sn' sc', .slice oa' on' oc', .int .i64 cp', .int .i64 fs', .bool dn'], .int .i64 r.2]) (by simp [results, Try.results8, go_sem, kE.cell]) rfl post

set_option maxHeartbeats 1000000 in
set_option maxRecDepth 100000 in
theorem play_6 (v : Value) (d : Dsk.Dk) (n t x : ByteArray) (m : Int) (w : World) (hd : Dsk.Ok d) (hw : Dsk.used d.safe + Dsk.wt d.ops + x.size + 16 ≤ 10000000000) (hn : n.size ≤ maxLen) (ht : t.size ≤ maxLen) (h : DAt w v d) :
    Calls Try.prog 8 #[v, .agg #[.int .i64 6, .string n, .string t, .string x, .int .i64 m]] w fun e w' => DPost w ((Dsk.arm d m, 0)) e w' := by
  have HC : Hid (∀ W, Below w.heap.size w W → Calls Try.prog 28 #[v, .int .i64 m] W fun e w' => NEx W (Dsk.arm d m) e w') := fun W hW => (arm_any v d m W (h.below hW)).mono fun e w' q => q.ex
  obtain ⟨sa, sc, oa, oc, rfl, hS, hO, hsc, hoc⟩ := h
  generalize Dsk.arm d m = r at *
  obtain ⟨safe, ops, cap, fuse, down⟩ := d
  dsimp only at *
  have q := And.intro hd (And.intro hw (And.intro hn ht))
  clear q hd hw hn ht
  clear hS hO
  unfold dval at *
  generalize safe.length = SN at *
  generalize ops.length = ON at *
  go_enter Try.func8, Try.ntmps8
  go_wp2_with (go_at_call 28; refine (HC.out _ (Rg.al3 _ _ _ _)).mono ?_)
  rintro e w1 ⟨sa', sn', sc', oa', on', oc', cp', fs', dn', rfl, hD, hb⟩
  have kR : Rg.Bk (w.heap.size + 1 + 1) [.slice none 0 0, .slice none 0 0, .int .i64 0, .int .i64 0, .bool false] 28 w1 := Rg.Bk.below (Rg.Bk.new (by simp)) hb (by simp)
  have hbw : Below w.heap.size w w1 := Rg.chain (Rg.al3 _ _ _ _) hb
  clear hb HC
  obtain ⟨kE, oE⟩ := Rg.ret5 kR rfl (.slice sa' sn' sc') (.slice oa' on' oc') (.int .i64 cp') (.int .i64 fs') (.bool dn')
  replace kE := Rg.hid kE
  have post := Rg.hid ((⟨_, rfl, DAt.only hD kR plainZ oE, hbw.trans (oE.bel (by omega))⟩ : DPost w (r, 0) _ _))
  have r0 := kR.cell 0
  have r1 := kR.cell 1
  have r2 := kR.cell 2
  have r3 := kR.cell 3
  have r4 := kR.cell 4
  simp only [List.getElem?_cons_zero, List.getElem?_cons_succ] at r0 r1 r2 r3 r4
  have rf := kR.thaw
  clear oE kR
  go_wp2
  replace kE := kE.out
  replace post := post.out
  generalize World.setCell _ _ _ = WE at *
  exact bodyPost_ret (v := .tuple #[.agg #[.slice sa' sn' sc', .slice oa' on' oc', .int .i64 cp', .int .i64 fs', .bool dn'], .int .i64 0]) (by simp [results, Try.results8, go_sem, kE.cell]) rfl post

set_option maxHeartbeats 1000000 in
set_option maxRecDepth 100000 in
theorem play_7 (v : Value) (d : Dsk.Dk) (n t x : ByteArray) (m : Int) (w : World) (hd : Dsk.Ok d) (hw : Dsk.used d.safe + Dsk.wt d.ops + x.size + 16 ≤ 10000000000) (hn : n.size ≤ maxLen) (ht : t.size ≤ maxLen) (h : DAt w v d) :
    Calls Try.prog 8 #[v, .agg #[.int .i64 7, .string n, .string t, .string x, .int .i64 m]] w fun e w' => DPost w ((Dsk.setRoom d m, 0)) e w' := by
  have HC : Hid (∀ W, Below w.heap.size w W → Calls Try.prog 29 #[v, .int .i64 m] W fun e w' => NEx W (Dsk.setRoom d m) e w') := fun W hW => (room_any v d m W (h.below hW)).mono fun e w' q => q.ex
  obtain ⟨sa, sc, oa, oc, rfl, hS, hO, hsc, hoc⟩ := h
  generalize Dsk.setRoom d m = r at *
  obtain ⟨safe, ops, cap, fuse, down⟩ := d
  dsimp only at *
  have q := And.intro hd (And.intro hw (And.intro hn ht))
  clear q hd hw hn ht
  clear hS hO
  unfold dval at *
  generalize safe.length = SN at *
  generalize ops.length = ON at *
  go_enter Try.func8, Try.ntmps8
  go_wp2_with (go_at_call 29; refine (HC.out _ (Rg.al3 _ _ _ _)).mono ?_)
  rintro e w1 ⟨sa', sn', sc', oa', on', oc', cp', fs', dn', rfl, hD, hb⟩
  have kR : Rg.Bk (w.heap.size + 1 + 1) [.slice none 0 0, .slice none 0 0, .int .i64 0, .int .i64 0, .bool false] 28 w1 := Rg.Bk.below (Rg.Bk.new (by simp)) hb (by simp)
  have hbw : Below w.heap.size w w1 := Rg.chain (Rg.al3 _ _ _ _) hb
  clear hb HC
  obtain ⟨kE, oE⟩ := Rg.ret5 kR rfl (.slice sa' sn' sc') (.slice oa' on' oc') (.int .i64 cp') (.int .i64 fs') (.bool dn')
  replace kE := Rg.hid kE
  have post := Rg.hid ((⟨_, rfl, DAt.only hD kR plainZ oE, hbw.trans (oE.bel (by omega))⟩ : DPost w (r, 0) _ _))
  have r0 := kR.cell 0
  have r1 := kR.cell 1
  have r2 := kR.cell 2
  have r3 := kR.cell 3
  have r4 := kR.cell 4
  simp only [List.getElem?_cons_zero, List.getElem?_cons_succ] at r0 r1 r2 r3 r4
  have rf := kR.thaw
  clear oE kR
  go_wp2
  replace kE := kE.out
  replace post := post.out
  generalize World.setCell _ _ _ = WE at *
  exact bodyPost_ret (v := .tuple #[.agg #[.slice sa' sn' sc', .slice oa' on' oc', .int .i64 cp', .int .i64 fs', .bool dn'], .int .i64 0]) (by simp [results, Try.results8, go_sem, kE.cell]) rfl post

set_option maxHeartbeats 1000000 in
set_option maxRecDepth 100000 in
theorem play_8 (v : Value) (d : Dsk.Dk) (n t x : ByteArray) (m : Int) (w : World) (hd : Dsk.Ok d) (hw : Dsk.used d.safe + Dsk.wt d.ops + x.size + 16 ≤ 10000000000) (hn : n.size ≤ maxLen) (ht : t.size ≤ maxLen) (h : DAt w v d) :
    Calls Try.prog 8 #[v, .agg #[.int .i64 8, .string n, .string t, .string x, .int .i64 m]] w fun e w' => DPost w ((Dsk.crash d m, 0)) e w' := by
  have HC : Hid (∀ W, Below w.heap.size w W → Calls Try.prog 22 #[v, .int .i64 m] W fun e w' => NEx W (Dsk.crash d m) e w') := fun W hW => (crash_any v d m W hd (h.below hW)).mono fun e w' q => q.ex
  obtain ⟨sa, sc, oa, oc, rfl, hS, hO, hsc, hoc⟩ := h
  generalize Dsk.crash d m = r at *
  obtain ⟨safe, ops, cap, fuse, down⟩ := d
  dsimp only at *
  have q := And.intro hd (And.intro hw (And.intro hn ht))
  clear q hd hw hn ht
  clear hS hO
  unfold dval at *
  generalize safe.length = SN at *
  generalize ops.length = ON at *
  go_enter Try.func8, Try.ntmps8
  go_wp2_with (go_at_call 22; refine (HC.out _ (Rg.al3 _ _ _ _)).mono ?_)
  rintro e w1 ⟨sa', sn', sc', oa', on', oc', cp', fs', dn', rfl, hD, hb⟩
  have kR : Rg.Bk (w.heap.size + 1 + 1) [.slice none 0 0, .slice none 0 0, .int .i64 0, .int .i64 0, .bool false] 28 w1 := Rg.Bk.below (Rg.Bk.new (by simp)) hb (by simp)
  have hbw : Below w.heap.size w w1 := Rg.chain (Rg.al3 _ _ _ _) hb
  clear hb HC
  obtain ⟨kE, oE⟩ := Rg.ret5 kR rfl (.slice sa' sn' sc') (.slice oa' on' oc') (.int .i64 cp') (.int .i64 fs') (.bool dn')
  replace kE := Rg.hid kE
  have post := Rg.hid ((⟨_, rfl, DAt.only hD kR plainZ oE, hbw.trans (oE.bel (by omega))⟩ : DPost w (r, 0) _ _))
  have r0 := kR.cell 0
  have r1 := kR.cell 1
  have r2 := kR.cell 2
  have r3 := kR.cell 3
  have r4 := kR.cell 4
  simp only [List.getElem?_cons_zero, List.getElem?_cons_succ] at r0 r1 r2 r3 r4
  have rf := kR.thaw
  clear oE kR
  go_wp2
  replace kE := kE.out
  replace post := post.out
  generalize World.setCell _ _ _ = WE at *
  exact bodyPost_ret (v := .tuple #[.agg #[.slice sa' sn' sc', .slice oa' on' oc', .int .i64 cp', .int .i64 fs', .bool dn'], .int .i64 0]) (by simp [results, Try.results8, go_sem, kE.cell]) rfl post

set_option maxHeartbeats 1000000 in
set_option maxRecDepth 100000 in
theorem play_else (v : Value) (d : Dsk.Dk) (k : Int) (n t x : ByteArray) (m : Int) (w : World) (hd : Dsk.Ok d) (hw : Dsk.used d.safe + Dsk.wt d.ops + x.size + 16 ≤ 10000000000) (hn : n.size ≤ maxLen) (ht : t.size ≤ maxLen) (h : DAt w v d) (h1 : k ≠ 1) (h2 : k ≠ 2) (h3 : k ≠ 3) (h4 : k ≠ 4) (h5 : k ≠ 5) (h6 : k ≠ 6) (h7 : k ≠ 7) (h8 : k ≠ 8) :
    Calls Try.prog 8 #[v, .agg #[.int .i64 k, .string n, .string t, .string x, .int .i64 m]] w fun e w' => DPost w ((Dsk.start d, 0)) e w' := by
  have HC : Hid (∀ W, Below w.heap.size w W → Calls Try.prog 30 #[v] W fun e w' => NEx W (Dsk.start d) e w') := fun W hW => (start_any v d W (h.below hW)).mono fun e w' q => q.ex
  obtain ⟨sa, sc, oa, oc, rfl, hS, hO, hsc, hoc⟩ := h
  generalize Dsk.start d = r at *
  obtain ⟨safe, ops, cap, fuse, down⟩ := d
  dsimp only at *
  have q := And.intro hd (And.intro hw (And.intro hn ht))
  clear q hd hw hn ht
  have d1 : (k == 1) = false := by simp [h1]
  have d2 : (k == 2) = false := by simp [h2]
  have d3 : (k == 3) = false := by simp [h3]
  have d4 : (k == 4) = false := by simp [h4]
  have d5 : (k == 5) = false := by simp [h5]
  have d6 : (k == 6) = false := by simp [h6]
  have d7 : (k == 7) = false := by simp [h7]
  have d8 : (k == 8) = false := by simp [h8]
  clear hS hO
  unfold dval at *
  generalize safe.length = SN at *
  generalize ops.length = ON at *
  go_enter Try.func8, Try.ntmps8
  go_wp2_with (go_at_call 30; refine (HC.out _ (Rg.al3 _ _ _ _)).mono ?_)
  rintro e w1 ⟨sa', sn', sc', oa', on', oc', cp', fs', dn', rfl, hD, hb⟩
  have kR : Rg.Bk (w.heap.size + 1 + 1) [.slice none 0 0, .slice none 0 0, .int .i64 0, .int .i64 0, .bool false] 28 w1 := Rg.Bk.below (Rg.Bk.new (by simp)) hb (by simp)
  have hbw : Below w.heap.size w w1 := Rg.chain (Rg.al3 _ _ _ _) hb
  clear hb HC
  obtain ⟨kE, oE⟩ := Rg.ret5 kR rfl (.slice sa' sn' sc') (.slice oa' on' oc') (.int .i64 cp') (.int .i64 fs') (.bool dn')
  replace kE := Rg.hid kE
  have post := Rg.hid ((⟨_, rfl, DAt.only hD kR plainZ oE, hbw.trans (oE.bel (by omega))⟩ : DPost w (r, 0) _ _))
  have r0 := kR.cell 0
  have r1 := kR.cell 1
  have r2 := kR.cell 2
  have r3 := kR.cell 3
  have r4 := kR.cell 4
  simp only [List.getElem?_cons_zero, List.getElem?_cons_succ] at r0 r1 r2 r3 r4
  have rf := kR.thaw
  clear oE kR
  go_wp2
  replace kE := kE.out
  replace post := post.out
  generalize World.setCell _ _ _ = WE at *
  exact bodyPost_ret (v := .tuple #[.agg #[.slice sa' sn' sc', .slice oa' on' oc', .int .i64 cp', .int .i64 fs', .bool dn'], .int .i64 0]) (by simp [results, Try.results8, go_sem, kE.cell]) rfl post

theorem play_any (v : Value) (d : Dsk.Dk) (c : Dsk.Cl) (w : World) (hd : Dsk.Ok d) (hw : Dsk.used d.safe + Dsk.wt d.ops + c.x.size + 16 ≤ 10000000000) (hn : c.n.size ≤ maxLen) (ht : c.t.size ≤ maxLen) (h : DAt w v d) :
    Calls Try.prog 8 #[v, .agg #[.int .i64 c.k, .string c.n, .string c.t, .string c.x, .int .i64 c.m]] w fun e w' => DPost w (Dsk.play d c) e w' := by
  obtain ⟨k, n, t, x, m⟩ := c
  dsimp only at *
  unfold Dsk.play
  dsimp only
  by_cases h1 : k = 1
  · subst h1; exact play_1 v d n t x m w hd hw hn ht h
  rw [if_neg h1]
  by_cases h2 : k = 2
  · subst h2; exact play_2 v d n t x m w hd hw hn ht h
  rw [if_neg h2]
  by_cases h3 : k = 3
  · subst h3; exact play_3 v d n t x m w hd hw hn ht h
  rw [if_neg h3]
  by_cases h4 : k = 4
  · subst h4; exact play_4 v d n t x m w hd hw hn ht h
  rw [if_neg h4]
  by_cases h5 : k = 5
  · subst h5; exact play_5 v d n t x m w hd hw hn ht h
  rw [if_neg h5]
  by_cases h6 : k = 6
  · subst h6; exact play_6 v d n t x m w hd hw hn ht h
  rw [if_neg h6]
  by_cases h7 : k = 7
  · subst h7; exact play_7 v d n t x m w hd hw hn ht h
  rw [if_neg h7]
  by_cases h8 : k = 8
  · subst h8; exact play_8 v d n t x m w hd hw hn ht h
  rw [if_neg h8]
  exact play_else v d k n t x m w hd hw hn ht h h1 h2 h3 h4 h5 h6 h7 h8
end Go.Proofs.Ytempiajepomajaa
