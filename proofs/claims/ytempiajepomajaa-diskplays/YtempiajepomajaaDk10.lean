/-
  Layer 6: operate, change, fill.
-/
import Derived.Test.YtempiajepomajaaDk9
namespace Go.Proofs.Ytempiajepomajaa
open Go.RowKit

namespace Dsk
def operate (d : Dk) (o : Dop) : Dk × Int := if d.fuse = 0 then ({ d with down := true }, 9) else (note (burn d) o, 0)
end Dsk
/-- behind a call that hands back a disk and an error -/
def DPost (w : World) (r : Dsk.Dk × Int) (e : Ending) (w' : World) : Prop := ∃ v, e = .returned (.tuple #[v, .int .i64 r.2]) ∧ DAt w' v r.1 ∧ Below w.heap.size w w'
theorem DPost.mk' {w W : World} {d : Dsk.Dk} {x : Int} {v : Value} (h : DAt W v d) (hb : Below w.heap.size w W) : DPost w (d, x) (.returned (.tuple #[v, .int .i64 x])) W := ⟨v, rfl, h, hb⟩
theorem DAt.form {W : World} {v : Value} {d : Dsk.Dk} (h : DAt W v d) : ∃ sa sc oa oc, v = .agg #[.slice sa d.safe.length sc, .slice oa d.ops.length oc, .int .i64 d.cap, .int .i64 d.fuse, .bool d.down] := by
  obtain ⟨sa, sc, oa, oc, h1, _⟩ := h
  exact ⟨sa, sc, oa, oc, h1⟩
namespace Dsk
theorem burn_eq (d : Dk) : burn d = { d with fuse := if d.fuse > 0 then d.fuse - 1 else d.fuse } := by
  unfold burn; split <;> rfl
end Dsk

set_option maxHeartbeats 1000000 in
set_option maxRecDepth 100000 in
theorem operate_any (v : Value) (d : Dsk.Dk) (o : Dsk.Dop) (w : World) (hd : d.ops.length ≤ 1000000000) (hf : -1 ≤ d.fuse) (hf' : d.fuse ≤ 9223372036854775807) (h : DAt w v d) :
    Calls Try.prog 64 #[v, .agg #[.int .i64 o.k, .string o.n, .string o.t, .string o.d]] w fun e w' => DPost w (Dsk.operate d o) e w' := by
  have h0 := h
  obtain ⟨sa, sc, oa, oc, rfl, hS, hO, hsc, hoc⟩ := h
  obtain ⟨safe, ops, cap, fuse, down⟩ := d
  obtain ⟨k, n, t, x⟩ := o
  dsimp only at *
  by_cases hz : fuse = 0
  · subst hz
    have hop : Dsk.operate ⟨safe, ops, cap, 0, down⟩ ⟨k, n, t, x⟩ = (⟨safe, ops, cap, 0, true⟩, 9) := rfl
    rw [hop]
    have HS : Hid (∀ W, Calls Try.prog 51 #[.agg #[.slice sa safe.length sc, .slice oa ops.length oc, .int .i64 cap, .int .i64 0, .bool down]] W fun e w' => e = .returned (.tuple #[.agg #[.slice sa safe.length sc, .slice oa ops.length oc, .int .i64 cap, .int .i64 0, .bool true], .int .i64 9]) ∧ Below W.heap.size W w') := fun W => (spend_any sa safe.length sc oa ops.length oc cap 0 down W (by omega) (by omega)).mono fun e w' ⟨h1, h2⟩ => ⟨by rw [h1]; simp, h2⟩
    have hfin : Hid (∀ W, Below w.heap.size w W → DAt W (.agg #[.slice sa safe.length sc, .slice oa ops.length oc, .int .i64 cap, .int .i64 0, .bool true]) ⟨safe, ops, cap, 0, true⟩) := fun W hW => ⟨sa, sc, oa, oc, rfl, hS.below hW, hO.below hW, hsc, hoc⟩
    clear h0 hS hO hop
    unfold dval
    generalize safe.length = SN at *
    generalize ops.length = ON at *
    go_enter Try.func64, Try.ntmps64
    go_wp2_with (go_at_call 51; refine (HS.out _).mono ?_)
    rintro e w1 ⟨rfl, hb⟩
    have kR : Rg.Bk (w.heap.size + 1 + 1) [.slice none 0 0, .slice none 0 0, .int .i64 0, .int .i64 0, .bool false] 28 w1 := Rg.Bk.below (Rg.Bk.new (by simp)) hb (by simp)
    have hbw : Below w.heap.size w w1 := Rg.chain (Rg.al3 _ _ _ _) hb
    have hz1 : w.heap.size + 1 + 1 < w1.heap.size := kR.lt
    clear HS hb
    obtain ⟨kE, oE⟩ := Rg.ret5 kR rfl (.slice sa SN sc) (.slice oa ON oc) (.int .i64 cap) (.int .i64 0) (.bool true)
    replace kE := Rg.hid kE
    have post := Rg.hid (DPost.mk' (x := 9) (DAt.below (DAt.only (hfin.out _ hbw) kR plainZ oE) (Rg.al1 _ (.cells #[.slice sa SN sc, .slice oa ON oc, .int .i64 cap, .int .i64 0, .bool true] 28))) (Rg.chain (hbw.trans (oE.bel (by omega))) (Rg.al1 _ _)))
    have r0 := kR.cell 0
    have r1 := kR.cell 1
    have r2 := kR.cell 2
    have r3 := kR.cell 3
    have r4 := kR.cell 4
    simp only [List.getElem?_cons_zero, List.getElem?_cons_succ] at r0 r1 r2 r3 r4
    have rf := kR.thaw
    clear oE kR
    go_wp2
    replace kE := kE.out
    replace post := post.out
    generalize World.setCell _ _ _ = WE at *
    have kE2 := kE.old (.cells #[.slice sa SN sc, .slice oa ON oc, .int .i64 cap, .int .i64 0, .bool true] 28)
    generalize World.alloc WE _ = WF at *
    exact bodyPost_ret (v := .tuple #[.agg #[.slice sa SN sc, .slice oa ON oc, .int .i64 cap, .int .i64 0, .bool true], .int .i64 9]) (by simp [results, Try.results64, go_sem, kE2.cell]) rfl post
  · obtain ⟨fz, hfz⟩ : ∃ fz, fz = if fuse > 0 then fuse - 1 else fuse := ⟨_, rfl⟩
    have hop : Dsk.operate ⟨safe, ops, cap, fuse, down⟩ ⟨k, n, t, x⟩ = (Dsk.note ⟨safe, ops, cap, fz, down⟩ ⟨k, n, t, x⟩, 0) := by
      unfold Dsk.operate
      rw [if_neg hz, Dsk.burn_eq, hfz]
    rw [hop]
    have HS : Hid (∀ W, Calls Try.prog 51 #[.agg #[.slice sa safe.length sc, .slice oa ops.length oc, .int .i64 cap, .int .i64 fuse, .bool down]] W fun e w' => e = .returned (.tuple #[.agg #[.slice sa safe.length sc, .slice oa ops.length oc, .int .i64 cap, .int .i64 fz, .bool down], .int .i64 0]) ∧ Below W.heap.size W w') := fun W => (spend_any sa safe.length sc oa ops.length oc cap fuse down W hf hf').mono fun e w' ⟨h1, h2⟩ => ⟨by rw [h1, hfz, if_neg hz]; simp [hz], h2⟩
    have HN : Hid (∀ W, Below w.heap.size w W → Calls Try.prog 63 #[.agg #[.slice sa safe.length sc, .slice oa ops.length oc, .int .i64 cap, .int .i64 fz, .bool down], .agg #[.int .i64 k, .string n, .string t, .string x]] W fun e w' => ∃ sa' sn' sc' oa' on' oc', e = .returned (.agg #[.slice sa' sn' sc', .slice oa' on' oc', .int .i64 cap, .int .i64 fz, .bool down]) ∧ DAt w' (.agg #[.slice sa' sn' sc', .slice oa' on' oc', .int .i64 cap, .int .i64 fz, .bool down]) (Dsk.note ⟨safe, ops, cap, fz, down⟩ ⟨k, n, t, x⟩) ∧ Below W.heap.size W w') := fun W hW => (note_any _ ⟨safe, ops, cap, fz, down⟩ ⟨k, n, t, x⟩ W hd ⟨sa, sc, oa, oc, rfl, hS.below hW, hO.below hW, hsc, hoc⟩).mono fun e w' ⟨v, h1, h2, h3⟩ => by
      obtain ⟨sa', sc', oa', oc', h4⟩ := h2.form
      exact ⟨sa', _, sc', oa', _, oc', by rw [h1, h4]; rfl, by rw [h4] at h2; exact h2, h3⟩
    clear h0 hS hO hop hfz
    unfold dval
    generalize Dsk.note ⟨safe, ops, cap, fz, down⟩ ⟨k, n, t, x⟩ = d' at *
    generalize safe.length = SN at *
    generalize ops.length = ON at *
    go_enter Try.func64, Try.ntmps64
    go_wp2_with (go_at_call 51; refine (HS.out _).mono ?_)
    rintro e w1 ⟨rfl, hb⟩
    have kR : Rg.Bk (w.heap.size + 1 + 1) [.slice none 0 0, .slice none 0 0, .int .i64 0, .int .i64 0, .bool false] 28 w1 := Rg.Bk.below (Rg.Bk.new (by simp)) hb (by simp)
    have kO : Rg.Bk (w.heap.size + 1) [.int .i64 k, .string n, .string t, .string x] 56 w1 := Rg.Bk.below ((Rg.Bk.new (by simp)).old _) hb (by simp)
    have hbw : Below w.heap.size w w1 := Rg.chain (Rg.al3 _ _ _ _) hb
    have hz1 : w.heap.size + 1 + 1 < w1.heap.size := kR.lt
    have hz2 : w.heap.size + 1 < w1.heap.size := kO.lt
    have o0 : w1.cell? ⟨w.heap.size + 1, 0, none⟩ = some (.int .i64 k) := kO.cell 0
    have o1 : w1.cell? ⟨w.heap.size + 1, 1, none⟩ = some (.string n) := kO.cell 1
    have o2 : w1.cell? ⟨w.heap.size + 1, 2, none⟩ = some (.string t) := kO.cell 2
    have o3 : w1.cell? ⟨w.heap.size + 1, 3, none⟩ = some (.string x) := kO.cell 3
    have kR' := Rg.hid kR
    clear HS hb kO kR
    go_wp2_with (go_at_call 63; refine (HN.out _ (Rg.chain hbw (Rg.al1 _ _))).mono ?_)
    rintro e w2 ⟨sa', sn', sc', oa', on', oc', rfl, hD, hb2⟩
    have kR := (kR'.out.old (.cells #[.slice sa SN sc, .slice oa ON oc, .int .i64 cap, .int .i64 fz, .bool down] 28)).below hb2 (by simp; omega)
    have hbw2 : Below w.heap.size w w2 := Rg.chain (Rg.chain hbw (Rg.al1 _ _)) hb2
    clear HN hb2 o0 o1 o2 o3 hz1 hz2 hbw kR'
    obtain ⟨kE, oE⟩ := Rg.ret5 kR rfl (.slice sa' sn' sc') (.slice oa' on' oc') (.int .i64 cap) (.int .i64 fz) (.bool down)
    replace kE := Rg.hid kE
    have post := Rg.hid (DPost.mk' (x := 0) (DAt.only hD kR plainZ oE) (hbw2.trans (oE.bel (by omega))))
    have r0 := kR.cell 0
    have r1 := kR.cell 1
    have r2 := kR.cell 2
    have r3 := kR.cell 3
    have r4 := kR.cell 4
    simp only [List.getElem?_cons_zero, List.getElem?_cons_succ] at r0 r1 r2 r3 r4
    have rf := kR.thaw
    clear oE kR
    go_wp2
    replace kE := kE.out
    replace post := post.out
    generalize World.setCell _ _ _ = WE at *
    exact bodyPost_ret (v := .tuple #[.agg #[.slice sa' sn' sc', .slice oa' on' oc', .int .i64 cap, .int .i64 fz, .bool down], .int .i64 0]) (by simp [results, Try.results64, go_sem, kE.cell]) rfl post
end Go.Proofs.Ytempiajepomajaa
