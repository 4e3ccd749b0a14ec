/-
  Layer 6: Read; note. Layer 6: operate, change, fill.
-/
import Derived.Test.YtmilfamjkiemaaaGreatDoorSzAN
import Derived.Test.YtmilfamjkiemaaaGreatDoorSzAG
import Derived.Deep.RegionLaw
namespace Go.Proofs.YtmilfamjkiemaaaGreatDoor
open Go.RowKit

namespace Dsk
/-- P6.2: the bytes of a file -/
def read (d : Dk) (n : ByteArray) : ByteArray × Int := if d.down = true then (ByteArray.empty, 9) else match get (files d) n with | none => (ByteArray.empty, 6) | some x => (x, 0)
def note (d : Dk) (o : Dop) : Dk := { d with ops := d.ops ++ [o] }
end Dsk

set_option maxHeartbeats 1000000 in
theorem read_any (v : Value) (d : Dsk.Dk) (n : ByteArray) (w : World) (hd : Dsk.Ok d) (h : DAt w v d) :
    Calls Tryz.prog 85 #[v, .string n] w fun e w' => e = .returned (.tuple #[.string (Dsk.read d n).1, .int .i64 (Dsk.read d n).2]) ∧ Below w.heap.size w w' := by
  have HF : Hid (∀ W, Below w.heap.size w W → Calls Tryz.prog 44 #[v] W fun e w' => ∃ a c, e = .returned (.slice a (Dsk.files d).length c) ∧ fileE.Row w' a (Dsk.files d) ∧ Below w.heap.size w w') := fun W hW => (files_any v d W hd (h.below hW)).mono fun e w' ⟨v, h1, h2, h3⟩ => by
    obtain ⟨a, c, h4, h5⟩ := h2.shape
    exact ⟨a, c, by rw [h1, h4], h5, hW.trans (h3.mono hW.size)⟩
  have hul := hd.files
  have hll := Dsk.len_used (Dsk.files d)
  have hfs := hd.fsrt
  have HI : Hid (∀ W a c, fileE.Row W a (Dsk.files d) → Calls Tryz.prog 121 #[.slice a (Dsk.files d).length c, .string n] W fun e w' => e = .returned (.tuple #[.int .i64 (Dsk.pos (Dsk.files d) n), .bool (Dsk.has (Dsk.files d) n)]) ∧ Below W.heap.size W w') := fun W a c hr => find_any a c _ n W hfs (by omega) hr
  have hrd : Hid (Dsk.read d n = if d.down = true then (ByteArray.empty, (9 : Int)) else match Dsk.get (Dsk.files d) n with | none => (ByteArray.empty, (6 : Int)) | some x => (x, (0 : Int))) := rfl
  obtain ⟨sa, sc, oa, oc, rfl, hS, hO, hsc, hoc⟩ := h
  generalize Dsk.read d n = rd at *
  generalize Dsk.files d = l at *
  obtain ⟨safe, ops, cap, fuse, down⟩ := d
  unfold dval at *
  dsimp only at *
  generalize safe.length = SN at *
  generalize ops.length = ON at *
  clear hS hO hd hfs
  cases down
  · rw [if_neg (by simp)] at hrd
    cases hh : Dsk.has l n
    · have hg : Dsk.get l n = none := by unfold Dsk.has at hh; cases e : Dsk.get l n; (· rfl); rw [e] at hh; cases hh
      rw [hg] at hrd
      rw [hh] at HI
      replace hrd := hrd.out
      dsimp only at hrd
      subst hrd
      clear hh hg
      go_enter Tryz.func85, Tryz.ntmps85
      go_wp2_with (go_at_call 44; refine (HF.out _ (Rg.al1 _ _)).mono ?_)
      rintro e w2 ⟨a, c, rfl, hr, hb⟩
      replace hr := Rg.hid hr
      go_wp2_with (go_at_call 121; refine (HI.out _ _ _ hr.out).mono ?_)
      rintro e w3 ⟨rfl, hb3⟩
      go_wp2
      go_ret2
      exact ⟨rfl, Rg.chain hb hb3⟩
    · obtain ⟨x, hg⟩ := has_get hh
      rw [hg] at hrd
      rw [hh] at HI
      obtain ⟨hp, hpn, hpd⟩ := Dsk.get_some_iff.1 hg
      replace hrd := hrd.out
      dsimp only at hrd
      subst hrd
      have hcell : Hid (∀ W W' a, fileE.Row W a l → Below W.heap.size W W' → ∃ b o, a = some ⟨b, o, none⟩ ∧ W'.cell? ⟨b, o + Dsk.pos l n * 2 + 1, none⟩ = some (.string x)) := fun W W' a hr hb => by
        rcases hr with ⟨_, e⟩ | ⟨b, o, rfl, hb', hat⟩
        · subst e; simp at hp
        · obtain ⟨_, q1⟩ := file_at (show Rg.At W' b (o + Dsk.pos l n * 2) (fileE.enc ⟨l[Dsk.pos l n].n, l[Dsk.pos l n].d⟩) from (hat.elem hp).below hb hb')
          rw [hpd] at q1
          exact ⟨b, o, rfl, q1⟩
      clear hh hg hpn hpd
      generalize Dsk.pos l n = p at *
      have e0 : (0 : Int) ≤ (p : Int) := by omega
      have e1 : (p : Int) < (l.length : Int) := by omega
      go_enter Tryz.func85, Tryz.ntmps85
      go_wp2_with (go_at_call 44; refine (HF.out _ (Rg.al1 _ _)).mono ?_)
      rintro e w2 ⟨a, c, rfl, hr, hb⟩
      replace hr := Rg.hid hr
      go_wp2_with (go_at_call 121; refine (HI.out _ _ _ hr.out).mono ?_)
      rintro e w3 ⟨rfl, hb3⟩
      obtain ⟨b, o, rfl, q⟩ := hcell.out w2 w3 a hr.out hb3
      go_wp2
      go_ret2
      exact ⟨rfl, Rg.chain hb hb3⟩
  · rw [if_pos rfl] at hrd
    replace hrd := hrd.out
    subst hrd
    go_enter Tryz.func85, Tryz.ntmps85
    go_wp2
    go_ret2
    exact ⟨rfl, Rg.al1 _ _⟩

theorem infoOp : (Tryz.prog.info? 87).map (fun i => (i.zero, i.size, i.bytes)) = some (some (.agg #[.int .i64 0, .string ByteArray.empty, .string ByteArray.empty, .string ByteArray.empty]), 4, 56) := by kernel_rfl
theorem infoOp' : ∃ i0, Tryz.prog.info? 87 = some i0 ∧ i0.zero = some (.agg #[.int .i64 0, .string ByteArray.empty, .string ByteArray.empty, .string ByteArray.empty]) ∧ i0.size = 4 ∧ i0.bytes = 56 := by
  have := infoOp
  cases h : Tryz.prog.info? 87 with
  | none => rw [h] at this; cases this
  | some i => rw [h] at this; simp only [Option.map_some, Option.some.injEq, Prod.mk.injEq] at this; exact ⟨i, rfl, this.1, this.2.1, this.2.2⟩

/-- a disk's rows do not lie in the block of a disk -/
theorem DAt.only {W W' : World} {v : Value} {d : Dsk.Dk} {R : Nat} {C : List Value} {ty : TypeId} (h : DAt W v d) (k : Rg.Bk R C ty W) (hC : ∀ u ∈ C, ∀ s, u ≠ .string s) (ho : Rg.Only R W W') : DAt W' v d := by
  obtain ⟨sa, sc, oa, oc, h1, h2, h3, h4, h5⟩ := h
  refine ⟨sa, sc, oa, oc, h1, h2.only k 0 (by decide) (fun x u hu e => ?_) ho, h3.only k 1 (by decide) (fun x u hu e => ?_) ho, h4, h5⟩
  · exact hC u hu x.n (by simpa [fileE] using e.symm)
  · exact hC u hu x.n (by simpa [opE] using e.symm)
theorem plain5 {a b c d : Value} {e : Value} (h0 : ∀ s, a ≠ .string s) (h1 : ∀ s, b ≠ .string s) (h2 : ∀ s, c ≠ .string s) (h3 : ∀ s, d ≠ .string s) (h4 : ∀ s, e ≠ .string s) : ∀ u ∈ [a, b, c, d, e], ∀ s, u ≠ .string s := by
  intro u hu
  simp only [List.mem_cons, List.not_mem_nil, or_false] at hu
  rcases hu with rfl | rfl | rfl | rfl | rfl <;> assumption
theorem plainZ : ∀ u ∈ ([.slice none 0 0, .slice none 0 0, .int .i64 0, .int .i64 0, .bool false] : List Value), ∀ s, u ≠ .string s := plain5 (fun _ h => by cases h) (fun _ h => by cases h) (fun _ h => by cases h) (fun _ h => by cases h) (fun _ h => by cases h)
/-- behind note -/
def NotePost (w : World) (d : Dsk.Dk) (e : Ending) (w' : World) : Prop := ∃ v, e = .returned v ∧ DAt w' v d ∧ Below w.heap.size w w'

set_option maxHeartbeats 4000000 in
set_option maxRecDepth 100000 in
theorem note_any (v : Value) (d : Dsk.Dk) (o : Dsk.Dop) (w : World) (hd : d.ops.length ≤ 1000000000) (h : DAt w v d) :
    Calls Tryz.prog 108 #[v, .agg #[.int .i64 o.k, .string o.n, .string o.t, .string o.d]] w fun e w' => NotePost w (Dsk.note d o) e w' := by
  obtain ⟨i0, hi, hz0, hz1, hz2⟩ := infoOp'
  obtain ⟨sa, sc, oa, oc, rfl, hS, hO, hsc, hoc⟩ := h
  obtain ⟨safe, ops, cap, fuse, down⟩ := d
  obtain ⟨k, n, t, x⟩ := o
  have HA : Hid (∀ W g, Below w.heap.size w W → W.cell? ⟨g, 0, none⟩ = some (.int .i64 k) → W.cell? ⟨g, 1, none⟩ = some (.string n) → W.cell? ⟨g, 2, none⟩ = some (.string t) → W.cell? ⟨g, 3, none⟩ = some (.string x) → ∃ v' W', (Builtin.append_ #[26, 26] 26 #[.slice oa ops.length ops.length, .slice (some ⟨g, 0, none⟩) 1 1]).run Tryz.prog W = .ok v' W' ∧ ∃ g' cap', v' = .slice (some ⟨g', 0, none⟩) (ops.length + 1) cap' ∧ opE.Row W' (some ⟨g', 0, none⟩) (ops ++ [⟨k, n, t, x⟩]) ∧ ops.length + 1 ≤ cap' ∧ Below W.heap.size W W' ∧ W.heap.size ≤ g') := fun W g hW m0 m1 m2 m3 => by
    refine opE.append_full (P := Tryz.prog) W oa ops (hO.below hW) ⟨k, n, t, x⟩ 26 26 i0 _ 56 Tryz.underlying26 hi hz0 hz1 hz2 rfl ⟨g, 0, none⟩ 1 ?_ (by dsimp only at hd; omega) (by unfold maxLen; dsimp only at hd; omega)
    intro j u hj
    match j, hj with
    | 0, hj => simp [opE] at hj; subst hj; simpa [Addr.add] using m0
    | 1, hj => simp [opE] at hj; subst hj; simpa [Addr.add] using m1
    | 2, hj => simp [opE] at hj; subst hj; simpa [Addr.add] using m2
    | 3, hj => simp [opE] at hj; subst hj; simpa [Addr.add] using m3
    | j + 4, hj => simp [opE] at hj
  have hfin : Hid (∀ W g' cap', Below w.heap.size w W → opE.Row W (some ⟨g', 0, none⟩) (ops ++ [⟨k, n, t, x⟩]) → ops.length + 1 ≤ cap' → NotePost w (Dsk.note ⟨safe, ops, cap, fuse, down⟩ ⟨k, n, t, x⟩) (.returned (.agg #[.slice sa safe.length sc, .slice (some ⟨g', 0, none⟩) (ops.length + 1) cap', .int .i64 cap, .int .i64 fuse, .bool down])) W) := fun W g' cap' h1 h2 h3 => by
    refine ⟨_, rfl, ⟨sa, sc, some ⟨g', 0, none⟩, cap', ?_, hS.below h1, h2, hsc, ?_⟩, h1⟩
    · show _ = dval sa safe.length sc _ (ops ++ [_]).length cap' cap fuse down
      rw [List.length_append, List.length_singleton]; rfl
    · show (ops ++ [_]).length ≤ cap'
      rw [List.length_append, List.length_singleton]; exact h3
  unfold dval at *
  dsimp only at *
  generalize Dsk.note ⟨safe, ops, cap, fuse, down⟩ ⟨k, n, t, x⟩ = d' at *
  generalize safe.length = SN at *
  obtain ⟨N, hN⟩ : ∃ N, N = ops.length := ⟨_, rfl⟩
  rw [← hN] at HA hfin hoc hd ⊢
  obtain ⟨N1, hN1⟩ : ∃ N1, N1 = N + 1 := ⟨_, rfl⟩
  rw [← hN1] at HA hfin
  have e0 : (0 : Int) ≤ (N : Int) := by omega
  have e1 : (N : Int) ≤ (oc : Int) := by omega
  clear hS hO hi hz0 hz1 hz2 hN hN1 hsc
  go_enter Tryz.func108, Tryz.ntmps108
  go_wp2
  go_region_law ((refine Rg.step_append_ex (by rfl) (.tmp 13) (.tmp 15) 26 (by rfl) _ _ (by rfl) (by rfl) _ (HA.out _ _ (by exact (Rg.al4 _ _ _ _ _).drew) (by exact Rg.cell_new (by simp) rfl) (by exact Rg.cell_new (by simp) rfl) (by exact Rg.cell_new (by simp) rfl) (by exact Rg.cell_new (by simp) rfl)) ?_; rintro v' w' ⟨g', cap', rfl, hr, hle, hb, hg'⟩; obtain ⟨hc, hf⟩ := Rg.bcell hb))
  all_goals
    have kB : Rg.Bk w.heap.size [.slice sa SN sc, .slice oa N oc, .int .i64 cap, .int .i64 fuse, .bool down] 28 w' := Rg.Bk.below ((((Rg.Bk.new rfl).old _).old _).old _).drew hb (by simp; omega)
    have kR : Rg.Bk (w.heap.size + 1 + 1) [.slice none 0 0, .slice none 0 0, .int .i64 0, .int .i64 0, .bool false] 28 w' := Rg.Bk.below ((Rg.Bk.new (by simp)).old _).drew hb (by simp)
    have kB' := kB.set 1 (.slice (some ⟨g', 0, none⟩) N1 cap')
    have kR' := kR.other (c := w.heap.size) (i := 1) (by omega) (.slice (some ⟨g', 0, none⟩) N1 cap')
    have hr' := hr.other (c := w.heap.size) (i := 1) (by simp at hg'; omega) (.slice (some ⟨g', 0, none⟩) N1 cap')
    have hb' : Below w.heap.size w (w'.setCell ⟨w.heap.size, 1, none⟩ (.slice (some ⟨g', 0, none⟩) N1 cap')) := ((Rg.al4 _ _ _ _ _).drew.trans (hb.mono (by simp; omega))).setCell (Nat.le_refl _) _
    have hgR : g' ≠ w.heap.size + 1 + 1 := by simp at hg'; omega
    clear hc hf hb hr kB kR HA hg'
    generalize w'.setCell ⟨w.heap.size, 1, none⟩ (.slice (some ⟨g', 0, none⟩) N1 cap') = W5 at *
    have d0 : W5.cell? ⟨w.heap.size, 0, none⟩ = some (.slice sa SN sc) := kB'.cell 0
    have d1 : W5.cell? ⟨w.heap.size, 1, none⟩ = some (.slice (some ⟨g', 0, none⟩) N1 cap') := kB'.cell 1
    have d2 : W5.cell? ⟨w.heap.size, 2, none⟩ = some (.int .i64 cap) := kB'.cell 2
    have d3 : W5.cell? ⟨w.heap.size, 3, none⟩ = some (.int .i64 fuse) := kB'.cell 3
    have d4 : W5.cell? ⟨w.heap.size, 4, none⟩ = some (.bool down) := kB'.cell 4
    obtain ⟨kE, oE⟩ := Rg.ret5 kR' rfl (.slice sa SN sc) (.slice (some ⟨g', 0, none⟩) N1 cap') (.int .i64 cap) (.int .i64 fuse) (.bool down)
    replace kE := Rg.hid kE
    have post := Rg.hid (hfin.out _ g' cap' (hb'.trans (oE.bel (by omega))) (hr'.only kR' 1 (by decide) (fun x u hu e => plainZ u hu x.n (by simpa [opE] using e.symm)) oE) hle)
    clear oE
    have r0 : W5.cell? ⟨w.heap.size + 1 + 1, 0, none⟩ = some (.slice none 0 0) := kR'.cell 0
    have r1 : W5.cell? ⟨w.heap.size + 1 + 1, 1, none⟩ = some (.slice none 0 0) := kR'.cell 1
    have r2 : W5.cell? ⟨w.heap.size + 1 + 1, 2, none⟩ = some (.int .i64 0) := kR'.cell 2
    have r3 : W5.cell? ⟨w.heap.size + 1 + 1, 3, none⟩ = some (.int .i64 0) := kR'.cell 3
    have r4 : W5.cell? ⟨w.heap.size + 1 + 1, 4, none⟩ = some (.bool false) := kR'.cell 4
    have rf := kR'.thaw
    clear kB' kR' hr'
    go_wp2
    replace kE := kE.out
    replace post := post.out
    generalize World.setCell _ _ _ = WE at *
    exact bodyPost_ret (v := .agg #[.slice sa SN sc, .slice (some ⟨g', 0, none⟩) N1 cap', .int .i64 cap, .int .i64 fuse, .bool down]) (by simp [results, Tryz.results108, go_sem, kE.cell]) rfl post
end Go.Proofs.YtmilfamjkiemaaaGreatDoor

namespace Go.Proofs.YtmilfamjkiemaaaGreatDoor
open Go.RowKit

namespace Dsk
def operate (d : Dk) (o : Dop) : Dk × Int := if d.fuse = 0 then ({ d with down := true }, 9) else (note (burn d) o, 0)
end Dsk
/-- behind a call that hands back a disk and an error -/
def DPost (w : World) (r : Dsk.Dk × Int) (e : Ending) (w' : World) : Prop := ∃ v, e = .returned (.tuple #[v, .int .i64 r.2]) ∧ DAt w' v r.1 ∧ Below w.heap.size w w'
theorem DPost.mk' {w W : World} {d : Dsk.Dk} {x : Int} {v : Value} (h : DAt W v d) (hb : Below w.heap.size w W) : DPost w (d, x) (.returned (.tuple #[v, .int .i64 x])) W := ⟨v, rfl, h, hb⟩
theorem DAt.form {W : World} {v : Value} {d : Dsk.Dk} (h : DAt W v d) : ∃ sa sc oa oc, v = .agg #[.slice sa d.safe.length sc, .slice oa d.ops.length oc, .int .i64 d.cap, .int .i64 d.fuse, .bool d.down] := by
  obtain ⟨sa, sc, oa, oc, h1, _⟩ := h
  exact ⟨sa, sc, oa, oc, h1⟩
namespace Dsk
theorem burn_eq (d : Dk) : burn d = { d with fuse := if d.fuse > 0 then d.fuse - 1 else d.fuse } := by
  unfold burn; split <;> rfl
end Dsk

set_option maxHeartbeats 1000000 in
set_option maxRecDepth 100000 in
theorem operate_any (v : Value) (d : Dsk.Dk) (o : Dsk.Dop) (w : World) (hd : d.ops.length ≤ 1000000000) (hf : -1 ≤ d.fuse) (hf' : d.fuse ≤ 9223372036854775807) (h : DAt w v d) :
    Calls Tryz.prog 109 #[v, .agg #[.int .i64 o.k, .string o.n, .string o.t, .string o.d]] w fun e w' => DPost w (Dsk.operate d o) e w' := by
  have h0 := h
  obtain ⟨sa, sc, oa, oc, rfl, hS, hO, hsc, hoc⟩ := h
  obtain ⟨safe, ops, cap, fuse, down⟩ := d
  obtain ⟨k, n, t, x⟩ := o
  dsimp only at *
  by_cases hz : fuse = 0
  · subst hz
    have hop : Dsk.operate ⟨safe, ops, cap, 0, down⟩ ⟨k, n, t, x⟩ = (⟨safe, ops, cap, 0, true⟩, 9) := rfl
    rw [hop]
    have HS : Hid (∀ W, Calls Tryz.prog 110 #[.agg #[.slice sa safe.length sc, .slice oa ops.length oc, .int .i64 cap, .int .i64 0, .bool down]] W fun e w' => e = .returned (.tuple #[.agg #[.slice sa safe.length sc, .slice oa ops.length oc, .int .i64 cap, .int .i64 0, .bool true], .int .i64 9]) ∧ Below W.heap.size W w') := fun W => (spend_any sa safe.length sc oa ops.length oc cap 0 down W (by omega) (by omega)).mono fun e w' ⟨h1, h2⟩ => ⟨by rw [h1]; simp, h2⟩
    have hfin : Hid (∀ W, Below w.heap.size w W → DAt W (.agg #[.slice sa safe.length sc, .slice oa ops.length oc, .int .i64 cap, .int .i64 0, .bool true]) ⟨safe, ops, cap, 0, true⟩) := fun W hW => ⟨sa, sc, oa, oc, rfl, hS.below hW, hO.below hW, hsc, hoc⟩
    clear h0 hS hO hop
    unfold dval
    generalize safe.length = SN at *
    generalize ops.length = ON at *
    go_enter Tryz.func109, Tryz.ntmps109
    go_wp2_with (go_at_call 110; refine (HS.out _).mono ?_)
    rintro e w1 ⟨rfl, hb⟩
    have kR : Rg.Bk (w.heap.size + 1 + 1) [.slice none 0 0, .slice none 0 0, .int .i64 0, .int .i64 0, .bool false] 28 w1 := Rg.Bk.below (Rg.Bk.new (by simp)) hb (by simp)
    have hbw : Below w.heap.size w w1 := Rg.chain (Rg.al3 _ _ _ _) hb
    have hz1 : w.heap.size + 1 + 1 < w1.heap.size := kR.lt
    clear HS hb
    obtain ⟨kE, oE⟩ := Rg.ret5 kR rfl (.slice sa SN sc) (.slice oa ON oc) (.int .i64 cap) (.int .i64 0) (.bool true)
    replace kE := Rg.hid kE
    have post := Rg.hid (DPost.mk' (x := 9) (DAt.below (DAt.only (hfin.out _ hbw) kR plainZ oE) (Rg.al1 _ (.cells #[.slice sa SN sc, .slice oa ON oc, .int .i64 cap, .int .i64 0, .bool true] 28))) (Rg.chain (hbw.trans (oE.bel (by omega))) (Rg.al1 _ _)))
    have r0 := kR.cell 0
    have r1 := kR.cell 1
    have r2 := kR.cell 2
    have r3 := kR.cell 3
    have r4 := kR.cell 4
    simp only [List.getElem?_cons_zero, List.getElem?_cons_succ] at r0 r1 r2 r3 r4
    have rf := kR.thaw
    clear oE kR
    go_wp2
    replace kE := kE.out
    replace post := post.out
    generalize World.setCell _ _ _ = WE at *
    have kE2 := kE.old (.cells #[.slice sa SN sc, .slice oa ON oc, .int .i64 cap, .int .i64 0, .bool true] 28)
    generalize World.alloc WE _ = WF at *
    exact bodyPost_ret (v := .tuple #[.agg #[.slice sa SN sc, .slice oa ON oc, .int .i64 cap, .int .i64 0, .bool true], .int .i64 9]) (by simp [results, Tryz.results109, go_sem, kE2.cell]) rfl post
  · obtain ⟨fz, hfz⟩ : ∃ fz, fz = if fuse > 0 then fuse - 1 else fuse := ⟨_, rfl⟩
    have hop : Dsk.operate ⟨safe, ops, cap, fuse, down⟩ ⟨k, n, t, x⟩ = (Dsk.note ⟨safe, ops, cap, fz, down⟩ ⟨k, n, t, x⟩, 0) := by
      unfold Dsk.operate
      rw [if_neg hz, Dsk.burn_eq, hfz]
    rw [hop]
    have HS : Hid (∀ W, Calls Tryz.prog 110 #[.agg #[.slice sa safe.length sc, .slice oa ops.length oc, .int .i64 cap, .int .i64 fuse, .bool down]] W fun e w' => e = .returned (.tuple #[.agg #[.slice sa safe.length sc, .slice oa ops.length oc, .int .i64 cap, .int .i64 fz, .bool down], .int .i64 0]) ∧ Below W.heap.size W w') := fun W => (spend_any sa safe.length sc oa ops.length oc cap fuse down W hf hf').mono fun e w' ⟨h1, h2⟩ => ⟨by rw [h1, hfz, if_neg hz]; simp [hz], h2⟩
    have HN : Hid (∀ W, Below w.heap.size w W → Calls Tryz.prog 108 #[.agg #[.slice sa safe.length sc, .slice oa ops.length oc, .int .i64 cap, .int .i64 fz, .bool down], .agg #[.int .i64 k, .string n, .string t, .string x]] W fun e w' => ∃ sa' sn' sc' oa' on' oc', e = .returned (.agg #[.slice sa' sn' sc', .slice oa' on' oc', .int .i64 cap, .int .i64 fz, .bool down]) ∧ DAt w' (.agg #[.slice sa' sn' sc', .slice oa' on' oc', .int .i64 cap, .int .i64 fz, .bool down]) (Dsk.note ⟨safe, ops, cap, fz, down⟩ ⟨k, n, t, x⟩) ∧ Below W.heap.size W w') := fun W hW => (note_any _ ⟨safe, ops, cap, fz, down⟩ ⟨k, n, t, x⟩ W hd ⟨sa, sc, oa, oc, rfl, hS.below hW, hO.below hW, hsc, hoc⟩).mono fun e w' ⟨v, h1, h2, h3⟩ => by
      obtain ⟨sa', sc', oa', oc', h4⟩ := h2.form
      exact ⟨sa', _, sc', oa', _, oc', by rw [h1, h4]; rfl, by rw [h4] at h2; exact h2, h3⟩
    clear h0 hS hO hop hfz
    unfold dval
    generalize Dsk.note ⟨safe, ops, cap, fz, down⟩ ⟨k, n, t, x⟩ = d' at *
    generalize safe.length = SN at *
    generalize ops.length = ON at *
    go_enter Tryz.func109, Tryz.ntmps109
    go_wp2_with (go_at_call 110; refine (HS.out _).mono ?_)
    rintro e w1 ⟨rfl, hb⟩
    have kR : Rg.Bk (w.heap.size + 1 + 1) [.slice none 0 0, .slice none 0 0, .int .i64 0, .int .i64 0, .bool false] 28 w1 := Rg.Bk.below (Rg.Bk.new (by simp)) hb (by simp)
    have kO : Rg.Bk (w.heap.size + 1) [.int .i64 k, .string n, .string t, .string x] 87 w1 := Rg.Bk.below ((Rg.Bk.new (by simp)).old _) hb (by simp)
    have hbw : Below w.heap.size w w1 := Rg.chain (Rg.al3 _ _ _ _) hb
    have hz1 : w.heap.size + 1 + 1 < w1.heap.size := kR.lt
    have hz2 : w.heap.size + 1 < w1.heap.size := kO.lt
    have o0 : w1.cell? ⟨w.heap.size + 1, 0, none⟩ = some (.int .i64 k) := kO.cell 0
    have o1 : w1.cell? ⟨w.heap.size + 1, 1, none⟩ = some (.string n) := kO.cell 1
    have o2 : w1.cell? ⟨w.heap.size + 1, 2, none⟩ = some (.string t) := kO.cell 2
    have o3 : w1.cell? ⟨w.heap.size + 1, 3, none⟩ = some (.string x) := kO.cell 3
    have kR' := Rg.hid kR
    clear HS hb kO kR
    go_wp2_with (go_at_call 108; refine (HN.out _ (Rg.chain hbw (Rg.al1 _ _))).mono ?_)
    rintro e w2 ⟨sa', sn', sc', oa', on', oc', rfl, hD, hb2⟩
    have kR := (kR'.out.old (.cells #[.slice sa SN sc, .slice oa ON oc, .int .i64 cap, .int .i64 fz, .bool down] 28)).below hb2 (by simp; omega)
    have hbw2 : Below w.heap.size w w2 := Rg.chain (Rg.chain hbw (Rg.al1 _ _)) hb2
    clear HN hb2 o0 o1 o2 o3 hz1 hz2 hbw kR'
    obtain ⟨kE, oE⟩ := Rg.ret5 kR rfl (.slice sa' sn' sc') (.slice oa' on' oc') (.int .i64 cap) (.int .i64 fz) (.bool down)
    replace kE := Rg.hid kE
    have post := Rg.hid (DPost.mk' (x := 0) (DAt.only hD kR plainZ oE) (hbw2.trans (oE.bel (by omega))))
    have r0 := kR.cell 0
    have r1 := kR.cell 1
    have r2 := kR.cell 2
    have r3 := kR.cell 3
    have r4 := kR.cell 4
    simp only [List.getElem?_cons_zero, List.getElem?_cons_succ] at r0 r1 r2 r3 r4
    have rf := kR.thaw
    clear oE kR
    go_wp2
    replace kE := kE.out
    replace post := post.out
    generalize World.setCell _ _ _ = WE at *
    exact bodyPost_ret (v := .tuple #[.agg #[.slice sa' sn' sc', .slice oa' on' oc', .int .i64 cap, .int .i64 fz, .bool down], .int .i64 0]) (by simp [results, Tryz.results109, go_sem, kE.cell]) rfl post
end Go.Proofs.YtmilfamjkiemaaaGreatDoor
