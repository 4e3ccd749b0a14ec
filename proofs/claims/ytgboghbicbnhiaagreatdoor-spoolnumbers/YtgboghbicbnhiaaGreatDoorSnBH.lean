/-
  Layer 18: what the program's calls answer at a spool's disk. Layer 18: mathematics: the example. No walk in it.
-/
import Derived.Test.YtgboghbicbnhiaaGreatDoorSnBG
namespace Go.Proofs.YtgboghbicbnhiaaGreatDoor
open Go.RowKit
theorem Fit.mild {m : Nat} {d : Dsk.Dk} (h : Spl.Fit m d) (hm : m ≤ 1000000) : Mild (Dsk.files d) := by
  have hu := h.used
  have hl := Dsk.len_used (Dsk.files d)
  refine ⟨h.sm.cl.files.1, by omega, fun f hf => ?_, fun f hf => ?_⟩
  · have := h.ns.files f hf; unfold maxLen; omega
  · have := Spl.used_mem hf; omega
theorem V2Post.of {w : World} {r r' : Dsk.Dk × Int} {e : Ending} {w' : World} (h : V2Post w r e w') (q : r = r') : V2Post w r' e w' := by rw [← q]; exact h
theorem sleave_any (v : Value) (d : Dsk.Dk) (s : ByteArray) (g n : Int) (w : World) (hd : Dsk.Ok d) (hwt : Dsk.Wt d + 16 ≤ 10000000000) (hs : s.size ≤ maxLen) (h : DAt w v d) (hw : Ok w) :
    Calls Tryz.prog 37 #[v, .string s, .agg #[.int .i64 g, .int .i64 n]] w fun e w' => V2Post w (Spl.leave d s g n) e w' := by
  obtain ⟨CS, rfl⟩ := h.agg
  refine leave_core s g n CS d (Dsk.remove d (Spl.fn 68 s g n)).1 (Dsk.sync (Dsk.remove d (Spl.fn 68 s g n)).1).1 (Dsk.remove d (Spl.fn 68 s g n)).2 (Dsk.sync (Dsk.remove d (Spl.fn 68 s g n)).1).2 (Spl.fn 68 s g n) w h (fun W hW => fileOf_any 68 s g n W hs (hw.below hW)) (fun W CS _ hv => (remove_any _ d _ W hd hv).mono fun _ _ q => q.v2) (fun W CS _ hv => (sync_any _ _ W (Spl.remove_ok hd _ hwt) hv).mono fun _ _ q => q.v2) _ ?_
  unfold Spl.leave
  dsimp only
theorem done_any {m : Nat} (v : Value) (d : Dsk.Dk) (s : ByteArray) (g n : Int) (w : World) (hf : Spl.Fit m d) (hm : m ≤ 1000000) (hs : s.size ≤ maxLen) (h : DAt w v d) (hw : Ok w) :
    Calls Tryz.prog 12 #[v, .string s, .agg #[.int .i64 g, .int .i64 n]] w fun e w' => V2Post w (Spl.done d s g n) e w' := by
  obtain ⟨CS, rfl⟩ := h.agg
  have hok := hf.sm.ok
  have hwt := hf.sm.wt
  have hr := Spl.remove_ok hok (Spl.fn 67 s g n) (by omega)
  have hrw : Dsk.Wt (Dsk.remove d (Spl.fn 67 s g n)).1 ≤ Dsk.Wt d + 16 := (Dsk.play_ok hok ⟨4, Spl.fn 67 s g n, ⟨#[]⟩, ⟨#[]⟩, 0⟩ (by show Dsk.Wt d + 0 + 16 ≤ _; omega) (by show (0 : Int) ≤ _; omega)).2
  refine done_core s g n CS d (Dsk.remove d (Spl.fn 67 s g n)).1 (Spl.leave (Dsk.remove d (Spl.fn 67 s g n)).1 s g n).1 (Spl.load d s g n).1 (Spl.load d s g n).2 (Dsk.remove d (Spl.fn 67 s g n)).2 (Spl.leave (Dsk.remove d (Spl.fn 67 s g n)).1 s g n).2 (Spl.fn 67 s g n) w h (fun W CS hW hv => load_any _ d s g n W hok (Fit.mild hf hm) hs hv (hw.below hW)) (fun W hW => fileOf_any 67 s g n W hs (hw.below hW)) (fun W CS _ hv => (remove_any _ d _ W hok hv).mono fun _ _ q => q.v2) (fun W CS hW hv => sleave_any _ _ s g n W hr (by omega) hs hv (hw.below hW)) _ ?_
  unfold Spl.done
  dsimp only
theorem fail_any {m : Nat} (v : Value) (d : Dsk.Dk) (s : ByteArray) (g n : Int) (w : World) (hf : Spl.Fit m d) (hm : m ≤ 1000000) (hs : s.size ≤ maxLen) (h : DAt w v d) (hw : Ok w) :
    Calls Tryz.prog 14 #[v, .string s, .agg #[.int .i64 g, .int .i64 n]] w fun e w' => V2Post w (Spl.fail d s g n) e w' := by
  obtain ⟨CS, rfl⟩ := h.agg
  have hok := hf.sm.ok
  have hwt := hf.sm.wt
  have hr := Spl.rename_ok hok (Spl.fn 67 s g n) (Spl.fn 69 s g n) (by omega)
  have hrw : Dsk.Wt (Dsk.rename d (Spl.fn 67 s g n) (Spl.fn 69 s g n)).1 ≤ Dsk.Wt d + 16 := (Dsk.play_ok hok ⟨3, Spl.fn 67 s g n, Spl.fn 69 s g n, ⟨#[]⟩, 0⟩ (by show Dsk.Wt d + 0 + 16 ≤ _; omega) (by show (0 : Int) ≤ _; omega)).2
  have h30 := Spl.fn_sh 69 s g n
  refine fail_core s g n CS d (Dsk.rename d (Spl.fn 67 s g n) (Spl.fn 69 s g n)).1 (Spl.leave (Dsk.rename d (Spl.fn 67 s g n) (Spl.fn 69 s g n)).1 s g n).1 (Spl.load d s g n).1 (Spl.load d s g n).2 (Dsk.rename d (Spl.fn 67 s g n) (Spl.fn 69 s g n)).2 (Spl.leave (Dsk.rename d (Spl.fn 67 s g n) (Spl.fn 69 s g n)).1 s g n).2 (Spl.fn 67 s g n) (Spl.fn 69 s g n) w h (fun W CS hW hv => load_any _ d s g n W hok (Fit.mild hf hm) hs hv (hw.below hW)) (fun W hW => fileOf_any 67 s g n W hs (hw.below hW)) (fun W hW => fileOf_any 69 s g n W hs (hw.below hW)) (fun W CS _ hv => (rename_any _ d _ _ W hok (by unfold maxLen; omega) hv).mono fun _ _ q => q.v2) (fun W CS hW hv => sleave_any _ _ s g n W hr (by omega) hs hv (hw.below hW)) _ ?_
  unfold Spl.fail
  dsimp only
theorem lay_any {m : Nat} (v : Value) (d : Dsk.Dk) (s t x : ByteArray) (j : Job.Jb) (w : World) (hf : Spl.Fit m d) (hm : m ≤ 1000000) (hs : s.size ≤ maxLen) (h1 : 1 ≤ j.n) (h2 : j.n ≤ 99999) (ht : t.size ≤ 1000000) (hx : x.size ≤ 1000000) (h : DAt w v d) (hw : Ok w) :
    Calls Tryz.prog 48 #[v, .string s, .agg #[.int .i64 j.g, .int .i64 j.n, .int .i64 j.k, .string j.u, .string j.f, .string j.t, .string j.c, .int .i64 j.z], .string t, .string x] w fun e w' => V2Post w (Spl.lay d s j t x) e w' := by
  obtain ⟨CS, rfl⟩ := h.agg
  have hok := hf.sm.ok
  have hwt := hf.sm.wt
  have h6 := Spl.itoa6 h1 h2
  have h6' := Spl.ba_size (Lib.itoa (j.n + 1))
  obtain ⟨N, hN⟩ : ∃ N, N = Spl.ba (Lib.itoa (j.n + 1)) := ⟨_, rfl⟩
  rw [← hN] at h6'
  obtain ⟨r1, hr1⟩ : ∃ r1, r1 = Dsk.write d Spl.numF N := ⟨_, rfl⟩
  have k1 := Spl.write_ok hok Spl.numF N (by omega)
  rw [← hr1] at k1
  obtain ⟨r2, hr2⟩ : ∃ r2, r2 = Dsk.write r1.1 (Spl.fn 68 s j.g j.n) x := ⟨_, rfl⟩
  have k2 := Spl.write_ok k1.1 (Spl.fn 68 s j.g j.n) x (by omega)
  rw [← hr2] at k2
  obtain ⟨db, hdb⟩ : ∃ db, db = if j.k ≠ 3 then r2.1 else r1.1 := ⟨_, rfl⟩
  have kb : Dsk.Ok db ∧ Dsk.Wt db ≤ 4000000 := by
    rw [hdb]; split
    · exact ⟨k2.1, by omega⟩
    · exact ⟨k1.1, by omega⟩
  obtain ⟨r3, hr3⟩ : ∃ r3, r3 = Dsk.write db (Spl.fn 67 s j.g j.n) t := ⟨_, rfl⟩
  have k3 := Spl.write_ok kb.1 (Spl.fn 67 s j.g j.n) t (by omega)
  rw [← hr3] at k3
  have hW : ∀ {d : Dsk.Dk}, Dsk.Wt d ≤ 9000000 → ∀ x : ByteArray, x.size ≤ 1000000 → Dsk.used d.safe + Dsk.wt d.ops + x.size + 16 ≤ 10000000000 := fun h x hx => by unfold Dsk.Wt at h; omega
  have s8 := Spl.fn_sh 68 s j.g j.n
  have s7 := Spl.fn_sh 67 s j.g j.n
  have hlay : Spl.lay d s j t x = if r1.2 ≠ 0 then r1 else if j.k ≠ 3 ∧ r2.2 ≠ 0 then r2 else if r3.2 = 0 then Dsk.sync r3.1 else r3 := by
    unfold Spl.lay
    dsimp only
    rw [← hN, ← hr1, ← hr2]
    by_cases e1 : r1.2 = 0
    · by_cases e2 : j.k = 3
      · have a : (if r1.2 = 0 ∧ j.k ≠ 3 then r2 else r1) = r1 := if_neg (fun q => q.2 e2)
        have hb : db = r1.1 := by rw [hdb, if_neg (by simp [e2])]
        rw [hb] at hr3
        rw [a, if_pos e1, ← hr3, if_neg (show ¬ (r1.2 ≠ 0) by simp [e1]), if_neg (show ¬ (j.k ≠ 3 ∧ r2.2 ≠ 0) from fun q => q.1 e2)]
      · have a : (if r1.2 = 0 ∧ j.k ≠ 3 then r2 else r1) = r2 := if_pos ⟨e1, e2⟩
        have hb : db = r2.1 := by rw [hdb, if_pos e2]
        rw [hb] at hr3
        rw [a]
        by_cases e3 : r2.2 = 0
        · rw [if_pos e3, ← hr3, if_neg (show ¬ (r1.2 ≠ 0) by simp [e1]), if_neg (show ¬ (j.k ≠ 3 ∧ r2.2 ≠ 0) from fun q => q.2 e3)]
        · rw [if_neg e3, if_neg e3, if_neg (show ¬ (r1.2 ≠ 0) by simp [e1]), if_pos (show j.k ≠ 3 ∧ r2.2 ≠ 0 from ⟨e2, e3⟩)]
    · have a : (if r1.2 = 0 ∧ j.k ≠ 3 then r2 else r1) = r1 := if_neg (fun q => e1 q.1)
      rw [a, if_neg e1, if_neg e1, if_pos (show r1.2 ≠ 0 from e1)]
  refine lay_core s t x j (j.n + 1) N (Spl.fn 67 s j.g j.n) (Spl.fn 68 s j.g j.n) CS d r1.1 r2.1 r3.1 (Dsk.sync r3.1).1 r1.2 r2.2 r3.2 (Dsk.sync r3.1).2 w h (by rw [IntKind.wrap_i64]; omega) (fun W hW => ?_) (fun W hW => fileOf_any 67 s j.g j.n W hs (hw.below hW)) (fun W hW => fileOf_any 68 s j.g j.n W hs (hw.below hW)) (fun W CS _ hv => ?_) (fun W CS _ hv => ?_) db hdb (fun W CS _ hv => ?_) (fun W CS _ hv => ?_) _ ?_
  · rw [hN]
    exact text_any (j.n + 1) W (by omega) (by omega) (hw.below hW).tab
  · have := write_any _ d Spl.numF N W hok (hW (by omega) N (by omega)) (by show (1 : Nat) ≤ _; unfold maxLen; omega) hv
    rw [← hr1] at this
    exact this.mono fun _ _ q => q.v2
  · have := write_any _ r1.1 (Spl.fn 68 s j.g j.n) x W k1.1 (hW (by omega) x hx) (by unfold maxLen; omega) hv
    rw [← hr2] at this
    exact this.mono fun _ _ q => q.v2
  · have := write_any _ db (Spl.fn 67 s j.g j.n) t W kb.1 (hW (by omega) t ht) (by unfold maxLen; omega) hv
    rw [← hr3] at this
    exact this.mono fun _ _ q => q.v2
  · exact (sync_any _ _ W k3.1 hv).mono fun _ _ q => q.v2
  · exact hlay
/-- the sizes of what is handed in -/
structure JFits (s x : ByteArray) (j : Job.Jb) : Prop where
  s : s.size ≤ maxLen
  u : j.u.size ≤ maxLen
  f : j.f.size ≤ maxLen
  t : j.t.size ≤ maxLen
  c : j.c.size ≤ maxLen
theorem GthPost.len {l : List Dsk.Fl} {k : Int} {sys : ByteArray} {w : World} {e : Ending} {w' : World} (h : GthPost l k sys w e w') : ∃ a c, e = .returned (.slice a (l.filterMap (Spl.pick l k sys)).length c) ∧ Below w.heap.size w w' := by
  obtain ⟨a, c, L, h1, h2, _, h4⟩ := h
  exact ⟨a, c, by rw [h1, h2.out.len], h4.out⟩
theorem mayq_any {m : Nat} (v : Value) (d : Dsk.Dk) (s x : ByteArray) (j : Job.Jb) (w : World) (hf : Spl.Fit m d) (hm : m ≤ 1000000) (hj : JFits s x j) (h : DAt w v d) (hw : Ok w) :
    Calls Tryz.prog 47 #[v, .string s, .agg #[.int .i64 j.g, .int .i64 j.n, .int .i64 j.k, .string j.u, .string j.f, .string j.t, .string j.c, .int .i64 j.z], .string x] w fun e w' => MPost (Spl.may d s j x) w e w' := by
  obtain ⟨CS, rfl⟩ := h.agg
  have hok := hf.sm.ok
  have hS : ∀ W, Calls Tryz.prog 67 #[.string s] W fun e w' => e = .returned (.bool (Nam.system s.data.toList)) ∧ w' = W := fun W => system_any s W hj.s
  have HJ : Hid (∀ W, Below w.heap.size w W → DAt W (.agg CS) d → Calls Tryz.prog 22 #[.agg CS, .string ⟨#[]⟩] W fun e w' => ∃ a c, e = .returned (.slice a (Spl.jobs d 67 ⟨#[]⟩).length c) ∧ Below W.heap.size W w') := fun W hW hv => (jobs_any _ d ⟨#[]⟩ W hok (Fit.mild hf hm) hv (hw.below hW)).mono fun _ _ q => q.len
  have HT : ∀ W, Below w.heap.size w W → Calls Tryz.prog 32 #[.agg #[.int .i64 j.g, .int .i64 j.n, .int .i64 j.k, .string j.u, .string j.f, .string j.t, .string j.c, .int .i64 j.z]] W fun e w' => e = .returned (.tuple #[.string ⟨(Job.text j).1.toArray⟩, .int .i64 ((Job.text j).2 : Nat)]) ∧ Below W.heap.size W w' := fun W hW => jtext_any j.g j.n j.k j.u j.f j.t j.c j.z W (hw.below hW) hj.u hj.f hj.t hj.c
  unfold Spl.may
  by_cases h1 : d.down = true
  · rw [if_pos h1]; exact may_down s x j CS d w h h1
  rw [if_neg h1]
  have h1' : d.down = false := by simpa using h1
  cases h2 : Nam.system s.data.toList
  · rw [if_pos rfl]
    rw [h2] at hS
    exact may_sys s x j CS d w h h1' hS
  rw [if_neg (by simp)]
  rw [h2] at hS
  by_cases h3 : 6000 < x.size
  · rw [if_pos h3]; exact may_long s x j CS d w h h1' hS h3
  rw [if_neg h3]
  by_cases h4 : j.k = 3 ∧ x ≠ ⟨#[]⟩
  · rw [if_pos h4]; exact may_fetch s x j CS d w h h1' hS h3 h4.1 h4.2
  rw [if_neg h4]
  have h4' : j.k = 3 → x = ⟨#[]⟩ := fun q => Classical.not_not.1 fun c => h4 ⟨q, c⟩
  by_cases h5 : 99999 < j.n
  · rw [if_pos h5]; exact may_num s x j CS d w h h1' hS h3 h4' h5
  rw [if_neg h5]
  by_cases h6 : 40 ≤ (Spl.jobs d 67 ⟨#[]⟩).length
  · rw [if_pos h6]; exact may_full s x j CS d w h h1' hS h3 h4' h5 _ HJ h6
  rw [if_neg h6]
  by_cases h7 : Job.chk j ≠ 0
  · rw [if_pos h7]
    have e : Job.text j = ([], Job.chk j) := if_neg h7
    rw [e] at HT
    exact may_text s x j CS d w h h1' hS h3 h4' h5 _ HJ h6 _ _ HT (by show ¬ ((Job.chk j : Nat) : Int) = 0; omega)
  rw [if_neg h7]
  have h7' : Job.chk j = 0 := Classical.not_not.1 h7
  have e : Job.text j = (Job.txt j, 0) := if_pos h7'
  rw [e] at HT
  have htl := Job.txt_len h7'
  have hbs := Spl.ba_size (Job.txt j)
  have hu := hf.used
  have HU : Hid (∀ W, Below w.heap.size w W → DAt W (.agg CS) d → Calls Tryz.prog 87 #[.agg CS] W fun e w' => e = .returned (.int .i64 ((Dsk.used (Dsk.files d) : Nat) : Int)) ∧ Below W.heap.size W w') := fun W hW hv => used_any _ d W hok hv
  have hwp : ∀ a : Int, 0 ≤ a → a ≤ 10000000 → IntKind.i64.wrap a = a := fun a _ _ => by rw [IntKind.wrap_i64]; omega
  by_cases h8 : ((Dsk.used (Dsk.files d) + x.size + (Job.txt j).length + 60 : Nat) : Int) > d.cap
  · rw [if_pos h8]
    exact may_room s x j CS d w h h1' hS h3 h4' h5 _ HJ h6 (Spl.ba (Job.txt j)) HT _ HU _ _ _ (hwp _ (by omega) (by omega)) (hwp _ (by omega) (by omega)) (hwp _ (by omega) (by omega)) (by omega)
  · rw [if_neg h8]
    exact may_yes s x j CS d w h h1' hS h3 h4' h5 _ HJ h6 (Spl.ba (Job.txt j)) HT _ HU _ _ _ (hwp _ (by omega) (by omega)) (hwp _ (by omega) (by omega)) (hwp _ (by omega) (by omega)) (by omega)
theorem queue_any {m : Nat} (v : Value) (d : Dsk.Dk) (s x : ByteArray) (j : Job.Jb) (w : World) (hf : Spl.Fit m d) (hm : m ≤ 1000000) (hj : JFits s x j) (h : DAt w v d) (hw : Ok w) :
    Calls Tryz.prog 18 #[v, .string s, .agg #[.int .i64 j.g, .int .i64 j.n, .int .i64 j.k, .string j.u, .string j.f, .string j.t, .string j.c, .int .i64 j.z], .string x] w fun e w' => QPost (Spl.queue d s j x) w e w' := by
  obtain ⟨CS, rfl⟩ := h.agg
  have hok := hf.sm.ok
  have hj' : JFits s x (Spl.numbered d j x) := ⟨hj.s, hj.u, hj.f, hj.t, hj.c⟩
  refine queue_core s x j CS d (Spl.lay d s (Spl.numbered d j x) (Spl.may d s (Spl.numbered d j x) x).1 x).1 (Spl.next (Dsk.files d)) (x.size : Int) (Spl.may d s (Spl.numbered d j x) x).2 (Spl.lay d s (Spl.numbered d j x) (Spl.may d s (Spl.numbered d j x) x).1 x).2 (Spl.may d s (Spl.numbered d j x) x).1 w h rfl (fun W hW hv => next_any _ d W hok (Fit.mild hf hm) hv) (fun W hW hv => mayq_any _ d s x (Spl.numbered d j x) W hf hm hj' hv (hw.below hW)) (fun hE W hW hv => ?_) _ ?_
  · rcases Spl.may_cases d s (Spl.numbered d j x) x with ⟨e, he, q⟩ | ⟨hM, q⟩
    · rw [q] at hE; exact absurd hE he
    · have hmay := Nam.may_iff.1 (Job.chk_ok.1 hM.chk).1
      have htl := Job.txt_len hM.chk
      have hbs := Spl.ba_size (Job.txt (Spl.numbered d j x))
      have hxl := hM.len
      exact lay_any _ d s _ x (Spl.numbered d j x) W hf hm hj.s hmay.2.1 hmay.2.2 (by rw [q]; show (Spl.ba _).size ≤ _; omega) (by omega) hv (hw.below hW)
  · show _ = _
    unfold Spl.queue
    dsimp only
    by_cases hE : (Spl.may d s (Spl.numbered d j x) x).2 = 0
    · rw [if_pos hE, if_neg (show ¬ ((Spl.may d s (Spl.numbered d j x) x).2 ≠ 0) from fun q => q hE)]
      by_cases hL : (Spl.lay d s (Spl.numbered d j x) (Spl.may d s (Spl.numbered d j x) x).1 x).2 = 0
      · rw [if_pos hL, if_neg (show ¬ ((Spl.lay d s (Spl.numbered d j x) (Spl.may d s (Spl.numbered d j x) x).1 x).2 ≠ 0) from fun q => q hL)]; rfl
      · rw [if_neg hL, if_pos (show (Spl.lay d s (Spl.numbered d j x) (Spl.may d s (Spl.numbered d j x) x).1 x).2 ≠ 0 from hL)]
    · rw [if_neg hE, if_pos (show (Spl.may d s (Spl.numbered d j x) x).2 ≠ 0 from hE)]
end Go.Proofs.YtgboghbicbnhiaaGreatDoor

namespace Go.Proofs.YtgboghbicbnhiaaGreatDoor
namespace Spl
open Dsk
def duke : ByteArray := ⟨#[100, 117, 107, 101]⟩
def abc : ByteArray := ⟨#[97, 98, 99]⟩
def j0 : Job.Jb := ⟨110, 0, 1, ⟨#[97, 110, 110]⟩, ⟨#[47, 97]⟩, ⟨#[47, 98]⟩, ⟨#[]⟩, 0⟩
def q0 : Dk × (Int × Int) × Int := queue (Dsk.new 20000) duke j0 abc
def h0 : Hd := ⟨duke, ⟨110, 1, 1, ⟨#[97, 110, 110]⟩, ⟨#[47, 97]⟩, ⟨#[47, 98]⟩, ⟨#[]⟩, 3⟩, abc⟩
theorem q0_err : q0.2 = ((110, 1), 0) := by decide +kernel
theorem q0_num : numbered (Dsk.new 20000) j0 abc = h0.j := by decide +kernel
theorem q0_calm : Calm q0.1 [h0] := by
  rcases (Calm.new 20000).queue duke j0 abc with ⟨h, _⟩ | ⟨d', h, hc, _⟩
  · have : q0.2.2 = 0 := by rw [q0_err]
    exact absurd this h
  · have e : q0.1 = d' := by show (queue _ _ _ _).1 = _; rw [h]
    rw [e]
    rw [q0_num] at hc
    exact hc
theorem q0_fit : Fit 6300 q0.1 := by have := (Fit.new 20000).queue (s := duke) (j := j0) (x := abc) (by omega); exact this
/-- those of that system: it alone -/
theorem q0_jobs {L : List Hd} (h : Row ((files q0.1).filterMap (pick (files q0.1) 67 duke)) L) : L = [h0] := by
  have hc := q0_calm
  have hf := hc.files
  rw [hf] at h
  have hp : L.Perm [h0] := by
    refine h.perm.trans ((List.perm_ext_iff_of_nodup (jobs_nodup hc.que.srt _ _) (by simp)).2 fun a => ?_)
    rw [mem_jobs hc.que.ne, List.mem_singleton]
    constructor
    · rintro ⟨q, _⟩
      have := (hc.que.wait a).2 q
      simpa using this
    · rintro rfl
      exact ⟨(hc.que.wait h0).1 (by simp), .inr rfl⟩
  exact List.perm_singleton.1 hp
theorem q0_done : (done q0.1 duke 110 1).2 = 0 ∧ Calm (done q0.1 duke 110 1).1 [] := by
  have := q0_calm.done (a := h0) (by simp)
  have e : [h0].erase h0 = [] := by simp
  rw [e] at this
  exact this
theorem q0_none {L : List Hd} (h : Row ((files (done q0.1 duke 110 1).1).filterMap (pick (files (done q0.1 duke 110 1).1) 67 ⟨#[]⟩)) L) : L = [] := by
  have := q0_done.2.jobs (L := L) h
  exact List.perm_nil.1 this
end Spl
end Go.Proofs.YtgboghbicbnhiaaGreatDoor
