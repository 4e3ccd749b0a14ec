/-
  Walks of layer 15: through. Walks of layer 15: what Tick, Close, Send hand back.
-/
import Derived.Test.YtfiffbohhhehkaaGreatBuEndG
namespace Go.Proofs.YtfiffbohhhehkaaGreat
open Go.RowKit
theorem row_loadPart {t : TypeId} {a : Addr} {W : World} {cs : List Value} (ha : ∀ w, (isAgg t).run Tryz.prog w = .ok true w) (hs : ∀ w, (sizeOf t).run Tryz.prog w = .ok cs.length w) (h : ∀ j v, cs[j]? = some v → W.cell? (a.add j) = some v) : (loadVar t a).run Tryz.prog W = .ok (.agg cs.toArray) W := by
  have hl := run_loadCells_list (P := Tryz.prog) W a cs h
  simp [loadVar, ha, hs, hl]
/-- where a row may lie -/
def KRow (Kp : Nat → Prop) {α : Type} (a : Option Addr) (l : List α) : Prop := l = [] ∨ ∃ b o, a = some ⟨b, o, none⟩ ∧ Kp b
theorem TRow.old {Kp : Nat → Prop} {α : Type} {E : Rg.El α} {eb : Nat} {vs : List Value} {w W : World} {a : Option Addr} {l : List α} (h : ERow E w a l) (hk : KRow Kp a l) (hb : Below w.heap.size w W) : TRow Kp E w.heap.size eb vs W a l := by
  rcases h with h | ⟨b, o, h1, h2, h3⟩
  · exact .inl h
  · rcases hk with hk | ⟨b', o', k1, k2⟩
    · exact .inl hk
    · rw [h1] at k1
      cases k1
      exact .inr ⟨b, o, h1, Nat.lt_of_lt_of_le h2 hb.size, h3.below hb h2, .inl ⟨h2, k2⟩⟩
/-- a drive at rest: its rows, and that its window's list has room -/
structure DR (Kp : Nat → Prop) (W : World) (d : Gp.Dr) (p : Pl) : Prop where
  at_ : DAt W d p
  wcap : d.win.l.length ≤ p.wc
  ql : d.queue.length ≤ 100000
  kw : KRow Kp p.w d.win.l
  ka : KRow Kp p.a d.ahead
  kq : KRow Kp p.q d.queue
  kt : KRow Kp p.t d.took
theorem DR.below {Kp : Nat → Prop} {W W' : World} {d : Gp.Dr} {p : Pl} (h : DR Kp W d p) (hb : Below W.heap.size W W') : DR Kp W' d p := ⟨h.at_.below hb, h.wcap, h.ql, h.kw, h.ka, h.kq, h.kt⟩
/-- a drive where nothing was taken -/
def Pl.own (p : Pl) : Pl := { p with t := none, tc := 0 }
theorem DR.end_ {Kp : Nat → Prop} {w W : World} {d : Gp.Dr} {p : Pl} {eb : Nat} (h : DR Kp w d p) (hb : Below w.heap.size w W) (k : Rg.Bk eb [.int .i64 d.letter, .int .i64 d.phase, .bool d.caller, .int .i64 d.step, .int .i64 d.size, .int .i64 d.room, .int .i64 d.win.md, .int .i64 d.win.sz, .int .i64 d.win.bs, .slice p.w d.win.l.length p.wc, .int .i64 d.wants, .slice p.a d.ahead.length p.ac, .string ⟨d.buf.toArray⟩, .int .i64 d.at_, .slice p.q d.queue.length p.qc, .int .i64 d.wait, .int .i64 d.tries, .slice none 0 0, .pointer none, .slice none 0 0, .pointer none, .slice none 0 0] 66 W) (hn : w.heap.size ≤ eb) : EAt Kp w.heap.size W eb (Gp.own d) p.own ⟨.pointer none, .slice none 0 0, .pointer none, .slice none 0 0⟩ [] [] :=
  ⟨k, hn, TRow.old h.at_.win h.kw hb, h.wcap, TRow.old h.at_.ahead h.ka hb, TRow.old h.at_.queue h.kq hb, World.ownsRow_nil _ _ _ _, .inl rfl, BAt.start _ _, .inl rfl, BAt.start _ _, fun g hg => by simp [Value.ownBlock] at hg⟩
theorem eg_tick : ∀ args w, (callFunc 39 args).run Tryz.prog w = .ok (.enter 39 args) w := enters_of Tryz.func39 (by kernel_rfl) rfl
set_option maxHeartbeats 4000000 in
set_option maxRecDepth 100000 in
theorem through_tick {Kp : Nat → Prop} (d : Gp.Dr) (p : Pl) (w0 w : World) (hbw0 : Hid (Below w0.heap.size w0 w)) (hd : Hid (DR Kp w0 d p)) (hr : Hid (Gp.right d)) (Q : Nat → World → Prop)
    (HW : Hid (∀ W1 p1 q1 eb, EAt Kp w0.heap.size W1 eb (Gp.own d) p1 q1 [] [] → Below w.heap.size w W1 → w.heap.size ≤ eb → Calls Tryz.prog 39 #[.pointer (some ⟨eb, 0, none⟩)] W1 fun e w' => e = .returned (.tuple #[]) ∧ Q eb w')) :
    Calls Tryz.prog 30 #[DV d p, .func (.func 39) #[] #[]] w fun e w' => ∃ eb, e = .returned (.pointer (some ⟨eb, 0, none⟩)) ∧ Q eb w' := by
  have eg := eg_tick
  have kB0 : Hid (Rg.Bk w.heap.size [.int .i64 d.letter, .int .i64 d.phase, .bool d.caller, .int .i64 d.step, .int .i64 d.size, .int .i64 d.room, .int .i64 d.win.md, .int .i64 d.win.sz, .int .i64 d.win.bs, .slice p.w d.win.l.length p.wc, .int .i64 d.wants, .slice p.a d.ahead.length p.ac, .string ⟨d.buf.toArray⟩, .int .i64 d.at_, .slice p.q d.queue.length p.qc, .int .i64 d.wait, .int .i64 d.tries, .slice none 0 0] 29 (w.alloc (.cells #[.int .i64 d.letter, .int .i64 d.phase, .bool d.caller, .int .i64 d.step, .int .i64 d.size, .int .i64 d.room, .int .i64 d.win.md, .int .i64 d.win.sz, .int .i64 d.win.bs, .slice p.w d.win.l.length p.wc, .int .i64 d.wants, .slice p.a d.ahead.length p.ac, .string ⟨d.buf.toArray⟩, .int .i64 d.at_, .slice p.q d.queue.length p.qc, .int .i64 d.wait, .int .i64 d.tries, .slice none 0 0] 29))) := Rg.Bk.new rfl
  have hb0 := Rg.hid (Rg.al1 w (.cells #[.int .i64 d.letter, .int .i64 d.phase, .bool d.caller, .int .i64 d.step, .int .i64 d.size, .int .i64 d.room, .int .i64 d.win.md, .int .i64 d.win.sz, .int .i64 d.win.bs, .slice p.w d.win.l.length p.wc, .int .i64 d.wants, .slice p.a d.ahead.length p.ac, .string ⟨d.buf.toArray⟩, .int .i64 d.at_, .slice p.q d.queue.length p.qc, .int .i64 d.wait, .int .i64 d.tries, .slice none 0 0] 29))
  unfold DV
  go_enter Tryz.func30, Tryz.ntmps30
  go_upto_region 2 with fail
  generalize World.alloc _ _ = w1 at *
  obtain ⟨B, hB⟩ : ∃ B, B = w.heap.size := ⟨_, rfl⟩
  rw [← hB] at kB0 ⊢
  replace hB := Rg.hid hB
  have hld1 := Rg.hid (Rg.row_loadVar (P := Tryz.prog) (t := 29) (CS := #[.int .i64 d.letter, .int .i64 d.phase, .bool d.caller, .int .i64 d.step, .int .i64 d.size, .int .i64 d.room, .int .i64 d.win.md, .int .i64 d.win.sz, .int .i64 d.win.bs, .slice p.w d.win.l.length p.wc, .int .i64 d.wants, .slice p.a d.ahead.length p.ac, .string ⟨d.buf.toArray⟩, .int .i64 d.at_, .slice p.q d.queue.length p.qc, .int .i64 d.wait, .int .i64 d.tries, .slice none 0 0]) kB0.out Tryz.underlying29 rfl infoDr2)
  have kE0 : Hid (Rg.Bk w1.heap.size [.int .i64 d.letter, .int .i64 d.phase, .bool d.caller, .int .i64 d.step, .int .i64 d.size, .int .i64 d.room, .int .i64 d.win.md, .int .i64 d.win.sz, .int .i64 d.win.bs, .slice p.w d.win.l.length p.wc, .int .i64 d.wants, .slice p.a d.ahead.length p.ac, .string ⟨d.buf.toArray⟩, .int .i64 d.at_, .slice p.q d.queue.length p.qc, .int .i64 d.wait, .int .i64 d.tries, .slice none 0 0, .pointer none, .slice none 0 0, .pointer none, .slice none 0 0] 66 (w1.alloc (.cells #[.int .i64 d.letter, .int .i64 d.phase, .bool d.caller, .int .i64 d.step, .int .i64 d.size, .int .i64 d.room, .int .i64 d.win.md, .int .i64 d.win.sz, .int .i64 d.win.bs, .slice p.w d.win.l.length p.wc, .int .i64 d.wants, .slice p.a d.ahead.length p.ac, .string ⟨d.buf.toArray⟩, .int .i64 d.at_, .slice p.q d.queue.length p.qc, .int .i64 d.wait, .int .i64 d.tries, .slice none 0 0, .pointer none, .slice none 0 0, .pointer none, .slice none 0 0] 66))) := Rg.Bk.new rfl
  have b2 := Rg.hid (Rg.al1 w1 (.cells #[.int .i64 d.letter, .int .i64 d.phase, .bool d.caller, .int .i64 d.step, .int .i64 d.size, .int .i64 d.room, .int .i64 d.win.md, .int .i64 d.win.sz, .int .i64 d.win.bs, .slice p.w d.win.l.length p.wc, .int .i64 d.wants, .slice p.a d.ahead.length p.ac, .string ⟨d.buf.toArray⟩, .int .i64 d.at_, .slice p.q d.queue.length p.qc, .int .i64 d.wait, .int .i64 d.tries, .slice none 0 0, .pointer none, .slice none 0 0, .pointer none, .slice none 0 0] 66))
  go_upto_region 3 with (refine Rg.wpList_load_row rfl (.tmp 2) 29 rfl rfl hld1.out ?_)
  generalize World.alloc _ _ = w2 at *
  obtain ⟨eb, heb⟩ : ∃ eb, eb = w1.heap.size := ⟨_, rfl⟩
  rw [← heb] at kE0 ⊢
  replace heb := Rg.hid heb
  have hbw := Rg.hid (Rg.chain hb0.out b2.out)
  have hE := Rg.hid (hd.out.end_ (Rg.chain hbw0.out hbw.out) kE0.out (by rw [heb.out]; exact Nat.le_trans hbw0.out.size hb0.out.size))
  have hld2 := Rg.hid (Rg.row_loadVar (P := Tryz.prog) (t := 29) (CS := #[.int .i64 d.letter, .int .i64 d.phase, .bool d.caller, .int .i64 d.step, .int .i64 d.size, .int .i64 d.room, .int .i64 d.win.md, .int .i64 d.win.sz, .int .i64 d.win.bs, .slice p.w d.win.l.length p.wc, .int .i64 d.wants, .slice p.a d.ahead.length p.ac, .string ⟨d.buf.toArray⟩, .int .i64 d.at_, .slice p.q d.queue.length p.qc, .int .i64 d.wait, .int .i64 d.tries, .slice none 0 0]) (kB0.out.below b2.out kB0.out.lt) Tryz.underlying29 rfl infoDr2)
  have HR := Rg.hid (right_yes (Gp.own d) p.own w2 hr.out (hd.out.at_.win.below (Rg.chain hbw0.out hbw.out)) (hd.out.at_.queue.below (Rg.chain hbw0.out hbw.out)) hd.out.ql)
  replace HR : Hid (Calls Tryz.prog 21 #[.agg #[.int .i64 d.letter, .int .i64 d.phase, .bool d.caller, .int .i64 d.step, .int .i64 d.size, .int .i64 d.room, .int .i64 d.win.md, .int .i64 d.win.sz, .int .i64 d.win.bs, .slice p.w d.win.l.length p.wc, .int .i64 d.wants, .slice p.a d.ahead.length p.ac, .string ⟨d.buf.toArray⟩, .int .i64 d.at_, .slice p.q d.queue.length p.qc, .int .i64 d.wait, .int .i64 d.tries, .slice none 0 0]] w2 fun e w' => e = .returned (.bool true) ∧ Below w2.heap.size w2 w') := HR
  have hle : Hid (w.heap.size ≤ eb) := by show _ ≤ _; rw [heb.out]; exact hb0.out.size
  clear hB heb kB0 kE0 hb0 b2 hld1 hd hr hbw0
  go_upto_region 4 with (first | (refine Rg.wpList_load_row rfl (.tmp 2) 29 rfl rfl hld2.out ?_) | (go_at_call 21; refine HR.out.mono ?_; rintro e w3 ⟨rfl, b3⟩))
  have HW1 := Rg.hid (HW.out w3 _ _ eb (hE.out.below b3) (Rg.chain hbw.out b3) hle.out)
  clear HW hE hbw hld2 HR
  go_wp2_with (go_at_fn 39; refine HW1.out.mono ?_; rintro e w4 ⟨rfl, hq⟩)
  go_ret
  exact ⟨eb, rfl, hq⟩
theorem eg_close : ∀ args w, (callFunc 45 args).run Tryz.prog w = .ok (.enter 45 args) w := enters_of Tryz.func45 (by kernel_rfl) rfl
set_option maxHeartbeats 4000000 in
set_option maxRecDepth 100000 in
theorem through_close {Kp : Nat → Prop} (d : Gp.Dr) (p : Pl) (w0 w : World) (hbw0 : Hid (Below w0.heap.size w0 w)) (hd : Hid (DR Kp w0 d p)) (hr : Hid (Gp.right d)) (Q : Nat → World → Prop)
    (HW : Hid (∀ W1 p1 q1 eb, EAt Kp w0.heap.size W1 eb (Gp.own d) p1 q1 [] [] → Below w.heap.size w W1 → w.heap.size ≤ eb → Calls Tryz.prog 45 #[.pointer (some ⟨eb, 0, none⟩)] W1 fun e w' => e = .returned (.tuple #[]) ∧ Q eb w')) :
    Calls Tryz.prog 30 #[DV d p, .func (.func 45) #[] #[]] w fun e w' => ∃ eb, e = .returned (.pointer (some ⟨eb, 0, none⟩)) ∧ Q eb w' := by
  have eg := eg_close
  have kB0 : Hid (Rg.Bk w.heap.size [.int .i64 d.letter, .int .i64 d.phase, .bool d.caller, .int .i64 d.step, .int .i64 d.size, .int .i64 d.room, .int .i64 d.win.md, .int .i64 d.win.sz, .int .i64 d.win.bs, .slice p.w d.win.l.length p.wc, .int .i64 d.wants, .slice p.a d.ahead.length p.ac, .string ⟨d.buf.toArray⟩, .int .i64 d.at_, .slice p.q d.queue.length p.qc, .int .i64 d.wait, .int .i64 d.tries, .slice none 0 0] 29 (w.alloc (.cells #[.int .i64 d.letter, .int .i64 d.phase, .bool d.caller, .int .i64 d.step, .int .i64 d.size, .int .i64 d.room, .int .i64 d.win.md, .int .i64 d.win.sz, .int .i64 d.win.bs, .slice p.w d.win.l.length p.wc, .int .i64 d.wants, .slice p.a d.ahead.length p.ac, .string ⟨d.buf.toArray⟩, .int .i64 d.at_, .slice p.q d.queue.length p.qc, .int .i64 d.wait, .int .i64 d.tries, .slice none 0 0] 29))) := Rg.Bk.new rfl
  have hb0 := Rg.hid (Rg.al1 w (.cells #[.int .i64 d.letter, .int .i64 d.phase, .bool d.caller, .int .i64 d.step, .int .i64 d.size, .int .i64 d.room, .int .i64 d.win.md, .int .i64 d.win.sz, .int .i64 d.win.bs, .slice p.w d.win.l.length p.wc, .int .i64 d.wants, .slice p.a d.ahead.length p.ac, .string ⟨d.buf.toArray⟩, .int .i64 d.at_, .slice p.q d.queue.length p.qc, .int .i64 d.wait, .int .i64 d.tries, .slice none 0 0] 29))
  unfold DV
  go_enter Tryz.func30, Tryz.ntmps30
  go_upto_region 2 with fail
  generalize World.alloc _ _ = w1 at *
  obtain ⟨B, hB⟩ : ∃ B, B = w.heap.size := ⟨_, rfl⟩
  rw [← hB] at kB0 ⊢
  replace hB := Rg.hid hB
  have hld1 := Rg.hid (Rg.row_loadVar (P := Tryz.prog) (t := 29) (CS := #[.int .i64 d.letter, .int .i64 d.phase, .bool d.caller, .int .i64 d.step, .int .i64 d.size, .int .i64 d.room, .int .i64 d.win.md, .int .i64 d.win.sz, .int .i64 d.win.bs, .slice p.w d.win.l.length p.wc, .int .i64 d.wants, .slice p.a d.ahead.length p.ac, .string ⟨d.buf.toArray⟩, .int .i64 d.at_, .slice p.q d.queue.length p.qc, .int .i64 d.wait, .int .i64 d.tries, .slice none 0 0]) kB0.out Tryz.underlying29 rfl infoDr2)
  have kE0 : Hid (Rg.Bk w1.heap.size [.int .i64 d.letter, .int .i64 d.phase, .bool d.caller, .int .i64 d.step, .int .i64 d.size, .int .i64 d.room, .int .i64 d.win.md, .int .i64 d.win.sz, .int .i64 d.win.bs, .slice p.w d.win.l.length p.wc, .int .i64 d.wants, .slice p.a d.ahead.length p.ac, .string ⟨d.buf.toArray⟩, .int .i64 d.at_, .slice p.q d.queue.length p.qc, .int .i64 d.wait, .int .i64 d.tries, .slice none 0 0, .pointer none, .slice none 0 0, .pointer none, .slice none 0 0] 66 (w1.alloc (.cells #[.int .i64 d.letter, .int .i64 d.phase, .bool d.caller, .int .i64 d.step, .int .i64 d.size, .int .i64 d.room, .int .i64 d.win.md, .int .i64 d.win.sz, .int .i64 d.win.bs, .slice p.w d.win.l.length p.wc, .int .i64 d.wants, .slice p.a d.ahead.length p.ac, .string ⟨d.buf.toArray⟩, .int .i64 d.at_, .slice p.q d.queue.length p.qc, .int .i64 d.wait, .int .i64 d.tries, .slice none 0 0, .pointer none, .slice none 0 0, .pointer none, .slice none 0 0] 66))) := Rg.Bk.new rfl
  have b2 := Rg.hid (Rg.al1 w1 (.cells #[.int .i64 d.letter, .int .i64 d.phase, .bool d.caller, .int .i64 d.step, .int .i64 d.size, .int .i64 d.room, .int .i64 d.win.md, .int .i64 d.win.sz, .int .i64 d.win.bs, .slice p.w d.win.l.length p.wc, .int .i64 d.wants, .slice p.a d.ahead.length p.ac, .string ⟨d.buf.toArray⟩, .int .i64 d.at_, .slice p.q d.queue.length p.qc, .int .i64 d.wait, .int .i64 d.tries, .slice none 0 0, .pointer none, .slice none 0 0, .pointer none, .slice none 0 0] 66))
  go_upto_region 3 with (refine Rg.wpList_load_row rfl (.tmp 2) 29 rfl rfl hld1.out ?_)
  generalize World.alloc _ _ = w2 at *
  obtain ⟨eb, heb⟩ : ∃ eb, eb = w1.heap.size := ⟨_, rfl⟩
  rw [← heb] at kE0 ⊢
  replace heb := Rg.hid heb
  have hbw := Rg.hid (Rg.chain hb0.out b2.out)
  have hE := Rg.hid (hd.out.end_ (Rg.chain hbw0.out hbw.out) kE0.out (by rw [heb.out]; exact Nat.le_trans hbw0.out.size hb0.out.size))
  have hld2 := Rg.hid (Rg.row_loadVar (P := Tryz.prog) (t := 29) (CS := #[.int .i64 d.letter, .int .i64 d.phase, .bool d.caller, .int .i64 d.step, .int .i64 d.size, .int .i64 d.room, .int .i64 d.win.md, .int .i64 d.win.sz, .int .i64 d.win.bs, .slice p.w d.win.l.length p.wc, .int .i64 d.wants, .slice p.a d.ahead.length p.ac, .string ⟨d.buf.toArray⟩, .int .i64 d.at_, .slice p.q d.queue.length p.qc, .int .i64 d.wait, .int .i64 d.tries, .slice none 0 0]) (kB0.out.below b2.out kB0.out.lt) Tryz.underlying29 rfl infoDr2)
  have HR := Rg.hid (right_yes (Gp.own d) p.own w2 hr.out (hd.out.at_.win.below (Rg.chain hbw0.out hbw.out)) (hd.out.at_.queue.below (Rg.chain hbw0.out hbw.out)) hd.out.ql)
  replace HR : Hid (Calls Tryz.prog 21 #[.agg #[.int .i64 d.letter, .int .i64 d.phase, .bool d.caller, .int .i64 d.step, .int .i64 d.size, .int .i64 d.room, .int .i64 d.win.md, .int .i64 d.win.sz, .int .i64 d.win.bs, .slice p.w d.win.l.length p.wc, .int .i64 d.wants, .slice p.a d.ahead.length p.ac, .string ⟨d.buf.toArray⟩, .int .i64 d.at_, .slice p.q d.queue.length p.qc, .int .i64 d.wait, .int .i64 d.tries, .slice none 0 0]] w2 fun e w' => e = .returned (.bool true) ∧ Below w2.heap.size w2 w') := HR
  have hle : Hid (w.heap.size ≤ eb) := by show _ ≤ _; rw [heb.out]; exact hb0.out.size
  clear hB heb kB0 kE0 hb0 b2 hld1 hd hr hbw0
  go_upto_region 4 with (first | (refine Rg.wpList_load_row rfl (.tmp 2) 29 rfl rfl hld2.out ?_) | (go_at_call 21; refine HR.out.mono ?_; rintro e w3 ⟨rfl, b3⟩))
  have HW1 := Rg.hid (HW.out w3 _ _ eb (hE.out.below b3) (Rg.chain hbw.out b3) hle.out)
  clear HW hE hbw hld2 HR
  go_wp2_with (go_at_fn 45; refine HW1.out.mono ?_; rintro e w4 ⟨rfl, hq⟩)
  go_ret
  exact ⟨eb, rfl, hq⟩
theorem eg_send : ∀ args w, (callFunc 42 args).run Tryz.prog w = .ok (.enter 42 args) w := enters_of Tryz.func42 (by kernel_rfl) rfl
set_option maxHeartbeats 4000000 in
set_option maxRecDepth 100000 in
theorem through_send {Kp : Nat → Prop} (d : Gp.Dr) (p : Pl) (w0 w : World) (v : Value) (hbw0 : Hid (Below w0.heap.size w0 w)) (hd : Hid (DR Kp w0 d p)) (hr : Hid (Gp.right d)) (Q : Nat → World → Prop)
    (HW : Hid (∀ W1 p1 q1 eb, EAt Kp w0.heap.size W1 eb (Gp.own d) p1 q1 [] [] → Below w.heap.size w W1 → w.heap.size ≤ eb → Calls Tryz.prog 42 #[.pointer (some ⟨eb, 0, none⟩), v] W1 fun e w' => e = .returned (.tuple #[]) ∧ Q eb w')) :
    Calls Tryz.prog 30 #[DV d p, .func (.func 42) #[] #[v]] w fun e w' => ∃ eb, e = .returned (.pointer (some ⟨eb, 0, none⟩)) ∧ Q eb w' := by
  have eg := eg_send
  have kB0 : Hid (Rg.Bk w.heap.size [.int .i64 d.letter, .int .i64 d.phase, .bool d.caller, .int .i64 d.step, .int .i64 d.size, .int .i64 d.room, .int .i64 d.win.md, .int .i64 d.win.sz, .int .i64 d.win.bs, .slice p.w d.win.l.length p.wc, .int .i64 d.wants, .slice p.a d.ahead.length p.ac, .string ⟨d.buf.toArray⟩, .int .i64 d.at_, .slice p.q d.queue.length p.qc, .int .i64 d.wait, .int .i64 d.tries, .slice none 0 0] 29 (w.alloc (.cells #[.int .i64 d.letter, .int .i64 d.phase, .bool d.caller, .int .i64 d.step, .int .i64 d.size, .int .i64 d.room, .int .i64 d.win.md, .int .i64 d.win.sz, .int .i64 d.win.bs, .slice p.w d.win.l.length p.wc, .int .i64 d.wants, .slice p.a d.ahead.length p.ac, .string ⟨d.buf.toArray⟩, .int .i64 d.at_, .slice p.q d.queue.length p.qc, .int .i64 d.wait, .int .i64 d.tries, .slice none 0 0] 29))) := Rg.Bk.new rfl
  have hb0 := Rg.hid (Rg.al1 w (.cells #[.int .i64 d.letter, .int .i64 d.phase, .bool d.caller, .int .i64 d.step, .int .i64 d.size, .int .i64 d.room, .int .i64 d.win.md, .int .i64 d.win.sz, .int .i64 d.win.bs, .slice p.w d.win.l.length p.wc, .int .i64 d.wants, .slice p.a d.ahead.length p.ac, .string ⟨d.buf.toArray⟩, .int .i64 d.at_, .slice p.q d.queue.length p.qc, .int .i64 d.wait, .int .i64 d.tries, .slice none 0 0] 29))
  unfold DV
  go_enter Tryz.func30, Tryz.ntmps30
  go_upto_region 2 with fail
  generalize World.alloc _ _ = w1 at *
  obtain ⟨B, hB⟩ : ∃ B, B = w.heap.size := ⟨_, rfl⟩
  rw [← hB] at kB0 ⊢
  replace hB := Rg.hid hB
  have hld1 := Rg.hid (Rg.row_loadVar (P := Tryz.prog) (t := 29) (CS := #[.int .i64 d.letter, .int .i64 d.phase, .bool d.caller, .int .i64 d.step, .int .i64 d.size, .int .i64 d.room, .int .i64 d.win.md, .int .i64 d.win.sz, .int .i64 d.win.bs, .slice p.w d.win.l.length p.wc, .int .i64 d.wants, .slice p.a d.ahead.length p.ac, .string ⟨d.buf.toArray⟩, .int .i64 d.at_, .slice p.q d.queue.length p.qc, .int .i64 d.wait, .int .i64 d.tries, .slice none 0 0]) kB0.out Tryz.underlying29 rfl infoDr2)
  have kE0 : Hid (Rg.Bk w1.heap.size [.int .i64 d.letter, .int .i64 d.phase, .bool d.caller, .int .i64 d.step, .int .i64 d.size, .int .i64 d.room, .int .i64 d.win.md, .int .i64 d.win.sz, .int .i64 d.win.bs, .slice p.w d.win.l.length p.wc, .int .i64 d.wants, .slice p.a d.ahead.length p.ac, .string ⟨d.buf.toArray⟩, .int .i64 d.at_, .slice p.q d.queue.length p.qc, .int .i64 d.wait, .int .i64 d.tries, .slice none 0 0, .pointer none, .slice none 0 0, .pointer none, .slice none 0 0] 66 (w1.alloc (.cells #[.int .i64 d.letter, .int .i64 d.phase, .bool d.caller, .int .i64 d.step, .int .i64 d.size, .int .i64 d.room, .int .i64 d.win.md, .int .i64 d.win.sz, .int .i64 d.win.bs, .slice p.w d.win.l.length p.wc, .int .i64 d.wants, .slice p.a d.ahead.length p.ac, .string ⟨d.buf.toArray⟩, .int .i64 d.at_, .slice p.q d.queue.length p.qc, .int .i64 d.wait, .int .i64 d.tries, .slice none 0 0, .pointer none, .slice none 0 0, .pointer none, .slice none 0 0] 66))) := Rg.Bk.new rfl
  have b2 := Rg.hid (Rg.al1 w1 (.cells #[.int .i64 d.letter, .int .i64 d.phase, .bool d.caller, .int .i64 d.step, .int .i64 d.size, .int .i64 d.room, .int .i64 d.win.md, .int .i64 d.win.sz, .int .i64 d.win.bs, .slice p.w d.win.l.length p.wc, .int .i64 d.wants, .slice p.a d.ahead.length p.ac, .string ⟨d.buf.toArray⟩, .int .i64 d.at_, .slice p.q d.queue.length p.qc, .int .i64 d.wait, .int .i64 d.tries, .slice none 0 0, .pointer none, .slice none 0 0, .pointer none, .slice none 0 0] 66))
  go_upto_region 3 with (refine Rg.wpList_load_row rfl (.tmp 2) 29 rfl rfl hld1.out ?_)
  generalize World.alloc _ _ = w2 at *
  obtain ⟨eb, heb⟩ : ∃ eb, eb = w1.heap.size := ⟨_, rfl⟩
  rw [← heb] at kE0 ⊢
  replace heb := Rg.hid heb
  have hbw := Rg.hid (Rg.chain hb0.out b2.out)
  have hE := Rg.hid (hd.out.end_ (Rg.chain hbw0.out hbw.out) kE0.out (by rw [heb.out]; exact Nat.le_trans hbw0.out.size hb0.out.size))
  have hld2 := Rg.hid (Rg.row_loadVar (P := Tryz.prog) (t := 29) (CS := #[.int .i64 d.letter, .int .i64 d.phase, .bool d.caller, .int .i64 d.step, .int .i64 d.size, .int .i64 d.room, .int .i64 d.win.md, .int .i64 d.win.sz, .int .i64 d.win.bs, .slice p.w d.win.l.length p.wc, .int .i64 d.wants, .slice p.a d.ahead.length p.ac, .string ⟨d.buf.toArray⟩, .int .i64 d.at_, .slice p.q d.queue.length p.qc, .int .i64 d.wait, .int .i64 d.tries, .slice none 0 0]) (kB0.out.below b2.out kB0.out.lt) Tryz.underlying29 rfl infoDr2)
  have HR := Rg.hid (right_yes (Gp.own d) p.own w2 hr.out (hd.out.at_.win.below (Rg.chain hbw0.out hbw.out)) (hd.out.at_.queue.below (Rg.chain hbw0.out hbw.out)) hd.out.ql)
  replace HR : Hid (Calls Tryz.prog 21 #[.agg #[.int .i64 d.letter, .int .i64 d.phase, .bool d.caller, .int .i64 d.step, .int .i64 d.size, .int .i64 d.room, .int .i64 d.win.md, .int .i64 d.win.sz, .int .i64 d.win.bs, .slice p.w d.win.l.length p.wc, .int .i64 d.wants, .slice p.a d.ahead.length p.ac, .string ⟨d.buf.toArray⟩, .int .i64 d.at_, .slice p.q d.queue.length p.qc, .int .i64 d.wait, .int .i64 d.tries, .slice none 0 0]] w2 fun e w' => e = .returned (.bool true) ∧ Below w2.heap.size w2 w') := HR
  have hle : Hid (w.heap.size ≤ eb) := by show _ ≤ _; rw [heb.out]; exact hb0.out.size
  clear hB heb kB0 kE0 hb0 b2 hld1 hd hr hbw0
  go_upto_region 4 with (first | (refine Rg.wpList_load_row rfl (.tmp 2) 29 rfl rfl hld2.out ?_) | (go_at_call 21; refine HR.out.mono ?_; rintro e w3 ⟨rfl, b3⟩))
  have HW1 := Rg.hid (HW.out w3 _ _ eb (hE.out.below b3) (Rg.chain hbw.out b3) hle.out)
  clear HW hE hbw hld2 HR
  go_wp2_with (go_at_fn 42; refine HW1.out.mono ?_; rintro e w4 ⟨rfl, hq⟩)
  go_ret
  exact ⟨eb, rfl, hq⟩
theorem eg_feed : ∀ args w, (callFunc 31 args).run Tryz.prog w = .ok (.enter 31 args) w := enters_of Tryz.func31 (by kernel_rfl) rfl
set_option maxHeartbeats 4000000 in
set_option maxRecDepth 100000 in
theorem through_feed {Kp : Nat → Prop} (d : Gp.Dr) (p : Pl) (w0 w : World) (v : Value) (hbw0 : Hid (Below w0.heap.size w0 w)) (hd : Hid (DR Kp w0 d p)) (hr : Hid (Gp.right d)) (Q : Nat → World → Prop)
    (HW : Hid (∀ W1 p1 q1 eb, EAt Kp w0.heap.size W1 eb (Gp.own d) p1 q1 [] [] → Below w.heap.size w W1 → w.heap.size ≤ eb → Calls Tryz.prog 31 #[.pointer (some ⟨eb, 0, none⟩), v] W1 fun e w' => e = .returned (.tuple #[]) ∧ Q eb w')) :
    Calls Tryz.prog 30 #[DV d p, .func (.func 31) #[] #[v]] w fun e w' => ∃ eb, e = .returned (.pointer (some ⟨eb, 0, none⟩)) ∧ Q eb w' := by
  have eg := eg_feed
  have kB0 : Hid (Rg.Bk w.heap.size [.int .i64 d.letter, .int .i64 d.phase, .bool d.caller, .int .i64 d.step, .int .i64 d.size, .int .i64 d.room, .int .i64 d.win.md, .int .i64 d.win.sz, .int .i64 d.win.bs, .slice p.w d.win.l.length p.wc, .int .i64 d.wants, .slice p.a d.ahead.length p.ac, .string ⟨d.buf.toArray⟩, .int .i64 d.at_, .slice p.q d.queue.length p.qc, .int .i64 d.wait, .int .i64 d.tries, .slice none 0 0] 29 (w.alloc (.cells #[.int .i64 d.letter, .int .i64 d.phase, .bool d.caller, .int .i64 d.step, .int .i64 d.size, .int .i64 d.room, .int .i64 d.win.md, .int .i64 d.win.sz, .int .i64 d.win.bs, .slice p.w d.win.l.length p.wc, .int .i64 d.wants, .slice p.a d.ahead.length p.ac, .string ⟨d.buf.toArray⟩, .int .i64 d.at_, .slice p.q d.queue.length p.qc, .int .i64 d.wait, .int .i64 d.tries, .slice none 0 0] 29))) := Rg.Bk.new rfl
  have hb0 := Rg.hid (Rg.al1 w (.cells #[.int .i64 d.letter, .int .i64 d.phase, .bool d.caller, .int .i64 d.step, .int .i64 d.size, .int .i64 d.room, .int .i64 d.win.md, .int .i64 d.win.sz, .int .i64 d.win.bs, .slice p.w d.win.l.length p.wc, .int .i64 d.wants, .slice p.a d.ahead.length p.ac, .string ⟨d.buf.toArray⟩, .int .i64 d.at_, .slice p.q d.queue.length p.qc, .int .i64 d.wait, .int .i64 d.tries, .slice none 0 0] 29))
  unfold DV
  go_enter Tryz.func30, Tryz.ntmps30
  go_upto_region 2 with fail
  generalize World.alloc _ _ = w1 at *
  obtain ⟨B, hB⟩ : ∃ B, B = w.heap.size := ⟨_, rfl⟩
  rw [← hB] at kB0 ⊢
  replace hB := Rg.hid hB
  have hld1 := Rg.hid (Rg.row_loadVar (P := Tryz.prog) (t := 29) (CS := #[.int .i64 d.letter, .int .i64 d.phase, .bool d.caller, .int .i64 d.step, .int .i64 d.size, .int .i64 d.room, .int .i64 d.win.md, .int .i64 d.win.sz, .int .i64 d.win.bs, .slice p.w d.win.l.length p.wc, .int .i64 d.wants, .slice p.a d.ahead.length p.ac, .string ⟨d.buf.toArray⟩, .int .i64 d.at_, .slice p.q d.queue.length p.qc, .int .i64 d.wait, .int .i64 d.tries, .slice none 0 0]) kB0.out Tryz.underlying29 rfl infoDr2)
  have kE0 : Hid (Rg.Bk w1.heap.size [.int .i64 d.letter, .int .i64 d.phase, .bool d.caller, .int .i64 d.step, .int .i64 d.size, .int .i64 d.room, .int .i64 d.win.md, .int .i64 d.win.sz, .int .i64 d.win.bs, .slice p.w d.win.l.length p.wc, .int .i64 d.wants, .slice p.a d.ahead.length p.ac, .string ⟨d.buf.toArray⟩, .int .i64 d.at_, .slice p.q d.queue.length p.qc, .int .i64 d.wait, .int .i64 d.tries, .slice none 0 0, .pointer none, .slice none 0 0, .pointer none, .slice none 0 0] 66 (w1.alloc (.cells #[.int .i64 d.letter, .int .i64 d.phase, .bool d.caller, .int .i64 d.step, .int .i64 d.size, .int .i64 d.room, .int .i64 d.win.md, .int .i64 d.win.sz, .int .i64 d.win.bs, .slice p.w d.win.l.length p.wc, .int .i64 d.wants, .slice p.a d.ahead.length p.ac, .string ⟨d.buf.toArray⟩, .int .i64 d.at_, .slice p.q d.queue.length p.qc, .int .i64 d.wait, .int .i64 d.tries, .slice none 0 0, .pointer none, .slice none 0 0, .pointer none, .slice none 0 0] 66))) := Rg.Bk.new rfl
  have b2 := Rg.hid (Rg.al1 w1 (.cells #[.int .i64 d.letter, .int .i64 d.phase, .bool d.caller, .int .i64 d.step, .int .i64 d.size, .int .i64 d.room, .int .i64 d.win.md, .int .i64 d.win.sz, .int .i64 d.win.bs, .slice p.w d.win.l.length p.wc, .int .i64 d.wants, .slice p.a d.ahead.length p.ac, .string ⟨d.buf.toArray⟩, .int .i64 d.at_, .slice p.q d.queue.length p.qc, .int .i64 d.wait, .int .i64 d.tries, .slice none 0 0, .pointer none, .slice none 0 0, .pointer none, .slice none 0 0] 66))
  go_upto_region 3 with (refine Rg.wpList_load_row rfl (.tmp 2) 29 rfl rfl hld1.out ?_)
  generalize World.alloc _ _ = w2 at *
  obtain ⟨eb, heb⟩ : ∃ eb, eb = w1.heap.size := ⟨_, rfl⟩
  rw [← heb] at kE0 ⊢
  replace heb := Rg.hid heb
  have hbw := Rg.hid (Rg.chain hb0.out b2.out)
  have hE := Rg.hid (hd.out.end_ (Rg.chain hbw0.out hbw.out) kE0.out (by rw [heb.out]; exact Nat.le_trans hbw0.out.size hb0.out.size))
  have hld2 := Rg.hid (Rg.row_loadVar (P := Tryz.prog) (t := 29) (CS := #[.int .i64 d.letter, .int .i64 d.phase, .bool d.caller, .int .i64 d.step, .int .i64 d.size, .int .i64 d.room, .int .i64 d.win.md, .int .i64 d.win.sz, .int .i64 d.win.bs, .slice p.w d.win.l.length p.wc, .int .i64 d.wants, .slice p.a d.ahead.length p.ac, .string ⟨d.buf.toArray⟩, .int .i64 d.at_, .slice p.q d.queue.length p.qc, .int .i64 d.wait, .int .i64 d.tries, .slice none 0 0]) (kB0.out.below b2.out kB0.out.lt) Tryz.underlying29 rfl infoDr2)
  have HR := Rg.hid (right_yes (Gp.own d) p.own w2 hr.out (hd.out.at_.win.below (Rg.chain hbw0.out hbw.out)) (hd.out.at_.queue.below (Rg.chain hbw0.out hbw.out)) hd.out.ql)
  replace HR : Hid (Calls Tryz.prog 21 #[.agg #[.int .i64 d.letter, .int .i64 d.phase, .bool d.caller, .int .i64 d.step, .int .i64 d.size, .int .i64 d.room, .int .i64 d.win.md, .int .i64 d.win.sz, .int .i64 d.win.bs, .slice p.w d.win.l.length p.wc, .int .i64 d.wants, .slice p.a d.ahead.length p.ac, .string ⟨d.buf.toArray⟩, .int .i64 d.at_, .slice p.q d.queue.length p.qc, .int .i64 d.wait, .int .i64 d.tries, .slice none 0 0]] w2 fun e w' => e = .returned (.bool true) ∧ Below w2.heap.size w2 w') := HR
  have hle : Hid (w.heap.size ≤ eb) := by show _ ≤ _; rw [heb.out]; exact hb0.out.size
  clear hB heb kB0 kE0 hb0 b2 hld1 hd hr hbw0
  go_upto_region 4 with (first | (refine Rg.wpList_load_row rfl (.tmp 2) 29 rfl rfl hld2.out ?_) | (go_at_call 21; refine HR.out.mono ?_; rintro e w3 ⟨rfl, b3⟩))
  have HW1 := Rg.hid (HW.out w3 _ _ eb (hE.out.below b3) (Rg.chain hbw.out b3) hle.out)
  clear HW hE hbw hld2 HR
  go_wp2_with (go_at_fn 31; refine HW1.out.mono ?_; rintro e w4 ⟨rfl, hq⟩)
  go_ret
  exact ⟨eb, rfl, hq⟩
end Go.Proofs.YtfiffbohhhehkaaGreat

namespace Go.Proofs.YtfiffbohhhehkaaGreat
open Go.RowKit
theorem load_end {eb : Nat} {d : Gp.Dr} {p : Pl} {q : Bu} {W : World} (h : Rg.Bk eb (EC d p q) 66 W) : (loadVar 29 ⟨eb, 0, none⟩).run Tryz.prog W = .ok (DV d p) W := by
  refine row_loadPart (cs := DC d p) Tryz.isAgg29 Tryz.sizeOf29 fun j v hj => ?_
  have e : (⟨eb, 0, none⟩ : Addr).add j = ⟨eb, j, none⟩ := by cases j <;> simp [Addr.add]
  rw [e, h.cell]
  have e2 : EC d p q = DC d p ++ [q.s, q.sb, q.c, q.cb] := rfl
  rw [e2, List.getElem?_append_left]
  · exact hj
  · rcases Nat.lt_or_ge j (DC d p).length with c | c
    · exact c
    · rw [List.getElem?_eq_none c] at hj; cases hj
theorem exec_load_row {P : Program} {ρ : Operand → Value} {o : Oper} {w : World} (t : TypeId) (x : Operand) (ho : o.op = .load t x) {B : Nat} (hx : ρ x = .pointer (some ⟨B, 0, none⟩)) {v : Value} (hrun : (loadVar t ⟨B, 0, none⟩).run P w = .ok v w) : (execOp ρ o).run P w = .ok (.value v) w := by
  simp [execOp, ho, hx, Instr.loadAt, Instr.sureAddr, hrun, Result.andThen]
theorem step_store_row {P : Program} {ops : Array Oper} {o : Oper} {a : Act} {w w' : World} {K : Act → World → Prop} {Q : Exit → Act → World → Prop} {E : Prop} (hg : o.guard = none) (x y : Operand) (t : TypeId)
    (ho : o.op = .store t x y) {R : Nat} (hx : a.eval x = .pointer (some ⟨R, 0, none⟩)) {v : Value} (hy : a.eval y = v) (hrun : (storeVar t ⟨R, 0, none⟩ v).run P w = .ok () w') (h : K (a.put o.dst undef) w') : if Region.wanted o (yielded ops a.tmps) = true then Oper.wp P o a w K Q else E := by
  have hw : Region.wanted o (yielded ops a.tmps) = true := by simp [Region.wanted, hg]
  rw [if_pos hw]
  unfold Oper.wp
  simp [execOp, ho, hx, hy, Instr.storeAt, Instr.sureAddr, hrun, Result.andThen, Oper.upon]
  exact h
theorem results_row2 {P : Program} {fn : Func} {tm tn : Tmp} {t : TypeId} (hf : fn.results = #[.cell tm t, .tmp tn]) {tmps : Array Value} {R : Nat} (hp : tmps.getD tm undef = .pointer (some ⟨R, 0, none⟩)) {v u : Value} {W : World} (hu : tmps.getD tn undef = u) (hrun : (loadVar t ⟨R, 0, none⟩).run P W = .ok v W) : (results fn tmps).run P W = .ok (.tuple #[v, u]) W := by
  simp only [Array.getD_eq_getD_getElem?] at hp hu
  simp [results, hf, hp, hu, asAddr, hrun]
theorem results_row3 {P : Program} {fn : Func} {tm tn tk : Tmp} {t : TypeId} (hf : fn.results = #[.cell tm t, .tmp tn, .tmp tk]) {tmps : Array Value} {R : Nat} (hp : tmps.getD tm undef = .pointer (some ⟨R, 0, none⟩)) {v u y : Value} {W : World} (hu : tmps.getD tn undef = u) (hy : tmps.getD tk undef = y) (hrun : (loadVar t ⟨R, 0, none⟩).run P W = .ok v W) : (results fn tmps).run P W = .ok (.tuple #[v, u, y]) W := by
  simp only [Array.getD_eq_getD_getElem?] at hp hu hy
  simp [results, hf, hp, hu, hy, asAddr, hrun]
/-- what a call of a drive hands back -/
def XPost (Kp : Nat → Prop) (w : World) (r : Gp.Dr × List UInt8) (e : Ending) (w' : World) : Prop := ∃ p', e = .returned (.tuple #[DV r.1 p', .string ⟨r.2.toArray⟩]) ∧ DR Kp w' r.1 p' ∧ Below w.heap.size w w'
/-- an end that is left: its drive is at rest; a block R of the call's own, made ahead of the end, may have turned -/
theorem EAt.rest {Kp : Nat → Prop} {base eb R : Nat} {W W' : World} {d : Gp.Dr} {p : Pl} {q : Bu} {S C : List UInt8} {CR : List Value} (h : EAt Kp base W eb d p q S C) (hq : d.queue.length ≤ 100000) (hK : ∀ b, base ≤ b → Kp b) (kR : Rg.Bk R CR 29 W) (hR2 : R < eb) (hk : ∀ k, k < W.heap.size → k ≠ eb → k ≠ R → q.sb.ownBlock ≠ some k → q.cb.ownBlock ≠ some k → W'.heap[k]? = W.heap[k]?) (hb : Below base W W') : DR Kp W' d p := by
  have key : ∀ {α : Type} {E : Rg.El α} {a : Option Addr} {l : List α}, TRow Kp E base eb [q.sb, q.cb, .slice p.t d.took.length p.tc] W a l → ERow E W' a l := fun {α E a l} h => by
    rcases h with h | ⟨b, o, h1, h2, h3, h4⟩
    · exact .inl h
    · refine .inr ⟨b, o, h1, Nat.lt_of_lt_of_le h2 hb.size, ?_⟩
      rcases h4 with h4 | ⟨h4, h5⟩
      · exact h3.below hb h4.1
      · exact h3.same (hk b h2 (by omega) (by omega) (h5 _ (by simp)) (h5 _ (by simp)))
  have key2 : ∀ {α : Type} {E : Rg.El α} {a : Option Addr} {l : List α}, TRow Kp E base eb [q.sb, q.cb, .slice p.t d.took.length p.tc] W a l → KRow Kp a l := fun {α E a l} h2 => by
    rcases h2 with h2 | ⟨b, o, h1, _, _, h4⟩
    · exact .inl h2
    · rcases h4 with h4 | ⟨h4, _⟩
      · exact .inr ⟨b, o, h1, h4.2⟩
      · exact .inr ⟨b, o, h1, hK b (Nat.le_of_lt (Nat.lt_of_le_of_lt h.new h4))⟩
  refine ⟨⟨key h.win, key h.ahead, key h.queue, ?_⟩, h.wcap, hq, key2 h.win, key2 h.ahead, key2 h.queue, ?_⟩
  rotate_left
  · rcases h.took.2 with ⟨e, e0⟩ | ⟨g, cap, cur, e, hbg, _⟩
    · exact .inl (List.eq_nil_of_length_eq_zero e0)
    · injection e with e1 e2 e3
      exact .inr ⟨g, 0, e1, hK g hbg⟩
  rcases h.took.2 with ⟨e, e0⟩ | ⟨g, cap, cur, e, hbg, hgg, hle, _, hcs, htk⟩
  · exact .inl (List.eq_nil_of_length_eq_zero e0)
  · injection e with e1 e2 e3
    refine .inr ⟨g, 0, e1, Nat.lt_of_lt_of_le (Array.getElem?_eq_some_iff.1 hgg).1 hb.size, fun t u ht => ?_⟩
    have hgk : W'.heap[g]? = W.heap[g]? := by
      refine hk g (Array.getElem?_eq_some_iff.1 hgg).1 (fun e => ?_) (fun e => ?_) (fun e => ?_) (fun e => ?_)
      · have k := h.bk
        unfold Rg.Bk at k
        rw [← e, hgg] at k
        cases k
      · unfold Rg.Bk at kR
        rw [← e, hgg] at kR
        cases kR
      · obtain ⟨c, fz, hT⟩ := Lib.ownsRowF_kind h.said.own g e
        rw [hgg] at hT
        cases hT
      · obtain ⟨c, fz, hT⟩ := Lib.ownsRowF_kind h.came.own g e
        rw [hgg] at hT
        cases hT
    rw [World.cell?_of_block (a := ⟨g, 0 + t, none⟩) hgk, Nat.zero_add, cell_of_row W g t cur _ _ hgg]
    rw [← htk, List.getElem?_take] at ht
    split at ht
    · simpa using ht
    · cases ht
/-- what String leaves of an end, and of the block for the result -/
theorem str_end {Kp : Nat → Prop} {base eb R : Nat} {w3 : World} {d : Gp.Dr} {p : Pl} {q : Bu} {S C : List UInt8} {CR : List Value} (h : EAt Kp base w3 eb d p q S C) (kR : Rg.Bk R CR 29 w3) :
    Calls Tryz.prog 27 #[.pointer (some ⟨eb, 18, none⟩)] w3.drew fun e w' => e = .returned (.string ⟨S.toArray⟩) ∧ Hid (Below base w3 w' ∧ ∀ k, k < w3.heap.size → q.sb.ownBlock ≠ some k → w'.heap[k]? = w3.heap[k]?) ∧ Hid (Rg.Bk eb (EC d p q) 66 w') ∧ Hid (Rg.Bk R CR 29 w') := by
  refine (Be.str base eb 18 q.sb S w3.drew (h.drew.bk.cell 19) h.drew.said).mono fun e w' ⟨h1, h2⟩ => ?_
  have hb : Below base w3 w' := (Below.drew (Below.refl _ _)).trans h2.bel
  exact ⟨h1, ⟨hb, fun k hk hne => h2.blk k hk hne⟩, h.bk.same (h2.blk eb h.bk.lt (h.said.ne h.bk (by decide))), kR.same (h2.blk R kR.lt (h.said.ne kR (by decide)))⟩
end Go.Proofs.YtfiffbohhhehkaaGreat
