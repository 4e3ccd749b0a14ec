/-
  Walks of layer 16: through. Walks of layer 16: tick.
-/
import Derived.Test.YtlclfkogbfigbaaGreatCuAP
namespace Go.Proofs.YtlclfkogbfigbaaGreat
open Go.RowKit
/-- where a row may lie -/
def iKRow (Kp : Nat → Prop) {α : Type} (a : Option Addr) (l : List α) : Prop := l = [] ∨ ∃ b o, a = some ⟨b, o, none⟩ ∧ Kp b
theorem itrow_old {Kp : Nat → Prop} {α : Type} {E : Rg.El α} {eb : Nat} {vs : List Value} {w W : World} {a : Option Addr} {l : List α} (h : ERow E w a l) (hk : iKRow Kp a l) (hb : Below w.heap.size w W) (hn : w.heap.size ≤ eb) : TRow Kp E eb eb vs W a l := by
  rcases h with h | ⟨b, o, h1, h2, h3⟩
  · exact .inl h
  · rcases hk with hk | ⟨b', o', k1, k2⟩
    · exact .inl hk
    · rw [h1] at k1
      cases k1
      exact .inr ⟨b, o, h1, Nat.lt_of_lt_of_le h2 hb.size, h3.below hb h2, .inl ⟨Nat.lt_of_lt_of_le h2 hn, k2⟩⟩
/-- a drive of i at rest: its rows, and that its lists have room -/
structure IDR (Kp : Nat → Prop) (W : World) (d : Gp.Dr) (p : Pl) : Prop where
  at_ : DAt W d p
  wcap : d.win.l.length ≤ p.wc
  acap : d.ahead.length ≤ p.ac
  ql : d.queue.length ≤ 100000
  wl : d.win.l.length ≤ 100000
  kw : iKRow Kp p.w d.win.l
  ka : iKRow Kp p.a d.ahead
  kq : iKRow Kp p.q d.queue
  kt : iKRow Kp p.t d.took
theorem IDR.below {Kp : Nat → Prop} {W W' : World} {d : Gp.Dr} {p : Pl} (h : IDR Kp W d p) (hb : Below W.heap.size W W') : IDR Kp W' d p := ⟨h.at_.below hb, h.wcap, h.acap, h.ql, h.wl, h.kw, h.ka, h.kq, h.kt⟩
/-- a drive where nothing was taken -/
def iown (p : Pl) : Pl := { p with t := none, tc := 0 }
theorem IDR.end_ {Kp : Nat → Prop} {w W : World} {d : Gp.Dr} {p : Pl} {eb : Nat} (h : IDR Kp w d p) (hb : Below w.heap.size w W) (k : Rg.Bk eb [.int .i64 d.letter, .int .i64 d.phase, .bool d.caller, .int .i64 d.step, .int .i64 d.size, .int .i64 d.room, .int .i64 d.win.md, .int .i64 d.win.sz, .int .i64 d.win.bs, .slice p.w d.win.l.length p.wc, .int .i64 d.wants, .slice p.a d.ahead.length p.ac, .string ⟨d.buf.toArray⟩, .int .i64 d.at_, .slice p.q d.queue.length p.qc, .int .i64 d.wait, .int .i64 d.tries, .slice none 0 0, .pointer none, .slice none 0 0, .slice none 0 0] 69 W) (hn : w.heap.size ≤ eb) : IAt Kp W eb (Gp.own d) (iown p) ⟨.pointer none, .slice none 0 0, .slice none 0 0, none⟩ [] [] :=
  ⟨k, itrow_old h.at_.win h.kw hb hn, h.wcap, .inl ⟨rfl, itrow_old h.at_.ahead h.ka hb hn⟩, h.acap, itrow_old h.at_.queue h.kq hb hn, World.ownsRow_nil _ _ _ _, .inl rfl, BAt.start _ _, World.ownsRow_nil _ _ _ _⟩
theorem ieg_tick : ∀ args w, (callFunc 39 args).run Tryz.prog w = .ok (.enter 39 args) w := enters_of Tryz.func39 (by kernel_rfl) rfl
set_option maxHeartbeats 4000000 in
set_option maxRecDepth 100000 in
theorem ithrough_tick {Kp : Nat → Prop} (d : Gp.Dr) (p : Pl) (w0 w : World) (hbw0 : Hid (Below w0.heap.size w0 w)) (hd : Hid (IDR Kp w0 d p)) (hr : Hid (Ip.right d)) (Q : Nat → World → Prop)
    (HW : Hid (∀ W1 p1 q1 eb, IAt Kp W1 eb (Gp.own d) p1 q1 [] [] → Below w.heap.size w W1 → w.heap.size ≤ eb → Calls Tryz.prog 39 #[.pointer (some ⟨eb, 0, none⟩)] W1 fun e w' => e = .returned (.tuple #[]) ∧ Q eb w')) :
    Calls Tryz.prog 29 #[DV d p, .func (.func 39) #[] #[]] w fun e w' => ∃ eb, e = .returned (.pointer (some ⟨eb, 0, none⟩)) ∧ Q eb w' := by
  have eg := ieg_tick
  have kB0 : Hid (Rg.Bk w.heap.size [.int .i64 d.letter, .int .i64 d.phase, .bool d.caller, .int .i64 d.step, .int .i64 d.size, .int .i64 d.room, .int .i64 d.win.md, .int .i64 d.win.sz, .int .i64 d.win.bs, .slice p.w d.win.l.length p.wc, .int .i64 d.wants, .slice p.a d.ahead.length p.ac, .string ⟨d.buf.toArray⟩, .int .i64 d.at_, .slice p.q d.queue.length p.qc, .int .i64 d.wait, .int .i64 d.tries, .slice none 0 0] 29 (w.alloc (.cells #[.int .i64 d.letter, .int .i64 d.phase, .bool d.caller, .int .i64 d.step, .int .i64 d.size, .int .i64 d.room, .int .i64 d.win.md, .int .i64 d.win.sz, .int .i64 d.win.bs, .slice p.w d.win.l.length p.wc, .int .i64 d.wants, .slice p.a d.ahead.length p.ac, .string ⟨d.buf.toArray⟩, .int .i64 d.at_, .slice p.q d.queue.length p.qc, .int .i64 d.wait, .int .i64 d.tries, .slice none 0 0] 29))) := Rg.Bk.new rfl
  have hb0 := Rg.hid (Rg.al1 w (.cells #[.int .i64 d.letter, .int .i64 d.phase, .bool d.caller, .int .i64 d.step, .int .i64 d.size, .int .i64 d.room, .int .i64 d.win.md, .int .i64 d.win.sz, .int .i64 d.win.bs, .slice p.w d.win.l.length p.wc, .int .i64 d.wants, .slice p.a d.ahead.length p.ac, .string ⟨d.buf.toArray⟩, .int .i64 d.at_, .slice p.q d.queue.length p.qc, .int .i64 d.wait, .int .i64 d.tries, .slice none 0 0] 29))
  unfold DV
  go_enter Tryz.func29, Tryz.ntmps29
  go_upto_region 2 with fail
  generalize World.alloc _ _ = w1 at *
  obtain ⟨B, hB⟩ : ∃ B, B = w.heap.size := ⟨_, rfl⟩
  rw [← hB] at kB0 ⊢
  replace hB := Rg.hid hB
  have hld1 := Rg.hid (Rg.row_loadVar (P := Tryz.prog) (t := 29) (CS := #[.int .i64 d.letter, .int .i64 d.phase, .bool d.caller, .int .i64 d.step, .int .i64 d.size, .int .i64 d.room, .int .i64 d.win.md, .int .i64 d.win.sz, .int .i64 d.win.bs, .slice p.w d.win.l.length p.wc, .int .i64 d.wants, .slice p.a d.ahead.length p.ac, .string ⟨d.buf.toArray⟩, .int .i64 d.at_, .slice p.q d.queue.length p.qc, .int .i64 d.wait, .int .i64 d.tries, .slice none 0 0]) kB0.out Tryz.underlying29 rfl iinfoDr2)
  have kE0 : Hid (Rg.Bk w1.heap.size [.int .i64 d.letter, .int .i64 d.phase, .bool d.caller, .int .i64 d.step, .int .i64 d.size, .int .i64 d.room, .int .i64 d.win.md, .int .i64 d.win.sz, .int .i64 d.win.bs, .slice p.w d.win.l.length p.wc, .int .i64 d.wants, .slice p.a d.ahead.length p.ac, .string ⟨d.buf.toArray⟩, .int .i64 d.at_, .slice p.q d.queue.length p.qc, .int .i64 d.wait, .int .i64 d.tries, .slice none 0 0, .pointer none, .slice none 0 0, .slice none 0 0] 69 (w1.alloc (.cells #[.int .i64 d.letter, .int .i64 d.phase, .bool d.caller, .int .i64 d.step, .int .i64 d.size, .int .i64 d.room, .int .i64 d.win.md, .int .i64 d.win.sz, .int .i64 d.win.bs, .slice p.w d.win.l.length p.wc, .int .i64 d.wants, .slice p.a d.ahead.length p.ac, .string ⟨d.buf.toArray⟩, .int .i64 d.at_, .slice p.q d.queue.length p.qc, .int .i64 d.wait, .int .i64 d.tries, .slice none 0 0, .pointer none, .slice none 0 0, .slice none 0 0] 69))) := Rg.Bk.new rfl
  have b2 := Rg.hid (Rg.al1 w1 (.cells #[.int .i64 d.letter, .int .i64 d.phase, .bool d.caller, .int .i64 d.step, .int .i64 d.size, .int .i64 d.room, .int .i64 d.win.md, .int .i64 d.win.sz, .int .i64 d.win.bs, .slice p.w d.win.l.length p.wc, .int .i64 d.wants, .slice p.a d.ahead.length p.ac, .string ⟨d.buf.toArray⟩, .int .i64 d.at_, .slice p.q d.queue.length p.qc, .int .i64 d.wait, .int .i64 d.tries, .slice none 0 0, .pointer none, .slice none 0 0, .slice none 0 0] 69))
  go_upto_region 3 with (refine Rg.wpList_load_row rfl (.tmp 2) 29 rfl rfl hld1.out ?_)
  generalize World.alloc _ _ = w2 at *
  obtain ⟨eb, heb⟩ : ∃ eb, eb = w1.heap.size := ⟨_, rfl⟩
  rw [← heb] at kE0 ⊢
  replace heb := Rg.hid heb
  have hbw := Rg.hid (Rg.chain hb0.out b2.out)
  have hE := Rg.hid (hd.out.end_ (Rg.chain hbw0.out hbw.out) kE0.out (by rw [heb.out]; exact Nat.le_trans hbw0.out.size hb0.out.size))
  have hld2 := Rg.hid (Rg.row_loadVar (P := Tryz.prog) (t := 29) (CS := #[.int .i64 d.letter, .int .i64 d.phase, .bool d.caller, .int .i64 d.step, .int .i64 d.size, .int .i64 d.room, .int .i64 d.win.md, .int .i64 d.win.sz, .int .i64 d.win.bs, .slice p.w d.win.l.length p.wc, .int .i64 d.wants, .slice p.a d.ahead.length p.ac, .string ⟨d.buf.toArray⟩, .int .i64 d.at_, .slice p.q d.queue.length p.qc, .int .i64 d.wait, .int .i64 d.tries, .slice none 0 0]) (kB0.out.below b2.out kB0.out.lt) Tryz.underlying29 rfl iinfoDr2)
  have hch := Rg.chain hbw0.out hbw.out
  have HR := Rg.hid (iright_yes (Gp.own d) (iown p) w2 (Ip.right_own hr.out) (hd.out.at_.win.below hch) (hd.out.at_.queue.below hch) (hd.out.at_.ahead.below hch) hd.out.wl hd.out.ql)
  replace HR : Hid (Calls Tryz.prog 21 #[.agg #[.int .i64 d.letter, .int .i64 d.phase, .bool d.caller, .int .i64 d.step, .int .i64 d.size, .int .i64 d.room, .int .i64 d.win.md, .int .i64 d.win.sz, .int .i64 d.win.bs, .slice p.w d.win.l.length p.wc, .int .i64 d.wants, .slice p.a d.ahead.length p.ac, .string ⟨d.buf.toArray⟩, .int .i64 d.at_, .slice p.q d.queue.length p.qc, .int .i64 d.wait, .int .i64 d.tries, .slice none 0 0]] w2 fun e w' => e = .returned (.bool true) ∧ Below w2.heap.size w2 w') := HR
  have hle : Hid (w.heap.size ≤ eb) := by show _ ≤ _; rw [heb.out]; exact hb0.out.size
  clear hB heb kB0 kE0 hb0 b2 hld1 hd hr hbw0 hch
  go_upto_region 4 with (first | (refine Rg.wpList_load_row rfl (.tmp 2) 29 rfl rfl hld2.out ?_) | (go_at_call 21; refine HR.out.mono ?_; rintro e w3 ⟨rfl, b3⟩))
  have HW1 := Rg.hid (HW.out w3 _ _ eb (hE.out.below b3) (Rg.chain hbw.out b3) hle.out)
  clear HW hE hbw hld2 HR
  go_wp2_with (go_at_fn 39; refine HW1.out.mono ?_; rintro e w4 ⟨rfl, hq⟩)
  go_ret
  exact ⟨eb, rfl, hq⟩
theorem ieg_close : ∀ args w, (callFunc 46 args).run Tryz.prog w = .ok (.enter 46 args) w := enters_of Tryz.func46 (by kernel_rfl) rfl
set_option maxHeartbeats 4000000 in
set_option maxRecDepth 100000 in
theorem ithrough_close {Kp : Nat → Prop} (d : Gp.Dr) (p : Pl) (w0 w : World) (hbw0 : Hid (Below w0.heap.size w0 w)) (hd : Hid (IDR Kp w0 d p)) (hr : Hid (Ip.right d)) (Q : Nat → World → Prop)
    (HW : Hid (∀ W1 p1 q1 eb, IAt Kp W1 eb (Gp.own d) p1 q1 [] [] → Below w.heap.size w W1 → w.heap.size ≤ eb → Calls Tryz.prog 46 #[.pointer (some ⟨eb, 0, none⟩)] W1 fun e w' => e = .returned (.tuple #[]) ∧ Q eb w')) :
    Calls Tryz.prog 29 #[DV d p, .func (.func 46) #[] #[]] w fun e w' => ∃ eb, e = .returned (.pointer (some ⟨eb, 0, none⟩)) ∧ Q eb w' := by
  have eg := ieg_close
  have kB0 : Hid (Rg.Bk w.heap.size [.int .i64 d.letter, .int .i64 d.phase, .bool d.caller, .int .i64 d.step, .int .i64 d.size, .int .i64 d.room, .int .i64 d.win.md, .int .i64 d.win.sz, .int .i64 d.win.bs, .slice p.w d.win.l.length p.wc, .int .i64 d.wants, .slice p.a d.ahead.length p.ac, .string ⟨d.buf.toArray⟩, .int .i64 d.at_, .slice p.q d.queue.length p.qc, .int .i64 d.wait, .int .i64 d.tries, .slice none 0 0] 29 (w.alloc (.cells #[.int .i64 d.letter, .int .i64 d.phase, .bool d.caller, .int .i64 d.step, .int .i64 d.size, .int .i64 d.room, .int .i64 d.win.md, .int .i64 d.win.sz, .int .i64 d.win.bs, .slice p.w d.win.l.length p.wc, .int .i64 d.wants, .slice p.a d.ahead.length p.ac, .string ⟨d.buf.toArray⟩, .int .i64 d.at_, .slice p.q d.queue.length p.qc, .int .i64 d.wait, .int .i64 d.tries, .slice none 0 0] 29))) := Rg.Bk.new rfl
  have hb0 := Rg.hid (Rg.al1 w (.cells #[.int .i64 d.letter, .int .i64 d.phase, .bool d.caller, .int .i64 d.step, .int .i64 d.size, .int .i64 d.room, .int .i64 d.win.md, .int .i64 d.win.sz, .int .i64 d.win.bs, .slice p.w d.win.l.length p.wc, .int .i64 d.wants, .slice p.a d.ahead.length p.ac, .string ⟨d.buf.toArray⟩, .int .i64 d.at_, .slice p.q d.queue.length p.qc, .int .i64 d.wait, .int .i64 d.tries, .slice none 0 0] 29))
  unfold DV
  go_enter Tryz.func29, Tryz.ntmps29
  go_upto_region 2 with fail
  generalize World.alloc _ _ = w1 at *
  obtain ⟨B, hB⟩ : ∃ B, B = w.heap.size := ⟨_, rfl⟩
  rw [← hB] at kB0 ⊢
  replace hB := Rg.hid hB
  have hld1 := Rg.hid (Rg.row_loadVar (P := Tryz.prog) (t := 29) (CS := #[.int .i64 d.letter, .int .i64 d.phase, .bool d.caller, .int .i64 d.step, .int .i64 d.size, .int .i64 d.room, .int .i64 d.win.md, .int .i64 d.win.sz, .int .i64 d.win.bs, .slice p.w d.win.l.length p.wc, .int .i64 d.wants, .slice p.a d.ahead.length p.ac, .string ⟨d.buf.toArray⟩, .int .i64 d.at_, .slice p.q d.queue.length p.qc, .int .i64 d.wait, .int .i64 d.tries, .slice none 0 0]) kB0.out Tryz.underlying29 rfl iinfoDr2)
  have kE0 : Hid (Rg.Bk w1.heap.size [.int .i64 d.letter, .int .i64 d.phase, .bool d.caller, .int .i64 d.step, .int .i64 d.size, .int .i64 d.room, .int .i64 d.win.md, .int .i64 d.win.sz, .int .i64 d.win.bs, .slice p.w d.win.l.length p.wc, .int .i64 d.wants, .slice p.a d.ahead.length p.ac, .string ⟨d.buf.toArray⟩, .int .i64 d.at_, .slice p.q d.queue.length p.qc, .int .i64 d.wait, .int .i64 d.tries, .slice none 0 0, .pointer none, .slice none 0 0, .slice none 0 0] 69 (w1.alloc (.cells #[.int .i64 d.letter, .int .i64 d.phase, .bool d.caller, .int .i64 d.step, .int .i64 d.size, .int .i64 d.room, .int .i64 d.win.md, .int .i64 d.win.sz, .int .i64 d.win.bs, .slice p.w d.win.l.length p.wc, .int .i64 d.wants, .slice p.a d.ahead.length p.ac, .string ⟨d.buf.toArray⟩, .int .i64 d.at_, .slice p.q d.queue.length p.qc, .int .i64 d.wait, .int .i64 d.tries, .slice none 0 0, .pointer none, .slice none 0 0, .slice none 0 0] 69))) := Rg.Bk.new rfl
  have b2 := Rg.hid (Rg.al1 w1 (.cells #[.int .i64 d.letter, .int .i64 d.phase, .bool d.caller, .int .i64 d.step, .int .i64 d.size, .int .i64 d.room, .int .i64 d.win.md, .int .i64 d.win.sz, .int .i64 d.win.bs, .slice p.w d.win.l.length p.wc, .int .i64 d.wants, .slice p.a d.ahead.length p.ac, .string ⟨d.buf.toArray⟩, .int .i64 d.at_, .slice p.q d.queue.length p.qc, .int .i64 d.wait, .int .i64 d.tries, .slice none 0 0, .pointer none, .slice none 0 0, .slice none 0 0] 69))
  go_upto_region 3 with (refine Rg.wpList_load_row rfl (.tmp 2) 29 rfl rfl hld1.out ?_)
  generalize World.alloc _ _ = w2 at *
  obtain ⟨eb, heb⟩ : ∃ eb, eb = w1.heap.size := ⟨_, rfl⟩
  rw [← heb] at kE0 ⊢
  replace heb := Rg.hid heb
  have hbw := Rg.hid (Rg.chain hb0.out b2.out)
  have hE := Rg.hid (hd.out.end_ (Rg.chain hbw0.out hbw.out) kE0.out (by rw [heb.out]; exact Nat.le_trans hbw0.out.size hb0.out.size))
  have hld2 := Rg.hid (Rg.row_loadVar (P := Tryz.prog) (t := 29) (CS := #[.int .i64 d.letter, .int .i64 d.phase, .bool d.caller, .int .i64 d.step, .int .i64 d.size, .int .i64 d.room, .int .i64 d.win.md, .int .i64 d.win.sz, .int .i64 d.win.bs, .slice p.w d.win.l.length p.wc, .int .i64 d.wants, .slice p.a d.ahead.length p.ac, .string ⟨d.buf.toArray⟩, .int .i64 d.at_, .slice p.q d.queue.length p.qc, .int .i64 d.wait, .int .i64 d.tries, .slice none 0 0]) (kB0.out.below b2.out kB0.out.lt) Tryz.underlying29 rfl iinfoDr2)
  have hch := Rg.chain hbw0.out hbw.out
  have HR := Rg.hid (iright_yes (Gp.own d) (iown p) w2 (Ip.right_own hr.out) (hd.out.at_.win.below hch) (hd.out.at_.queue.below hch) (hd.out.at_.ahead.below hch) hd.out.wl hd.out.ql)
  replace HR : Hid (Calls Tryz.prog 21 #[.agg #[.int .i64 d.letter, .int .i64 d.phase, .bool d.caller, .int .i64 d.step, .int .i64 d.size, .int .i64 d.room, .int .i64 d.win.md, .int .i64 d.win.sz, .int .i64 d.win.bs, .slice p.w d.win.l.length p.wc, .int .i64 d.wants, .slice p.a d.ahead.length p.ac, .string ⟨d.buf.toArray⟩, .int .i64 d.at_, .slice p.q d.queue.length p.qc, .int .i64 d.wait, .int .i64 d.tries, .slice none 0 0]] w2 fun e w' => e = .returned (.bool true) ∧ Below w2.heap.size w2 w') := HR
  have hle : Hid (w.heap.size ≤ eb) := by show _ ≤ _; rw [heb.out]; exact hb0.out.size
  clear hB heb kB0 kE0 hb0 b2 hld1 hd hr hbw0 hch
  go_upto_region 4 with (first | (refine Rg.wpList_load_row rfl (.tmp 2) 29 rfl rfl hld2.out ?_) | (go_at_call 21; refine HR.out.mono ?_; rintro e w3 ⟨rfl, b3⟩))
  have HW1 := Rg.hid (HW.out w3 _ _ eb (hE.out.below b3) (Rg.chain hbw.out b3) hle.out)
  clear HW hE hbw hld2 HR
  go_wp2_with (go_at_fn 46; refine HW1.out.mono ?_; rintro e w4 ⟨rfl, hq⟩)
  go_ret
  exact ⟨eb, rfl, hq⟩
theorem ieg_send : ∀ args w, (callFunc 42 args).run Tryz.prog w = .ok (.enter 42 args) w := enters_of Tryz.func42 (by kernel_rfl) rfl
set_option maxHeartbeats 4000000 in
set_option maxRecDepth 100000 in
theorem ithrough_send {Kp : Nat → Prop} (d : Gp.Dr) (p : Pl) (w0 w : World) (v : Value) (hbw0 : Hid (Below w0.heap.size w0 w)) (hd : Hid (IDR Kp w0 d p)) (hr : Hid (Ip.right d)) (Q : Nat → World → Prop)
    (HW : Hid (∀ W1 p1 q1 eb, IAt Kp W1 eb (Gp.own d) p1 q1 [] [] → Below w.heap.size w W1 → w.heap.size ≤ eb → Calls Tryz.prog 42 #[.pointer (some ⟨eb, 0, none⟩), v] W1 fun e w' => e = .returned (.tuple #[]) ∧ Q eb w')) :
    Calls Tryz.prog 29 #[DV d p, .func (.func 42) #[] #[v]] w fun e w' => ∃ eb, e = .returned (.pointer (some ⟨eb, 0, none⟩)) ∧ Q eb w' := by
  have eg := ieg_send
  have kB0 : Hid (Rg.Bk w.heap.size [.int .i64 d.letter, .int .i64 d.phase, .bool d.caller, .int .i64 d.step, .int .i64 d.size, .int .i64 d.room, .int .i64 d.win.md, .int .i64 d.win.sz, .int .i64 d.win.bs, .slice p.w d.win.l.length p.wc, .int .i64 d.wants, .slice p.a d.ahead.length p.ac, .string ⟨d.buf.toArray⟩, .int .i64 d.at_, .slice p.q d.queue.length p.qc, .int .i64 d.wait, .int .i64 d.tries, .slice none 0 0] 29 (w.alloc (.cells #[.int .i64 d.letter, .int .i64 d.phase, .bool d.caller, .int .i64 d.step, .int .i64 d.size, .int .i64 d.room, .int .i64 d.win.md, .int .i64 d.win.sz, .int .i64 d.win.bs, .slice p.w d.win.l.length p.wc, .int .i64 d.wants, .slice p.a d.ahead.length p.ac, .string ⟨d.buf.toArray⟩, .int .i64 d.at_, .slice p.q d.queue.length p.qc, .int .i64 d.wait, .int .i64 d.tries, .slice none 0 0] 29))) := Rg.Bk.new rfl
  have hb0 := Rg.hid (Rg.al1 w (.cells #[.int .i64 d.letter, .int .i64 d.phase, .bool d.caller, .int .i64 d.step, .int .i64 d.size, .int .i64 d.room, .int .i64 d.win.md, .int .i64 d.win.sz, .int .i64 d.win.bs, .slice p.w d.win.l.length p.wc, .int .i64 d.wants, .slice p.a d.ahead.length p.ac, .string ⟨d.buf.toArray⟩, .int .i64 d.at_, .slice p.q d.queue.length p.qc, .int .i64 d.wait, .int .i64 d.tries, .slice none 0 0] 29))
  unfold DV
  go_enter Tryz.func29, Tryz.ntmps29
  go_upto_region 2 with fail
  generalize World.alloc _ _ = w1 at *
  obtain ⟨B, hB⟩ : ∃ B, B = w.heap.size := ⟨_, rfl⟩
  rw [← hB] at kB0 ⊢
  replace hB := Rg.hid hB
  have hld1 := Rg.hid (Rg.row_loadVar (P := Tryz.prog) (t := 29) (CS := #[.int .i64 d.letter, .int .i64 d.phase, .bool d.caller, .int .i64 d.step, .int .i64 d.size, .int .i64 d.room, .int .i64 d.win.md, .int .i64 d.win.sz, .int .i64 d.win.bs, .slice p.w d.win.l.length p.wc, .int .i64 d.wants, .slice p.a d.ahead.length p.ac, .string ⟨d.buf.toArray⟩, .int .i64 d.at_, .slice p.q d.queue.length p.qc, .int .i64 d.wait, .int .i64 d.tries, .slice none 0 0]) kB0.out Tryz.underlying29 rfl iinfoDr2)
  have kE0 : Hid (Rg.Bk w1.heap.size [.int .i64 d.letter, .int .i64 d.phase, .bool d.caller, .int .i64 d.step, .int .i64 d.size, .int .i64 d.room, .int .i64 d.win.md, .int .i64 d.win.sz, .int .i64 d.win.bs, .slice p.w d.win.l.length p.wc, .int .i64 d.wants, .slice p.a d.ahead.length p.ac, .string ⟨d.buf.toArray⟩, .int .i64 d.at_, .slice p.q d.queue.length p.qc, .int .i64 d.wait, .int .i64 d.tries, .slice none 0 0, .pointer none, .slice none 0 0, .slice none 0 0] 69 (w1.alloc (.cells #[.int .i64 d.letter, .int .i64 d.phase, .bool d.caller, .int .i64 d.step, .int .i64 d.size, .int .i64 d.room, .int .i64 d.win.md, .int .i64 d.win.sz, .int .i64 d.win.bs, .slice p.w d.win.l.length p.wc, .int .i64 d.wants, .slice p.a d.ahead.length p.ac, .string ⟨d.buf.toArray⟩, .int .i64 d.at_, .slice p.q d.queue.length p.qc, .int .i64 d.wait, .int .i64 d.tries, .slice none 0 0, .pointer none, .slice none 0 0, .slice none 0 0] 69))) := Rg.Bk.new rfl
  have b2 := Rg.hid (Rg.al1 w1 (.cells #[.int .i64 d.letter, .int .i64 d.phase, .bool d.caller, .int .i64 d.step, .int .i64 d.size, .int .i64 d.room, .int .i64 d.win.md, .int .i64 d.win.sz, .int .i64 d.win.bs, .slice p.w d.win.l.length p.wc, .int .i64 d.wants, .slice p.a d.ahead.length p.ac, .string ⟨d.buf.toArray⟩, .int .i64 d.at_, .slice p.q d.queue.length p.qc, .int .i64 d.wait, .int .i64 d.tries, .slice none 0 0, .pointer none, .slice none 0 0, .slice none 0 0] 69))
  go_upto_region 3 with (refine Rg.wpList_load_row rfl (.tmp 2) 29 rfl rfl hld1.out ?_)
  generalize World.alloc _ _ = w2 at *
  obtain ⟨eb, heb⟩ : ∃ eb, eb = w1.heap.size := ⟨_, rfl⟩
  rw [← heb] at kE0 ⊢
  replace heb := Rg.hid heb
  have hbw := Rg.hid (Rg.chain hb0.out b2.out)
  have hE := Rg.hid (hd.out.end_ (Rg.chain hbw0.out hbw.out) kE0.out (by rw [heb.out]; exact Nat.le_trans hbw0.out.size hb0.out.size))
  have hld2 := Rg.hid (Rg.row_loadVar (P := Tryz.prog) (t := 29) (CS := #[.int .i64 d.letter, .int .i64 d.phase, .bool d.caller, .int .i64 d.step, .int .i64 d.size, .int .i64 d.room, .int .i64 d.win.md, .int .i64 d.win.sz, .int .i64 d.win.bs, .slice p.w d.win.l.length p.wc, .int .i64 d.wants, .slice p.a d.ahead.length p.ac, .string ⟨d.buf.toArray⟩, .int .i64 d.at_, .slice p.q d.queue.length p.qc, .int .i64 d.wait, .int .i64 d.tries, .slice none 0 0]) (kB0.out.below b2.out kB0.out.lt) Tryz.underlying29 rfl iinfoDr2)
  have hch := Rg.chain hbw0.out hbw.out
  have HR := Rg.hid (iright_yes (Gp.own d) (iown p) w2 (Ip.right_own hr.out) (hd.out.at_.win.below hch) (hd.out.at_.queue.below hch) (hd.out.at_.ahead.below hch) hd.out.wl hd.out.ql)
  replace HR : Hid (Calls Tryz.prog 21 #[.agg #[.int .i64 d.letter, .int .i64 d.phase, .bool d.caller, .int .i64 d.step, .int .i64 d.size, .int .i64 d.room, .int .i64 d.win.md, .int .i64 d.win.sz, .int .i64 d.win.bs, .slice p.w d.win.l.length p.wc, .int .i64 d.wants, .slice p.a d.ahead.length p.ac, .string ⟨d.buf.toArray⟩, .int .i64 d.at_, .slice p.q d.queue.length p.qc, .int .i64 d.wait, .int .i64 d.tries, .slice none 0 0]] w2 fun e w' => e = .returned (.bool true) ∧ Below w2.heap.size w2 w') := HR
  have hle : Hid (w.heap.size ≤ eb) := by show _ ≤ _; rw [heb.out]; exact hb0.out.size
  clear hB heb kB0 kE0 hb0 b2 hld1 hd hr hbw0 hch
  go_upto_region 4 with (first | (refine Rg.wpList_load_row rfl (.tmp 2) 29 rfl rfl hld2.out ?_) | (go_at_call 21; refine HR.out.mono ?_; rintro e w3 ⟨rfl, b3⟩))
  have HW1 := Rg.hid (HW.out w3 _ _ eb (hE.out.below b3) (Rg.chain hbw.out b3) hle.out)
  clear HW hE hbw hld2 HR
  go_wp2_with (go_at_fn 42; refine HW1.out.mono ?_; rintro e w4 ⟨rfl, hq⟩)
  go_ret
  exact ⟨eb, rfl, hq⟩
theorem ieg_feed : ∀ args w, (callFunc 30 args).run Tryz.prog w = .ok (.enter 30 args) w := enters_of Tryz.func30 (by kernel_rfl) rfl
set_option maxHeartbeats 4000000 in
set_option maxRecDepth 100000 in
theorem ithrough_feed {Kp : Nat → Prop} (d : Gp.Dr) (p : Pl) (w0 w : World) (v : Value) (hbw0 : Hid (Below w0.heap.size w0 w)) (hd : Hid (IDR Kp w0 d p)) (hr : Hid (Ip.right d)) (Q : Nat → World → Prop)
    (HW : Hid (∀ W1 p1 q1 eb, IAt Kp W1 eb (Gp.own d) p1 q1 [] [] → Below w.heap.size w W1 → w.heap.size ≤ eb → Calls Tryz.prog 30 #[.pointer (some ⟨eb, 0, none⟩), v] W1 fun e w' => e = .returned (.tuple #[]) ∧ Q eb w')) :
    Calls Tryz.prog 29 #[DV d p, .func (.func 30) #[] #[v]] w fun e w' => ∃ eb, e = .returned (.pointer (some ⟨eb, 0, none⟩)) ∧ Q eb w' := by
  have eg := ieg_feed
  have kB0 : Hid (Rg.Bk w.heap.size [.int .i64 d.letter, .int .i64 d.phase, .bool d.caller, .int .i64 d.step, .int .i64 d.size, .int .i64 d.room, .int .i64 d.win.md, .int .i64 d.win.sz, .int .i64 d.win.bs, .slice p.w d.win.l.length p.wc, .int .i64 d.wants, .slice p.a d.ahead.length p.ac, .string ⟨d.buf.toArray⟩, .int .i64 d.at_, .slice p.q d.queue.length p.qc, .int .i64 d.wait, .int .i64 d.tries, .slice none 0 0] 29 (w.alloc (.cells #[.int .i64 d.letter, .int .i64 d.phase, .bool d.caller, .int .i64 d.step, .int .i64 d.size, .int .i64 d.room, .int .i64 d.win.md, .int .i64 d.win.sz, .int .i64 d.win.bs, .slice p.w d.win.l.length p.wc, .int .i64 d.wants, .slice p.a d.ahead.length p.ac, .string ⟨d.buf.toArray⟩, .int .i64 d.at_, .slice p.q d.queue.length p.qc, .int .i64 d.wait, .int .i64 d.tries, .slice none 0 0] 29))) := Rg.Bk.new rfl
  have hb0 := Rg.hid (Rg.al1 w (.cells #[.int .i64 d.letter, .int .i64 d.phase, .bool d.caller, .int .i64 d.step, .int .i64 d.size, .int .i64 d.room, .int .i64 d.win.md, .int .i64 d.win.sz, .int .i64 d.win.bs, .slice p.w d.win.l.length p.wc, .int .i64 d.wants, .slice p.a d.ahead.length p.ac, .string ⟨d.buf.toArray⟩, .int .i64 d.at_, .slice p.q d.queue.length p.qc, .int .i64 d.wait, .int .i64 d.tries, .slice none 0 0] 29))
  unfold DV
  go_enter Tryz.func29, Tryz.ntmps29
  go_upto_region 2 with fail
  generalize World.alloc _ _ = w1 at *
  obtain ⟨B, hB⟩ : ∃ B, B = w.heap.size := ⟨_, rfl⟩
  rw [← hB] at kB0 ⊢
  replace hB := Rg.hid hB
  have hld1 := Rg.hid (Rg.row_loadVar (P := Tryz.prog) (t := 29) (CS := #[.int .i64 d.letter, .int .i64 d.phase, .bool d.caller, .int .i64 d.step, .int .i64 d.size, .int .i64 d.room, .int .i64 d.win.md, .int .i64 d.win.sz, .int .i64 d.win.bs, .slice p.w d.win.l.length p.wc, .int .i64 d.wants, .slice p.a d.ahead.length p.ac, .string ⟨d.buf.toArray⟩, .int .i64 d.at_, .slice p.q d.queue.length p.qc, .int .i64 d.wait, .int .i64 d.tries, .slice none 0 0]) kB0.out Tryz.underlying29 rfl iinfoDr2)
  have kE0 : Hid (Rg.Bk w1.heap.size [.int .i64 d.letter, .int .i64 d.phase, .bool d.caller, .int .i64 d.step, .int .i64 d.size, .int .i64 d.room, .int .i64 d.win.md, .int .i64 d.win.sz, .int .i64 d.win.bs, .slice p.w d.win.l.length p.wc, .int .i64 d.wants, .slice p.a d.ahead.length p.ac, .string ⟨d.buf.toArray⟩, .int .i64 d.at_, .slice p.q d.queue.length p.qc, .int .i64 d.wait, .int .i64 d.tries, .slice none 0 0, .pointer none, .slice none 0 0, .slice none 0 0] 69 (w1.alloc (.cells #[.int .i64 d.letter, .int .i64 d.phase, .bool d.caller, .int .i64 d.step, .int .i64 d.size, .int .i64 d.room, .int .i64 d.win.md, .int .i64 d.win.sz, .int .i64 d.win.bs, .slice p.w d.win.l.length p.wc, .int .i64 d.wants, .slice p.a d.ahead.length p.ac, .string ⟨d.buf.toArray⟩, .int .i64 d.at_, .slice p.q d.queue.length p.qc, .int .i64 d.wait, .int .i64 d.tries, .slice none 0 0, .pointer none, .slice none 0 0, .slice none 0 0] 69))) := Rg.Bk.new rfl
  have b2 := Rg.hid (Rg.al1 w1 (.cells #[.int .i64 d.letter, .int .i64 d.phase, .bool d.caller, .int .i64 d.step, .int .i64 d.size, .int .i64 d.room, .int .i64 d.win.md, .int .i64 d.win.sz, .int .i64 d.win.bs, .slice p.w d.win.l.length p.wc, .int .i64 d.wants, .slice p.a d.ahead.length p.ac, .string ⟨d.buf.toArray⟩, .int .i64 d.at_, .slice p.q d.queue.length p.qc, .int .i64 d.wait, .int .i64 d.tries, .slice none 0 0, .pointer none, .slice none 0 0, .slice none 0 0] 69))
  go_upto_region 3 with (refine Rg.wpList_load_row rfl (.tmp 2) 29 rfl rfl hld1.out ?_)
  generalize World.alloc _ _ = w2 at *
  obtain ⟨eb, heb⟩ : ∃ eb, eb = w1.heap.size := ⟨_, rfl⟩
  rw [← heb] at kE0 ⊢
  replace heb := Rg.hid heb
  have hbw := Rg.hid (Rg.chain hb0.out b2.out)
  have hE := Rg.hid (hd.out.end_ (Rg.chain hbw0.out hbw.out) kE0.out (by rw [heb.out]; exact Nat.le_trans hbw0.out.size hb0.out.size))
  have hld2 := Rg.hid (Rg.row_loadVar (P := Tryz.prog) (t := 29) (CS := #[.int .i64 d.letter, .int .i64 d.phase, .bool d.caller, .int .i64 d.step, .int .i64 d.size, .int .i64 d.room, .int .i64 d.win.md, .int .i64 d.win.sz, .int .i64 d.win.bs, .slice p.w d.win.l.length p.wc, .int .i64 d.wants, .slice p.a d.ahead.length p.ac, .string ⟨d.buf.toArray⟩, .int .i64 d.at_, .slice p.q d.queue.length p.qc, .int .i64 d.wait, .int .i64 d.tries, .slice none 0 0]) (kB0.out.below b2.out kB0.out.lt) Tryz.underlying29 rfl iinfoDr2)
  have hch := Rg.chain hbw0.out hbw.out
  have HR := Rg.hid (iright_yes (Gp.own d) (iown p) w2 (Ip.right_own hr.out) (hd.out.at_.win.below hch) (hd.out.at_.queue.below hch) (hd.out.at_.ahead.below hch) hd.out.wl hd.out.ql)
  replace HR : Hid (Calls Tryz.prog 21 #[.agg #[.int .i64 d.letter, .int .i64 d.phase, .bool d.caller, .int .i64 d.step, .int .i64 d.size, .int .i64 d.room, .int .i64 d.win.md, .int .i64 d.win.sz, .int .i64 d.win.bs, .slice p.w d.win.l.length p.wc, .int .i64 d.wants, .slice p.a d.ahead.length p.ac, .string ⟨d.buf.toArray⟩, .int .i64 d.at_, .slice p.q d.queue.length p.qc, .int .i64 d.wait, .int .i64 d.tries, .slice none 0 0]] w2 fun e w' => e = .returned (.bool true) ∧ Below w2.heap.size w2 w') := HR
  have hle : Hid (w.heap.size ≤ eb) := by show _ ≤ _; rw [heb.out]; exact hb0.out.size
  clear hB heb kB0 kE0 hb0 b2 hld1 hd hr hbw0 hch
  go_upto_region 4 with (first | (refine Rg.wpList_load_row rfl (.tmp 2) 29 rfl rfl hld2.out ?_) | (go_at_call 21; refine HR.out.mono ?_; rintro e w3 ⟨rfl, b3⟩))
  have HW1 := Rg.hid (HW.out w3 _ _ eb (hE.out.below b3) (Rg.chain hbw.out b3) hle.out)
  clear HW hE hbw hld2 HR
  go_wp2_with (go_at_fn 30; refine HW1.out.mono ?_; rintro e w4 ⟨rfl, hq⟩)
  go_ret
  exact ⟨eb, rfl, hq⟩
end Go.Proofs.YtlclfkogbfigbaaGreat

namespace Go.Proofs.YtlclfkogbfigbaaGreat
open Go.RowKit
/-- the drive behind what Tick drops -/
def Ip.dropped (d : Gp.Dr) : Gp.Dr := if 2 ≤ d.wait then { d with wait := 0 } else { d with at_ := d.at_ + d.buf.length, buf := [], wait := 0 }
/-- what a tick comes to, from there -/
def Ip.tickOf (d : Gp.Dr) : Gp.Dr × List UInt8 :=
  if d.phase = 1 ∨ d.phase = 3 then
    (if 12 < d.tries + 1 then (if d.phase = 3 then ({ d with tries := d.tries + 1, phase := 4, step := 0 }, []) else ({ d with tries := d.tries + 1, phase := 5 }, []))
    else if d.phase = 3 then ({ d with tries := d.tries + 1 }, Ip.pk { d with tries := d.tries + 1 } 5 0 0 []) else ({ d with tries := d.tries + 1 }, Ip.sync { d with tries := d.tries + 1 }))
  else if d.phase = 2 then Ip.ticked d else (d, [])
theorem itick_of (d : Gp.Dr) : Ip.tick d = Ip.tickOf (Ip.dropped (Gp.own d)) := rfl
theorem iown_self {d : Gp.Dr} (h : d.took = []) : Gp.own d = d := by unfold Gp.own; rw [← h]
theorem isize_bytes (b : List UInt8) : (⟨b.toArray⟩ : ByteArray).size = b.length := by show b.toArray.size = _; simp
set_option maxHeartbeats 1000000 in
theorem itickM_any {Kp : Nat → Prop} {eb : Nat} {W : World} {d : Gp.Dr} {p : Pl} {q : Qv} {S : List UInt8} {C : List Gp.Pc} (h : IAt Kp W eb d p q S C) (hr : Ip.right d) (ht : d.took = []) (hm : d.at_ + d.buf.length ≤ 1099511627776) (hlen : S.length + 80000 ≤ 140737488355328) :
    Calls Tryz.prog 39 #[.pointer (some ⟨eb, 0, none⟩)] W fun e w' => IPost Kp eb W (Ip.tick d).1 (S ++ (Ip.tick d).2) C e w' := by
  rw [itick_of, iown_self ht]
  have hp := hr.2
  have b := hr.1
  have ba := b.at_
  have h15 : 1 ≤ d.phase ∧ d.phase ≤ 5 := by rcases hp with h | h | h | h | h <;> omega
  obtain ⟨d1, hd1⟩ : ∃ d1, d1 = Ip.dropped d := ⟨_, rfl⟩
  rw [← hd1]
  have key : d1.phase = d.phase ∧ Ip.base d1 ∧ (d.phase = 2 → Ip.runs d1) := by
    rw [hd1]
    unfold Ip.dropped
    split
    · exact ⟨rfl, ⟨b.lt, b.sz, b.rm, b.wn, b.at_, by show (0 : Int) ≤ 0 ∧ (0 : Int) ≤ 3; omega, b.tr, b.qu, b.wi, b.ah⟩, fun h2 => by
        rcases hp with ⟨h, _⟩ | ⟨_, r⟩ | h | h | h
        · omega
        · exact ⟨r.st, r.md, r.ws, r.bs, r.ln⟩
        all_goals omega⟩
    · exact ⟨rfl, ⟨b.lt, b.sz, b.rm, b.wn, by show 0 ≤ d.at_ + _ ∧ d.at_ + _ ≤ _; omega, by show (0 : Int) ≤ 0 ∧ (0 : Int) ≤ 3; omega, b.tr, b.qu, b.wi, b.ah⟩, fun h2 => by
        rcases hp with ⟨h, _⟩ | ⟨_, r⟩ | h | h | h
        · omega
        · exact ⟨r.st, r.md, r.ws, r.bs, r.ln⟩
        all_goals omega⟩
  obtain ⟨k1, c, kr⟩ := key
  have ctr := c.tr
  obtain ⟨d2, hd2⟩ : ∃ d2 : Gp.Dr, d2 = if 12 < d1.tries + 1 then { d1 with tries := d1.tries + 1, phase := 5 } else { d1 with tries := d1.tries + 1 } := ⟨_, rfl⟩
  have HM : Hid (d.phase = 1 ∨ d.phase = 3 → ∀ W1 p1 q1, IAt Kp W1 eb d1 p1 q1 S C → Calls Tryz.prog 74 #[.pointer (some ⟨eb, 0, none⟩)] W1 fun e w' => e = .returned (.bool (decide (¬ 12 < d1.tries + 1))) ∧ Hid (IS Kp w' eb d2 S C) ∧ Hid (Below eb W1 w')) := fun _ W1 p1 q1 h1 => by
    rw [hd2]
    by_cases hx : 12 < d1.tries + 1
    · rw [if_pos hx, show decide (¬ 12 < d1.tries + 1) = false by simpa using hx]
      exact (imayTry_n h1 ctr hx).mono fun e w' ⟨a, b, c⟩ => ⟨a, ⟨p1, q1, b⟩, c⟩
    · rw [if_neg hx, show decide (¬ 12 < d1.tries + 1) = true by simpa using hx]
      exact (imayTry_y h1 ctr hx).mono fun e w' ⟨a, b, c⟩ => ⟨a, ⟨p1, q1, b⟩, c⟩
  have HO : Hid (d.phase = 1 → decide (¬ 12 < d1.tries + 1) = true → ∀ W1 p1 q1, IAt Kp W1 eb d2 p1 q1 S C → Below eb W W1 → Calls Tryz.prog 26 #[.pointer (some ⟨eb, 0, none⟩)] W1 fun e w' => e = .returned (.tuple #[]) ∧ IPost Kp eb W (Ip.tickOf d1).1 (S ++ (Ip.tickOf d1).2) C (.returned (.tuple #[])) w') := fun h1 hx W1 p1 q1 hh f => by
    have hx : ¬ 12 < d1.tries + 1 := of_decide_eq_true hx
    rw [hd2, if_neg hx] at hh
    have e : Ip.tickOf d1 = ({ d1 with tries := d1.tries + 1 }, Ip.sync { d1 with tries := d1.tries + 1 }) := by
      unfold Ip.tickOf
      rw [if_pos (by omega), if_neg hx, if_neg (by omega)]
    rw [e]
    exact IPost.go f (isaySync_any hh ⟨c.lt, c.sz, c.rm, c.wn, c.at_, c.wt, by show 0 ≤ d1.tries + 1 ∧ d1.tries + 1 ≤ 13; omega, c.qu, c.wi, c.ah⟩ (by omega))
  have HF : Hid (d.phase = 1 → decide (¬ 12 < d1.tries + 1) = false → ∀ W1, IS Kp W1 eb d2 S C → Below eb W W1 → IPost Kp eb W (Ip.tickOf d1).1 (S ++ (Ip.tickOf d1).2) C (.returned (.tuple #[])) W1) := fun h1 hx W1 hh f => by
    have hx : 12 < d1.tries + 1 := by simpa using hx
    rw [hd2, if_pos hx] at hh
    have e : Ip.tickOf d1 = ({ d1 with tries := d1.tries + 1, phase := 5 }, []) := by
      unfold Ip.tickOf
      rw [if_pos (by omega), if_pos hx, if_neg (by omega)]
    rw [e]
    dsimp only
    rw [List.append_nil]
    exact ⟨rfl, hh, f⟩
  have HC : Hid (d.phase = 3 → decide (¬ 12 < d1.tries + 1) = true → ∀ W1 p1 q1, IAt Kp W1 eb d2 p1 q1 S C → Below eb W W1 → Calls Tryz.prog 47 #[.pointer (some ⟨eb, 0, none⟩)] W1 fun e w' => e = .returned (.tuple #[]) ∧ IPost Kp eb W (Ip.tickOf d1).1 (S ++ (Ip.tickOf d1).2) C (.returned (.tuple #[])) w') := fun h1 hx W1 p1 q1 hh f => by
    have hx : ¬ 12 < d1.tries + 1 := of_decide_eq_true hx
    rw [hd2, if_neg hx] at hh
    have e : Ip.tickOf d1 = ({ d1 with tries := d1.tries + 1 }, Ip.pk { d1 with tries := d1.tries + 1 } 5 0 0 []) := by
      unfold Ip.tickOf
      rw [if_pos (by omega), if_neg hx, if_pos (by omega)]
    rw [e]
    exact IPost.go f (isayClose_any hh c.wn (by omega))
  have HX : Hid (d.phase = 3 → decide (¬ 12 < d1.tries + 1) = false → ∀ W1, IS Kp W1 eb { d2 with phase := 4, step := 0 } S C → Below eb W W1 → IPost Kp eb W (Ip.tickOf d1).1 (S ++ (Ip.tickOf d1).2) C (.returned (.tuple #[])) W1) := fun h1 hx W1 hh f => by
    have hx : 12 < d1.tries + 1 := by simpa using hx
    rw [hd2, if_pos hx] at hh
    have e : Ip.tickOf d1 = ({ d1 with tries := d1.tries + 1, phase := 4, step := 0 }, []) := by
      unfold Ip.tickOf
      rw [if_pos (by omega), if_pos hx, if_pos (by omega)]
    rw [e]
    dsimp only
    rw [List.append_nil]
    exact ⟨rfl, hh, f⟩
  have HR : Hid (d.phase = 2 → ∀ W1 p1 q1, IAt Kp W1 eb d1 p1 q1 S C → Below eb W W1 → Calls Tryz.prog 75 #[.pointer (some ⟨eb, 0, none⟩)] W1 fun e w' => e = .returned (.tuple #[]) ∧ IPost Kp eb W (Ip.tickOf d1).1 (S ++ (Ip.tickOf d1).2) C (.returned (.tuple #[])) w') := fun h2 W1 p1 q1 hh f => by
    have e : Ip.tickOf d1 = Ip.ticked d1 := by
      unfold Ip.tickOf
      rw [if_neg (by omega), if_pos (by omega)]
    rw [e]
    exact (itickRunning_any hh c (kr h2) hlen).mono fun e w' ⟨a, b, g⟩ => ⟨a, rfl, b, f.trans g⟩
  have HN : Hid (d.phase = 4 ∨ d.phase = 5 → ∀ W1, IS Kp W1 eb d1 S C → Below eb W W1 → IPost Kp eb W (Ip.tickOf d1).1 (S ++ (Ip.tickOf d1).2) C (.returned (.tuple #[])) W1) := fun h2 W1 hh f => by
    have e : Ip.tickOf d1 = (d1, []) := by
      unfold Ip.tickOf
      rw [if_neg (by omega), if_neg (by omega)]
    rw [e]
    dsimp only
    rw [List.append_nil]
    exact ⟨rfl, hh, f⟩
  have ha := (wait_bits b.wt).2.2.1
  by_cases hw : 2 ≤ d.wait
  · rw [if_pos hw] at ha
    exact itick_kept h d1 d2 _ k1 _ HM HO HF HC HX HR HN h15 2 ha (by decide) (by rw [hd1]; exact if_pos hw)
  · rw [if_neg hw] at ha
    exact itick_dropped h d1 d2 _ k1 _ HM HO HF HC HX HR HN h15 0 ha (by decide) { d with buf := d.buf.drop d.buf.length, at_ := d.at_ + d.buf.length } (by rw [hd1, List.drop_length]; exact if_neg hw) d.buf.length (isize_bytes _) ((icut_any h d.buf.length (Nat.le_refl _) ba.1 hm).mono fun e w' ⟨a, b, c⟩ => ⟨a, ⟨p, q, b⟩, c⟩)
end Go.Proofs.YtlclfkogbfigbaaGreat
