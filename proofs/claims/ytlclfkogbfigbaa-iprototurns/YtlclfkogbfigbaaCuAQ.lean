/-
  Walks of layer 16: through. Walks of layer 16: tick.
-/
import Derived.Test.YtlclfkogbfigbaaCuAP
namespace Go.Proofs.Ytlclfkogbfigbaa
open Go.RowKit
/-- where a row may lie -/
def iKRow (Kp : Nat → Prop) {α : Type} (a : Option Addr) (l : List α) : Prop := l = [] ∨ ∃ b o, a = some ⟨b, o, none⟩ ∧ Kp b
theorem itrow_old {Kp : Nat → Prop} {α : Type} {E : Rg.El α} {eb : Nat} {vs : List Value} {w W : World} {a : Option Addr} {l : List α} (h : ERow E w a l) (hk : iKRow Kp a l) (hb : Below w.heap.size w W) (hn : w.heap.size ≤ eb) : TRow Kp E eb eb vs W a l := by
  rcases h with h | ⟨b, o, h1, h2, h3⟩
  · exact .inl h
  · rcases hk with hk | ⟨b', o', k1, k2⟩
    · exact .inl hk
    · rw [h1] at k1
      cases k1
      exact .inr ⟨b, o, h1, Nat.lt_of_lt_of_le h2 hb.size, h3.below hb h2, .inl ⟨Nat.lt_of_lt_of_le h2 hn, k2⟩⟩
/-- a drive of i at rest: its rows, and that its lists have room -/
structure IDR (Kp : Nat → Prop) (W : World) (d : Gp.Dr) (p : Pl) : Prop where
  at_ : DAt W d p
  wcap : d.win.l.length ≤ p.wc
  acap : d.ahead.length ≤ p.ac
  ql : d.queue.length ≤ 100000
  wl : d.win.l.length ≤ 100000
  kw : iKRow Kp p.w d.win.l
  ka : iKRow Kp p.a d.ahead
  kq : iKRow Kp p.q d.queue
  kt : iKRow Kp p.t d.took
theorem IDR.below {Kp : Nat → Prop} {W W' : World} {d : Gp.Dr} {p : Pl} (h : IDR Kp W d p) (hb : Below W.heap.size W W') : IDR Kp W' d p := ⟨h.at_.below hb, h.wcap, h.acap, h.ql, h.wl, h.kw, h.ka, h.kq, h.kt⟩
/-- a drive where nothing was taken -/
def iown (p : Pl) : Pl := { p with t := none, tc := 0 }
theorem IDR.end_ {Kp : Nat → Prop} {w W : World} {d : Gp.Dr} {p : Pl} {eb : Nat} (h : IDR Kp w d p) (hb : Below w.heap.size w W) (k : Rg.Bk eb [.int .i64 d.letter, .int .i64 d.phase, .bool d.caller, .int .i64 d.step, .int .i64 d.size, .int .i64 d.room, .int .i64 d.win.md, .int .i64 d.win.sz, .int .i64 d.win.bs, .slice p.w d.win.l.length p.wc, .int .i64 d.wants, .slice p.a d.ahead.length p.ac, .string ⟨d.buf.toArray⟩, .int .i64 d.at_, .slice p.q d.queue.length p.qc, .int .i64 d.wait, .int .i64 d.tries, .slice none 0 0, .pointer none, .slice none 0 0, .slice none 0 0] 51 W) (hn : w.heap.size ≤ eb) : IAt Kp W eb (Gp.own d) (iown p) ⟨.pointer none, .slice none 0 0, .slice none 0 0, none⟩ [] [] :=
  ⟨k, itrow_old h.at_.win h.kw hb hn, h.wcap, .inl ⟨rfl, itrow_old h.at_.ahead h.ka hb hn⟩, h.acap, itrow_old h.at_.queue h.kq hb hn, World.ownsRow_nil _ _ _ _, .inl rfl, BAt.start _ _, World.ownsRow_nil _ _ _ _⟩
theorem ieg_send : ∀ args w, (callFunc 17 args).run Try.prog w = .ok (.enter 17 args) w := enters_of Try.func17 (by kernel_rfl) rfl
set_option maxHeartbeats 4000000 in
set_option maxRecDepth 100000 in
theorem ithrough_send {Kp : Nat → Prop} (d : Gp.Dr) (p : Pl) (w0 w : World) (v : Value) (hbw0 : Hid (Below w0.heap.size w0 w)) (hd : Hid (IDR Kp w0 d p)) (hr : Hid (Ip.right d)) (Q : Nat → World → Prop)
    (HW : Hid (∀ W1 p1 q1 eb, IAt Kp W1 eb (Gp.own d) p1 q1 [] [] → Below w.heap.size w W1 → w.heap.size ≤ eb → Calls Try.prog 17 #[.pointer (some ⟨eb, 0, none⟩), v] W1 fun e w' => e = .returned (.tuple #[]) ∧ Q eb w')) :
    Calls Try.prog 12 #[DV d p, .func (.func 17) #[] #[v]] w fun e w' => ∃ eb, e = .returned (.pointer (some ⟨eb, 0, none⟩)) ∧ Q eb w' := by
  have eg := ieg_send
  have kB0 : Hid (Rg.Bk w.heap.size [.int .i64 d.letter, .int .i64 d.phase, .bool d.caller, .int .i64 d.step, .int .i64 d.size, .int .i64 d.room, .int .i64 d.win.md, .int .i64 d.win.sz, .int .i64 d.win.bs, .slice p.w d.win.l.length p.wc, .int .i64 d.wants, .slice p.a d.ahead.length p.ac, .string ⟨d.buf.toArray⟩, .int .i64 d.at_, .slice p.q d.queue.length p.qc, .int .i64 d.wait, .int .i64 d.tries, .slice none 0 0] 32 (w.alloc (.cells #[.int .i64 d.letter, .int .i64 d.phase, .bool d.caller, .int .i64 d.step, .int .i64 d.size, .int .i64 d.room, .int .i64 d.win.md, .int .i64 d.win.sz, .int .i64 d.win.bs, .slice p.w d.win.l.length p.wc, .int .i64 d.wants, .slice p.a d.ahead.length p.ac, .string ⟨d.buf.toArray⟩, .int .i64 d.at_, .slice p.q d.queue.length p.qc, .int .i64 d.wait, .int .i64 d.tries, .slice none 0 0] 32))) := Rg.Bk.new rfl
  have hb0 := Rg.hid (Rg.al1 w (.cells #[.int .i64 d.letter, .int .i64 d.phase, .bool d.caller, .int .i64 d.step, .int .i64 d.size, .int .i64 d.room, .int .i64 d.win.md, .int .i64 d.win.sz, .int .i64 d.win.bs, .slice p.w d.win.l.length p.wc, .int .i64 d.wants, .slice p.a d.ahead.length p.ac, .string ⟨d.buf.toArray⟩, .int .i64 d.at_, .slice p.q d.queue.length p.qc, .int .i64 d.wait, .int .i64 d.tries, .slice none 0 0] 32))
  unfold DV
  go_enter Try.func12, Try.ntmps12
  go_upto_region 2 with fail
  generalize World.alloc _ _ = w1 at *
  obtain ⟨B, hB⟩ : ∃ B, B = w.heap.size := ⟨_, rfl⟩
  rw [← hB] at kB0 ⊢
  replace hB := Rg.hid hB
  have hld1 := Rg.hid (Rg.row_loadVar (P := Try.prog) (t := 32) (CS := #[.int .i64 d.letter, .int .i64 d.phase, .bool d.caller, .int .i64 d.step, .int .i64 d.size, .int .i64 d.room, .int .i64 d.win.md, .int .i64 d.win.sz, .int .i64 d.win.bs, .slice p.w d.win.l.length p.wc, .int .i64 d.wants, .slice p.a d.ahead.length p.ac, .string ⟨d.buf.toArray⟩, .int .i64 d.at_, .slice p.q d.queue.length p.qc, .int .i64 d.wait, .int .i64 d.tries, .slice none 0 0]) kB0.out Try.underlying32 rfl iinfoDr2)
  have kE0 : Hid (Rg.Bk w1.heap.size [.int .i64 d.letter, .int .i64 d.phase, .bool d.caller, .int .i64 d.step, .int .i64 d.size, .int .i64 d.room, .int .i64 d.win.md, .int .i64 d.win.sz, .int .i64 d.win.bs, .slice p.w d.win.l.length p.wc, .int .i64 d.wants, .slice p.a d.ahead.length p.ac, .string ⟨d.buf.toArray⟩, .int .i64 d.at_, .slice p.q d.queue.length p.qc, .int .i64 d.wait, .int .i64 d.tries, .slice none 0 0, .pointer none, .slice none 0 0, .slice none 0 0] 51 (w1.alloc (.cells #[.int .i64 d.letter, .int .i64 d.phase, .bool d.caller, .int .i64 d.step, .int .i64 d.size, .int .i64 d.room, .int .i64 d.win.md, .int .i64 d.win.sz, .int .i64 d.win.bs, .slice p.w d.win.l.length p.wc, .int .i64 d.wants, .slice p.a d.ahead.length p.ac, .string ⟨d.buf.toArray⟩, .int .i64 d.at_, .slice p.q d.queue.length p.qc, .int .i64 d.wait, .int .i64 d.tries, .slice none 0 0, .pointer none, .slice none 0 0, .slice none 0 0] 51))) := Rg.Bk.new rfl
  have b2 := Rg.hid (Rg.al1 w1 (.cells #[.int .i64 d.letter, .int .i64 d.phase, .bool d.caller, .int .i64 d.step, .int .i64 d.size, .int .i64 d.room, .int .i64 d.win.md, .int .i64 d.win.sz, .int .i64 d.win.bs, .slice p.w d.win.l.length p.wc, .int .i64 d.wants, .slice p.a d.ahead.length p.ac, .string ⟨d.buf.toArray⟩, .int .i64 d.at_, .slice p.q d.queue.length p.qc, .int .i64 d.wait, .int .i64 d.tries, .slice none 0 0, .pointer none, .slice none 0 0, .slice none 0 0] 51))
  go_upto_region 3 with (refine Rg.wpList_load_row rfl (.tmp 2) 32 rfl rfl hld1.out ?_)
  generalize World.alloc _ _ = w2 at *
  obtain ⟨eb, heb⟩ : ∃ eb, eb = w1.heap.size := ⟨_, rfl⟩
  rw [← heb] at kE0 ⊢
  replace heb := Rg.hid heb
  have hbw := Rg.hid (Rg.chain hb0.out b2.out)
  have hE := Rg.hid (hd.out.end_ (Rg.chain hbw0.out hbw.out) kE0.out (by rw [heb.out]; exact Nat.le_trans hbw0.out.size hb0.out.size))
  have hld2 := Rg.hid (Rg.row_loadVar (P := Try.prog) (t := 32) (CS := #[.int .i64 d.letter, .int .i64 d.phase, .bool d.caller, .int .i64 d.step, .int .i64 d.size, .int .i64 d.room, .int .i64 d.win.md, .int .i64 d.win.sz, .int .i64 d.win.bs, .slice p.w d.win.l.length p.wc, .int .i64 d.wants, .slice p.a d.ahead.length p.ac, .string ⟨d.buf.toArray⟩, .int .i64 d.at_, .slice p.q d.queue.length p.qc, .int .i64 d.wait, .int .i64 d.tries, .slice none 0 0]) (kB0.out.below b2.out kB0.out.lt) Try.underlying32 rfl iinfoDr2)
  have hch := Rg.chain hbw0.out hbw.out
  have HR := Rg.hid (iright_yes (Gp.own d) (iown p) w2 (Ip.right_own hr.out) (hd.out.at_.win.below hch) (hd.out.at_.queue.below hch) (hd.out.at_.ahead.below hch) hd.out.wl hd.out.ql)
  replace HR : Hid (Calls Try.prog 24 #[.agg #[.int .i64 d.letter, .int .i64 d.phase, .bool d.caller, .int .i64 d.step, .int .i64 d.size, .int .i64 d.room, .int .i64 d.win.md, .int .i64 d.win.sz, .int .i64 d.win.bs, .slice p.w d.win.l.length p.wc, .int .i64 d.wants, .slice p.a d.ahead.length p.ac, .string ⟨d.buf.toArray⟩, .int .i64 d.at_, .slice p.q d.queue.length p.qc, .int .i64 d.wait, .int .i64 d.tries, .slice none 0 0]] w2 fun e w' => e = .returned (.bool true) ∧ Below w2.heap.size w2 w') := HR
  have hle : Hid (w.heap.size ≤ eb) := by show _ ≤ _; rw [heb.out]; exact hb0.out.size
  clear hB heb kB0 kE0 hb0 b2 hld1 hd hr hbw0 hch
  go_upto_region 4 with (first | (refine Rg.wpList_load_row rfl (.tmp 2) 32 rfl rfl hld2.out ?_) | (go_at_call 24; refine HR.out.mono ?_; rintro e w3 ⟨rfl, b3⟩))
  have HW1 := Rg.hid (HW.out w3 _ _ eb (hE.out.below b3) (Rg.chain hbw.out b3) hle.out)
  clear HW hE hbw hld2 HR
  go_wp2_with (go_at_fn 17; refine HW1.out.mono ?_; rintro e w4 ⟨rfl, hq⟩)
  go_ret
  exact ⟨eb, rfl, hq⟩
theorem ieg_feed : ∀ args w, (callFunc 13 args).run Try.prog w = .ok (.enter 13 args) w := enters_of Try.func13 (by kernel_rfl) rfl
set_option maxHeartbeats 4000000 in
set_option maxRecDepth 100000 in
theorem ithrough_feed {Kp : Nat → Prop} (d : Gp.Dr) (p : Pl) (w0 w : World) (v : Value) (hbw0 : Hid (Below w0.heap.size w0 w)) (hd : Hid (IDR Kp w0 d p)) (hr : Hid (Ip.right d)) (Q : Nat → World → Prop)
    (HW : Hid (∀ W1 p1 q1 eb, IAt Kp W1 eb (Gp.own d) p1 q1 [] [] → Below w.heap.size w W1 → w.heap.size ≤ eb → Calls Try.prog 13 #[.pointer (some ⟨eb, 0, none⟩), v] W1 fun e w' => e = .returned (.tuple #[]) ∧ Q eb w')) :
    Calls Try.prog 12 #[DV d p, .func (.func 13) #[] #[v]] w fun e w' => ∃ eb, e = .returned (.pointer (some ⟨eb, 0, none⟩)) ∧ Q eb w' := by
  have eg := ieg_feed
  have kB0 : Hid (Rg.Bk w.heap.size [.int .i64 d.letter, .int .i64 d.phase, .bool d.caller, .int .i64 d.step, .int .i64 d.size, .int .i64 d.room, .int .i64 d.win.md, .int .i64 d.win.sz, .int .i64 d.win.bs, .slice p.w d.win.l.length p.wc, .int .i64 d.wants, .slice p.a d.ahead.length p.ac, .string ⟨d.buf.toArray⟩, .int .i64 d.at_, .slice p.q d.queue.length p.qc, .int .i64 d.wait, .int .i64 d.tries, .slice none 0 0] 32 (w.alloc (.cells #[.int .i64 d.letter, .int .i64 d.phase, .bool d.caller, .int .i64 d.step, .int .i64 d.size, .int .i64 d.room, .int .i64 d.win.md, .int .i64 d.win.sz, .int .i64 d.win.bs, .slice p.w d.win.l.length p.wc, .int .i64 d.wants, .slice p.a d.ahead.length p.ac, .string ⟨d.buf.toArray⟩, .int .i64 d.at_, .slice p.q d.queue.length p.qc, .int .i64 d.wait, .int .i64 d.tries, .slice none 0 0] 32))) := Rg.Bk.new rfl
  have hb0 := Rg.hid (Rg.al1 w (.cells #[.int .i64 d.letter, .int .i64 d.phase, .bool d.caller, .int .i64 d.step, .int .i64 d.size, .int .i64 d.room, .int .i64 d.win.md, .int .i64 d.win.sz, .int .i64 d.win.bs, .slice p.w d.win.l.length p.wc, .int .i64 d.wants, .slice p.a d.ahead.length p.ac, .string ⟨d.buf.toArray⟩, .int .i64 d.at_, .slice p.q d.queue.length p.qc, .int .i64 d.wait, .int .i64 d.tries, .slice none 0 0] 32))
  unfold DV
  go_enter Try.func12, Try.ntmps12
  go_upto_region 2 with fail
  generalize World.alloc _ _ = w1 at *
  obtain ⟨B, hB⟩ : ∃ B, B = w.heap.size := ⟨_, rfl⟩
  rw [← hB] at kB0 ⊢
  replace hB := Rg.hid hB
  have hld1 := Rg.hid (Rg.row_loadVar (P := Try.prog) (t := 32) (CS := #[.int .i64 d.letter, .int .i64 d.phase, .bool d.caller, .int .i64 d.step, .int .i64 d.size, .int .i64 d.room, .int .i64 d.win.md, .int .i64 d.win.sz, .int .i64 d.win.bs, .slice p.w d.win.l.length p.wc, .int .i64 d.wants, .slice p.a d.ahead.length p.ac, .string ⟨d.buf.toArray⟩, .int .i64 d.at_, .slice p.q d.queue.length p.qc, .int .i64 d.wait, .int .i64 d.tries, .slice none 0 0]) kB0.out Try.underlying32 rfl iinfoDr2)
  have kE0 : Hid (Rg.Bk w1.heap.size [.int .i64 d.letter, .int .i64 d.phase, .bool d.caller, .int .i64 d.step, .int .i64 d.size, .int .i64 d.room, .int .i64 d.win.md, .int .i64 d.win.sz, .int .i64 d.win.bs, .slice p.w d.win.l.length p.wc, .int .i64 d.wants, .slice p.a d.ahead.length p.ac, .string ⟨d.buf.toArray⟩, .int .i64 d.at_, .slice p.q d.queue.length p.qc, .int .i64 d.wait, .int .i64 d.tries, .slice none 0 0, .pointer none, .slice none 0 0, .slice none 0 0] 51 (w1.alloc (.cells #[.int .i64 d.letter, .int .i64 d.phase, .bool d.caller, .int .i64 d.step, .int .i64 d.size, .int .i64 d.room, .int .i64 d.win.md, .int .i64 d.win.sz, .int .i64 d.win.bs, .slice p.w d.win.l.length p.wc, .int .i64 d.wants, .slice p.a d.ahead.length p.ac, .string ⟨d.buf.toArray⟩, .int .i64 d.at_, .slice p.q d.queue.length p.qc, .int .i64 d.wait, .int .i64 d.tries, .slice none 0 0, .pointer none, .slice none 0 0, .slice none 0 0] 51))) := Rg.Bk.new rfl
  have b2 := Rg.hid (Rg.al1 w1 (.cells #[.int .i64 d.letter, .int .i64 d.phase, .bool d.caller, .int .i64 d.step, .int .i64 d.size, .int .i64 d.room, .int .i64 d.win.md, .int .i64 d.win.sz, .int .i64 d.win.bs, .slice p.w d.win.l.length p.wc, .int .i64 d.wants, .slice p.a d.ahead.length p.ac, .string ⟨d.buf.toArray⟩, .int .i64 d.at_, .slice p.q d.queue.length p.qc, .int .i64 d.wait, .int .i64 d.tries, .slice none 0 0, .pointer none, .slice none 0 0, .slice none 0 0] 51))
  go_upto_region 3 with (refine Rg.wpList_load_row rfl (.tmp 2) 32 rfl rfl hld1.out ?_)
  generalize World.alloc _ _ = w2 at *
  obtain ⟨eb, heb⟩ : ∃ eb, eb = w1.heap.size := ⟨_, rfl⟩
  rw [← heb] at kE0 ⊢
  replace heb := Rg.hid heb
  have hbw := Rg.hid (Rg.chain hb0.out b2.out)
  have hE := Rg.hid (hd.out.end_ (Rg.chain hbw0.out hbw.out) kE0.out (by rw [heb.out]; exact Nat.le_trans hbw0.out.size hb0.out.size))
  have hld2 := Rg.hid (Rg.row_loadVar (P := Try.prog) (t := 32) (CS := #[.int .i64 d.letter, .int .i64 d.phase, .bool d.caller, .int .i64 d.step, .int .i64 d.size, .int .i64 d.room, .int .i64 d.win.md, .int .i64 d.win.sz, .int .i64 d.win.bs, .slice p.w d.win.l.length p.wc, .int .i64 d.wants, .slice p.a d.ahead.length p.ac, .string ⟨d.buf.toArray⟩, .int .i64 d.at_, .slice p.q d.queue.length p.qc, .int .i64 d.wait, .int .i64 d.tries, .slice none 0 0]) (kB0.out.below b2.out kB0.out.lt) Try.underlying32 rfl iinfoDr2)
  have hch := Rg.chain hbw0.out hbw.out
  have HR := Rg.hid (iright_yes (Gp.own d) (iown p) w2 (Ip.right_own hr.out) (hd.out.at_.win.below hch) (hd.out.at_.queue.below hch) (hd.out.at_.ahead.below hch) hd.out.wl hd.out.ql)
  replace HR : Hid (Calls Try.prog 24 #[.agg #[.int .i64 d.letter, .int .i64 d.phase, .bool d.caller, .int .i64 d.step, .int .i64 d.size, .int .i64 d.room, .int .i64 d.win.md, .int .i64 d.win.sz, .int .i64 d.win.bs, .slice p.w d.win.l.length p.wc, .int .i64 d.wants, .slice p.a d.ahead.length p.ac, .string ⟨d.buf.toArray⟩, .int .i64 d.at_, .slice p.q d.queue.length p.qc, .int .i64 d.wait, .int .i64 d.tries, .slice none 0 0]] w2 fun e w' => e = .returned (.bool true) ∧ Below w2.heap.size w2 w') := HR
  have hle : Hid (w.heap.size ≤ eb) := by show _ ≤ _; rw [heb.out]; exact hb0.out.size
  clear hB heb kB0 kE0 hb0 b2 hld1 hd hr hbw0 hch
  go_upto_region 4 with (first | (refine Rg.wpList_load_row rfl (.tmp 2) 32 rfl rfl hld2.out ?_) | (go_at_call 24; refine HR.out.mono ?_; rintro e w3 ⟨rfl, b3⟩))
  have HW1 := Rg.hid (HW.out w3 _ _ eb (hE.out.below b3) (Rg.chain hbw.out b3) hle.out)
  clear HW hE hbw hld2 HR
  go_wp2_with (go_at_fn 13; refine HW1.out.mono ?_; rintro e w4 ⟨rfl, hq⟩)
  go_ret
  exact ⟨eb, rfl, hq⟩
end Go.Proofs.Ytlclfkogbfigbaa

namespace Go.Proofs.Ytlclfkogbfigbaa
open Go.RowKit
/-- the drive behind what Tick drops -/
def Ip.dropped (d : Gp.Dr) : Gp.Dr := if 2 ≤ d.wait then { d with wait := 0 } else { d with at_ := d.at_ + d.buf.length, buf := [], wait := 0 }
/-- what a tick comes to, from there -/
def Ip.tickOf (d : Gp.Dr) : Gp.Dr × List UInt8 :=
  if d.phase = 1 ∨ d.phase = 3 then
    (if 12 < d.tries + 1 then (if d.phase = 3 then ({ d with tries := d.tries + 1, phase := 4, step := 0 }, []) else ({ d with tries := d.tries + 1, phase := 5 }, []))
    else if d.phase = 3 then ({ d with tries := d.tries + 1 }, Ip.pk { d with tries := d.tries + 1 } 5 0 0 []) else ({ d with tries := d.tries + 1 }, Ip.sync { d with tries := d.tries + 1 }))
  else if d.phase = 2 then Ip.ticked d else (d, [])
theorem itick_of (d : Gp.Dr) : Ip.tick d = Ip.tickOf (Ip.dropped (Gp.own d)) := rfl
theorem iown_self {d : Gp.Dr} (h : d.took = []) : Gp.own d = d := by unfold Gp.own; rw [← h]
theorem isize_bytes (b : List UInt8) : (⟨b.toArray⟩ : ByteArray).size = b.length := by show b.toArray.size = _; simp
end Go.Proofs.Ytlclfkogbfigbaa
