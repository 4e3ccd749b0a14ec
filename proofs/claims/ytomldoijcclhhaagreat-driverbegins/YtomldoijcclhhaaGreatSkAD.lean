/-
  Layer 17: drives as values; which protocol has which calls. Walks of layer 15: an end on its way through a call, in memory: its drive, its rows, and its two builders.
-/
import Derived.Test.YtomldoijcclhhaaGreatSkAC
namespace Go.Proofs.YtomldoijcclhhaaGreat
open Go.RowKit
theorem xinfoDr : (Tryz.prog.info? 29).map (·.size) = some 18 := by kernel_rfl
theorem xresults_row3 {P : Program} {fn : Func} {tm tn tk : Tmp} {t : TypeId} (hf : fn.results = #[.cell tm t, .tmp tn, .tmp tk]) {tmps : Array Value} {R : Nat} (hp : tmps.getD tm undef = .pointer (some ⟨R, 0, none⟩)) {v u y : Value} {W : World} (hu : tmps.getD tn undef = u) (hy : tmps.getD tk undef = y) (hrun : (loadVar t ⟨R, 0, none⟩).run P W = .ok v W) : (results fn tmps).run P W = .ok (.tuple #[v, u, y]) W := by
  simp only [Array.getD_eq_getD_getElem?] at hp hu hy
  simp [results, hf, hp, hu, hy, asAddr, hrun]
theorem xresults_row2 {P : Program} {fn : Func} {tm tn : Tmp} {t : TypeId} (hf : fn.results = #[.cell tm t, .tmp tn]) {tmps : Array Value} {R : Nat} (hp : tmps.getD tm undef = .pointer (some ⟨R, 0, none⟩)) {v u : Value} {W : World} (hu : tmps.getD tn undef = u) (hrun : (loadVar t ⟨R, 0, none⟩).run P W = .ok v W) : (results fn tmps).run P W = .ok (.tuple #[v, u]) W := by
  simp only [Array.getD_eq_getD_getElem?] at hp hu
  simp [results, hf, hp, hu, asAddr, hrun]
/-- a drive, by its cells, of whichever protocol -/
def XD (W : World) (d : Gp.Dr) (CS : Array Value) : Prop := ∃ p, CS = (DC d p).toArray ∧ DAt W d p
theorem XD.below {W W' : World} {d : Gp.Dr} {CS : Array Value} (h : XD W d CS) (hb : Below W.heap.size W W') : XD W' d CS := by
  obtain ⟨p, e, h⟩ := h
  exact ⟨p, e, h.below hb⟩
theorem XD.info {W : World} {d : Gp.Dr} {CS : Array Value} (h : XD W d CS) : (Tryz.prog.info? 29).map (·.size) = some CS.size := by
  obtain ⟨p, e, _⟩ := h
  rw [e]
  exact xinfoDr
theorem XD.size {W : World} {d : Gp.Dr} {CS : Array Value} (h : XD W d CS) : CS.size = 18 := by
  obtain ⟨p, e, _⟩ := h
  rw [e]
  rfl
theorem XD.one {W : World} {d : Gp.Dr} {CS : Array Value} (h : XD W d CS) : CS.all (·.oneCell') = true := by
  obtain ⟨p, e, _⟩ := h
  rw [e]
  simp [DC, Value.oneCell']
theorem XD.bare {W W' : World} {d : Gp.Dr} {CS : Array Value} (h : XD W d CS) (h1 : d.win.l = []) (h2 : d.ahead = []) (h3 : d.queue = []) (h4 : d.took = []) : XD W' d CS := by
  obtain ⟨p, e, _⟩ := h
  exact ⟨p, e, .inl h1, .inl h2, .inl h3, .inl h4⟩
theorem XD.load {W W2 : World} {B : Nat} {d : Gp.Dr} {CS : Array Value} (h : XD W d CS) (k : Rg.Bk B CS.toList 29 W2) : (loadVar 29 ⟨B, 0, none⟩).run Tryz.prog W2 = .ok (.agg CS) W2 := Rg.row_loadVar (P := Tryz.prog) (t := 29) (CS := CS) k Tryz.underlying29 rfl h.info
theorem XD.box {W : World} {d : Gp.Dr} {CS : Array Value} (h : XD W d CS) : ∃ W', Hid ((storeVar 29 ⟨W.heap.size, 0, none⟩ (.agg CS)).run Tryz.prog (W.alloc (.cells #[.int .i64 0, .int .i64 0, .bool false, .int .i64 0, .int .i64 0, .int .i64 0, .int .i64 0, .int .i64 0, .int .i64 0, .slice none 0 0, .int .i64 0, .slice none 0 0, .string ⟨#[]⟩, .int .i64 0, .slice none 0 0, .int .i64 0, .int .i64 0, .slice none 0 0] 29)) = .ok () W') ∧ Hid (Rg.Bk W.heap.size CS.toList 29 W') ∧ Hid (Below W.heap.size W W') ∧ Hid (XD W' d CS) := by
  have k : Rg.Bk W.heap.size [.int .i64 0, .int .i64 0, .bool false, .int .i64 0, .int .i64 0, .int .i64 0, .int .i64 0, .int .i64 0, .int .i64 0, .slice none 0 0, .int .i64 0, .slice none 0 0, .string ⟨#[]⟩, .int .i64 0, .slice none 0 0, .int .i64 0, .int .i64 0, .slice none 0 0] 29 (W.alloc (.cells #[.int .i64 0, .int .i64 0, .bool false, .int .i64 0, .int .i64 0, .int .i64 0, .int .i64 0, .int .i64 0, .int .i64 0, .slice none 0 0, .int .i64 0, .slice none 0 0, .string ⟨#[]⟩, .int .i64 0, .slice none 0 0, .int .i64 0, .int .i64 0, .slice none 0 0] 29)) := Rg.Bk.new rfl
  obtain ⟨W', h1, h2, h3⟩ := Rg.row_storeVar (P := Tryz.prog) (t := 29) (CS := CS) k h.info (by rw [h.size]; rfl) h.one
  have hb : Below W.heap.size W W' := (Rg.al1 _ _).trans (h3.bel (Nat.le_refl _))
  exact ⟨W', h1, h2, hb, h.below hb⟩
theorem XD.over {W W0 : World} {B : Nat} {d d0 : Gp.Dr} {CS C0 : Array Value} (h : XD W0 d CS) (h0 : XD W0 d0 C0) (k : Rg.Bk B C0.toList 29 W) : ∃ W', Hid ((storeVar 29 ⟨B, 0, none⟩ (.agg CS)).run Tryz.prog W = .ok () W') ∧ Hid (Rg.Bk B CS.toList 29 W') ∧ Hid (Rg.Only B W W') := by
  obtain ⟨W', h1, h2, h3⟩ := Rg.row_storeVar (P := Tryz.prog) (t := 29) (CS := CS) k h.info (by rw [h.size, Array.length_toList, h0.size]) h.one
  exact ⟨W', h1, h2, h3⟩
def xzD : Gp.Dr := ⟨0, 0, false, 0, 0, 0, Wn.zero, 0, [], [], 0, [], 0, 0, []⟩
theorem xzDH (W : World) : XD W xzD #[.int .i64 0, .int .i64 0, .bool false, .int .i64 0, .int .i64 0, .int .i64 0, .int .i64 0, .int .i64 0, .int .i64 0, .slice none 0 0, .int .i64 0, .slice none 0 0, .string ⟨#[]⟩, .int .i64 0, .slice none 0 0, .int .i64 0, .int .i64 0, .slice none 0 0] := ⟨⟨none, 0, none, 0, none, 0, none, 0⟩, rfl, .inl rfl, .inl rfl, .inl rfl, .inl rfl⟩
def xeD (ca : Bool) : Gp.Dr := ⟨101, 2, ca, 0, 0, 0, Wn.zero, 0, [], [], 0, [], 0, 0, []⟩
theorem xeDH (ca : Bool) (W : World) : XD W (xeD ca) #[.int .i64 101, .int .i64 2, .bool ca, .int .i64 0, .int .i64 0, .int .i64 0, .int .i64 0, .int .i64 0, .int .i64 0, .slice none 0 0, .int .i64 0, .slice none 0 0, .string ⟨#[]⟩, .int .i64 0, .slice none 0 0, .int .i64 0, .int .i64 0, .slice none 0 0] := ⟨⟨none, 0, none, 0, none, 0, none, 0⟩, rfl, .inl rfl, .inl rfl, .inl rfl, .inl rfl⟩
/-- what a Begin leaves -/
def VPost (w : World) (d : Gp.Dr) (s : ByteArray) (E : Int) (e : Ending) (w' : World) : Prop := ∃ CS, e = .returned (.tuple #[.agg CS, .string s, .int .i64 E]) ∧ Hid (XD w' d CS) ∧ Hid (Below w.heap.size w w')
theorem info_proto : (Tryz.prog.info? 50).map (·.size) = some 6 := by kernel_rfl
set_option maxHeartbeats 1000000 in
set_option maxRecDepth 100000 in
theorem proto_G (w : World) : Calls Tryz.prog 15 #[.int .i64 71] w fun e w' => e = .returned (.agg #[.func (.func 21) #[] #[], .func (.func 22) #[] #[], .func (.func 23) #[] #[], .func (.func 24) #[] #[], .func (.func 25) #[] #[], .func (.func 26) #[] #[]]) ∧ Below w.heap.size w w' := by
  have k0 : Rg.Bk w.heap.size [.nilFunc, .nilFunc, .nilFunc, .nilFunc, .nilFunc, .nilFunc] 50 (w.alloc (.cells #[.nilFunc, .nilFunc, .nilFunc, .nilFunc, .nilFunc, .nilFunc] 50)) := Rg.Bk.new rfl
  obtain ⟨w2, st, k2, o2⟩ := Rg.row_storeVar (P := Tryz.prog) (t := 50) (CS := #[.func (.func 21) #[] #[], .func (.func 22) #[] #[], .func (.func 23) #[] #[], .func (.func 24) #[] #[], .func (.func 25) #[] #[], .func (.func 26) #[] #[]]) k0 info_proto rfl (by simp [Value.oneCell'])
  have hres := Rg.hid (Rg.row_loadVar (P := Tryz.prog) (t := 50) (CS := #[.func (.func 21) #[] #[], .func (.func 22) #[] #[], .func (.func 23) #[] #[], .func (.func 24) #[] #[], .func (.func 25) #[] #[], .func (.func 26) #[] #[]]) k2 Tryz.underlying50 rfl info_proto)
  have hb : Hid (Below w.heap.size w w2) := (Rg.al1 _ _).trans (o2.bel (Nat.le_refl _))
  replace st := Rg.hid st
  clear k0 k2 o2
  go_enter Tryz.func15, Tryz.ntmps15
  go_wp2_with (with_reducible refine is_store (.tmp 2) (.tmp 10) 50 ?_; refine list_store (.tmp 2) (.tmp 10) 50 rfl rfl st.out ?_)
  exact bodyPost_ret (v := .agg #[.func (.func 21) #[] #[], .func (.func 22) #[] #[], .func (.func 23) #[] #[], .func (.func 24) #[] #[], .func (.func 25) #[] #[], .func (.func 26) #[] #[]]) (Rg.results_row rfl rfl hres.out) rfl ⟨rfl, hb.out⟩
set_option maxHeartbeats 1000000 in
set_option maxRecDepth 100000 in
theorem proto_g (w : World) : Calls Tryz.prog 15 #[.int .i64 103] w fun e w' => e = .returned (.agg #[.func (.func 21) #[] #[], .func (.func 22) #[] #[], .func (.func 23) #[] #[], .func (.func 24) #[] #[], .func (.func 25) #[] #[], .func (.func 26) #[] #[]]) ∧ Below w.heap.size w w' := by
  have k0 : Rg.Bk w.heap.size [.nilFunc, .nilFunc, .nilFunc, .nilFunc, .nilFunc, .nilFunc] 50 (w.alloc (.cells #[.nilFunc, .nilFunc, .nilFunc, .nilFunc, .nilFunc, .nilFunc] 50)) := Rg.Bk.new rfl
  obtain ⟨w2, st, k2, o2⟩ := Rg.row_storeVar (P := Tryz.prog) (t := 50) (CS := #[.func (.func 21) #[] #[], .func (.func 22) #[] #[], .func (.func 23) #[] #[], .func (.func 24) #[] #[], .func (.func 25) #[] #[], .func (.func 26) #[] #[]]) k0 info_proto rfl (by simp [Value.oneCell'])
  have hres := Rg.hid (Rg.row_loadVar (P := Tryz.prog) (t := 50) (CS := #[.func (.func 21) #[] #[], .func (.func 22) #[] #[], .func (.func 23) #[] #[], .func (.func 24) #[] #[], .func (.func 25) #[] #[], .func (.func 26) #[] #[]]) k2 Tryz.underlying50 rfl info_proto)
  have hb : Hid (Below w.heap.size w w2) := (Rg.al1 _ _).trans (o2.bel (Nat.le_refl _))
  replace st := Rg.hid st
  clear k0 k2 o2
  go_enter Tryz.func15, Tryz.ntmps15
  go_wp2_with (with_reducible refine is_store (.tmp 2) (.tmp 10) 50 ?_; refine list_store (.tmp 2) (.tmp 10) 50 rfl rfl st.out ?_)
  exact bodyPost_ret (v := .agg #[.func (.func 21) #[] #[], .func (.func 22) #[] #[], .func (.func 23) #[] #[], .func (.func 24) #[] #[], .func (.func 25) #[] #[], .func (.func 26) #[] #[]]) (Rg.results_row rfl rfl hres.out) rfl ⟨rfl, hb.out⟩
set_option maxHeartbeats 1000000 in
set_option maxRecDepth 100000 in
theorem proto_i (w : World) : Calls Tryz.prog 15 #[.int .i64 105] w fun e w' => e = .returned (.agg #[.func (.func 27) #[] #[], .func (.func 28) #[] #[], .func (.func 29) #[] #[], .func (.func 30) #[] #[], .func (.func 31) #[] #[], .func (.func 32) #[] #[]]) ∧ Below w.heap.size w w' := by
  have k0 : Rg.Bk w.heap.size [.nilFunc, .nilFunc, .nilFunc, .nilFunc, .nilFunc, .nilFunc] 50 (w.alloc (.cells #[.nilFunc, .nilFunc, .nilFunc, .nilFunc, .nilFunc, .nilFunc] 50)) := Rg.Bk.new rfl
  obtain ⟨w2, st, k2, o2⟩ := Rg.row_storeVar (P := Tryz.prog) (t := 50) (CS := #[.func (.func 27) #[] #[], .func (.func 28) #[] #[], .func (.func 29) #[] #[], .func (.func 30) #[] #[], .func (.func 31) #[] #[], .func (.func 32) #[] #[]]) k0 info_proto rfl (by simp [Value.oneCell'])
  have hres := Rg.hid (Rg.row_loadVar (P := Tryz.prog) (t := 50) (CS := #[.func (.func 27) #[] #[], .func (.func 28) #[] #[], .func (.func 29) #[] #[], .func (.func 30) #[] #[], .func (.func 31) #[] #[], .func (.func 32) #[] #[]]) k2 Tryz.underlying50 rfl info_proto)
  have hb : Hid (Below w.heap.size w w2) := (Rg.al1 _ _).trans (o2.bel (Nat.le_refl _))
  replace st := Rg.hid st
  clear k0 k2 o2
  go_enter Tryz.func15, Tryz.ntmps15
  go_wp2_with (with_reducible refine is_store (.tmp 2) (.tmp 11) 50 ?_; refine list_store (.tmp 2) (.tmp 11) 50 rfl rfl st.out ?_)
  exact bodyPost_ret (v := .agg #[.func (.func 27) #[] #[], .func (.func 28) #[] #[], .func (.func 29) #[] #[], .func (.func 30) #[] #[], .func (.func 31) #[] #[], .func (.func 32) #[] #[]]) (Rg.results_row rfl rfl hres.out) rfl ⟨rfl, hb.out⟩
set_option maxHeartbeats 1000000 in
set_option maxRecDepth 100000 in
theorem proto_e (w : World) (lt : Int) (d1 : (lt == 71) = false) (d2 : (lt == 103) = false) (d3 : (lt == 105) = false) : Calls Tryz.prog 15 #[.int .i64 lt] w fun e w' => e = .returned (.agg #[.func (.func 33) #[] #[], .func (.func 34) #[] #[], .func (.func 35) #[] #[], .func (.func 36) #[] #[], .func (.func 37) #[] #[], .func (.func 38) #[] #[]]) ∧ Below w.heap.size w w' := by
  have k0 : Rg.Bk w.heap.size [.nilFunc, .nilFunc, .nilFunc, .nilFunc, .nilFunc, .nilFunc] 50 (w.alloc (.cells #[.nilFunc, .nilFunc, .nilFunc, .nilFunc, .nilFunc, .nilFunc] 50)) := Rg.Bk.new rfl
  obtain ⟨w2, st, k2, o2⟩ := Rg.row_storeVar (P := Tryz.prog) (t := 50) (CS := #[.func (.func 33) #[] #[], .func (.func 34) #[] #[], .func (.func 35) #[] #[], .func (.func 36) #[] #[], .func (.func 37) #[] #[], .func (.func 38) #[] #[]]) k0 info_proto rfl (by simp [Value.oneCell'])
  have hres := Rg.hid (Rg.row_loadVar (P := Tryz.prog) (t := 50) (CS := #[.func (.func 33) #[] #[], .func (.func 34) #[] #[], .func (.func 35) #[] #[], .func (.func 36) #[] #[], .func (.func 37) #[] #[], .func (.func 38) #[] #[]]) k2 Tryz.underlying50 rfl info_proto)
  have hb : Hid (Below w.heap.size w w2) := (Rg.al1 _ _).trans (o2.bel (Nat.le_refl _))
  replace st := Rg.hid st
  clear k0 k2 o2
  go_enter Tryz.func15, Tryz.ntmps15
  go_wp2_with (with_reducible refine is_store (.tmp 2) (.tmp 12) 50 ?_; refine list_store (.tmp 2) (.tmp 12) 50 rfl rfl st.out ?_)
  exact bodyPost_ret (v := .agg #[.func (.func 33) #[] #[], .func (.func 34) #[] #[], .func (.func 35) #[] #[], .func (.func 36) #[] #[], .func (.func 37) #[] #[], .func (.func 38) #[] #[]]) (Rg.results_row rfl rfl hres.out) rfl ⟨rfl, hb.out⟩
end Go.Proofs.YtomldoijcclhhaaGreat

namespace Go.Proofs.YtomldoijcclhhaaGreat
open Go.RowKit
/-- the cells of the two builders -/
structure Bu where
  s : Value
  sb : Value
  c : Value
  cb : Value
/-- an end's cells -/
def EC (d : Gp.Dr) (p : Pl) (q : Bu) : List Value := [.int .i64 d.letter, .int .i64 d.phase, .bool d.caller, .int .i64 d.step, .int .i64 d.size, .int .i64 d.room, .int .i64 d.win.md, .int .i64 d.win.sz, .int .i64 d.win.bs, .slice p.w d.win.l.length p.wc, .int .i64 d.wants, .slice p.a d.ahead.length p.ac, .string ⟨d.buf.toArray⟩, .int .i64 d.at_, .slice p.q d.queue.length p.qc, .int .i64 d.wait, .int .i64 d.tries, .slice p.t d.took.length p.tc, q.s, q.sb, q.c, q.cb]
/-- an end in memory -/
structure EAt (Kp : Nat → Prop) (base : Nat) (W : World) (eb : Nat) (d : Gp.Dr) (p : Pl) (q : Bu) (S C : List UInt8) : Prop where
  bk : Rg.Bk eb (EC d p q) 69 W
  new : base ≤ eb
  win : TRow Kp strE base eb [q.sb, q.cb, .slice p.t d.took.length p.tc] W p.w d.win.l
  wcap : d.win.l.length ≤ p.wc
  ahead : TRow Kp fiE base eb [q.sb, q.cb, .slice p.t d.took.length p.tc] W p.a d.ahead
  queue : TRow Kp pcE base eb [q.sb, q.cb, .slice p.t d.took.length p.tc] W p.q d.queue
  took : W.ownsRow base 57 2 (.slice p.t d.took.length p.tc) d.took.length (spE.flat d.took)
  sa : q.s = .pointer none ∨ q.s = .pointer (some ⟨eb, 18, none⟩)
  said : BAt base W q.sb S
  ca : q.c = .pointer none ∨ q.c = .pointer (some ⟨eb, 20, none⟩)
  came : BAt base W q.cb C
  apart : ∀ g, q.sb.ownBlock = some g → q.cb.ownBlock ≠ some g
theorem EAt.lt {Kp : Nat → Prop} {base eb : Nat} {W : World} {d : Gp.Dr} {p : Pl} {q : Bu} {S C : List UInt8} (h : EAt Kp base W eb d p q S C) : base ≤ W.heap.size := Nat.le_of_lt (Nat.lt_of_le_of_lt h.new h.bk.lt)
/-- what a call of another package leaves -/
theorem EAt.below {Kp : Nat → Prop} {base eb : Nat} {W W' : World} {d : Gp.Dr} {p : Pl} {q : Bu} {S C : List UInt8} (h : EAt Kp base W eb d p q S C) (hb : Below W.heap.size W W') : EAt Kp base W' eb d p q S C := by
  have hf : Fr base eb W W' := Fr.of hb h.lt
  have hk : ∀ k, k < W.heap.size → k ≠ eb → (∀ v ∈ [q.sb, q.cb, .slice p.t d.took.length p.tc], v.ownBlock ≠ some k) → W'.heap[k]? = W.heap[k]? := fun k hk _ _ => hb.block k hk
  exact ⟨h.bk.below hb h.bk.lt, h.new, h.win.kept hf.bel hk same_vs, h.wcap, h.ahead.kept hf.bel hk same_vs, h.queue.kept hf.bel hk same_vs, own_fr h.took hf h.bk (by decide), h.sa, h.said.below hb, h.ca, h.came.below hb, h.apart⟩
theorem EAt.drew {Kp : Nat → Prop} {base eb : Nat} {W : World} {d : Gp.Dr} {p : Pl} {q : Bu} {S C : List UInt8} (h : EAt Kp base W eb d p q S C) : EAt Kp base W.drew eb d p q S C := h.below (Below.drew (Below.refl _ _))
theorem EAt.alloc {Kp : Nat → Prop} {base eb : Nat} {W : World} {d : Gp.Dr} {p : Pl} {q : Bu} {S C : List UInt8} (h : EAt Kp base W eb d p q S C) (o : Obj) : EAt Kp base (W.alloc o) eb d p q S C := h.below (Rg.al1 W o)
/-- a row in a block that was not there -/
theorem EAt.row {Kp : Nat → Prop} {α : Type} {E : Rg.El α} {base eb : Nat} {W W' : World} {d : Gp.Dr} {p : Pl} {q : Bu} {S C : List UInt8} {a : Option Addr} {l : List α} (h : EAt Kp base W eb d p q S C) (hr : ERow E W' a l) (hn : ∀ b o, a = some ⟨b, o, none⟩ → W.heap.size ≤ b) : TRow Kp E base eb [q.sb, q.cb, .slice p.t d.took.length p.tc] W' a l := by
  rcases hr with hr | ⟨b, o, h1, h2, h3⟩
  · exact .inl hr
  · have hb := hn b o h1
    refine .inr ⟨b, o, h1, h2, h3, .inr ⟨Nat.lt_of_lt_of_le h.bk.lt hb, fun v hm hg => ?_⟩⟩
    simp only [List.mem_cons, List.not_mem_nil, or_false] at hm
    rcases hm with rfl | rfl | rfl
    · have := (h.said.own.lt b hg).2; omega
    · have := (h.came.own.lt b hg).2; omega
    · have := (h.took.lt b hg).2; omega
/-- one store into the end, whatever is told of it then -/
theorem EAt.put {Kp : Nat → Prop} {base eb : Nat} {W : World} {d : Gp.Dr} {p : Pl} {q : Bu} {S C : List UInt8} (h : EAt Kp base W eb d p q S C) (k : Nat) (v : Value) (d' : Gp.Dr) (p' : Pl) (hc : (EC d p q).set k v = EC d' p' q) (ht : d'.took = d.took) (hp : p'.t = p.t ∧ p'.tc = p.tc)
    (hw : TRow Kp strE base eb [q.sb, q.cb, .slice p.t d.took.length p.tc] W p'.w d'.win.l) (hwc : d'.win.l.length ≤ p'.wc) (ha : TRow Kp fiE base eb [q.sb, q.cb, .slice p.t d.took.length p.tc] W p'.a d'.ahead) (hq : TRow Kp pcE base eb [q.sb, q.cb, .slice p.t d.took.length p.tc] W p'.q d'.queue) :
    EAt Kp base (W.setCell ⟨eb, k, none⟩ v) eb d' p' q S C := by
  have hf : Fr base eb W (W.setCell ⟨eb, k, none⟩ v) := Fr.set h.new k v
  have hk := h.bk.set k v
  rw [hc] at hk
  have hkk : ∀ g, g < W.heap.size → g ≠ eb → (∀ v ∈ [q.sb, q.cb, .slice p.t d.took.length p.tc], v.ownBlock ≠ some g) → (W.setCell ⟨eb, k, none⟩ v).heap[g]? = W.heap[g]? := fun g _ hg _ => Below.heap_setCell _ _ _ _ hg
  have e : (Value.slice p'.t d'.took.length p'.tc) = .slice p.t d.took.length p.tc := by rw [hp.1, hp.2, ht]
  refine ⟨hk, h.new, ?_, hwc, ?_, ?_, ?_, h.sa, h.said.set h.bk (by decide) v, h.ca, h.came.set h.bk (by decide) v, h.apart⟩
  · rw [e]; exact hw.kept hf.bel hkk same_vs
  · rw [e]; exact ha.kept hf.bel hkk same_vs
  · rw [e]; exact hq.kept hf.bel hkk same_vs
  · rw [e, ht]; exact own_fr h.took hf h.bk (by decide)
/-- an end, wherever its rows lie -/
def ES (Kp : Nat → Prop) (base : Nat) (W : World) (eb : Nat) (d : Gp.Dr) (S C : List UInt8) : Prop := ∃ p q, EAt Kp base W eb d p q S C
theorem ES.below {Kp : Nat → Prop} {base eb : Nat} {W W' : World} {d : Gp.Dr} {S C : List UInt8} (h : ES Kp base W eb d S C) (hb : Below W.heap.size W W') : ES Kp base W' eb d S C := by
  obtain ⟨p, q, h⟩ := h
  exact ⟨p, q, h.below hb⟩
end Go.Proofs.YtomldoijcclhhaaGreat
