/-
  Walks of layer 16: takeClose, acknowledge. Walks of layer 14: the document's right, own, Find. Walks of layer 14: Numbers, the program's and the document's.
-/
import Derived.Test.YtlclfkogbfigbaaCuAK
import Derived.Test.YtlclfkogbfigbaaCuAM
namespace Go.Proofs.Ytlclfkogbfigbaa
open Go.RowKit
set_option maxHeartbeats 1000000 in
set_option maxRecDepth 100000 in
theorem itakeClose_closing (eb : Nat) (st : Int) (W : World) (c1 : W.cell? ⟨eb, 1, none⟩ = some (.int .i64 3)) (c3 : W.cell? ⟨eb, 3, none⟩ = some (.int .i64 st)) (f : ∀ i, W.frozen? ⟨eb, i, none⟩ = false) :
    Calls Try.prog 42 #[.pointer (some ⟨eb, 0, none⟩)] W fun e w' => e = .returned (.tuple #[]) ∧ w' = (W.setCell ⟨eb, 1, none⟩ (.int .i64 4)).setCell ⟨eb, 3, none⟩ (.int .i64 0) := by
  go_enter Try.func42, Try.ntmps42
  go_wp2
  go_end0
  exact ⟨rfl, rfl⟩
set_option maxHeartbeats 1000000 in
set_option maxRecDepth 100000 in
theorem itakeClose_closed (eb : Nat) (st : Int) (W : World) (c1 : W.cell? ⟨eb, 1, none⟩ = some (.int .i64 4)) (c3 : W.cell? ⟨eb, 3, none⟩ = some (.int .i64 st)) (h : (st == 1) = false) :
    Calls Try.prog 42 #[.pointer (some ⟨eb, 0, none⟩)] W fun e w' => e = .returned (.tuple #[]) ∧ w' = W := by
  go_enter Try.func42, Try.ntmps42
  go_wp2
  go_end0
  exact ⟨rfl, rfl⟩
set_option maxHeartbeats 1000000 in
set_option maxRecDepth 100000 in
theorem itakeClose_more (eb : Nat) (W : World) (Post : Ending → World → Prop) (c1 : W.cell? ⟨eb, 1, none⟩ = some (.int .i64 4)) (c3 : W.cell? ⟨eb, 3, none⟩ = some (.int .i64 1))
    (HS : Hid (Calls Try.prog 62 #[.pointer (some ⟨eb, 0, none⟩)] W fun e w' => e = .returned (.tuple #[]) ∧ Post (.returned (.tuple #[])) w')) :
    Calls Try.prog 42 #[.pointer (some ⟨eb, 0, none⟩)] W Post := by
  go_enter Try.func42, Try.ntmps42
  go_wp2_with (go_at_call 62; refine HS.out.mono ?_; rintro e w3 ⟨rfl, hp⟩)
  go_end0
  exact hp
set_option maxHeartbeats 1000000 in
set_option maxRecDepth 100000 in
theorem itakeClose_failed (eb : Nat) (W : World) (c1 : W.cell? ⟨eb, 1, none⟩ = some (.int .i64 5)) :
    Calls Try.prog 42 #[.pointer (some ⟨eb, 0, none⟩)] W fun e w' => e = .returned (.tuple #[]) ∧ w' = W := by
  go_enter Try.func42, Try.ntmps42
  go_wp2
  go_end0
  exact ⟨rfl, rfl⟩
set_option maxHeartbeats 1000000 in
set_option maxRecDepth 100000 in
theorem itakeClose_open {Kp : Nat → Prop} {W : World} {eb : Nat} {d : Gp.Dr} {p : Pl} {q : Qv} {S : List UInt8} {C : List Gp.Pc} (h : IAt Kp W eb d p q S C) (ph : Int) (hp0 : d.phase = ph) (hph : ph = 1 ∨ ph = 2) (Post : Ending → World → Prop)
    (HS : Hid (∀ W1, IAt Kp W1 eb { d with phase := 4, step := 1 } p q S C → Below eb W W1 → Calls Try.prog 62 #[.pointer (some ⟨eb, 0, none⟩)] W1 fun e w' => e = .returned (.tuple #[]) ∧ Post (.returned (.tuple #[])) w')) :
    Calls Try.prog 42 #[.pointer (some ⟨eb, 0, none⟩)] W Post := by
  have c1 : W.cell? ⟨eb, 1, none⟩ = some (.int .i64 ph) := by rw [← hp0]; exact h.bk.cell 1
  have c3 : W.cell? ⟨eb, 3, none⟩ = some (.int .i64 d.step) := h.bk.cell 3
  have fz := h.bk.thaw
  have h7 := Rg.hid ((h.upd 1 (.int .i64 4) { d with phase := 4 } rfl rfl rfl rfl rfl).upd 3 (.int .i64 1) { d with phase := 4, step := 1 } rfl rfl rfl rfl rfl)
  have f7 : Hid (Below eb W ((W.setCell ⟨eb, 1, none⟩ (.int .i64 4)).setCell ⟨eb, 3, none⟩ (.int .i64 1))) := (below_set eb _ _).trans (below_set eb _ _)
  clear h hp0
  generalize d.step = sp at *
  rcases hph with rfl | rfl
  · go_enter Try.func42, Try.ntmps42
    go_upto_region 9 with fail
    generalize World.setCell _ _ _ = w1 at *
    go_wp2_with (go_at_call 62; refine (HS.out _ h7.out f7.out).mono ?_; rintro e w3 ⟨rfl, hp⟩)
    go_end0
    exact hp
  · go_enter Try.func42, Try.ntmps42
    go_upto_region 9 with fail
    generalize World.setCell _ _ _ = w1 at *
    go_wp2_with (go_at_call 62; refine (HS.out _ h7.out f7.out).mono ?_; rintro e w3 ⟨rfl, hp⟩)
    go_end0
    exact hp
theorem IPost.id {Kp : Nat → Prop} {W : World} {eb : Nat} {d : Gp.Dr} {p : Pl} {q : Qv} {S : List UInt8} {C : List Gp.Pc} {F : Nat} {args : Array Value} (h : IAt Kp W eb d p q S C) (hc : Calls Try.prog F args W fun e w' => e = .returned (.tuple #[]) ∧ w' = W) : Calls Try.prog F args W fun e w' => IPost Kp eb W d (S ++ []) C e w' := hc.mono fun e w' ⟨h1, h2⟩ => by
  subst h2
  rw [List.append_nil]
  exact ⟨h1, ⟨p, q, h⟩, Below.refl _ _⟩
theorem itakeClose_any {Kp : Nat → Prop} {W : World} {eb : Nat} {d : Gp.Dr} {p : Pl} {q : Qv} {S : List UInt8} {C : List Gp.Pc} (h : IAt Kp W eb d p q S C) (hr : Ip.right d) (hlen : S.length + 6 ≤ 140737488355328) :
    Calls Try.prog 42 #[.pointer (some ⟨eb, 0, none⟩)] W fun e w' => IPost Kp eb W (Ip.closes d).1 (S ++ (Ip.closes d).2) C e w' := by
  have hw := hr.1.wn
  have hph : d.phase = 1 ∨ d.phase = 2 ∨ d.phase = 3 ∨ d.phase = 4 ∨ d.phase = 5 := by
    rcases hr.2 with ⟨h, _⟩ | ⟨h, _⟩ | h | h | h <;> omega
  unfold Ip.closes
  by_cases p3 : d.phase = 3
  · rw [if_pos p3]
    refine (itakeClose_closing eb d.step W (by rw [← p3]; exact h.bk.cell 1) (h.bk.cell 3) h.bk.thaw).mono fun e w' ⟨h1, h2⟩ => ?_
    subst h2
    rw [List.append_nil]
    exact ⟨h1, ⟨p, q, (h.upd 1 (.int .i64 4) { d with phase := 4 } rfl rfl rfl rfl rfl).upd 3 (.int .i64 0) { d with phase := 4, step := 0 } rfl rfl rfl rfl rfl⟩, (below_set eb _ _).trans (below_set eb _ _)⟩
  rw [if_neg p3]
  by_cases p4 : d.phase = 4
  · rw [if_pos p4]
    have c1 : W.cell? ⟨eb, 1, none⟩ = some (.int .i64 4) := by rw [← p4]; exact h.bk.cell 1
    by_cases s1 : d.step = 1
    · rw [if_pos s1]
      exact itakeClose_more eb W _ c1 (by rw [← s1]; exact h.bk.cell 3) ((isayClose_any h hw hlen).mono fun e w' hp => ⟨hp.1, rfl, hp.is.2⟩)
    · rw [if_neg s1]
      exact IPost.id h (itakeClose_closed eb d.step W c1 (h.bk.cell 3) (by simpa using s1))
  rw [if_neg p4]
  by_cases p5 : d.phase = 5
  · rw [if_pos p5]
    exact IPost.id h (itakeClose_failed eb W (by rw [← p5]; exact h.bk.cell 1))
  · rw [if_neg p5]
    refine itakeClose_open h d.phase rfl (by omega) _ fun W1 hh f => ?_
    exact (isayClose_any hh hw hlen).mono fun e w' hp => ⟨hp.1, rfl, hp.is.2.1, f.trans hp.2.2.bel⟩
/-- the stores of a whole window into an end -/
def SetI (W : World) (eb : Nat) (m s b : Int) (v : Value) : World := (((W.setCell ⟨eb, 6, none⟩ (.int .i64 m)).setCell ⟨eb, 7, none⟩ (.int .i64 s)).setCell ⟨eb, 8, none⟩ (.int .i64 b)).setCell ⟨eb, 9, none⟩ v
theorem IAt.setW {Kp : Nat → Prop} {W : World} {eb : Nat} {d : Gp.Dr} {p : Pl} {q : Qv} {S : List UInt8} {C : List Gp.Pc} (h : IAt Kp W eb d p q S C) (X : Wn.W) (a : Option Addr) (c : Nat) (hr : TRow Kp strE eb eb (ivs d p q) W a X.l) (hc : X.l.length ≤ c) :
    IAt Kp (SetI W eb X.md X.sz X.bs (.slice a X.l.length c)) eb { d with win := X } { p with w := a, wc := c } q S C ∧ Below eb W (SetI W eb X.md X.sz X.bs (.slice a X.l.length c)) := by
  have f6 : Below eb W (W.setCell ⟨eb, 6, none⟩ (.int .i64 X.md)) := below_set eb _ _
  have h6 := h.upd 6 (.int .i64 X.md) { d with win := { d.win with md := X.md } } rfl rfl rfl rfl rfl
  have f7 := f6.trans (below_set (W := W.setCell ⟨eb, 6, none⟩ (.int .i64 X.md)) eb 7 (.int .i64 X.sz))
  have h7 := h6.upd 7 (.int .i64 X.sz) { d with win := { d.win with md := X.md, sz := X.sz } } rfl rfl rfl rfl rfl
  have f8 := f7.trans (below_set eb 8 (.int .i64 X.bs))
  have h8 := h7.upd 8 (.int .i64 X.bs) { d with win := { d.win with md := X.md, sz := X.sz, bs := X.bs } } rfl rfl rfl rfl rfl
  refine ⟨h8.put 9 (.slice a X.l.length c) { d with win := X } { p with w := a, wc := c } rfl rfl ⟨rfl, rfl⟩ ?_ hc ⟨rfl, rfl, rfl⟩ h8.queue, f8.trans (below_set eb 9 _)⟩
  refine hr.kept f8 (fun g _ hg _ => ?_) same_vs
  rw [Below.heap_setCell _ _ _ _ hg, Below.heap_setCell _ _ _ _ hg, Below.heap_setCell _ _ _ _ hg]
set_option maxHeartbeats 2000000 in
set_option maxRecDepth 100000 in
theorem iacknowledge_go {Kp : Nat → Prop} {W : World} {eb : Nat} {d : Gp.Dr} {p : Pl} {q : Qv} {S : List UInt8} {C : List Gp.Pc} (h : IAt Kp W eb d p q S C) (n : Int) (X : Wn.W) (K xn : Nat) (hxn : Hid (X.l.length = xn)) (bK : Bool) (hK : decide (0 < K) = bK) (Post : Ending → World → Prop) (ln : Nat) (hln : Hid (d.win.l.length = ln))
    (HA : Hid (Calls Try.prog 76 #[.agg #[.int .i64 d.win.md, .int .i64 d.win.sz, .int .i64 d.win.bs, .slice p.w ln p.wc], .int .i64 n] W fun e w' => ∃ a c, e = .returned (.tuple #[.agg #[.int .i64 X.md, .int .i64 X.sz, .int .i64 X.bs, .slice a xn c], .int .i64 (K : Int)]) ∧ Hid (IAt Kp w' eb d p q S C) ∧ Hid (Below eb W w') ∧ Hid (TRow Kp strE eb eb (ivs d p q) w' a X.l) ∧ Hid (X.l.length ≤ c)))
    (HP : Hid (∀ W1, IS Kp W1 eb { d with win := X, tries := if 0 < K then 0 else d.tries } S C → Below eb W W1 → Post (.returned (.tuple #[])) W1)) :
    Calls Try.prog 63 #[.pointer (some ⟨eb, 0, none⟩), .int .i64 n] W Post := by
  have c6 : W.cell? ⟨eb, 6, none⟩ = some (.int .i64 d.win.md) := h.bk.cell 6
  have c7 : W.cell? ⟨eb, 7, none⟩ = some (.int .i64 d.win.sz) := h.bk.cell 7
  have c8 : W.cell? ⟨eb, 8, none⟩ = some (.int .i64 d.win.bs) := h.bk.cell 8
  have c9 : W.cell? ⟨eb, 9, none⟩ = some (.slice p.w ln p.wc) := by rw [← hln.out]; exact h.bk.cell 9
  have hK1 : decide ((0 : Int) < (K : Int)) = bK := by rw [← hK]; simp
  generalize d.win.md = wm at *
  generalize d.win.sz = ws at *
  generalize d.win.bs = wb at *
  clear h
  go_enter Try.func63, Try.ntmps63
  go_upto_region 2 with (go_at_call 76; refine HA.out.mono ?_; rintro e w2 ⟨a, c, rfl, h2, f2, hr, hc⟩; have e6 : w2.cell? ⟨eb, 6, none⟩ = some (.int .i64 d.win.md) := h2.out.bk.cell 6; have e7 : w2.cell? ⟨eb, 7, none⟩ = some (.int .i64 d.win.sz) := h2.out.bk.cell 7; have e8 : w2.cell? ⟨eb, 8, none⟩ = some (.int .i64 d.win.bs) := h2.out.bk.cell 8; have e9 : w2.cell? ⟨eb, 9, none⟩ = some (.slice p.w d.win.l.length p.wc) := h2.out.bk.cell 9; have fz := h2.out.bk.thaw)
  have hw := Rg.hid (h2.out.setW X a c hr.out hc.out)
  rw [hxn.out] at hw
  unfold SetI at hw
  generalize World.setCell _ _ _ = w3 at *
  have f3 := Rg.hid (f2.out.trans hw.out.2)
  have h3 := Rg.hid hw.out.1
  clear e6 e7 e8 e9 fz c6 c7 c8 c9 HA h2 hw hr hc f2
  cases bK with
  | true =>
    have hK2 : 0 < K := of_decide_eq_true hK
    have c16 : w3.cell? ⟨eb, 16, none⟩ = some (.int .i64 d.tries) := h3.out.bk.cell 16
    have fz := h3.out.bk.thaw
    have h4 := Rg.hid (h3.out.upd 16 (.int .i64 0) { d with win := X, tries := 0 } rfl rfl rfl rfl rfl)
    have f4 := Rg.hid (f3.out.trans (below_set eb 16 (.int .i64 0)))
    clear h3 f3
    go_wp2
    generalize World.setCell _ _ _ = w4 at *
    go_end0
    exact HP.out w4 ⟨_, _, by rw [if_pos hK2]; exact h4.out⟩ f4.out
  | false =>
    have hK2 : ¬ 0 < K := of_decide_eq_false hK
    go_wp2
    go_end0
    exact HP.out w3 ⟨_, _, by rw [if_neg hK2]; exact h3.out⟩ f3.out
theorem iacknowledge_any {Kp : Nat → Prop} {W : World} {eb : Nat} {d : Gp.Dr} {p : Pl} {q : Qv} {S : List UInt8} {C : List Gp.Pc} (h : IAt Kp W eb d p q S C) (n : Int) :
    Calls Try.prog 63 #[.pointer (some ⟨eb, 0, none⟩), .int .i64 n] W fun e w' => IPost Kp eb W (Gp.acked d n) S C e w' := by
  refine iacknowledge_go h n (Wn.ack d.win n).1 (Wn.ack d.win n).2 _ rfl _ rfl _ _ rfl ?_ (fun W1 h1 f1 => ⟨rfl, h1, f1⟩)
  refine (ack_anyN d.win p.w p.wc n W ⟨h.win.e, h.wcap⟩).mono fun e w' ⟨a, c, h1, h2, h3, h4⟩ => ⟨a, c, h1, h.below h3, h3.mono (Nat.le_of_lt h.bk.lt), ?_, h2.cap⟩
  rcases h4 with ⟨e1, e2, e3⟩ | h4
  · rw [e1, e2]; exact (h.below h3).win
  · exact h.row h2.row h4
end Go.Proofs.Ytlclfkogbfigbaa

namespace Go.Proofs.Ytlclfkogbfigbaa
open Go.RowKit
theorem Wn.begin_er (m s b : Int) : ((Wn.begin_ m s b).2 == 0) = Wn.fitB m s b := by
  unfold Wn.begin_ Wn.fitB
  split
  · rename_i h; rw [decide_eq_true h]; rfl
  · rename_i h; rw [decide_eq_false h]; rfl
/-- append([]string(nothing), texts) -/
theorem own_app (a : Option Addr) (c n : Nat) (l : List ByteArray) (hn : n = l.length) (hn2 : n ≤ 1000000) (W : World) (hr : SRow W a l) :
    ∃ v' W', (Builtin.append_ #[25, 25] 25 #[.slice (some ⟨W.heap.size, 0, none⟩) 0 0, .slice a n c]).run Try.prog (W.alloc (.cells #[] 9)) = .ok v' W' ∧ ∃ g cap rest, v' = .slice (some ⟨g, 0, none⟩) n cap ∧ strE.Own W.heap.size W' g cap l rest ∧ Below W.heap.size W W' := by
  subst hn
  have b0 := Rg.al1 W (.cells #[] 9)
  obtain ⟨g, cap, rest, W', h1, h2, h3, _⟩ := app_texts (own_nil W) l a c (hr.below b0) b0.size (by simpa using hn2)
  rw [List.length_nil, Nat.zero_add] at h1
  rw [List.nil_append] at h2
  exact ⟨_, W', h1, g, cap, rest, rfl, h2, b0.trans h3⟩
end Go.Proofs.Ytlclfkogbfigbaa

namespace Go.Proofs.Ytlclfkogbfigbaa
open Go.RowKit
/-- a number's cell -/
def intE : Rg.El Int := { enc := fun x => [.int .i64 x], m := 1, hm := fun _ => rfl, pos := by decide, one := fun x u hu => by simp at hu; subst hu; rfl, ty := 3 }
theorem infoInt : (Try.prog.info? 3).map (fun i => (i.zero, i.size, i.bytes)) = some (some (.int .i64 0), 1, 8) := by kernel_rfl
theorem infoInt' : ∃ i0, Try.prog.info? 3 = some i0 ∧ i0.zero = some (.int .i64 0) ∧ i0.size = 1 ∧ i0.bytes = 8 := by
  have := infoInt
  cases h : Try.prog.info? 3 with
  | none => rw [h] at this; cases this
  | some i => rw [h] at this; simp only [Option.map_some, Option.some.injEq, Prod.mk.injEq] at this; exact ⟨i, rfl, this.1, this.2.1, this.2.2⟩
theorem made_int (n : Nat) : (madeCells (Value.int .i64 0).cells (n * 1)).toList = intE.flat (List.replicate n 0) := by
  have h1 : (Value.int .i64 0).cells = #[.int .i64 0] := rfl
  rw [h1]
  apply List.ext_getElem
  · rw [intE.flat_length]; simp [madeCells]; show n = n * 1; omega
  · intro i h2 h3
    have hi : i < n := by rw [intE.flat_length] at h3; simp at h3; simpa [intE] using h3
    have e := intE.flat_get (l := List.replicate n 0) (i := i) (t := 0) (by simpa using hi) (by decide) []
    rw [List.append_nil, show i * intE.m + 0 = i by show i * 1 + 0 = i; omega, List.getElem?_eq_getElem h3] at e
    simp only [List.getElem_replicate] at e
    have e2 : (intE.flat (List.replicate n 0))[i] = .int .i64 0 := by
      have : (intE.enc 0)[0]? = some (.int .i64 0) := rfl
      rw [this] at e; exact Option.some.inj e
    rw [e2]
    simp [madeCells, Nat.mod_one]
theorem int_put {base g cap : Nat} {W : World} {l : List Int} {rest : List Value} (h : intE.Own base W g cap l rest) {i : Nat} (hi : i < l.length) (s : Int) : intE.Own base (W.setCell ⟨g, i, none⟩ (.int .i64 s)) g cap (l.set i s) rest := by
  have s0 := h.set1 i (.int .i64 s)
  refine h.re (cs := (intE.flat l ++ rest).set i (.int .i64 s)) s0 ?_ (by simpa using h.le) (by simp)
  have e := intE.flat_set hi (t := 0) (by decide) rest (.int .i64 s)
  rw [show i * intE.m + 0 = i by show i * 1 + 0 = i; omega] at e
  rw [e, intE.flat_put hi]
  rfl
theorem int_at {W : World} {b o : Nat} {l : List Int} (h : Rg.At W b o (intE.flat l)) {i : Nat} (hi : i < l.length) : W.cell? ⟨b, o + i, none⟩ = some (.int .i64 l[i]) := by
  have e := (h.elem hi) 0 (.int .i64 l[i]) rfl
  rw [show intE.m = 1 from rfl, Nat.mul_one, Nat.add_zero] at e
  exact e
/-- nothing, or a row of numbers that is read -/
def NRow (W : World) (a : Option Addr) (l : List Int) : Prop := l = [] ∨ ∃ b o, a = some ⟨b, o, none⟩ ∧ b < W.heap.size ∧ Rg.At W b o (intE.flat l)
theorem NRow.below {W W' : World} {a : Option Addr} {l : List Int} (h : NRow W a l) (hb : Below W.heap.size W W') : NRow W' a l := by
  rcases h with h | ⟨b, o, h1, h2, h3⟩
  · exact .inl h
  · exact .inr ⟨b, o, h1, Nat.lt_of_lt_of_le h2 hb.size, h3.below hb h2⟩
theorem NRow.of {W : World} {a : Option Addr} {l : List Int} (h : intE.Row W a l) : NRow W a l := by
  rcases h with ⟨_, h⟩ | h
  · exact .inl h
  · exact .inr h
theorem NRow.cell {W : World} {a : Option Addr} {l : List Int} (h : NRow W a l) {i : Nat} (hi : i < l.length) : ∃ b o, a = some ⟨b, o, none⟩ ∧ b < W.heap.size ∧ W.cell? ⟨b, o + i, none⟩ = some (.int .i64 l[i]) := by
  rcases h with rfl | ⟨b, o, rfl, hb, hat⟩
  · simp at hi
  · exact ⟨b, o, rfl, hb, int_at hat hi⟩
/-- What Numbers answers. -/
def NPost (w : World) (l : List Int) (e : Ending) (w' : World) : Prop := ∃ a c, e = .returned (.slice a l.length c) ∧ Hid (NRow w' a l) ∧ Below w.heap.size w w'
theorem Wn.nums_step (L : List Int) (i n : Nat) (hn : L.length = n) (hi : i < n) : (L.take i ++ List.replicate (n - i) 0).set i (L[i]'(by omega)) = L.take (i + 1) ++ List.replicate (n - (i + 1)) 0 := by
  have e1 : (L.take i).length = i := by rw [List.length_take]; omega
  rw [List.set_append_right _ _ (by omega), e1, Nat.sub_self, show n - i = (n - (i + 1)) + 1 by omega, List.replicate_succ, List.set_cons_zero]
  rw [List.take_succ_eq_append_getElem (by omega : i < L.length), List.append_assoc]
  rfl
end Go.Proofs.Ytlclfkogbfigbaa
