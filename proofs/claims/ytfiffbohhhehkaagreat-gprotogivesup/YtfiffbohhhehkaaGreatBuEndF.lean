/-
  Walks of layer 15: what was taken is noted; packets, one behind the other. Walks of layer 15: takePackets. Walks of layer 15: takePackets.
-/
import Derived.Test.YtfiffbohhhehkaaGreatBuEndE
import Derived.Test.YtfiffbohhhehkaaGreatBuFrC
import Derived.WalkMore
import Derived.Deep.RegionLaw
namespace Go.Proofs.YtfiffbohhhehkaaGreat
open Go.RowKit
theorem infoSp : (Tryz.prog.info? 74).map (fun i => (i.zero, i.size, i.bytes)) = some (some (.agg #[.int .i64 0, .int .i64 0]), 2, 16) := by kernel_rfl
theorem infoSp' : ∃ i0, Tryz.prog.info? 74 = some i0 ∧ i0.zero = some (.agg #[.int .i64 0, .int .i64 0]) ∧ i0.size = 2 ∧ i0.bytes = 16 := by
  have := infoSp
  cases h : Tryz.prog.info? 74 with
  | none => rw [h] at this; cases this
  | some i => rw [h] at this; simp only [Option.map_some, Option.some.injEq, Prod.mk.injEq] at this; exact ⟨i, rfl, this.1, this.2.1, this.2.2⟩
/-- append of places to a row of one's own -/
theorem span_append {base tc : Nat} {t : Option Addr} {l : List (Int × Int)} {W : World} (h : W.ownsRow base 74 2 (.slice t l.length tc) l.length (spE.flat l)) (x : Int × Int) (ad : Addr) (c : Nat) (hnews : ∀ j u, (spE.enc x)[j]? = some u → W.cell? (ad.add j) = some u) (hB : base ≤ W.heap.size) (hn : l.length ≤ 1000000) :
    ∃ g' cap' W', (Builtin.append_ #[27, 27] 27 #[.slice t l.length tc, .slice (some ad) 1 c]).run Tryz.prog W = .ok (.slice (some ⟨g', 0, none⟩) (l.length + 1) cap') W' ∧ W'.ownsRow base 74 2 (.slice (some ⟨g', 0, none⟩) (l.length + 1) cap') (l.length + 1) (spE.flat (l ++ [x])) ∧ W.grownBy W' (Value.slice t l.length tc).ownBlock ∧ ((Value.slice t l.length tc).ownBlock = some g' ∨ W.heap.size ≤ g') := by
  obtain ⟨i0, hi, hz0, hz1, hz2⟩ := infoSp'
  obtain ⟨v', W', r1, r2, r3, r4⟩ := run_append_own (P := Tryz.prog) W base 27 27 74 i0 _ 2 16 Tryz.underlying27 hi hz0 hz1 hz2 rfl (by decide) _ l.length (spE.flat l) h ad 1 c (spE.enc x) rfl hnews (spE.one x) (by unfold maxLen; omega) (by omega) hB
  have e2 : spE.flat l ++ spE.enc x = spE.flat (l ++ [x]) := by rw [spE.flat_append, spE.flat_one]
  rw [e2] at r2
  by_cases hv : Value.slice t l.length tc = .slice none 0 0
  · have hl : l = [] := by
      have : l.length = 0 := by injection hv
      exact List.eq_nil_of_length_eq_zero this
    subst hl
    injection hv with hv1 _ hv3
    subst hv1 hv3
    obtain ⟨g', cap', rest', W2, k1, k2, k3, k4⟩ := spE.append0 (P := Tryz.prog) W base x 27 27 i0 _ 16 Tryz.underlying27 hi hz0 hz1 hz2 rfl ad c hnews hB (by omega)
    have k1' : (Builtin.append_ #[27, 27] 27 #[.slice none ([] : List (Int × Int)).length 0, .slice (some ad) 1 c]).run Tryz.prog W = .ok (.slice (some ⟨g', 0, none⟩) 1 cap') W2 := k1
    rw [r1] at k1'
    cases k1'
    exact ⟨g', cap', _, r1, r2, r3, .inr k4⟩
  · obtain ⟨g, cap, rest, e, ho⟩ := Rg.El.Own.of (E := spE) h hv rfl
    injection e with e1 _ e3
    subst e1 e3
    obtain ⟨g', cap', rest', W2, k1, k2, k3, k4, k5, k6⟩ := ho.append (P := Tryz.prog) x 27 27 i0 _ 16 Tryz.underlying27 hi hz0 hz1 hz2 rfl ad c hnews hB (by omega) (by unfold maxLen; omega)
    rw [r1] at k1
    cases k1
    refine ⟨g', cap', _, r1, r2, r3, ?_⟩
    rcases k6 with rfl | k6
    · exact .inl rfl
    · exact .inr k6
/-- what an append to Took leaves -/
structure Took1 (Kp : Nat → Prop) (base eb : Nat) (W : World) (d : Gp.Dr) (p : Pl) (q : Bu) (S C : List UInt8) (x y : Int) (n1 : Nat) (v' : Value) (W2 : World) : Prop where
  v : ∃ g cap, v' = .slice (some ⟨g, 0, none⟩) n1 cap ∧ EAt Kp base (W2.setCell ⟨eb, 17, none⟩ (.slice (some ⟨g, 0, none⟩) n1 cap)) eb { d with took := d.took ++ [(x, y)] } { p with t := some ⟨g, 0, none⟩, tc := cap } q S C
  bel : Below base W W2
  c17 : W2.cell? ⟨eb, 17, none⟩ = some (.slice p.t d.took.length p.tc)
  fz : ∀ i, W2.frozen? ⟨eb, i, none⟩ = false
  bk : Rg.Bk eb (EC d p q) 66 W2
  keep : ∀ k, k < W.heap.size → (Value.slice p.t d.took.length p.tc).ownBlock ≠ some k → W2.heap[k]? = W.heap[k]?
theorem EAt.took_ne {Kp : Nat → Prop} {base eb : Nat} {W : World} {d : Gp.Dr} {p : Pl} {q : Bu} {S C : List UInt8} (h : EAt Kp base W eb d p q S C) {g : Nat} {cs : Array Value} {T : TypeId} {fz : Nat × Nat} (hg : W.heap[g]? = some (.cells cs T fz)) (hT : T ≠ 74) : (Value.slice p.t d.took.length p.tc).ownBlock ≠ some g := by
  rcases h.took.2 with ⟨e, _⟩ | ⟨g', cap, cur, e, _, hgg, _⟩
  · rw [e]; simp [Value.ownBlock]
  · rw [e]
    intro hx
    simp [Value.ownBlock] at hx
    subst hx
    rw [hg] at hgg
    cases hgg
    exact hT rfl
theorem EAt.push {Kp : Nat → Prop} {base eb : Nat} {W W1 : World} {d : Gp.Dr} {p : Pl} {q : Bu} {S C : List UInt8} (h : EAt Kp base W eb d p q S C) (hb : Below W.heap.size W W1) (x y : Int) (ad : Addr) (c n n1 : Nat) (hnn : d.took.length = n) (hn1 : n + 1 = n1) (k0 : W1.cell? ad = some (.int .i64 x)) (k1 : W1.cell? (ad.add 1) = some (.int .i64 y)) (hn : n ≤ 1000000) :
    ∃ v' W2, (Builtin.append_ #[27, 27] 27 #[.slice p.t n p.tc, .slice (some ad) 1 c]).run Tryz.prog W1 = .ok v' W2 ∧ Took1 Kp base eb W d p q S C x y n1 v' W2 := by
  subst hnn hn1
  have h1 := h.below hb
  obtain ⟨g', cap', W2, r1, r2, r3, r4⟩ := span_append h1.took (x, y) ad c (fun j u hj => by
    match j, hj with
    | 0, hj => simp [spE] at hj; subst hj; rw [show ad.add 0 = ad from rfl]; exact k0
    | 1, hj => simp [spE] at hj; subst hj; exact k1) h1.lt hn
  have hebne := h1.took_ne h1.bk (by decide)
  have hk2 : Rg.Bk eb (EC d p q) 66 W2 := h1.bk.same (r3.block eb h1.bk.lt (fun e => hebne e.symm))
  have hbel : Below base W1 W2 := ⟨r3.os, r3.tape, r3.output, r3.size, fun k hk => r3.block k (Nat.lt_of_lt_of_le hk h1.lt) (fun e => by have := (h1.took.lt k e.symm).1; omega)⟩
  refine ⟨_, W2, r1, ⟨⟨g', cap', rfl, ?_⟩, (hb.mono h.lt).trans hbel, hk2.cell 17, hk2.thaw, hk2, fun k hk hne => ?_⟩⟩
  · have hkk : ∀ k, k < W1.heap.size → k ≠ eb → (∀ v ∈ [q.sb, q.cb, .slice p.t d.took.length p.tc], v.ownBlock ≠ some k) → (W2.setCell ⟨eb, 17, none⟩ (.slice (some ⟨g', 0, none⟩) (d.took.length + 1) cap')).heap[k]? = W1.heap[k]? := fun k hk hke hv => by
      rw [Below.heap_setCell _ _ _ _ hke]
      exact r3.block k hk (fun e => hv _ (by simp) e.symm)
    have hvv : ∀ z ∈ [q.sb, q.cb, .slice (some ⟨g', 0, none⟩) (d.took ++ [(x, y)]).length cap'], ∀ g, z.ownBlock = some g → (∃ v ∈ [q.sb, q.cb, .slice p.t d.took.length p.tc], v.ownBlock = some g) ∨ W1.heap.size ≤ g := by
      intro z hm g hg
      simp only [List.mem_cons, List.not_mem_nil, or_false] at hm
      rcases hm with rfl | rfl | rfl
      · exact .inl ⟨q.sb, by simp, hg⟩
      · exact .inl ⟨q.cb, by simp, hg⟩
      · simp [Value.ownBlock] at hg
        subst hg
        rcases r4 with e | e
        · exact .inl ⟨_, by simp, e⟩
        · exact .inr e
    have hbs : Below base W1 (W2.setCell ⟨eb, 17, none⟩ (.slice (some ⟨g', 0, none⟩) (d.took.length + 1) cap')) := hbel.setCell (p := ⟨eb, 17, none⟩) h.new _
    have hbk2 : Rg.Bk eb (EC { d with took := d.took ++ [(x, y)] } { p with t := some ⟨g', 0, none⟩, tc := cap' } q) 66 (W2.setCell ⟨eb, 17, none⟩ (.slice (some ⟨g', 0, none⟩) (d.took.length + 1) cap')) := by
      have := hk2.set 17 (.slice (some ⟨g', 0, none⟩) (d.took.length + 1) cap')
      have e : EC { d with took := d.took ++ [(x, y)] } { p with t := some ⟨g', 0, none⟩, tc := cap' } q = (EC d p q).set 17 (.slice (some ⟨g', 0, none⟩) (d.took.length + 1) cap') := by
        show EC _ _ _ = _
        unfold EC
        simp [List.set]
      rw [e]; exact this
    have hbat : ∀ (v : Value) (B : List UInt8), BAt base W1 v B → BAt base (W2.setCell ⟨eb, 17, none⟩ (.slice (some ⟨g', 0, none⟩) (d.took.length + 1) cap')) v B := fun v B hB => by
      refine hB.kept fun g hg => ?_
      obtain ⟨cs, fz, hT⟩ := Lib.ownsRowF_kind hB.own g hg
      have hg1 : g ≠ eb := fun e => by
        have k := h1.bk
        unfold Rg.Bk at k
        rw [← e, hT] at k
        cases k
      rw [Below.heap_setCell _ _ _ _ hg1]
      exact r3.block g (hB.own.lt g hg).2 (fun e => h1.took_ne hT (by decide) e.symm)
    refine ⟨hbk2, h.new, h1.win.kept hbs hkk hvv, h.wcap, h1.ahead.kept hbs hkk hvv, h1.queue.kept hbs hkk hvv, ?_, h.sa, hbat _ _ h1.said, h.ca, hbat _ _ h1.came, h.apart⟩
    have e3 : (d.took ++ [(x, y)]).length = d.took.length + 1 := by simp
    show World.ownsRow _ base 74 2 (.slice (some ⟨g', 0, none⟩) (d.took ++ [(x, y)]).length cap') (d.took ++ [(x, y)]).length (spE.flat (d.took ++ [(x, y)]))
    rw [e3]
    refine r2.kept (row := some eb) ⟨rfl, rfl, rfl, by simp [World.setCell], fun k _ hk => Below.heap_setCell _ _ _ _ (fun e => hk (by simp [e]))⟩ (.inr ?_)
    intro hx
    simp [Value.ownBlock] at hx
    subst hx
    rcases r4 with e | e
    · exact hebne e
    · have := h1.bk.lt; omega
  · rw [r3.block k (Nat.lt_of_lt_of_le hk hb.size) (fun e => hne e.symm)]
    exact hb.block k hk
end Go.Proofs.YtfiffbohhhehkaaGreat

namespace Go.Proofs.YtfiffbohhhehkaaGreat
open Go.RowKit
namespace Gp
theorem allFrom_len (d : Dr) (hz : Gf.code d.size ≠ 0) (hrt : Wn.rt d.win = true) (hm : d.win.md = 8) : ∀ (l : List ByteArray) (i : Nat), (∀ s ∈ l, (s.size : Int) ≤ d.size) → (allFrom d l i).length ≤ 4200 * l.length
  | [], _, _ => Nat.zero_le _
  | s :: r, i, h => by
    have ih := allFrom_len d hz hrt hm r (i + 1) (fun x hx => h x (by simp [hx]))
    have hn := Wn.num_lt hrt i
    have := packet_len (d := d) hn.1 (by omega) hz (h s (by simp))
    unfold allFrom
    rw [List.length_append, List.length_cons]
    omega
theorem all_len {d : Dr} (hb : base d) (hr : runs d) : (all d).length ≤ 29400 := by
  have hrt := runs_rt hb hr
  have h := allFrom_len d hb.2.1 hrt hr.2.2.2.1 d.win.l 0 (fun s hs => (hr.1 s hs).2)
  have : d.win.l.length ≤ 7 := by
    obtain ⟨r1, r2, r3, r4, r5, r6, r7, r8⟩ := hr
    have := hb.2.2.2.2.1
    omega
  unfold all
  omega
theorem ctrl_len' (h l : Int) : (ctrl h l).length = 6 := rfl
theorem opening_len (d : Dr) (st : Int) : (opening d st).length = 6 := by unfold opening; split; rfl; split <;> rfl
theorem begins_len (d : Dr) (q low : Int) : (begins d q low).2.length ≤ 6 := by
  unfold begins
  dsimp only
  repeat' split
  all_goals first
    | exact Nat.le_of_eq (opening_len _ _)
    | exact Nat.le_of_eq rfl
    | exact Nat.zero_le _
theorem closes_len (d : Dr) : (closes d).2.length ≤ 6 := by
  unfold closes
  repeat' split
  all_goals first
    | exact Nat.le_of_eq rfl
    | exact Nat.zero_le _
theorem takes2_len {d : Dr} (h : right d) (f : Gf.Fr) : (takes2 d f).2.1.length ≤ 40000 ∧ (takes2 d f).2.2.length ≤ f.data.length := by
  have hO : right (if d.phase = 1 ∧ d.step = 2 then open_ d else d) := by
    split
    · exact right_open h.1
    · exact h
  unfold takes2
  generalize (if d.phase = 1 ∧ d.step = 2 then open_ d else d) = e at *
  dsimp only
  split
  · exact ⟨by show 6 ≤ 40000; omega, Nat.zero_le _⟩
  split
  · exact ⟨Nat.zero_le _, Nat.zero_le _⟩
  rename_i h3 h2
  have hp2 : e.phase = 2 := Classical.byContradiction fun x => h2 x
  have hr : runs e := by
    rcases hO.2 with ⟨h, _⟩ | ⟨_, h⟩ | h | h | h
    · omega
    · exact h
    all_goals omega
  obtain ⟨ab, ar⟩ := right_acked hO.1 hr f.lo
  split
  · split
    · exact ⟨Nat.zero_le _, Nat.zero_le _⟩
    · have hw := wait1 ab.2.2.2.2.2.2.2.2.2.1 ab.2.2.2.2.2.2.2.2.2.2.1
      obtain ⟨b1, b2, b3, b4, b5, b6, b7, b8, b9, b10, b11, b12, b13, b14, b15⟩ := ab
      have := all_len (d := { acked e f.lo with wait := or1 (acked e f.lo).wait }) ⟨b1, b2, b3, b4, b5, b6, b7, b8, b9, hw.1, hw.2, b12, b13, b14, b15⟩ ar
      exact ⟨Nat.le_trans this (by omega), Nat.zero_le _⟩
  · split
    · exact ⟨by show 6 ≤ 40000; omega, Nat.le_refl _⟩
    · split
      · exact ⟨by show 6 ≤ 40000; omega, Nat.zero_le _⟩
      · exact ⟨by show 6 ≤ 40000; omega, Nat.zero_le _⟩
theorem takes_len {d : Dr} (h : right d) (f : Gf.Fr) : (takes d f).2.1.length ≤ 40000 ∧ (takes d f).2.2.length ≤ f.data.length := by
  have hb := h.1
  have hw := wait2 hb.2.2.2.2.2.2.2.2.2.1 hb.2.2.2.2.2.2.2.2.2.2.1
  have h2 := right_wait h hw.1 hw.2
  unfold takes
  dsimp only
  split
  · exact ⟨by have := begins_len { d with wait := or2 d.wait } (7 - f.hi) f.lo; dsimp only; omega, Nat.zero_le _⟩
  split
  · exact ⟨by have := closes_len { d with wait := or2 d.wait }; dsimp only; omega, Nat.zero_le _⟩
  · exact takes2_len h2 f
theorem data_len {f : Gf.Fr} (h : Gf.ok f) : f.data.length ≤ 4096 := by
  rcases h.2 with ⟨_, _, e⟩ | ⟨_, hz, e⟩ | ⟨_, hz, e⟩
  · rw [e]; exact Nat.zero_le _
  · have := size_pos hz; omega
  · have := size_pos hz; omega
end Gp
/-- what a round of takePackets finds -/
structure TI (Kp : Nat → Prop) (base eb : Nat) (d1 : Gp.Dr) (L0 : Nat) (S0 C0 : List UInt8) (W wr : World) (dm : Gp.Dr) (p : Pl) (q : Bu) (Si Ci : List UInt8) (f : Nat) : Prop where
  at_ : EAt Kp base wr eb dm p q Si Ci
  bel : Below base W wr
  kp : ∀ k C, Rg.Bk k C 29 W → Rg.Bk k C 29 wr
  math : ∃ out came, Si = S0 ++ out ∧ Ci = C0 ++ came ∧ Gp.feedN f dm out came = Gp.feedN (L0 + 1) d1 [] []
  rt : Gp.right dm
  fuel : dm.buf.length < f
  mx : dm.at_ + dm.buf.length ≤ 1099511627776
  bl : dm.buf.length ≤ L0
  ls : Si.length ≤ S0.length + 40000 * (L0 - dm.buf.length)
  lc : Ci.length ≤ C0.length + 40000 * (L0 - dm.buf.length)
  lt : dm.took.length ≤ L0 - dm.buf.length
/-- the drive behind what was found is noted, and cut off -/
def Gp.noted (d : Gp.Dr) : Gp.Dr := { d with took := d.took ++ [(d.at_ + ((Gf.scan 0 d.buf).a : Int), d.at_ + ((Gf.scan 0 d.buf).b : Int))], buf := d.buf.drop (Gf.scan 0 d.buf).b, at_ := d.at_ + ((Gf.scan 0 d.buf).b : Int) }
theorem right_noted {d : Gp.Dr} (h : Gp.right d) (ha : d.at_ + d.buf.length ≤ 1099511627776) (hs : (Gf.scan 0 d.buf).ok = true) : Gp.right (Gp.noted d) ∧ Gf.ok (Gf.scan 0 d.buf).f ∧ (Gf.scan 0 d.buf).b ≤ d.buf.length ∧ 6 ≤ (Gf.scan 0 d.buf).b ∧ (Gf.scan 0 d.buf).a ≤ (Gf.scan 0 d.buf).b := by
  obtain ⟨i, n, h1, h2, h3, h4, h5⟩ := Gp.scan_yes d.buf 0 hs
  have hat : d.at_ + ((Gf.scan 0 d.buf).b : Int) = d.at_ + ((i + n : Nat) : Int) := by rw [h2]; omega
  obtain ⟨b1, b2, b3, b4, b5, b6, b7, b8, b9, b10, b11, b12, b13, b14, b15⟩ := h.1
  exact ⟨⟨⟨b1, b2, b3, b4, b5, b6, b7, by show 0 ≤ d.at_ + _; omega, by show d.at_ + _ ≤ _; rw [hat]; omega, b10, b11, b12, b13, b14, b15⟩, h.2⟩, (Gf.text_read h3).1, by omega, by omega, by omega⟩
/-- a packet was taken -/
theorem TI.next {Kp : Nat → Prop} {base eb : Nat} {d1 : Gp.Dr} {L0 : Nat} {S0 C0 : List UInt8} {W wr : World} {dm : Gp.Dr} {p : Pl} {q : Bu} {Si Ci : List UInt8} {f : Nat} (h : TI Kp base eb d1 L0 S0 C0 W wr dm p q Si Ci f) (hs : (Gf.scan 0 dm.buf).ok = true) {w2 : World} (hb : Below base W w2) (hkp : ∀ k C, Rg.Bk k C 29 W → Rg.Bk k C 29 w2)
    (he : ES Kp base w2 eb (Gp.takes (Gp.noted dm) (Gf.scan 0 dm.buf).f).1 (Si ++ (Gp.takes (Gp.noted dm) (Gf.scan 0 dm.buf).f).2.1) (Ci ++ (Gp.takes (Gp.noted dm) (Gf.scan 0 dm.buf).f).2.2)) :
    (∃ p' q' f', TI Kp base eb d1 L0 S0 C0 W w2 (Gp.takes (Gp.noted dm) (Gf.scan 0 dm.buf).f).1 p' q' (Si ++ (Gp.takes (Gp.noted dm) (Gf.scan 0 dm.buf).f).2.1) (Ci ++ (Gp.takes (Gp.noted dm) (Gf.scan 0 dm.buf).f).2.2) f') ∧ (Gp.takes (Gp.noted dm) (Gf.scan 0 dm.buf).f).1.buf.length < dm.buf.length := by
  obtain ⟨p', q', he⟩ := he
  obtain ⟨hr, hok, hle, h6, _⟩ := right_noted h.rt h.mx hs
  have hT := Gp.right_takes hr hok
  have hK := Gp.takes_keeps (Gp.noted dm) (Gf.scan 0 dm.buf).f
  have hL := Gp.takes_len hr (Gf.scan 0 dm.buf).f
  have hD := Gp.data_len hok
  have htk : (Gp.takes (Gp.noted dm) (Gf.scan 0 dm.buf).f).1.took = (Gp.noted dm).took := by
    have := Gp.takes_put (Gp.noted dm) (Gp.noted dm).buf (Gp.noted dm).at_ (Gp.noted dm).took (Gf.scan 0 dm.buf).f
    have e : Gp.put (Gp.noted dm) (Gp.noted dm).buf (Gp.noted dm).at_ (Gp.noted dm).took = Gp.noted dm := rfl
    rw [e] at this
    rw [this]
    rfl
  have hbl : (Gp.noted dm).buf.length = dm.buf.length - (Gf.scan 0 dm.buf).b := by show (dm.buf.drop _).length = _; rw [List.length_drop]
  have hat : (Gp.noted dm).at_ = dm.at_ + ((Gf.scan 0 dm.buf).b : Int) := rfl
  obtain ⟨out, came, e1, e2, e3⟩ := h.math
  have hf := h.fuel
  obtain ⟨f', rfl⟩ : ∃ f', f = f' + 1 := ⟨f - 1, by omega⟩
  have hm := h.mx
  have hbl0 := h.bl
  have hls := h.ls
  have hlc := h.lc
  have hlt := h.lt
  have h1 := hL.1
  have h2 := hL.2
  refine ⟨⟨p', q', f', he, hb, hkp, ⟨_, _, by rw [e1, List.append_assoc], by rw [e2, List.append_assoc], ?_⟩, hT, by rw [hK.2, hbl]; omega, by rw [hK.1, hK.2, hbl, hat]; omega, by rw [hK.2, hbl]; omega, ?_, ?_, ?_⟩, by rw [hK.2, hbl]; omega⟩
  · rw [← e3]
    conv => rhs; unfold Gp.feedN
    dsimp only
    rw [if_pos hs]
    rfl
  · rw [List.length_append, hK.2, hbl]; omega
  · rw [List.length_append, hK.2, hbl]; omega
  · rw [htk, hK.2, hbl]
    show (dm.took ++ [_]).length ≤ _
    rw [List.length_append, List.length_singleton]
    omega
/-- no packet is found any more -/
theorem TI.stop {Kp : Nat → Prop} {base eb : Nat} {d1 : Gp.Dr} {L0 : Nat} {S0 C0 : List UInt8} {W wr : World} {dm : Gp.Dr} {p : Pl} {q : Bu} {Si Ci : List UInt8} {f : Nat} (h : TI Kp base eb d1 L0 S0 C0 W wr dm p q Si Ci f) (hs : (Gf.scan 0 dm.buf).ok = false) :
    Gp.feedN (L0 + 1) d1 [] [] = ({ dm with buf := dm.buf.drop (Gf.scan 0 dm.buf).a, at_ := dm.at_ + ((Gf.scan 0 dm.buf).a : Int) }, (Gp.feedN (L0 + 1) d1 [] []).2) ∧ Si = S0 ++ (Gp.feedN (L0 + 1) d1 [] []).2.1 ∧ Ci = C0 ++ (Gp.feedN (L0 + 1) d1 [] []).2.2 := by
  obtain ⟨out, came, e1, e2, e3⟩ := h.math
  have hf := h.fuel
  obtain ⟨f', rfl⟩ : ∃ f', f = f' + 1 := ⟨f - 1, by omega⟩
  rw [← e3]
  unfold Gp.feedN
  dsimp only
  rw [if_neg (by simp [hs])]
  exact ⟨rfl, e1, e2⟩
/-- how many bytes are kept, as the cell tells -/
def bufLen (eb : Nat) (wr : World) : Nat := match wr.cell? ⟨eb, 12, none⟩ with
  | some (.string s) => s.size
  | _ => 0
theorem EAt.bufLen {Kp : Nat → Prop} {base eb : Nat} {W : World} {d : Gp.Dr} {p : Pl} {q : Bu} {S C : List UInt8} (h : EAt Kp base W eb d p q S C) : Go.Proofs.YtfiffbohhhehkaaGreat.bufLen eb W = d.buf.length := by
  have e : W.cell? ⟨eb, 12, none⟩ = some (.string ⟨d.buf.toArray⟩) := h.bk.cell 12
  unfold Go.Proofs.YtfiffbohhhehkaaGreat.bufLen
  rw [e]
  exact size_bytes d.buf
end Go.Proofs.YtfiffbohhhehkaaGreat

namespace Go.Proofs.YtfiffbohhhehkaaGreat
open Go.RowKit
/-- what the loop of takePackets keeps -/
def TR (Kp : Nat → Prop) (base eb : Nat) (d1 : Gp.Dr) (L0 : Nat) (S0 C0 : List UInt8) (W wr : World) : Prop := ∃ dm p q Si Ci f, TI Kp base eb d1 L0 S0 C0 W wr dm p q Si Ci f
set_option maxHeartbeats 4000000 in
set_option maxRecDepth 100000 in
theorem takePackets_go {Kp : Nat → Prop} {base eb : Nat} {W : World} {d : Gp.Dr} {L0 : Nat} {S C : List UInt8} (h0 : Hid (TR Kp base eb d L0 S C W W)) (Post : Ending → World → Prop) (hL0 : L0 ≤ 40000)
    (HS : Hid (∀ W1 dm p q Si Ci f, TI Kp base eb d L0 S C W W1 dm p q Si Ci f → Calls Tryz.prog 56 #[.string ⟨dm.buf.toArray⟩] W1 fun e w' => e = .returned (scanV (Gf.scan 0 dm.buf)) ∧ Below W1.heap.size W1 w'))
    (HN : Hid (∀ W1 dm p q Si Ci f, TI Kp base eb d L0 S C W W1 dm p q Si Ci f → (Gf.scan 0 dm.buf).ok = false → ∀ W2, Below W1.heap.size W1 W2 → Calls Tryz.prog 57 #[.pointer (some ⟨eb, 0, none⟩), .int .i64 ((Gf.scan 0 dm.buf).a : Int)] W2 fun e w' => e = .returned (.tuple #[]) ∧ Post (.returned (.tuple #[])) w'))
    (HC : Hid (∀ W1 dm p q Si Ci f, TI Kp base eb d L0 S C W W1 dm p q Si Ci f → (Gf.scan 0 dm.buf).ok = true → ∀ W2 p2 q2, EAt Kp base W2 eb { dm with took := dm.took ++ [(dm.at_ + ((Gf.scan 0 dm.buf).a : Int), dm.at_ + ((Gf.scan 0 dm.buf).b : Int))] } p2 q2 Si Ci → Calls Tryz.prog 57 #[.pointer (some ⟨eb, 0, none⟩), .int .i64 ((Gf.scan 0 dm.buf).b : Int)] W2 fun e w' => e = .returned (.tuple #[]) ∧ Hid (ES Kp base w' eb (Gp.noted dm) Si Ci) ∧ Hid (Fr base eb W2 w')))
    (HT : Hid (∀ W1 dm p q Si Ci f, TI Kp base eb d L0 S C W W1 dm p q Si Ci f → (Gf.scan 0 dm.buf).ok = true → ∀ W2 p2 q2, EAt Kp base W2 eb { Gp.noted dm with wait := Gp.or2 dm.wait } p2 q2 Si Ci → Below base W W2 → (∀ k C, Rg.Bk k C 29 W → Rg.Bk k C 29 W2) → Calls Tryz.prog 58 #[.pointer (some ⟨eb, 0, none⟩), .agg #[.int .i64 (Gf.scan 0 dm.buf).f.ty, .int .i64 (Gf.scan 0 dm.buf).f.hi, .int .i64 (Gf.scan 0 dm.buf).f.lo, .int .i64 (Gf.scan 0 dm.buf).f.sz, .string ⟨(Gf.scan 0 dm.buf).f.data.toArray⟩]] W2 fun e w' => e = .returned (.tuple #[]) ∧ Hid (TR Kp base eb d L0 S C W w') ∧ Hid (bufLen eb w' < dm.buf.length))) :
    Calls Tryz.prog 32 #[.pointer (some ⟨eb, 0, none⟩)] W Post := by
  go_enter Tryz.func32, Tryz.ntmps32
  go_wp2
  go_step3
  go_wp2
  go_step3
  go_wp2
  go_loopw [4] (fun _ wr => Hid (TR Kp base eb d L0 S C W wr)) (fun _ wr => bufLen eb wr)
  case atStart => exact h0
  case round =>
    clear h0
    obtain ⟨dm, p, q, Si, Ci, f, hti⟩ := hrel.out
    clear hrel
    have hbl := Rg.hid hti.at_.bufLen
    have c12 : wr.cell? ⟨eb, 12, none⟩ = some (.string ⟨dm.buf.toArray⟩) := hti.at_.bk.cell 12
    have HS1 := Rg.hid (HS.out wr dm p q Si Ci f hti)
    have HN1 := Rg.hid (HN.out wr dm p q Si Ci f hti)
    have HC1 := Rg.hid (HC.out wr dm p q Si Ci f hti)
    have HT1 := Rg.hid (HT.out wr dm p q Si Ci f hti)
    have hmx := hti.mx
    have hat0 := hti.rt.1.2.2.2.2.2.2.2.1
    have hw0 := hti.rt.1.2.2.2.2.2.2.2.2.2.1
    have hw3 := hti.rt.1.2.2.2.2.2.2.2.2.2.2.1
    have hlt := hti.lt
    have hblL := hti.bl
    have hbel := Rg.hid hti.bel
    have hkd := Rg.hid hti.kp
    have hE := Rg.hid hti.at_
    have hrn := Rg.hid (fun hs => right_noted hti.rt hti.mx hs)
    have hnoted : Hid (Gp.noted dm = { dm with took := dm.took ++ [(dm.at_ + ((Gf.scan 0 dm.buf).a : Int), dm.at_ + ((Gf.scan 0 dm.buf).b : Int))], buf := dm.buf.drop (Gf.scan 0 dm.buf).b, at_ := dm.at_ + ((Gf.scan 0 dm.buf).b : Int) }) := rfl
    clear HS HN HC HT hti
    obtain ⟨dn, hdn⟩ : ∃ dn, dn = Gp.noted dm := ⟨_, rfl⟩
    rw [← hdn] at HC1 HT1 hnoted hrn
    clear hdn
    unfold scanV at HS1
    generalize Gf.scan 0 dm.buf = X at *
    obtain ⟨fr, xa, xb, ok⟩ := X
    obtain ⟨ty, hi, lo, sz, data⟩ := fr
    dsimp only at HS1 HN1 HC1 HT1 hnoted hrn
    generalize (⟨data.toArray⟩ : ByteArray) = D at *
    have k0 := fun w1 : World => Rg.hid (show Rg.Bk w1.heap.size [.int .i64 ty, .int .i64 hi, .int .i64 lo, .int .i64 sz, .string D] 80 ((w1.alloc (.cells #[.int .i64 ty, .int .i64 hi, .int .i64 lo, .int .i64 sz, .string D] 80)).alloc (.cells #[.int .i64 (xa : Int), .int .i64 (xb : Int)] 74)) from (Rg.Bk.new rfl).old _)
    have k1 := fun w1 : World => Rg.hid (show Rg.Bk (w1.heap.size + 1) [.int .i64 (xa : Int), .int .i64 (xb : Int)] 74 ((w1.alloc (.cells #[.int .i64 ty, .int .i64 hi, .int .i64 lo, .int .i64 sz, .string D] 80)).alloc (.cells #[.int .i64 (xa : Int), .int .i64 (xb : Int)] 74)) from Rg.Bk.new (by simp))
    go_upto_region 1 with (go_at_call 56; refine HS1.out.mono ?_; rintro e w1 ⟨rfl, b1⟩)
    replace k0 := k0 w1
    replace k1 := k1 w1
    have b2 := Rg.hid (Rg.chain b1 (Rg.al2 w1 (.cells #[.int .i64 ty, .int .i64 hi, .int .i64 lo, .int .i64 sz, .string D] 80) (.cells #[.int .i64 (xa : Int), .int .i64 (xb : Int)] 74)))
    generalize World.alloc _ _ = w2 at *
    obtain ⟨F, hF⟩ : ∃ F, F = w1.heap.size := ⟨_, rfl⟩
    obtain ⟨P, hP⟩ : ∃ P, P = w1.heap.size + 1 := ⟨_, rfl⟩
    rw [← hP] at k1 ⊢
    rw [← hF] at k0 ⊢
    have hF1 : Hid (wr.heap.size ≤ F) := by show _ ≤ _; rw [hF]; exact b1.size
    have hP1 : Hid (wr.heap.size ≤ P) := by show _ ≤ _; rw [hP]; exact Nat.le_succ_of_le b1.size
    clear hF hP b1 HS1 c12
    have kp0 : w2.cell? ⟨P, 0, none⟩ = some (.int .i64 (xa : Int)) := k1.out.cell 0
    have kp1 : w2.cell? ⟨P, 1, none⟩ = some (.int .i64 (xb : Int)) := k1.out.cell 1
    cases ok with
    | false =>
      have HN2 := Rg.hid (HN1.out rfl w2 b2.out)
      clear HN1 HC1 HT1 hrn hE k0 k1
      go_wp2_with (go_at_call 57; refine HN2.out.mono ?_; rintro e w3 ⟨rfl, hp⟩)
      simp only [Exit.noGoto]
      go_end0
      exact hp
    | true =>
      obtain ⟨hr1, _, hr3, hr4, hr5⟩ := hrn.out rfl
      have HC2 := Rg.hid (HC1.out rfl)
      have HT2 := Rg.hid (HT1.out rfl)
      clear HN1 HC1 HT1 hrn hr1
      obtain ⟨at0, hat⟩ : ∃ a, dm.at_ = a := ⟨_, rfl⟩
      obtain ⟨tn, htn⟩ : ∃ n, dm.took.length = n := ⟨_, rfl⟩
      obtain ⟨tn1, htn1⟩ : ∃ n, tn + 1 = n := ⟨_, rfl⟩
      obtain ⟨X1, hX1⟩ : ∃ x : Int, at0 + (xa : Int) = x := ⟨_, rfl⟩
      obtain ⟨Y1, hY1⟩ : ∃ x : Int, at0 + (xb : Int) = x := ⟨_, rfl⟩
      have hE2 := hE.out.below b2.out
      have c17 : w2.cell? ⟨eb, 17, none⟩ = some (.slice p.t tn p.tc) := by rw [← htn]; exact hE2.bk.cell 17
      have c13 : w2.cell? ⟨eb, 13, none⟩ = some (.int .i64 at0) := by rw [← hat]; exact hE2.bk.cell 13
      have s1 : wrap64 (at0 + (xa : Int)) = X1 := by rw [← hX1]; unfold wrap64; omega
      have s2 : wrap64 (at0 + (xb : Int)) = Y1 := by rw [← hY1]; unfold wrap64; omega
      have s3 : IntKind.i64.wrap (at0 + (xa : Int)) = X1 := by rw [← hX1, IntKind.wrap_i64]; omega
      have s4 : IntKind.i64.wrap (at0 + (xb : Int)) = Y1 := by rw [← hY1, IntKind.wrap_i64]; omega
      have fz := hE2.bk.thaw
      have htk1 : Hid (∀ k, wr.heap.size ≤ k → (Value.slice p.t dm.took.length p.tc).ownBlock ≠ some k) := fun k hk e => by have := (hE.out.took.lt k e).2; omega
      have HA : Hid (∀ W1 (ad : Addr), Below w2.heap.size w2 W1 → W1.cell? ad = some (.int .i64 X1) → W1.cell? (ad.add 1) = some (.int .i64 Y1) → ∃ v' W2, (Builtin.append_ #[27, 27] 27 #[.slice p.t tn p.tc, .slice (some ad) 1 1]).run Tryz.prog W1 = .ok v' W2 ∧ Took1 Kp base eb w2 dm p q Si Ci X1 Y1 tn1 v' W2) := fun W1 ad hb e1 e2 => hE2.push hb X1 Y1 ad 1 tn tn1 htn htn1 e1 e2 (by omega)
      replace htn := Rg.hid htn
      replace htn1 := Rg.hid htn1
      replace hX1 := Rg.hid hX1
      replace hY1 := Rg.hid hY1
      replace hat := Rg.hid hat
      have hlt1 : eb < w2.heap.size := hE2.bk.lt
      have hPe : Hid (P ≠ eb) := fun e => by have := hE.out.bk.lt; have := hP1.out; omega
      have hlt2 : P < w2.heap.size := k1.out.lt
      obtain ⟨v', w3, hap, ht3⟩ := HA.out (w2.alloc (.cells #[.int .i64 X1, .int .i64 Y1] 74)).drew ⟨w2.heap.size, 0, none⟩ ((Rg.al1 _ _).drew) (Rg.cell_new rfl rfl) (Rg.cell_new rfl rfl)
      obtain ⟨⟨g, cap, rfl, hE3⟩, hb3, e17, fz3, bk3, hkp⟩ := ht3
      rw [htn.out] at e17
      replace hE3 := Rg.hid hE3
      replace hb3 := Rg.hid hb3
      replace hkp := Rg.hid hkp
      have j13 : (w3.setCell ⟨eb, 17, none⟩ (.slice (some ⟨g, 0, none⟩) tn1 cap)).cell? ⟨eb, 13, none⟩ = some (.int .i64 at0) := by rw [← hat.out]; exact hE3.out.bk.cell 13
      have e13 : w3.cell? ⟨eb, 13, none⟩ = some (.int .i64 at0) := by rw [← hat.out]; exact bk3.cell 13
      have a13 : (w2.alloc (.cells #[.int .i64 X1, .int .i64 Y1] 74)).drew.cell? ⟨eb, 13, none⟩ = some (.int .i64 at0) := by rw [← hat.out]; exact (hE2.alloc _).bk.cell 13
      have ap0 : (w2.alloc (.cells #[.int .i64 X1, .int .i64 Y1] 74)).drew.cell? ⟨P, 0, none⟩ = some (.int .i64 (xa : Int)) := (k1.out.old _).cell 0
      have ap1 : (w2.alloc (.cells #[.int .i64 X1, .int .i64 Y1] 74)).drew.cell? ⟨P, 1, none⟩ = some (.int .i64 (xb : Int)) := (k1.out.old _).cell 1
      have kP3 : w3.heap[P]? = w2.heap[P]? := hkp.out P hlt2 (htk1.out P hP1.out)
      have ep0 : w3.cell? ⟨P, 0, none⟩ = some (.int .i64 (xa : Int)) := by rw [World.cell?_of_block (a := ⟨P, 0, none⟩) kP3]; exact kp0
      have ep1 : w3.cell? ⟨P, 1, none⟩ = some (.int .i64 (xb : Int)) := by rw [World.cell?_of_block (a := ⟨P, 1, none⟩) kP3]; exact kp1
      have jp0 : (w3.setCell ⟨eb, 17, none⟩ (.slice (some ⟨g, 0, none⟩) tn1 cap)).cell? ⟨P, 0, none⟩ = some (.int .i64 (xa : Int)) := by rw [World.cell?_of_block (a := ⟨P, 0, none⟩) (Below.heap_setCell _ _ _ _ (by show P ≠ eb; exact hPe.out))]; exact ep0
      have jp1 : (w3.setCell ⟨eb, 17, none⟩ (.slice (some ⟨g, 0, none⟩) tn1 cap)).cell? ⟨P, 1, none⟩ = some (.int .i64 (xb : Int)) := by rw [World.cell?_of_block (a := ⟨P, 1, none⟩) (Below.heap_setCell _ _ _ _ (by show P ≠ eb; exact hPe.out))]; exact ep1
      replace hap := Rg.hid hap
      have hFe : Hid (F ≠ eb) := fun e => by have := hE.out.bk.lt; have := hF1.out; omega
      have kF3 : Hid (Rg.Bk F [.int .i64 ty, .int .i64 hi, .int .i64 lo, .int .i64 sz, .string D] 80 w3) := k0.out.same (hkp.out F k0.out.lt (htk1.out F hF1.out))
      have hbe := Rg.hid hE.out.new
      have hdw : Hid (dn.wait = dm.wait) := by rw [hnoted.out]; rfl
      have hbelw := Rg.hid (hbel.out.trans (b2.out.mono hE.out.lt))
      have hkd3 : Hid (∀ k C, Rg.Bk k C 29 W → Rg.Bk k C 29 (w3.setCell ⟨eb, 17, none⟩ (.slice (some ⟨g, 0, none⟩) tn1 cap))) := fun k C h => by
        have h1 := hkd.out k C h
        have h2 := h1.below b2.out h1.lt
        have h3 := h2.same (hkp.out k h2.lt ((hE.out.below b2.out).took_ne h2 (by decide)))
        refine h3.other (fun e => ?_) _
        have hk := hE.out.bk
        unfold Rg.Bk at hk h1
        rw [← e, h1] at hk
        cases hk
      rw [← hX1.out, ← hY1.out, ← hat.out] at hE3
      clear hE hE2 hmx hat0 HA htk1 b2 hbel hnoted kP3 bk3 k0 k1
      go_wp2
      refine wp_region_held_drew (S := (fun (w' : World) => w'.cell? ⟨eb, 13, none⟩ = some (.int .i64 at0) ∧ w'.cell? ⟨P, 0, none⟩ = some (.int .i64 (xa : Int)) ∧ w'.cell? ⟨P, 1, none⟩ = some (.int .i64 (xb : Int)))) (by kernel_rfl) ?_ (fun hH0 => ?_)
      · exact ⟨c13, kp0, kp1⟩
      refine wpAnyH_take (i := 0) (oi := { dst := some 21, op := _, type := _, pos := _, after := _, guard := _ }) (v := ?_) rfl (by kernel_rfl) (by kernel_rfl) (by kernel_rfl) (fun _ _ _ h => h) (Or.inl ⟨by rfl, ?_⟩) (by assumption) ?_
      rotate_left
      · (intro w hSw; (try dsimp only at hSw); go_simp); (try with_reducible rfl)
      simp only [Act.put, List.setIfInBounds_toArray, List.set_cons_zero, List.set_cons_succ]
      refine wpAnyH_take (i := 1) (oi := { dst := some 22, op := _, type := _, pos := _, after := _, guard := _ }) (v := ?_) rfl (by kernel_rfl) (by kernel_rfl) (by kernel_rfl) (fun _ _ _ h => h) (Or.inl ⟨by rfl, ?_⟩) (by assumption) ?_
      rotate_left
      · (intro w hSw; (try dsimp only at hSw); go_simp); (try with_reducible rfl)
      simp only [Act.put, List.setIfInBounds_toArray, List.set_cons_zero, List.set_cons_succ]
      refine wpAnyH_take (i := 2) (oi := { dst := some 23, op := _, type := _, pos := _, after := _, guard := _ }) (v := ?_) rfl (by kernel_rfl) (by kernel_rfl) (by kernel_rfl) (fun _ _ _ h => h) (Or.inl ⟨by rfl, ?_⟩) (by assumption) ?_
      rotate_left
      · (intro w hSw; (try dsimp only at hSw); go_simp); (try with_reducible rfl)
      simp only [Act.put, List.setIfInBounds_toArray, List.set_cons_zero, List.set_cons_succ]
      refine wpAnyH_take (i := 3) (oi := { dst := some 24, op := _, type := _, pos := _, after := _, guard := _ }) (v := ?_) rfl (by kernel_rfl) (by kernel_rfl) (by kernel_rfl) (fun _ _ _ h => h) (Or.inl ⟨by rfl, ?_⟩) (by assumption) ?_
      rotate_left
      · (intro w hSw; (try dsimp only at hSw); go_simp); (try with_reducible rfl)
      simp only [Act.put, List.setIfInBounds_toArray, List.set_cons_zero, List.set_cons_succ]
      refine wpAnyH_take (i := 4) (oi := { dst := some 25, op := _, type := _, pos := _, after := _, guard := _ }) (v := ?_) rfl (by kernel_rfl) (by kernel_rfl) (by kernel_rfl) (fun _ _ _ h => h) (Or.inl ⟨by rfl, ?_⟩) (by assumption) ?_
      rotate_left
      · (intro w hSw; (try dsimp only at hSw); go_simp); (try with_reducible rfl)
      simp only [Act.put, List.setIfInBounds_toArray, List.set_cons_zero, List.set_cons_succ]
      refine wpAnyH_take (i := 6) (oi := { dst := some 27, op := _, type := _, pos := _, after := _, guard := _ }) (v := ?_) rfl (by kernel_rfl) (by kernel_rfl) (by kernel_rfl) (fun _ _ _ h => h) (Or.inl ⟨by rfl, ?_⟩) (by assumption) ?_
      rotate_left
      · (intro w hSw; (try dsimp only at hSw); go_simp); (try with_reducible rfl)
      simp only [Act.put, List.setIfInBounds_toArray, List.set_cons_zero, List.set_cons_succ]
      refine wpAnyH_take (i := 7) (oi := { dst := some 28, op := _, type := _, pos := _, after := _, guard := _ }) (v := ?_) rfl (by kernel_rfl) (by kernel_rfl) (by kernel_rfl) (fun _ _ _ h => h) (Or.inl ⟨by rfl, ?_⟩) (by assumption) ?_
      rotate_left
      · (intro w hSw; (try dsimp only at hSw); go_simp); (try with_reducible rfl)
      simp only [Act.put, List.setIfInBounds_toArray, List.set_cons_zero, List.set_cons_succ]
      refine wpAnyH_take (i := 8) (oi := { dst := some 29, op := _, type := _, pos := _, after := _, guard := _ }) (v := ?_) rfl (by kernel_rfl) (by kernel_rfl) (by kernel_rfl) (fun _ _ _ h => h) (Or.inl ⟨by rfl, ?_⟩) (by assumption) ?_
      rotate_left
      · (intro w hSw; (try dsimp only at hSw); go_simp); (try with_reducible rfl)
      simp only [Act.put, List.setIfInBounds_toArray, List.set_cons_zero, List.set_cons_succ]
      refine wpAnyH_take (i := 9) (oi := { dst := some 30, op := _, type := _, pos := _, after := _, guard := _ }) (v := ?_) rfl (by kernel_rfl) (by kernel_rfl) (by kernel_rfl) (fun _ _ _ h => h) (Or.inl ⟨by rfl, ?_⟩) (by assumption) ?_
      rotate_left
      · (intro w hSw; (try dsimp only at hSw); go_simp); (try with_reducible rfl)
      simp only [Act.put, List.setIfInBounds_toArray, List.set_cons_zero, List.set_cons_succ]
      refine wpAnyH_take (i := 10) (oi := { dst := some 31, op := _, type := _, pos := _, after := _, guard := _ }) (v := ?_) rfl (by kernel_rfl) (by kernel_rfl) (by kernel_rfl) (fun _ _ _ h => h) (Or.inl ⟨by rfl, ?_⟩) (by assumption) ?_
      rotate_left
      · (intro w hSw; (try dsimp only at hSw); go_simp); (try with_reducible rfl)
      simp only [Act.put, List.setIfInBounds_toArray, List.set_cons_zero, List.set_cons_succ]
      refine wpAnyH_take (i := 11) (oi := { dst := some 32, op := _, type := _, pos := _, after := _, guard := _ }) (v := ?_) rfl (by kernel_rfl) (by kernel_rfl) (by kernel_rfl) (fun _ _ _ h => h) (Or.inl ⟨by rfl, ?_⟩) (by assumption) ?_
      rotate_left
      · (intro w hSw; (try dsimp only at hSw); go_simp); (try with_reducible rfl)
      simp only [Act.put, List.setIfInBounds_toArray, List.set_cons_zero, List.set_cons_succ]
      refine wpAnyH_take (i := 12) (oi := { dst := some 33, op := _, type := _, pos := _, after := _, guard := _ }) (v := ?_) rfl (by kernel_rfl) (by kernel_rfl) (by kernel_rfl) (fun _ _ _ h => h) (Or.inl ⟨by rfl, ?_⟩) (by assumption) ?_
      rotate_left
      · (intro w hSw; (try dsimp only at hSw); go_simp); (try with_reducible rfl)
      simp only [Act.put, List.setIfInBounds_toArray, List.set_cons_zero, List.set_cons_succ]
      refine wpAnyH_take (i := 13) (oi := { dst := some 34, op := _, type := _, pos := _, after := _, guard := _ }) (v := ?_) rfl (by kernel_rfl) (by kernel_rfl) (by kernel_rfl) (fun _ _ _ h => h) (Or.inl ⟨by rfl, ?_⟩) (by assumption) ?_
      rotate_left
      · (intro w hSw; (try dsimp only at hSw); go_simp); (try with_reducible rfl)
      simp only [Act.put, List.setIfInBounds_toArray, List.set_cons_zero, List.set_cons_succ]
      refine wpAnyH_take (i := 14) (oi := { dst := some 35, op := _, type := _, pos := _, after := _, guard := _ }) (v := ?_) rfl (by kernel_rfl) (by kernel_rfl) (by kernel_rfl) (fun _ _ _ h => h) (Or.inl ⟨by rfl, ?_⟩) (by assumption) ?_
      rotate_left
      · (intro w hSw; (try dsimp only at hSw); go_simp); (try with_reducible rfl)
      simp only [Act.put, List.setIfInBounds_toArray, List.set_cons_zero, List.set_cons_succ]
      refine wpAnyH_take (i := 15) (oi := { dst := some 36, op := _, type := _, pos := _, after := _, guard := _ }) (v := ?_) rfl (by kernel_rfl) (by kernel_rfl) (by kernel_rfl) (fun _ _ _ h => h) (Or.inl ⟨by rfl, ?_⟩) (by assumption) ?_
      rotate_left
      · (intro w hSw; (try dsimp only at hSw); go_simp); (try with_reducible rfl)
      simp only [Act.put, List.setIfInBounds_toArray, List.set_cons_zero, List.set_cons_succ]
      refine wpAnyH_take (i := 16) (oi := { dst := some 37, op := _, type := _, pos := _, after := _, guard := _ }) (v := ?_) rfl (by kernel_rfl) (by kernel_rfl) (by kernel_rfl) (fun _ _ _ h => h) (Or.inl ⟨by rfl, ?_⟩) (by assumption) ?_
      rotate_left
      · (intro w hSw; (try dsimp only at hSw); go_simp); (try with_reducible rfl)
      simp only [Act.put, List.setIfInBounds_toArray, List.set_cons_zero, List.set_cons_succ]
      refine wpAnyH_take (i := 17) (oi := { dst := some 38, op := _, type := _, pos := _, after := _, guard := _ }) (v := ?_) rfl (by kernel_rfl) (by kernel_rfl) (by kernel_rfl) (fun _ _ _ h => h) (Or.inl ⟨by rfl, ?_⟩) (by assumption) ?_
      rotate_left
      · (intro w hSw; (try dsimp only at hSw); go_simp); (try with_reducible rfl)
      simp only [Act.put, List.setIfInBounds_toArray, List.set_cons_zero, List.set_cons_succ]
      refine wpAnyH_take (i := 18) (oi := { dst := some 39, op := _, type := _, pos := _, after := _, guard := _ }) (v := ?_) rfl (by kernel_rfl) (by kernel_rfl) (by kernel_rfl) (fun _ _ _ h => h) (Or.inl ⟨by rfl, ?_⟩) (by assumption) ?_
      rotate_left
      · (intro w hSw; (try dsimp only at hSw); go_simp); (try with_reducible rfl)
      simp only [Act.put, List.setIfInBounds_toArray, List.set_cons_zero, List.set_cons_succ]
      refine wpAnyH_take (i := 19) (oi := { dst := some 40, op := _, type := _, pos := _, after := _, guard := _ }) (v := ?_) rfl (by kernel_rfl) (by kernel_rfl) (by kernel_rfl) (fun _ _ _ h => h) (Or.inl ⟨by rfl, ?_⟩) (by assumption) ?_
      rotate_left
      · (intro w hSw; (try dsimp only at hSw); go_simp); (try with_reducible rfl)
      simp only [Act.put, List.setIfInBounds_toArray, List.set_cons_zero, List.set_cons_succ]
      refine wpAnyH_take (i := 20) (oi := { dst := some 41, op := _, type := _, pos := _, after := _, guard := _ }) (v := ?_) rfl (by kernel_rfl) (by kernel_rfl) (by kernel_rfl) (fun _ _ _ h => h) (Or.inl ⟨by rfl, ?_⟩) (by assumption) ?_
      rotate_left
      · (intro w hSw; (try dsimp only at hSw); go_simp); (try with_reducible rfl)
      simp only [Act.put, List.setIfInBounds_toArray, List.set_cons_zero, List.set_cons_succ]
      refine wpAnyH_take (i := 21) (oi := { dst := some 42, op := _, type := _, pos := _, after := _, guard := _ }) (v := ?_) rfl (by kernel_rfl) (by kernel_rfl) (by kernel_rfl) (fun _ _ _ h => h) (Or.inl ⟨by rfl, ?_⟩) (by assumption) ?_
      rotate_left
      · (intro w hSw; (try dsimp only at hSw); go_simp); (try with_reducible rfl)
      simp only [Act.put, List.setIfInBounds_toArray, List.set_cons_zero, List.set_cons_succ]
      refine wpAnyH_take (i := 22) (oi := { dst := some 43, op := _, type := _, pos := _, after := _, guard := _ }) (v := ?_) rfl (by kernel_rfl) (by kernel_rfl) (by kernel_rfl) (fun _ _ _ h => h) (Or.inl ⟨by rfl, ?_⟩) (by assumption) ?_
      rotate_left
      · (intro w hSw; (try dsimp only at hSw); go_simp); (try with_reducible rfl)
      simp only [Act.put, List.setIfInBounds_toArray, List.set_cons_zero, List.set_cons_succ]
      refine wpAnyH_ready (rs := [5, 23]) (by kernel_rfl) (by simp) ?_
      refine AllReadyH.cons (o := { dst := some 26, op := _, type := _, pos := _, after := _, guard := _ }) rfl (fun K hK => ?_) (AllReadyH.cons (o := { dst := some 44, op := _, type := _, pos := _, after := _, guard := _ }) rfl (fun K hK => ?_) AllReadyH.nil)
      · go_simp
        refine hK.out _ _ ?_ (fun hH5 => ?_)
        · exact ⟨c13, kp0, kp1⟩
        clear hK K hH0
        try simp only [Act.put, List.setIfInBounds_toArray, List.set_cons_zero, List.set_cons_succ]
        refine wpAnyH_ready (rs := [23]) (by kernel_rfl) (by simp) ?_
        refine AllReadyH.cons (o := { dst := some 44, op := _, type := _, pos := _, after := _, guard := _ }) rfl (fun K hK => ?_) AllReadyH.nil
        go_simp
        refine hK.out _ _ ?_ (fun hH23 => ?_)
        · exact ⟨a13, ap0, ap1⟩
        clear hK K hH5
        refine wpAnyH_ready (rs := [24]) (by kernel_rfl) (by simp) ?_
        refine AllReadyH.cons (o := { dst := some 45, op := _, type := _, pos := _, after := _, guard := _ }) rfl (fun K hK => ?_) AllReadyH.nil
        refine Rg.step_append_run (by rfl) (.tmp 26) (.tmp 44) 27 (by rfl) _ _ (by rfl) (by rfl) hap.out ?_
        refine hK.out _ _ ?_ (fun hH24 => ?_)
        · exact ⟨e13, ep0, ep1⟩
        clear hK K hH23
        simp only [Act.put, List.setIfInBounds_toArray, List.set_cons_zero, List.set_cons_succ]
        refine wpAnyH_take (i := 25) (oi := { dst := some 46, op := _, type := _, pos := _, after := _, guard := _ }) (v := ?_) rfl (by kernel_rfl) (by kernel_rfl) (by kernel_rfl) (fun _ _ _ h => h) (Or.inl ⟨by rfl, ?_⟩) (by assumption) ?_
        rotate_left
        · (intro w hSw; (try dsimp only at hSw); go_simp); (try with_reducible rfl)
        simp only [Act.put, List.setIfInBounds_toArray, List.set_cons_zero, List.set_cons_succ]
        refine wpAnyH_take (i := 26) (oi := { dst := some 47, op := _, type := _, pos := _, after := _, guard := _ }) (v := ?_) rfl (by kernel_rfl) (by kernel_rfl) (by kernel_rfl) (fun _ _ _ h => h) (Or.inl ⟨by rfl, ?_⟩) (by assumption) ?_
        rotate_left
        · (intro w hSw; (try dsimp only at hSw); go_simp); (try with_reducible rfl)
        simp only [Act.put, List.setIfInBounds_toArray, List.set_cons_zero, List.set_cons_succ]
        refine wpAnyH_take (i := 27) (oi := { dst := some 48, op := _, type := _, pos := _, after := _, guard := _ }) (v := ?_) rfl (by kernel_rfl) (by kernel_rfl) (by kernel_rfl) (fun _ _ _ h => h) (Or.inl ⟨by rfl, ?_⟩) (by assumption) ?_
        rotate_left
        · (intro w hSw; (try dsimp only at hSw); go_simp); (try with_reducible rfl)
        simp only [Act.put, List.setIfInBounds_toArray, List.set_cons_zero, List.set_cons_succ]
        refine wpAnyH_ready (rs := [28]) (by kernel_rfl) (by simp) ?_
        refine AllReadyH.cons (o := { dst := none, op := _, type := _, pos := _, after := _, guard := _ }) rfl (fun K hK => ?_) AllReadyH.nil
        go_simp
        refine hK.out _ _ ?_ (fun hH28 => ?_)
        · exact ⟨j13, jp0, jp1⟩
        clear hK K hH24
        refine wpAnyH_done (by kernel_rfl) ?_ _
        have f4 := Rg.hid (hb3.out.setCell (p := ⟨eb, 17, none⟩) hbe.out (.slice (some ⟨g, 0, none⟩) tn1 cap))
        have kF4 := Rg.hid (kF3.out.other (i := 17) hFe.out (.slice (some ⟨g, 0, none⟩) tn1 cap))
        clear kF3 hb3 hkp hap e13 ep0 ep1 a13 ap0 ap1 c13 c17 kp0 kp1 fz fz3 e17
        generalize World.setCell _ _ _ = w4 at *
        clear j13 jp0
        have HC3 := Rg.hid (HC2.out w4 _ _ hE3.out)
        go_upto_region 5 with (go_at_call 57; refine HC3.out.mono ?_; rintro e w5 ⟨rfl, hs5, fr5⟩)
        obtain ⟨p5, q5, h5⟩ := hs5.out
        replace h5 := Rg.hid h5
        have hdne : ∀ k C, Rg.Bk k C 29 w4 → k ≠ eb := fun k C h e => by
          have hk := hE3.out.bk
          unfold Rg.Bk at hk h
          rw [← e, h] at hk
          cases hk
        have hkd6 : Hid (∀ k C, Rg.Bk k C 29 W → Rg.Bk k C 29 (w5.setCell ⟨eb, 15, none⟩ (.int .i64 (Gp.or2 dm.wait)))) := fun k C h => by
          have h4 := hkd3.out k C h
          exact (fr5.out.bk h4 (hdne k C h4) (by decide)).other (hdne k C h4) _
        clear hdne hkd3
        have kF5 := Rg.hid (fr5.out.bk kF4.out hFe.out (by decide))
        have c15 : w5.cell? ⟨eb, 15, none⟩ = some (.int .i64 dm.wait) := by rw [← hdw.out]; exact h5.out.bk.cell 15
        have fz := h5.out.bk.thaw
        have ho2 := Gp.orb2 hw0 hw3
        have h6 := Rg.hid (h5.out.upd 15 (.int .i64 (Gp.or2 dm.wait)) { dn with wait := Gp.or2 dm.wait } rfl rfl rfl rfl rfl)
        have f6 := Rg.hid (((hbelw.out.trans f4.out).trans fr5.out.bel).setCell (p := ⟨eb, 15, none⟩) hbe.out (.int .i64 (Gp.or2 dm.wait)))
        have kF6 := Rg.hid (kF5.out.other (i := 15) hFe.out (.int .i64 (Gp.or2 dm.wait)))
        clear hs5 fr5 h5 kF5 kF4 f4 HC3 HC2 jp1 hE3
        go_upto_region 6 with fail
        generalize World.setCell _ _ _ = w6 at *
        clear c15 fz
        have m0 : w6.cell? ⟨F, 0, none⟩ = some (.int .i64 ty) := kF6.out.cell 0
        have m1 : w6.cell? ⟨F, 1, none⟩ = some (.int .i64 hi) := kF6.out.cell 1
        have m2 : w6.cell? ⟨F, 2, none⟩ = some (.int .i64 lo) := kF6.out.cell 2
        have m3 : w6.cell? ⟨F, 3, none⟩ = some (.int .i64 sz) := kF6.out.cell 3
        have m4 : w6.cell? ⟨F, 4, none⟩ = some (.string D) := kF6.out.cell 4
        have HT3 := Rg.hid (HT2.out w6 p5 q5 h6.out f6.out hkd6.out)
        clear HT2 h6 f6 kF6
        go_wp2_with (go_at_call 58; refine HT3.out.mono ?_; rintro e w7 ⟨rfl, hTR, hlt7⟩)
        go_roundw
        case rel => exact hTR
        case measure =>
          show bufLen eb w7 < bufLen eb wr
          rw [hbl.out]
          exact hlt7.out
      · go_simp
        refine hK.out _ _ ?_ (fun hH23 => ?_)
        · exact ⟨a13, ap0, ap1⟩
        clear hK K hH0
        try simp only [Act.put, List.setIfInBounds_toArray, List.set_cons_zero, List.set_cons_succ]
        refine wpAnyH_ready (rs := [5]) (by kernel_rfl) (by simp) ?_
        refine AllReadyH.cons (o := { dst := some 26, op := _, type := _, pos := _, after := _, guard := _ }) rfl (fun K hK => ?_) AllReadyH.nil
        go_simp
        refine hK.out _ _ ?_ (fun hH5 => ?_)
        · exact ⟨a13, ap0, ap1⟩
        clear hK K hH23
        refine wpAnyH_ready (rs := [24]) (by kernel_rfl) (by simp) ?_
        refine AllReadyH.cons (o := { dst := some 45, op := _, type := _, pos := _, after := _, guard := _ }) rfl (fun K hK => ?_) AllReadyH.nil
        refine Rg.step_append_run (by rfl) (.tmp 26) (.tmp 44) 27 (by rfl) _ _ (by rfl) (by rfl) hap.out ?_
        refine hK.out _ _ ?_ (fun hH24 => ?_)
        · exact ⟨e13, ep0, ep1⟩
        clear hK K hH5
        simp only [Act.put, List.setIfInBounds_toArray, List.set_cons_zero, List.set_cons_succ]
        refine wpAnyH_take (i := 25) (oi := { dst := some 46, op := _, type := _, pos := _, after := _, guard := _ }) (v := ?_) rfl (by kernel_rfl) (by kernel_rfl) (by kernel_rfl) (fun _ _ _ h => h) (Or.inl ⟨by rfl, ?_⟩) (by assumption) ?_
        rotate_left
        · (intro w hSw; (try dsimp only at hSw); go_simp); (try with_reducible rfl)
        simp only [Act.put, List.setIfInBounds_toArray, List.set_cons_zero, List.set_cons_succ]
        refine wpAnyH_take (i := 26) (oi := { dst := some 47, op := _, type := _, pos := _, after := _, guard := _ }) (v := ?_) rfl (by kernel_rfl) (by kernel_rfl) (by kernel_rfl) (fun _ _ _ h => h) (Or.inl ⟨by rfl, ?_⟩) (by assumption) ?_
        rotate_left
        · (intro w hSw; (try dsimp only at hSw); go_simp); (try with_reducible rfl)
        simp only [Act.put, List.setIfInBounds_toArray, List.set_cons_zero, List.set_cons_succ]
        refine wpAnyH_take (i := 27) (oi := { dst := some 48, op := _, type := _, pos := _, after := _, guard := _ }) (v := ?_) rfl (by kernel_rfl) (by kernel_rfl) (by kernel_rfl) (fun _ _ _ h => h) (Or.inl ⟨by rfl, ?_⟩) (by assumption) ?_
        rotate_left
        · (intro w hSw; (try dsimp only at hSw); go_simp); (try with_reducible rfl)
        simp only [Act.put, List.setIfInBounds_toArray, List.set_cons_zero, List.set_cons_succ]
        refine wpAnyH_ready (rs := [28]) (by kernel_rfl) (by simp) ?_
        refine AllReadyH.cons (o := { dst := none, op := _, type := _, pos := _, after := _, guard := _ }) rfl (fun K hK => ?_) AllReadyH.nil
        go_simp
        refine hK.out _ _ ?_ (fun hH28 => ?_)
        · exact ⟨j13, jp0, jp1⟩
        clear hK K hH24
        refine wpAnyH_done (by kernel_rfl) ?_ _
        have f4 := Rg.hid (hb3.out.setCell (p := ⟨eb, 17, none⟩) hbe.out (.slice (some ⟨g, 0, none⟩) tn1 cap))
        have kF4 := Rg.hid (kF3.out.other (i := 17) hFe.out (.slice (some ⟨g, 0, none⟩) tn1 cap))
        clear kF3 hb3 hkp hap e13 ep0 ep1 a13 ap0 ap1 c13 c17 kp0 kp1 fz fz3 e17
        generalize World.setCell _ _ _ = w4 at *
        clear j13 jp0
        have HC3 := Rg.hid (HC2.out w4 _ _ hE3.out)
        go_upto_region 5 with (go_at_call 57; refine HC3.out.mono ?_; rintro e w5 ⟨rfl, hs5, fr5⟩)
        obtain ⟨p5, q5, h5⟩ := hs5.out
        replace h5 := Rg.hid h5
        have hdne : ∀ k C, Rg.Bk k C 29 w4 → k ≠ eb := fun k C h e => by
          have hk := hE3.out.bk
          unfold Rg.Bk at hk h
          rw [← e, h] at hk
          cases hk
        have hkd6 : Hid (∀ k C, Rg.Bk k C 29 W → Rg.Bk k C 29 (w5.setCell ⟨eb, 15, none⟩ (.int .i64 (Gp.or2 dm.wait)))) := fun k C h => by
          have h4 := hkd3.out k C h
          exact (fr5.out.bk h4 (hdne k C h4) (by decide)).other (hdne k C h4) _
        clear hdne hkd3
        have kF5 := Rg.hid (fr5.out.bk kF4.out hFe.out (by decide))
        have c15 : w5.cell? ⟨eb, 15, none⟩ = some (.int .i64 dm.wait) := by rw [← hdw.out]; exact h5.out.bk.cell 15
        have fz := h5.out.bk.thaw
        have ho2 := Gp.orb2 hw0 hw3
        have h6 := Rg.hid (h5.out.upd 15 (.int .i64 (Gp.or2 dm.wait)) { dn with wait := Gp.or2 dm.wait } rfl rfl rfl rfl rfl)
        have f6 := Rg.hid (((hbelw.out.trans f4.out).trans fr5.out.bel).setCell (p := ⟨eb, 15, none⟩) hbe.out (.int .i64 (Gp.or2 dm.wait)))
        have kF6 := Rg.hid (kF5.out.other (i := 15) hFe.out (.int .i64 (Gp.or2 dm.wait)))
        clear hs5 fr5 h5 kF5 kF4 f4 HC3 HC2 jp1 hE3
        go_upto_region 6 with fail
        generalize World.setCell _ _ _ = w6 at *
        clear c15 fz
        have m0 : w6.cell? ⟨F, 0, none⟩ = some (.int .i64 ty) := kF6.out.cell 0
        have m1 : w6.cell? ⟨F, 1, none⟩ = some (.int .i64 hi) := kF6.out.cell 1
        have m2 : w6.cell? ⟨F, 2, none⟩ = some (.int .i64 lo) := kF6.out.cell 2
        have m3 : w6.cell? ⟨F, 3, none⟩ = some (.int .i64 sz) := kF6.out.cell 3
        have m4 : w6.cell? ⟨F, 4, none⟩ = some (.string D) := kF6.out.cell 4
        have HT3 := Rg.hid (HT2.out w6 p5 q5 h6.out f6.out hkd6.out)
        clear HT2 h6 f6 kF6
        go_wp2_with (go_at_call 58; refine HT3.out.mono ?_; rintro e w7 ⟨rfl, hTR, hlt7⟩)
        go_roundw
        case rel => exact hTR
        case measure =>
          show bufLen eb w7 < bufLen eb wr
          rw [hbl.out]
          exact hlt7.out
end Go.Proofs.YtfiffbohhhehkaaGreat
