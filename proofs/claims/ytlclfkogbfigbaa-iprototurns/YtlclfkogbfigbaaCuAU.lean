/-
  Walks of layer 16: sendWaiting, Send. Walks of layer 16: Send. Bitwise or, and, xor on int where both sides are not negative; bytes put together. Plain, of no program.
-/
import Derived.Test.YtlclfkogbfigbaaCuAT
import Derived.WalkKit
namespace Go.Proofs.Ytlclfkogbfigbaa
open Go.RowKit
theorem PQ.itrow {Kp : Nat → Prop} {W : World} {eb : Nat} {d : Gp.Dr} {p : Pl} {q : Qv} {S : List UInt8} {C : List Gp.Pc} {n : Nat} {qa : Option Addr} {qc : Nat} {l : List Gp.Pc} (h : PQ n W qa qc l) (hlt : eb < n) (he : IAt Kp W eb d p q S C) (hcv : ∀ b o, l = [] ∨ (qa = some ⟨b, o, none⟩ → n ≤ b → q.cv.ownBlock ≠ some b)) : TRow Kp pcE eb eb (ivs d p q) W qa l := by
  rcases h.2 with h2 | ⟨g, o, CG, h1, h2, h3, h4⟩
  · exact .inl h2
  · rcases hcv g o with hc | hc
    · exact .inl hc
    · refine .inr ⟨g, o, h1, h3.lt, fun t u ht => by rw [h3.cell]; exact h4 t u ht, .inr ⟨Nat.lt_of_lt_of_le hlt h2, fun v hm hg => ?_⟩⟩
      simp only [ivs, List.mem_cons, List.not_mem_nil, or_false] at hm
      rcases hm with rfl | rfl | rfl | rfl
      · exact he.said.ne h3 (by decide) hg
      · exact hc h1 h2 hg
      · exact own_ne he.took h3 (by decide) (e := 0) rfl hg
      · rw [tok_own] at hg
        rcases he.ahead with ⟨e, _⟩ | ⟨g', e, _, o', cur, _, k3, _⟩
        · rw [e] at hg; cases hg
        · rw [e] at hg; cases hg
          unfold Rg.Bk at h3
          rw [h3] at k3
          cases k3
theorem ifill_not {d : Gp.Dr} (h : d.phase ≠ 2) : Ip.fill d = (d, []) := by
  unfold Ip.fill Ip.fillN
  cases d.queue with
  | nil => rfl
  | cons p q => dsimp only; rw [if_neg (fun x => h x.1)]
theorem isendWaiting_any {Kp : Nat → Prop} {W : World} {eb : Nat} {d : Gp.Dr} {p : Pl} {q : Qv} {S : List UInt8} {C : List Gp.Pc} (h : IAt Kp W eb d p q S C) (hr : Ip.right d) (hql : d.queue.length ≤ 100000) (hlen : S.length + 80000 ≤ 140737488355328) :
    Calls Try.prog 15 #[.pointer (some ⟨eb, 0, none⟩)] W fun e w' => IPost Kp eb W (Ip.fill d).1 (S ++ (Ip.fill d).2) C e w' := by
  by_cases hph : d.phase = 2
  · refine isendWaiting_go h hph _ _ rfl ?_ ?_ ?_
    · refine (clonep_any p.q p.qc d.queue W hql h.queue.e).mono fun e w' ⟨a', c', h1, h2, h3⟩ => ⟨_, h1, d, p, q, S, 17, a', c', rfl, rfl, h.below h3, ⟨rfl, rfl⟩, h.nb _, Fr.of h3 (Nat.le_of_lt h.bk.lt), h2.out, ?_, Nat.le_refl _, ⟨[], by rw [List.append_nil], rfl⟩, hr, hph, by omega, by omega⟩
      rcases h2.out.2 with e | ⟨g, o, CG, e1, _, k, _⟩
      · exact .inl e
      · exact .inr ⟨g, o, e1, k.lt⟩
    · intro w2n W1 qa qc dm p1 q1 Si f x l hfi hq hl
      have hrun := hfi.runs
      have hb := hfi.rt.1
      have h16 := hfi.n16
      have hL := hfi.len
      have hb' : Ip.base { dm with queue := d.queue } := ⟨hb.lt, hb.sz, hb.rm, hb.wn, hb.at_, hb.wt, hb.tr, hr.1.qu, hb.wi, hb.ah⟩
      have hrun' : Ip.runs { dm with queue := d.queue } := ⟨hrun.st, hrun.md, hrun.ws, hrun.bs, hrun.ln⟩
      have := isendText_any hfi.at_ (Ip.goes dm x) hb' hrun' hl (hfi.goes_ok hq) (by omega)
      rw [hfi.qv.1, hfi.qv.2] at this
      exact this
    · intro w2n W1 qa qc m dm p1 q1 Si f hm hfi hs
      obtain ⟨e1, e2⟩ := hfi.stop hs
      refine ⟨_, hfi.at_.bk.cell 14, hfi.at_.bk.thaw, rfl, ?_, hfi.fr.bel.trans (below_set eb 14 _)⟩
      rw [← e1, ← e2]
      refine ⟨{ p1 with q := qa, qc := qc }, q1, hfi.at_.put 14 (.slice qa m qc) dm { p1 with q := qa, qc := qc } ?_ rfl ⟨rfl, rfl⟩ hfi.at_.win hfi.at_.wcap ⟨rfl, rfl, rfl⟩ (hfi.pq.itrow h.bk.lt hfi.at_ (fun b o => ?_))⟩
      · rw [← hm]
        rfl
      · rcases hfi.pn with hp | ⟨g, o', hp, hg⟩
        · exact .inl hp
        · refine .inr fun e hb hc => ?_
          rw [hp] at e
          cases e
          rw [hfi.qv.1] at hc
          have := hfi.nb.c _ hc
          omega
  · rw [ifill_not hph]
    exact IPost.id h (isendWaiting_no eb d.phase W (h.bk.cell 1) (by simp [hph]))
set_option maxHeartbeats 1000000 in
theorem iisIn_lo (n a b : Int) (w : World) (h1 : decide (a ≤ n) = false) : Calls Try.prog 21 #[.int .i64 n, .int .i64 a, .int .i64 b] w fun e w' => e = .returned (.bool false) ∧ w' = w := by
  go_enter Try.func21, Try.ntmps21
  go_wp2
  go_ret
  exact ⟨rfl, rfl⟩
set_option maxHeartbeats 1000000 in
theorem iisIn_hi (n a b : Int) (w : World) (h1 : decide (a ≤ n) = true) (h2 : decide (n ≤ b) = false) : Calls Try.prog 21 #[.int .i64 n, .int .i64 a, .int .i64 b] w fun e w' => e = .returned (.bool false) ∧ w' = w := by
  go_enter Try.func21, Try.ntmps21
  go_wp2
  go_ret
  exact ⟨rfl, rfl⟩
theorem iisIn_any (n a b : Int) (w : World) : Calls Try.prog 21 #[.int .i64 n, .int .i64 a, .int .i64 b] w fun e w' => e = .returned (.bool (decide (a ≤ n ∧ n ≤ b))) ∧ w' = w := by
  by_cases h1 : a ≤ n
  · by_cases h2 : n ≤ b
    · rw [decide_eq_true (show a ≤ n ∧ n ≤ b from ⟨h1, h2⟩)]
      exact iisIn_true h1 h2 w
    · rw [decide_eq_false (fun x : a ≤ n ∧ n ≤ b => h2 x.2)]
      exact iisIn_hi n a b w (by simpa using h1) (by simpa using h2)
  · rw [decide_eq_false (fun x : a ≤ n ∧ n ≤ b => h1 x.1)]
    exact iisIn_lo n a b w (by simpa using h1)
set_option maxHeartbeats 1000000 in
set_option maxRecDepth 100000 in
theorem imayWait_none (ch : Int) (w : World) :
    Calls Try.prog 18 #[.agg #[.int .i64 ch, .string ⟨#[]⟩]] w fun e w' => e = .returned (.bool false) ∧ Below w.heap.size w w' := by
  have b0 := Rg.hid (Rg.al1 w (.cells #[.int .i64 ch, .string ⟨#[]⟩] 42))
  go_enter Try.func18, Try.ntmps18
  go_wp2
  go_ret
  exact ⟨rfl, b0.out⟩
set_option maxHeartbeats 1000000 in
set_option maxRecDepth 100000 in
theorem imayWait_some (ch : Int) (D : ByteArray) (w : World) (B : Bool) (hD : (D.toList == []) = false) (HZ : Hid (∀ W, Calls Try.prog 21 #[.int .i64 ch, .int .i64 0, .int .i64 7] W fun e w' => e = .returned (.bool B) ∧ w' = W)) :
    Calls Try.prog 18 #[.agg #[.int .i64 ch, .string D]] w fun e w' => e = .returned (.bool B) ∧ Below w.heap.size w w' := by
  have b0 := Rg.hid (Rg.al1 w (.cells #[.int .i64 ch, .string D] 42))
  go_enter Try.func18, Try.ntmps18
  go_wp2_with (go_at_call 21; refine (HZ.out _).mono ?_; rintro e w1 ⟨rfl, hw⟩; obtain rfl := hw.symm)
  go_ret
  exact ⟨rfl, b0.out⟩
theorem imayWait_any (x : Gp.Pc) (w : World) : Calls Try.prog 18 #[.agg #[.int .i64 x.ch, .string x.data]] w fun e w' => e = .returned (.bool (decide (¬ (x.data.size = 0 ∨ x.ch < 0 ∨ 7 < x.ch)))) ∧ Below w.heap.size w w' := by
  by_cases hs : x.data.size = 0
  · have e : x.data = ⟨#[]⟩ := ByteArray.ext (Array.eq_empty_of_size_eq_zero hs)
    rw [decide_eq_false (fun h => h (.inl hs)), e]
    exact imayWait_none x.ch w
  · refine (imayWait_some x.ch x.data w _ (ne_nil hs) (fun W => iisIn_any x.ch 0 7 W)).mono fun e w' ⟨h1, h2⟩ => ⟨?_, h2⟩
    rw [h1]
    congr 2
    by_cases h : 0 ≤ x.ch ∧ x.ch ≤ 7
    · rw [decide_eq_true h, decide_eq_true (by omega)]
    · rw [decide_eq_false h, decide_eq_false (by omega)]
set_option maxHeartbeats 1000000 in
set_option maxRecDepth 100000 in
theorem isendC_no (eb pb : Nat) (ch : Int) (D : ByteArray) (W : World) (k : Rg.Bk pb [.int .i64 ch, .string D] 42 W) (HM : Hid (∀ W, Calls Try.prog 18 #[.agg #[.int .i64 ch, .string D]] W fun e w' => e = .returned (.bool false) ∧ Below W.heap.size W w')) :
    Calls Try.prog 17 #[.pointer (some ⟨eb, 0, none⟩), .pointer (some ⟨pb, 0, none⟩)] W fun e w' => e = .returned (.tuple #[]) ∧ Below W.heap.size W w' := by
  have k0 : W.cell? ⟨pb, 0, none⟩ = some (.int .i64 ch) := k.cell 0
  have k1 : W.cell? ⟨pb, 1, none⟩ = some (.string D) := k.cell 1
  clear k
  go_enter Try.func17, Try.ntmps17
  go_wp2_with (go_at_call 18; refine (HM.out _).mono ?_; rintro e w2 ⟨rfl, hb⟩)
  exact bodyPost_ret (v := .tuple #[]) (by simp [results, Try.results17, go_sem]) rfl ⟨rfl, hb⟩
set_option maxHeartbeats 1000000 in
set_option maxRecDepth 100000 in
theorem isendC_shut (eb pb : Nat) (ch : Int) (D : ByteArray) (W : World) (k : Rg.Bk pb [.int .i64 ch, .string D] 42 W) (HM : Hid (∀ W, Calls Try.prog 18 #[.agg #[.int .i64 ch, .string D]] W fun e w' => e = .returned (.bool true) ∧ Below W.heap.size W w')) (HI : Hid (∀ W1, Below W.heap.size W W1 → Calls Try.prog 19 #[.pointer (some ⟨eb, 0, none⟩)] W1 fun e w' => e = .returned (.bool false) ∧ w' = W1)) :
    Calls Try.prog 17 #[.pointer (some ⟨eb, 0, none⟩), .pointer (some ⟨pb, 0, none⟩)] W fun e w' => e = .returned (.tuple #[]) ∧ Below W.heap.size W w' := by
  have k0 : W.cell? ⟨pb, 0, none⟩ = some (.int .i64 ch) := k.cell 0
  have k1 : W.cell? ⟨pb, 1, none⟩ = some (.string D) := k.cell 1
  clear k
  go_enter Try.func17, Try.ntmps17
  go_wp2_with (first | (go_at_call 18; refine (HM.out _).mono ?_; rintro e w2 ⟨rfl, hb⟩) | (go_at_call 19; refine (HI.out _ hb).mono ?_; rintro e w3 ⟨rfl, hw⟩; obtain rfl := hw.symm))
  exact bodyPost_ret (v := .tuple #[]) (by simp [results, Try.results17, go_sem]) rfl ⟨rfl, hb⟩
set_option maxHeartbeats 4000000 in
set_option maxRecDepth 100000 in
theorem isendC_go {Kp : Nat → Prop} {W : World} {eb : Nat} {d : Gp.Dr} {p : Pl} {q : Qv} {S : List UInt8} {C : List Gp.Pc} (h : IAt Kp W eb d p q S C) (pb : Nat) (ch : Int) (D : ByteArray) (qn N1 : Nat) (hqn : Hid (d.queue.length = qn)) (kP : Rg.Bk pb [.int .i64 ch, .string D] 42 W) (Post : Ending → World → Prop)
    (HM : Hid (∀ W, Calls Try.prog 18 #[.agg #[.int .i64 ch, .string D]] W fun e w' => e = .returned (.bool true) ∧ Below W.heap.size W w')) (HI : Hid (∀ W1, Below W.heap.size W W1 → Calls Try.prog 19 #[.pointer (some ⟨eb, 0, none⟩)] W1 fun e w' => e = .returned (.bool true) ∧ w' = W1))
    (HC : Hid (∀ W1 B g, Below W.heap.size W W1 → Rg.Bk B [.slice p.q qn p.qc, .slice (some ⟨g, 0, none⟩) 1 1] 29 W1 → Rg.Bk g [.int .i64 ch, .string D] 42 W1 → Calls Try.prog 20 #[.slice (some ⟨B, 0, none⟩) 2 2] W1 fun e w' => ∃ g' cap, e = .returned (.slice (some ⟨g', 0, none⟩) N1 cap) ∧ Hid (IAt Kp w' eb d p q S C) ∧ Hid (Below eb W w') ∧ Hid (IAt Kp (w'.setCell ⟨eb, 14, none⟩ (.slice (some ⟨g', 0, none⟩) N1 cap)) eb { d with queue := d.queue ++ [⟨ch, D⟩] } { p with q := some ⟨g', 0, none⟩, qc := cap } q S C)))
    (HS : Hid (∀ W1 p1, IAt Kp W1 eb { d with queue := d.queue ++ [⟨ch, D⟩] } p1 q S C → Below eb W W1 → Calls Try.prog 15 #[.pointer (some ⟨eb, 0, none⟩)] W1 fun e w' => e = .returned (.tuple #[]) ∧ Post (.returned (.tuple #[])) w')) :
    Calls Try.prog 17 #[.pointer (some ⟨eb, 0, none⟩), .pointer (some ⟨pb, 0, none⟩)] W Post := by
  have k0w : W.cell? ⟨pb, 0, none⟩ = some (.int .i64 ch) := kP.cell 0
  have k1w : W.cell? ⟨pb, 1, none⟩ = some (.string D) := kP.cell 1
  go_enter Try.func17, Try.ntmps17
  go_upto_region 1 with (first | (go_at_call 18; refine (HM.out _).mono ?_; rintro e Wm ⟨rfl, hbm⟩) | (go_at_call 19; refine (HI.out _ hbm).mono ?_; rintro e w3 ⟨rfl, hw⟩; obtain rfl := hw.symm))
  clear HM HI k0w k1w
  have hm := h.below hbm
  have kPm := kP.below hbm kP.lt
  have k0 : Wm.cell? ⟨pb, 0, none⟩ = some (.int .i64 ch) := kPm.cell 0
  have k1 : Wm.cell? ⟨pb, 1, none⟩ = some (.string D) := kPm.cell 1
  have c14 : Wm.cell? ⟨eb, 14, none⟩ = some (.slice p.q qn p.qc) := by rw [← hqn.out]; exact hm.bk.cell 14
  have hlt : eb < Wm.heap.size := hm.bk.lt
  have hb1 := Rg.hid ((Rg.al2 Wm (.cells #[.int .i64 ch, .string D] 42) (.cells #[.slice p.q qn p.qc, .slice (some ⟨Wm.heap.size, 0, none⟩) 1 1] 29)).drew)
  have kB : Hid (Rg.Bk (Wm.heap.size + 1) [.slice p.q qn p.qc, .slice (some ⟨Wm.heap.size, 0, none⟩) 1 1] 29 ((Wm.alloc (.cells #[.int .i64 ch, .string D] 42)).alloc (.cells #[.slice p.q qn p.qc, .slice (some ⟨Wm.heap.size, 0, none⟩) 1 1] 29)).drew) := Rg.Bk.drew (Rg.Bk.new (by simp))
  have kg : Hid (Rg.Bk Wm.heap.size [.int .i64 ch, .string D] 42 ((Wm.alloc (.cells #[.int .i64 ch, .string D] 42)).alloc (.cells #[.slice p.q qn p.qc, .slice (some ⟨Wm.heap.size, 0, none⟩) 1 1] 29)).drew) := Rg.Bk.drew ((Rg.Bk.new rfl).old _)
  have HC1 := Rg.hid (HC.out _ _ _ (Rg.chain hbm hb1.out) kB.out kg.out)
  clear h HC hb1 kB kg kP kPm hm hbm
  go_region_with (go_at_call 20; refine HC1.out.mono ?_; rintro e w3 ⟨g', cap, rfl, h3, f3, h4⟩; have e14 : w3.cell? ⟨eb, 14, none⟩ = some (.slice p.q d.queue.length p.qc) := h3.out.bk.cell 14; have fz := h3.out.bk.thaw)
  all_goals (
    have f4 := Rg.hid (f3.out.trans (below_set eb 14 (.slice (some ⟨g', 0, none⟩) N1 cap)))
    have HS1 := Rg.hid (HS.out _ _ h4.out f4.out)
    clear HS h3 f3 h4 f4 HC1
    go_wp2_with (go_at_call 15; refine HS1.out.mono ?_; rintro e w5 ⟨rfl, hp⟩)
    go_end0
    exact hp)
theorem isendC_any {Kp : Nat → Prop} {W : World} {eb : Nat} {d : Gp.Dr} {p : Pl} {q : Qv} (h : IAt Kp W eb (Gp.own d) p q [] []) (hr : Ip.right d) (pb : Nat) (x : Gp.Pc) (kP : Rg.Bk pb [.int .i64 x.ch, .string x.data] 42 W) (hq : d.queue.length ≤ 1000) :
    Calls Try.prog 17 #[.pointer (some ⟨eb, 0, none⟩), .pointer (some ⟨pb, 0, none⟩)] W fun e w' => IPost Kp eb W (Ip.send d x).1 (Ip.send d x).2 [] e w' := by
  have HM := fun W => imayWait_any x W
  have HI : ∀ W1, Below W.heap.size W W1 → Calls Try.prog 19 #[.pointer (some ⟨eb, 0, none⟩)] W1 fun e w' => e = .returned (.bool (decide (d.phase = 1 ∨ d.phase = 2))) ∧ w' = W1 := fun W1 b1 => iisOpen_any (d := Gp.own d) (h.below b1).bk
  unfold Ip.send
  by_cases hs : x.data.size = 0 ∨ x.ch < 0 ∨ 7 < x.ch
  · rw [if_pos (by rcases hs with hs | hs | hs; exact .inl hs; exact .inr (.inl hs); exact .inr (.inr (.inl hs)))]
    rw [decide_eq_false (fun hn => hn hs)] at HM
    exact (isendC_no eb pb x.ch x.data W kP HM).mono fun e w' ⟨h1, h2⟩ => ⟨h1, ⟨p, q, h.below h2⟩, h2.mono (Nat.le_of_lt h.bk.lt)⟩
  rw [decide_eq_true hs] at HM
  by_cases hp : d.phase ≠ 1 ∧ d.phase ≠ 2
  · rw [if_pos (.inr (.inr (.inr hp)))]
    rw [show decide (d.phase = 1 ∨ d.phase = 2) = false by simp [hp]] at HI
    exact (isendC_shut eb pb x.ch x.data W kP HM HI).mono fun e w' ⟨h1, h2⟩ => ⟨h1, ⟨p, q, h.below h2⟩, h2.mono (Nat.le_of_lt h.bk.lt)⟩
  · rw [if_neg (by rintro (e | e | e | e); exact hs (.inl e); exact hs (.inr (.inl e)); exact hs (.inr (.inr e)); exact hp e)]
    rw [show decide (d.phase = 1 ∨ d.phase = 2) = true by simp; omega] at HI
    have hr2 : Ip.right { Gp.own d with queue := d.queue ++ [x] } := by
      obtain ⟨b, hp⟩ := Ip.right_own hr
      refine ⟨⟨b.lt, b.sz, b.rm, b.wn, b.at_, b.wt, b.tr, fun y hy => ?_, b.wi, b.ah⟩, ?_⟩
      · rcases List.mem_append.1 hy with hy | hy
        · exact b.qu y hy
        · rw [List.mem_singleton.1 hy]; exact ⟨fun e => hs (.inl e), by omega, by omega⟩
      · rcases hp with h2 | ⟨hp, hr⟩ | h2
        · exact .inl h2
        · exact .inr (.inl ⟨hp, hr.st, hr.md, hr.ws, hr.bs, hr.ln⟩)
        · exact .inr (.inr h2)
    refine isendC_go h pb x.ch x.data d.queue.length (d.queue.length + 1) rfl kP _ HM HI (fun W1 B g hb kB kg => ?_) (fun W1 p1 hh f => ?_)
    · refine (concatp_any d.queue d.queue.length (d.queue.length + 1) rfl rfl hq x p.q p.qc B g W1 (h.queue.e.below hb) kB kg).mono fun e w' ⟨g', cap, h1, h2, h3, h4, h5⟩ => ⟨g', cap, h1, h.below (Rg.chain hb h4), (Rg.chain hb h4).mono (Nat.le_of_lt h.bk.lt), ?_⟩
      have hE := h.below (Rg.chain hb h4)
      refine hE.put 14 _ { Gp.own d with queue := d.queue ++ [x] } { p with q := some ⟨g', 0, none⟩, qc := cap } ?_ rfl ⟨rfl, rfl⟩ hE.win hE.wcap ⟨rfl, rfl, rfl⟩ ?_
      · show List.set _ _ _ = _
        simp [IC, List.set]
      · exact (h.below hb).row h2.out (fun b o e => by cases e; exact h5.out)
    · exact (isendWaiting_any hh hr2 (by show (d.queue ++ [x]).length ≤ 100000; rw [List.length_append, List.length_singleton]; omega) (by simp)).mono fun e w' hp => ⟨hp.1, rfl, hp.2.1, f.trans hp.2.2⟩
end Go.Proofs.Ytlclfkogbfigbaa

namespace Go.Proofs.Ytlclfkogbfigbaa
open Go.RowKit
theorem iright_wlen {d : Gp.Dr} (h : Ip.right d) : d.phase = 2 → d.win.l.length ≤ 16 := fun hp => by
  have hr := h.1.rm
  rcases h.2 with ⟨h, _⟩ | ⟨_, h⟩ | h | h | h
  · omega
  · have := h.ws
    have := h.ln
    omega
  all_goals omega
theorem ifill_wlen {d : Gp.Dr} (h : Ip.right d) : (Ip.fill d).1.win.l.length ≤ max 16 d.win.l.length := by
  by_cases hp : d.phase = 2
  · obtain ⟨r1, _, _, r4, _⟩ := Ip.right_fill h
    have := iright_wlen r1 (by rw [r4]; exact hp)
    omega
  · rw [ifill_not hp]
    exact Nat.le_max_right _ _
theorem isend_qlen (d : Gp.Dr) (x : Gp.Pc) : (Ip.send d x).1.queue.length ≤ d.queue.length + 1 := by
  unfold Ip.send
  split
  · exact Nat.le_succ _
  · refine Nat.le_trans (Ip.q_fillN 17 _ _).1 ?_
    show (d.queue ++ [x]).length ≤ _
    simp
theorem iright_push {d : Gp.Dr} (hr : Ip.right d) {x : Gp.Pc} (hx : Ip.okPc x) : Ip.right { Gp.own d with queue := d.queue ++ [x] } := by
  obtain ⟨b, hp⟩ := Ip.right_own hr
  refine ⟨⟨b.lt, b.sz, b.rm, b.wn, b.at_, b.wt, b.tr, fun y hy => ?_, b.wi, b.ah⟩, ?_⟩
  · rcases List.mem_append.1 hy with hy | hy
    · exact b.qu y hy
    · rw [List.mem_singleton.1 hy]; exact hx
  · rcases hp with h2 | ⟨hp, hr⟩ | h2
    · exact .inl h2
    · exact .inr (.inl ⟨hp, hr.st, hr.md, hr.ws, hr.bs, hr.ln⟩)
    · exact .inr (.inr h2)
theorem isend_wlen {d : Gp.Dr} (hr : Ip.right d) (x : Gp.Pc) (hl : d.win.l.length ≤ 100000) : (Ip.send d x).1.win.l.length ≤ 100000 := by
  unfold Ip.send
  split
  · exact hl
  · rename_i c
    have := ifill_wlen (iright_push hr (x := x) ⟨fun e => c (.inl e), by omega, by omega⟩)
    have e : ({ Gp.own d with queue := d.queue ++ [x] } : Gp.Dr).win.l.length = d.win.l.length := rfl
    omega
set_option maxHeartbeats 4000000 in
set_option maxRecDepth 100000 in
theorem iSend_any {Kp : Nat → Prop} (d : Gp.Dr) (p : Pl) (x : Gp.Pc) (w : World) (hd : IDR Kp w d p) (hr : Ip.right d) (hql : d.queue.length ≤ 1000) (hK : Hid (∀ b, w.heap.size ≤ b → Kp b)) :
    Calls Try.prog 7 #[DV d p, .agg #[.int .i64 x.ch, .string x.data]] w fun e w' => IXPost Kp w (Ip.send d x) e w' := by
  obtain ⟨CS, hCS⟩ : ∃ CS : Array Value, CS = (DC d p).toArray := ⟨_, rfl⟩
  have eDV : DV d p = .agg CS := by rw [hCS]; rfl
  have hin : (Try.prog.info? 32).map (·.size) = some CS.size := by rw [hCS]; exact iinfoDr2
  have kB0 : Hid (Rg.Bk w.heap.size CS.toList 32 (((w.alloc (.cells CS 32)).alloc (.cells #[.int .i64 x.ch, .string x.data] 42)).alloc (.cells #[.int .i64 0, .int .i64 0, .bool false, .int .i64 0, .int .i64 0, .int .i64 0, .int .i64 0, .int .i64 0, .int .i64 0, .slice none 0 0, .int .i64 0, .slice none 0 0, .string ⟨#[]⟩, .int .i64 0, .slice none 0 0, .int .i64 0, .int .i64 0, .slice none 0 0] 32))) := ((Rg.Bk.new rfl).old _).old _
  have kR0 : Hid (Rg.Bk (w.heap.size + 1 + 1) [.int .i64 0, .int .i64 0, .bool false, .int .i64 0, .int .i64 0, .int .i64 0, .int .i64 0, .int .i64 0, .int .i64 0, .slice none 0 0, .int .i64 0, .slice none 0 0, .string ⟨#[]⟩, .int .i64 0, .slice none 0 0, .int .i64 0, .int .i64 0, .slice none 0 0] 32 (((w.alloc (.cells CS 32)).alloc (.cells #[.int .i64 x.ch, .string x.data] 42)).alloc (.cells #[.int .i64 0, .int .i64 0, .bool false, .int .i64 0, .int .i64 0, .int .i64 0, .int .i64 0, .int .i64 0, .int .i64 0, .slice none 0 0, .int .i64 0, .slice none 0 0, .string ⟨#[]⟩, .int .i64 0, .slice none 0 0, .int .i64 0, .int .i64 0, .slice none 0 0] 32))) := Rg.Bk.new (by simp)
  have hb0 := Rg.hid (Rg.al3 w (.cells CS 32) (.cells #[.int .i64 x.ch, .string x.data] 42) (.cells #[.int .i64 0, .int .i64 0, .bool false, .int .i64 0, .int .i64 0, .int .i64 0, .int .i64 0, .int .i64 0, .int .i64 0, .slice none 0 0, .int .i64 0, .slice none 0 0, .string ⟨#[]⟩, .int .i64 0, .slice none 0 0, .int .i64 0, .int .i64 0, .slice none 0 0] 32))
  have kP0 : Hid (Rg.Bk (w.heap.size + 1) [.int .i64 x.ch, .string x.data] 42 (((w.alloc (.cells CS 32)).alloc (.cells #[.int .i64 x.ch, .string x.data] 42)).alloc (.cells #[.int .i64 0, .int .i64 0, .bool false, .int .i64 0, .int .i64 0, .int .i64 0, .int .i64 0, .int .i64 0, .int .i64 0, .slice none 0 0, .int .i64 0, .slice none 0 0, .string ⟨#[]⟩, .int .i64 0, .slice none 0 0, .int .i64 0, .int .i64 0, .slice none 0 0] 32))) := (Rg.Bk.new (by simp)).old _
  obtain ⟨r, hrr⟩ : ∃ r, r = Ip.send d x := ⟨_, rfl⟩
  have HT : Hid (∀ W, Below w.heap.size w W → ∀ PB, Rg.Bk PB [.int .i64 x.ch, .string x.data] 42 W → Calls Try.prog 12 #[.agg CS, .func (.func 17) #[] #[.pointer (some ⟨PB, 0, none⟩)]] W fun e w' => ∃ eb, e = .returned (.pointer (some ⟨eb, 0, none⟩)) ∧ Hid (W.heap.size ≤ eb ∧ IS (fun b => Kp b ∧ b < w.heap.size) w' eb r.1 r.2 [] ∧ Below W.heap.size W w')) := by
    intro W hW PB kPB
    rw [← eDV]
    refine ithrough_send d p w W (.pointer (some ⟨PB, 0, none⟩)) hW hd.lt hr (fun eb w' => Hid (W.heap.size ≤ eb ∧ IS (fun b => Kp b ∧ b < w.heap.size) w' eb r.1 r.2 [] ∧ Below W.heap.size W w')) fun W1 p1 q1 eb hE hB hle => ?_
    refine (isendC_any hE hr PB x (kPB.below hB kPB.lt) hql).mono fun e w' hp => ⟨hp.1, hle, ?_, hB.trans (hp.2.2.mono hle)⟩
    rw [hrr]; exact hp.2.1
  have hwr : Hid (r.1.win.l.length ≤ 100000) := by
    rw [hrr]
    exact isend_wlen hr x hd.wl
  have hqr : Hid (r.1.queue.length ≤ 100000) := by
    rw [hrr]
    have := isend_qlen d x; show _ ≤ _; omega
  replace hrr := Rg.hid hrr
  rw [eDV]
  clear hCS eDV hd hr hql
  go_enter Try.func7, Try.ntmps7
  go_upto_region 1 with fail
  generalize World.alloc _ _ = w1 at *
  obtain ⟨B, hB⟩ : ∃ B, B = w.heap.size := ⟨_, rfl⟩
  obtain ⟨R, hR⟩ : ∃ R, R = w.heap.size + 1 + 1 := ⟨_, rfl⟩
  rw [← hR] at kR0 ⊢
  obtain ⟨PB, hPB⟩ : ∃ PB, PB = w.heap.size + 1 := ⟨_, rfl⟩
  rw [← hPB] at kP0 ⊢
  replace hPB := Rg.hid hPB
  rw [← hB] at kB0 ⊢
  have hRw : Hid (w.heap.size ≤ R) := by show _ ≤ _; omega
  replace hB := Rg.hid hB
  replace hR := Rg.hid hR
  have hld := Rg.hid (Rg.row_loadVar (P := Try.prog) (t := 32) (CS := CS) kB0.out Try.underlying32 rfl hin)
  have HT1 := Rg.hid (HT.out w1 hb0.out PB kP0.out)
  clear HT kB0 hin kP0
  go_upto_region 2 with (first | (refine Rg.wpList_load_row rfl (.tmp 2) 32 rfl rfl hld.out ?_) | (go_at_call 12; refine HT1.out.mono ?_; rintro e w3 ⟨eb, rfl, hq⟩))
  obtain ⟨hle, ⟨p1, q1, hE⟩, hb3⟩ := hq.out
  replace hE := Rg.hid hE
  have kR3 := Rg.hid (kR0.out.below hb3 kR0.out.lt)
  have hRe : Hid (R < eb) := Nat.lt_of_lt_of_le kR0.out.lt hle
  have hRe2 : Hid (eb ≠ R) := fun e => by have := hRe.out; omega
  have hwe : Hid (w.heap.size ≤ eb) := Nat.le_trans hb0.out.size hle
  have hb4 := Rg.hid (Rg.chain hb0.out hb3)
  have HStr := Rg.hid (istr_end hE.out kR3.out)
  obtain ⟨d1, hd1⟩ : ∃ d1, d1 = r.1 := ⟨_, rfl⟩
  obtain ⟨so, hso⟩ : ∃ so, so = r.2 := ⟨_, rfl⟩
  rw [← hd1] at hE HStr hqr hwr
  rw [← hso] at hE HStr
  replace hd1 := Rg.hid hd1
  replace hso := Rg.hid hso
  clear HT1 hld hq hb3 kR0 hb0
  refine wp_region_held_drew (S := (fun (w' : World) => Rg.Bk eb (IC d1 p1 q1) 51 w')) (by kernel_rfl) ?_ (fun hH0 => ?_)
  · exact hE.out.bk
  refine wpAnyH_take (i := 0) (oi := { dst := some 10, op := _, type := _, pos := _, after := _, guard := _ }) (v := ?_) rfl (by kernel_rfl) (by kernel_rfl) (by kernel_rfl) (fun _ _ _ h => h) (Or.inl ⟨by rfl, ?_⟩) (by assumption) ?_
  rotate_left
  · (intro w hSw; clear hSw; go_simp); (try with_reducible rfl)
  simp only [Act.put, List.setIfInBounds_toArray, List.set_cons_zero, List.set_cons_succ]
  refine wpAnyH_take (i := 1) (oi := { dst := some 11, op := _, type := _, pos := _, after := _, guard := _ }) (v := ?_) rfl (by kernel_rfl) (by kernel_rfl) (by kernel_rfl) (fun _ _ _ h => h) (Or.inl ⟨by rfl, ?_⟩) (by assumption) ?_
  rotate_left
  · (intro w hSw; clear hSw; go_simp); (try with_reducible rfl)
  simp only [Act.put, List.setIfInBounds_toArray, List.set_cons_zero, List.set_cons_succ]
  refine wpAnyH_take (i := 2) (oi := { dst := some 12, op := _, type := _, pos := _, after := _, guard := _ }) (v := ?_) rfl (by kernel_rfl) (by kernel_rfl) (by kernel_rfl) (fun _ _ _ h => h) (Or.inl ⟨by rfl, ?_⟩) (by assumption) ?_
  rotate_left
  · (intro w hSw; clear hSw; go_simp); (try with_reducible rfl)
  simp only [Act.put, List.setIfInBounds_toArray, List.set_cons_zero, List.set_cons_succ]
  refine wpAnyH_take (i := 3) (oi := { dst := some 13, op := _, type := _, pos := _, after := _, guard := _ }) (v := DV d1 p1) rfl (by kernel_rfl) (by kernel_rfl) (by kernel_rfl) (fun _ _ _ h => h) (Or.inl ⟨by rfl, fun w hSw => iexec_load_row _ _ rfl rfl (iload_end hSw)⟩) (by assumption) ?_
  simp only [Act.put, List.setIfInBounds_toArray, List.set_cons_zero, List.set_cons_succ]
  refine wpAnyH_take (i := 4) (oi := { dst := some 14, op := _, type := _, pos := _, after := _, guard := _ }) (v := ?_) rfl (by kernel_rfl) (by kernel_rfl) (by kernel_rfl) (fun _ _ _ h => h) (Or.inl ⟨by rfl, ?_⟩) (by assumption) ?_
  rotate_left
  · (intro w hSw; clear hSw; go_simp); (try with_reducible rfl)
  simp only [Act.put, List.setIfInBounds_toArray, List.set_cons_zero, List.set_cons_succ]
  refine wpAnyH_take (i := 5) (oi := { dst := some 15, op := _, type := _, pos := _, after := _, guard := _ }) (v := ?_) rfl (by kernel_rfl) (by kernel_rfl) (by kernel_rfl) (fun _ _ _ h => h) (Or.inl ⟨by rfl, ?_⟩) (by assumption) ?_
  rotate_left
  · (intro w hSw; clear hSw; go_simp); (try with_reducible rfl)
  simp only [Act.put, List.setIfInBounds_toArray, List.set_cons_zero, List.set_cons_succ]
  refine wpAnyH_take (i := 6) (oi := { dst := some 16, op := _, type := _, pos := _, after := _, guard := _ }) (v := ?_) rfl (by kernel_rfl) (by kernel_rfl) (by kernel_rfl) (fun _ _ _ h => h) (Or.inl ⟨by rfl, ?_⟩) (by assumption) ?_
  rotate_left
  · (intro w hSw; clear hSw; go_simp); (try with_reducible rfl)
  simp only [Act.put, List.setIfInBounds_toArray, List.set_cons_zero, List.set_cons_succ]
  refine wpAnyH_ready (rs := [7]) (by kernel_rfl) (by simp) ?_
  refine AllReadyH.cons (o := { dst := some 17, op := _, type := _, pos := _, after := _, guard := _ }) rfl (fun K hK => ?_) AllReadyH.nil
  go_simp
  go_at_call 11; refine HStr.out.mono ?_; rintro e w5 ⟨rfl, hb5, kE5, kR5⟩
  refine hK.out _ _ ?_ (fun hH7 => ?_)
  · exact kE5.out
  clear hK K hH0
  try simp only [Act.put, List.setIfInBounds_toArray, List.set_cons_zero, List.set_cons_succ]
  obtain ⟨w6, hst, kR6, oR6⟩ := Rg.row_storeVar (P := Try.prog) (t := 32) (CS := (DC d1 p1).toArray) kR5.out iinfoDr2 rfl (by simp [DC, Value.oneCell'])
  replace hst : Hid ((storeVar 32 ⟨R, 0, none⟩ (DV d1 p1)).run Try.prog w5 = .ok () w6) := hst
  have kE6 : Hid (Rg.Bk eb (IC d1 p1 q1) 51 w6) := kE5.out.same (oR6.block eb hRe2.out)
  refine wpAnyH_ready (rs := [8]) (by kernel_rfl) (by simp) ?_
  refine AllReadyH.cons (o := { dst := none, op := _, type := _, pos := _, after := _, guard := _ }) rfl (fun K hK => ?_) AllReadyH.nil
  refine istep_store_row (by rfl) (.tmp 4) (.tmp 13) 32 (by rfl) (by rfl) (by rfl) hst.out ?_
  refine hK.out _ _ ?_ (fun hH8 => ?_)
  · exact kE6.out
  clear hK K hH7
  simp only [Act.put]
  refine wpAnyH_take (i := 9) (oi := { dst := some 5, op := _, type := _, pos := _, after := _, guard := _ }) (v := ?_) rfl (by kernel_rfl) (by kernel_rfl) (by kernel_rfl) (fun _ _ _ h => h) (Or.inl ⟨by rfl, ?_⟩) (by assumption) ?_
  rotate_left
  · (intro w hSw; clear hSw; go_simp); (try with_reducible rfl)
  simp only [Act.put, List.setIfInBounds_toArray, List.set_cons_zero, List.set_cons_succ]
  refine wpAnyH_done (by kernel_rfl) ?_ _
  have hfin : IDR Kp w6 d1 p1 := hE.out.rest hqr.out hwr.out hwe.out hK.out kR3.out hRe.out (fun k hk h1 h2 h3 => by rw [oR6.block k h2]; exact hb5.out.2 k hk h3) ((hb5.out.1.mono hwe.out).trans (oR6.bel hRw.out))
  have hbel : Below w.heap.size w w6 := (hb4.out.trans (hb5.out.1.mono hwe.out)).trans (oR6.bel hRw.out)
  have hres : (loadVar 32 ⟨R, 0, none⟩).run Try.prog w6 = .ok (DV d1 p1) w6 := Rg.row_loadVar (P := Try.prog) (t := 32) (CS := (DC d1 p1).toArray) kR6 Try.underlying32 rfl iinfoDr2
  have hfe : IXPost Kp w (Ip.send d x) (.returned (.tuple #[DV d1 p1, .string ⟨so.toArray⟩])) w6 := by
    rw [← hrr.out]
    refine ⟨p1, by rw [hd1.out, hso.out], by rw [← hd1.out]; exact hfin, hbel⟩
  clear hfin hbel hE HStr hb5 kE5 kR5 oR6 kE6 kR6 hst hb4 kR3 hH8
  go_wp2
  exact bodyPost_ret (v := .tuple #[DV d1 p1, .string ⟨so.toArray⟩]) (iresults_row2 rfl rfl rfl hres) rfl hfe
end Go.Proofs.Ytlclfkogbfigbaa

namespace Go.Proofs.Ytlclfkogbfigbaa
open Go.RowKit
namespace Oct
theorem ofInt64 (a : Nat) (ha : a < 9223372036854775808) : (BitVec.ofInt 64 (a : Int)).toNat = a := by
  rw [BitVec.ofInt_natCast, BitVec.toNat_ofNat]; exact Nat.mod_eq_of_lt (by omega)
theorem or_i64_nat (a b : Nat) (ha : a < 9223372036854775808) (hb : b < 9223372036854775808) : bits .or .i64 (a : Int) (b : Int) = ((a ||| b : Nat) : Int) := by
  have hx : a ||| b < 2 ^ 63 := Nat.or_lt_two_pow (by omega) (by omega)
  show IntKind.i64.wrap ((BitVec.ofInt 64 (a : Int) ||| BitVec.ofInt 64 (b : Int)).toNat : Int) = _
  rw [BitVec.toNat_or, ofInt64 a ha, ofInt64 b hb, IntKind.wrap_i64]
  omega
theorem and_i64_nat (a b : Nat) (ha : a < 9223372036854775808) (hb : b < 9223372036854775808) : bits .and .i64 (a : Int) (b : Int) = ((a &&& b : Nat) : Int) := by
  have hx : a &&& b < 2 ^ 63 := Nat.and_lt_two_pow _ (by omega)
  show IntKind.i64.wrap ((BitVec.ofInt 64 (a : Int) &&& BitVec.ofInt 64 (b : Int)).toNat : Int) = _
  rw [BitVec.toNat_and, ofInt64 a ha, ofInt64 b hb, IntKind.wrap_i64]
  omega
theorem xor_i64_nat (a b : Nat) (ha : a < 9223372036854775808) (hb : b < 9223372036854775808) : bits .xor .i64 (a : Int) (b : Int) = ((a ^^^ b : Nat) : Int) := by
  have hx : a ^^^ b < 2 ^ 63 := Nat.xor_lt_two_pow (by omega) (by omega)
  show IntKind.i64.wrap ((BitVec.ofInt 64 (a : Int) ^^^ BitVec.ofInt 64 (b : Int)).toNat : Int) = _
  rw [BitVec.toNat_xor, ofInt64 a ha, ofInt64 b hb, IntKind.wrap_i64]
  omega
theorem or_low (a c k : Nat) (hc : c < 2 ^ k) : a * 2 ^ k ||| c = a * 2 ^ k + c := by
  have := Nat.shiftLeft_add_eq_or_of_lt hc a
  rw [Nat.shiftLeft_eq] at this
  exact this.symm
theorem wrap64_nat (c : Nat) (h : c < 9223372036854775808) : wrap64 (c : Int) = (c : Int) := by unfold wrap64; omega
/-- 'n<<8 | int(c)' as the walk spells it. -/
theorem or_byte (a c : Nat) (ha : a < 16777216) (hc : c < 256) : bits .or .i64 ((a : Int) * 256) (wrap64 (c : Int)) = ((a * 256 + c : Nat) : Int) := by
  rw [wrap64_nat c (by omega)]
  have h := or_i64_nat (a * 256) c (by omega) (by omega)
  rw [Int.natCast_mul] at h
  have h2 := or_low a c 8 hc
  rw [show (2 : Nat) ^ 8 = 256 by decide] at h2
  rw [h2] at h
  exact h
end Oct
end Go.Proofs.Ytlclfkogbfigbaa
