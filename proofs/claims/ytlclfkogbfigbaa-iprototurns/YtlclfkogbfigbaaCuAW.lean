/-
  Walks of layer 16: what came grows; come.
-/
import Derived.Test.YtlclfkogbfigbaaCuAV
namespace Go.Proofs.Ytlclfkogbfigbaa
open Go.RowKit
/-- what an append to came leaves -/
structure Came1 (Kp : Nat → Prop) (eb : Nat) (W : World) (d : Gp.Dr) (p : Pl) (q : Qv) (S : List UInt8) (C : List Gp.Pc) (x : Gp.Pc) (n1 : Nat) (v' : Value) (W2 : World) : Prop where
  v : ∃ g cap, v' = .slice (some ⟨g, 0, none⟩) n1 cap ∧ IAt Kp (W2.setCell ⟨eb, 20, none⟩ (.slice (some ⟨g, 0, none⟩) n1 cap)) eb d p { q with cv := .slice (some ⟨g, 0, none⟩) n1 cap } S (C ++ [x])
  bel : Below eb W W2
  c20 : W2.cell? ⟨eb, 20, none⟩ = some q.cv
  fz : ∀ i, W2.frozen? ⟨eb, i, none⟩ = false
  keep : ∀ k, k < W.heap.size → q.cv.ownBlock ≠ some k → W2.heap[k]? = W.heap[k]?
theorem IAt.cv_form {Kp : Nat → Prop} {W : World} {eb : Nat} {d : Gp.Dr} {p : Pl} {q : Qv} {S : List UInt8} {C : List Gp.Pc} (h : IAt Kp W eb d p q S C) : ∃ a cap, q.cv = .slice a C.length cap := by
  rcases h.came.2 with ⟨e, e0⟩ | ⟨g, cap, cur, e, _⟩
  · exact ⟨none, 0, by rw [e, e0]⟩
  · exact ⟨_, _, e⟩
theorem IAt.pushC {W1 : World} {Kp : Nat → Prop} {W : World} {eb : Nat} {d : Gp.Dr} {p : Pl} {q : Qv} {S : List UInt8} {C : List Gp.Pc} (h : IAt Kp W eb d p q S C) (hb : Below W.heap.size W W1) (x : Gp.Pc) (ad : Addr) (c n n1 cc : Nat) (ca : Option Addr) (hcv : q.cv = .slice ca n cc) (hnn : C.length = n) (hn1 : n + 1 = n1) (k0 : W1.cell? ad = some (.int .i64 x.ch)) (k1 : W1.cell? (ad.add 1) = some (.string x.data)) (hn : n ≤ 1000000) :
    ∃ v' W2, (Builtin.append_ #[29, 29] 29 #[.slice ca n cc, .slice (some ad) 1 c]).run Try.prog W1 = .ok v' W2 ∧ Came1 Kp eb W d p q S C x n1 v' W2 := by
  subst hnn hn1
  have h1 := h.below hb
  have hown := h1.came
  rw [hcv] at hown
  obtain ⟨g', cap', W2, r1, r2, r3, r4⟩ := piece_append hown x ad c (fun j u hj => by
    match j, hj with
    | 0, hj => simp [pcE] at hj; subst hj; rw [show ad.add 0 = ad from rfl]; exact k0
    | 1, hj => simp [pcE] at hj; subst hj; exact k1) (Nat.le_of_lt h1.bk.lt) hn
  rw [← hcv] at r3 r4
  have hebne := own_ne h1.came h1.bk (by decide) (e := 0) rfl
  have hk2 : Rg.Bk eb (IC d p q) 51 W2 := h1.bk.same (r3.block eb h1.bk.lt (fun e => hebne e.symm))
  have hlow : ∀ k, k < eb → q.cv.ownBlock ≠ some k := fun k hk e => by have := (h1.came.lt k e).1; omega
  have hbel : Below eb W1 W2 := ⟨r3.os, r3.tape, r3.output, r3.size, fun k hk => r3.block k (Nat.lt_trans hk h1.bk.lt) (fun e => hlow k hk e.symm)⟩
  refine ⟨_, W2, r1, ⟨⟨g', cap', rfl, ?_⟩, (hb.mono (Nat.le_of_lt h.bk.lt)).trans hbel, hk2.cell 20, hk2.thaw, fun k hk hne => ?_⟩⟩
  · obtain ⟨w5, hw5⟩ : ∃ w5, w5 = W2.setCell ⟨eb, 20, none⟩ (.slice (some ⟨g', 0, none⟩) (C.length + 1) cap') := ⟨_, rfl⟩
    rw [← hw5]
    have hk5 : ∀ k, k ≠ eb → w5.heap[k]? = W2.heap[k]? := fun k hk => by rw [hw5]; exact Below.heap_setCell _ _ _ _ hk
    have hb5 : Below eb W1 w5 := by rw [hw5]; exact hbel.setCell (p := ⟨eb, 20, none⟩) (Nat.le_refl _) _
    have hkk : ∀ k, k < W1.heap.size → k ≠ eb → (∀ v ∈ ivs d p q, v.ownBlock ≠ some k) → w5.heap[k]? = W1.heap[k]? := fun k hk hke hv => by
      rw [hk5 k hke]
      exact r3.block k hk (fun e => hv q.cv (by simp [ivs]) e.symm)
    have hvv : ∀ z ∈ ivs d p { q with cv := .slice (some ⟨g', 0, none⟩) (C.length + 1) cap' }, ∀ g, z.ownBlock = some g → (∃ v ∈ ivs d p q, v.ownBlock = some g) ∨ W1.heap.size ≤ g := by
      intro z hm g hg
      simp only [ivs, List.mem_cons, List.not_mem_nil, or_false] at hm
      rcases hm with rfl | rfl | rfl | rfl
      · exact .inl ⟨q.sb, by simp [ivs], hg⟩
      · simp [Value.ownBlock] at hg
        subst hg
        rcases r4 with e | e
        · exact .inl ⟨q.cv, by simp [ivs], e⟩
        · exact .inr e
      · exact .inl ⟨.slice p.t d.took.length p.tc, by simp [ivs], hg⟩
      · exact .inl ⟨tok q.ag, by simp [ivs], hg⟩
    have hbk2 : Rg.Bk eb (IC d p { q with cv := .slice (some ⟨g', 0, none⟩) (C.length + 1) cap' }) 51 w5 := by
      rw [hw5]
      have := hk2.set 20 (.slice (some ⟨g', 0, none⟩) (C.length + 1) cap')
      have e : IC d p { q with cv := .slice (some ⟨g', 0, none⟩) (C.length + 1) cap' } = (IC d p q).set 20 (.slice (some ⟨g', 0, none⟩) (C.length + 1) cap') := by
        unfold IC
        simp [List.set]
      rw [e]; exact this
    have hgk : ∀ {g : Nat} {cs : Array Value} {T : TypeId} {fz : Nat × Nat}, W1.heap[g]? = some (.cells cs T fz) → T ≠ 42 → g ≠ eb → w5.heap[g]? = W1.heap[g]? := fun {g cs T fz} hg hT hge => by
      rw [hk5 g hge]
      refine r3.block g (Array.getElem?_eq_some_iff.1 hg).1 (fun e => ?_)
      exact own_ne h1.came hg (Ne.symm hT) (e := 0) rfl e.symm
    refine ⟨hbk2, h1.win.kept hb5 hkk hvv, h.wcap, ?_, h.acap, h1.queue.kept hb5 hkk hvv, ?_, h.sa, ?_, ?_⟩
    · rcases h1.ahead with ⟨e, ha⟩ | ⟨g, e, ha⟩
      · exact .inl ⟨e, ha.kept hb5 hkk hvv⟩
      · refine .inr ⟨g, e, ?_⟩
        have ha0 := ha
        obtain ⟨hlt, o, cur, _, h3, _⟩ := ha0
        exact ha.kept (hgk h3 (by decide) (by omega))
    · refine own_kept h1.took fun g hg => ?_
      have hlt := h1.vs _ (show Value.slice p.t d.took.length p.tc ∈ ivs d p q by simp [ivs]) g hg
      rcases h1.took.2 with ⟨e, _⟩ | ⟨g2, cap, cur, e, _, hgg, _⟩
      · rw [e] at hg; simp [Value.ownBlock] at hg
      · rw [e] at hg
        simp [Value.ownBlock] at hg
        subst hg
        exact hgk hgg (by decide) (by omega)
    · refine h1.said.kept fun g hg => ?_
      have hlt := h1.vs _ (show q.sb ∈ ivs d p q by simp [ivs]) g hg
      obtain ⟨cs, fz, hT⟩ := Lib.ownsRowF_kind h1.said.own g hg
      exact hgk hT (by decide) (by omega)
    · have e3 : (C ++ [x]).length = C.length + 1 := by simp
      show World.ownsRow _ eb 42 2 (.slice (some ⟨g', 0, none⟩) (C.length + 1) cap') (C ++ [x]).length (pcE.flat (C ++ [x]))
      rw [e3]
      refine own_kept r2 fun g hg => hk5 g (fun e => ?_)
      simp [Value.ownBlock] at hg
      subst hg
      rcases r4 with e2 | e2
      · rw [e] at e2; exact hebne e2
      · have := h1.bk.lt; omega
  · rw [r3.block k (Nat.lt_of_lt_of_le hk hb.size) (fun e => hne e.symm)]
    exact hb.block k hk
/-- what come leaves -/
def ICome (Kp : Nat → Prop) (eb : Nat) (W : World) (d : Gp.Dr) (p : Pl) (q : Qv) (S : List UInt8) (C : List Gp.Pc) (e : Ending) (w' : World) : Prop := e = .returned (.tuple #[]) ∧ ∃ cv, IAt Kp w' eb d p { q with cv := cv } S C ∧ Below eb W w'
set_option maxHeartbeats 4000000 in
set_option maxRecDepth 100000 in
theorem icome_any {Kp : Nat → Prop} {W : World} {eb : Nat} {d : Gp.Dr} {p : Pl} {q : Qv} {S : List UInt8} {C : List Gp.Pc} (h : IAt Kp W eb d p q S C) (kd nm ak ch : Int) (ca0 : Bool) (D : ByteArray) (hw : 0 ≤ d.wants ∧ d.wants ≤ 31) (hn : C.length ≤ 1000000) :
    Calls Try.prog 78 #[.pointer (some ⟨eb, 0, none⟩), .agg #[.int .i64 kd, .int .i64 nm, .int .i64 ak, .int .i64 ch, .bool ca0, .string D]] W fun e w' => ICome Kp eb W { d with wants := (d.wants + 1) % 32 } p q S (C ++ [⟨ch, D⟩]) e w' := by
  obtain ⟨wn, hwn⟩ : ∃ wn, d.wants = wn := ⟨_, rfl⟩
  obtain ⟨wn2, hwn2⟩ : ∃ wn2, (d.wants + 1) % 32 = wn2 := ⟨_, rfl⟩
  have a1 : wrap64 (wn + 1) = wn + 1 := by unfold wrap64; omega
  have a2 : (wn + 1).tmod 32 = wn2 := by rw [Int.tmod_eq_emod_of_nonneg (by omega)]; omega
  have a3 : IntKind.i64.wrap (wn + 1) = wn + 1 := by rw [IntKind.wrap_i64]; omega
  rw [hwn2]
  clear hwn2
  have kF0 : Hid (Rg.Bk W.heap.size [.int .i64 kd, .int .i64 nm, .int .i64 ak, .int .i64 ch, .bool ca0, .string D] 63 (W.alloc (.cells #[.int .i64 kd, .int .i64 nm, .int .i64 ak, .int .i64 ch, .bool ca0, .string D] 63))) := Rg.Bk.new rfl
  have bF := Rg.hid (Rg.al1 W (.cells #[.int .i64 kd, .int .i64 nm, .int .i64 ak, .int .i64 ch, .bool ca0, .string D] 63))
  go_enter Try.func78, Try.ntmps78
  go_upto_region 1 with fail
  generalize World.alloc _ _ = w2 at *
  obtain ⟨F, hF⟩ : ∃ F, F = W.heap.size := ⟨_, rfl⟩
  rw [← hF] at kF0 ⊢
  obtain ⟨ca, cc, hcv⟩ := h.cv_form
  have hE2 := h.below bF.out
  obtain ⟨n, hnn⟩ : ∃ n, C.length = n := ⟨_, rfl⟩
  obtain ⟨n1, hn1⟩ : ∃ n1, n + 1 = n1 := ⟨_, rfl⟩
  rw [hnn] at hcv
  have c20 : w2.cell? ⟨eb, 20, none⟩ = some (.slice ca n cc) := by rw [← hcv]; exact hE2.bk.cell 20
  have fz := hE2.bk.thaw
  obtain ⟨v', w3, hap, ht3⟩ := hE2.pushC (W1 := (w2.alloc (.cells #[.int .i64 ch, .string D] 42)).drew) ((Rg.al1 _ _).drew) ⟨ch, D⟩ ⟨w2.heap.size, 0, none⟩ 1 n n1 cc ca hcv hnn hn1 (Rg.cell_new rfl rfl) (Rg.cell_new rfl rfl) (by omega)
  obtain ⟨⟨g, cap, rfl, hE3⟩, hb3, e20, fz3, hkp⟩ := ht3
  rw [hcv] at e20
  have hlt1 : eb < w2.heap.size := hE2.bk.lt
  have hlt2 : F < w2.heap.size := kF0.out.lt
  have hFe : F ≠ eb := fun e => by have := h.bk.lt; omega
  have kf3 : w2.cell? ⟨F, 3, none⟩ = some (.int .i64 ch) := kF0.out.cell 3
  have kf5 : w2.cell? ⟨F, 5, none⟩ = some (.string D) := kF0.out.cell 5
  have af3 : (w2.alloc (.cells #[.int .i64 ch, .string D] 42)).drew.cell? ⟨F, 3, none⟩ = some (.int .i64 ch) := (kF0.out.old _).cell 3
  have af5 : (w2.alloc (.cells #[.int .i64 ch, .string D] 42)).drew.cell? ⟨F, 5, none⟩ = some (.string D) := (kF0.out.old _).cell 5
  have kF3 : w3.heap[F]? = w2.heap[F]? := hkp F kF0.out.lt (fun e => by have := (h.came.lt F e).2; omega)
  have ef3 : w3.cell? ⟨F, 3, none⟩ = some (.int .i64 ch) := by rw [World.cell?_of_block (a := ⟨F, 3, none⟩) kF3]; exact kf3
  have ef5 : w3.cell? ⟨F, 5, none⟩ = some (.string D) := by rw [World.cell?_of_block (a := ⟨F, 5, none⟩) kF3]; exact kf5
  have jf3 : (w3.setCell ⟨eb, 20, none⟩ (.slice (some ⟨g, 0, none⟩) n1 cap)).cell? ⟨F, 3, none⟩ = some (.int .i64 ch) := by rw [World.cell?_of_block (a := ⟨F, 3, none⟩) (Below.heap_setCell _ _ _ _ (by show F ≠ eb; exact hFe))]; exact ef3
  have jf5 : (w3.setCell ⟨eb, 20, none⟩ (.slice (some ⟨g, 0, none⟩) n1 cap)).cell? ⟨F, 5, none⟩ = some (.string D) := by rw [World.cell?_of_block (a := ⟨F, 5, none⟩) (Below.heap_setCell _ _ _ _ (by show F ≠ eb; exact hFe))]; exact ef5
  replace hap := Rg.hid hap
  replace hE3 := Rg.hid hE3
  have f3 : Hid (Below eb W (w3.setCell ⟨eb, 20, none⟩ (.slice (some ⟨g, 0, none⟩) n1 cap))) := ((bF.out.mono (Nat.le_of_lt h.bk.lt)).trans hb3).trans (below_set eb 20 _)
  replace hwn := Rg.hid hwn
  clear h hE2 hb3 hkp kF0 kF3 hcv hnn hn1 hn bF hF hFe
  refine wp_region_held_drew (S := (fun (w' : World) => w'.cell? ⟨F, 3, none⟩ = some (.int .i64 ch) ∧ w'.cell? ⟨F, 5, none⟩ = some (.string D))) (by kernel_rfl) ?_ (fun hH0 => ?_)
  · exact ⟨kf3, kf5⟩
  refine wpAnyH_take (i := 0) (oi := { dst := some 4, op := _, type := _, pos := _, after := _, guard := _ }) (v := ?_) rfl (by kernel_rfl) (by kernel_rfl) (by kernel_rfl) (fun _ _ _ h => h) (Or.inl ⟨by rfl, ?_⟩) (by assumption) ?_
  rotate_left
  · (intro w hSw; (try dsimp only at hSw); go_simp); (try with_reducible rfl)
  simp only [Act.put, List.setIfInBounds_toArray, List.set_cons_zero, List.set_cons_succ]
  refine wpAnyH_take (i := 1) (oi := { dst := some 5, op := _, type := _, pos := _, after := _, guard := _ }) (v := ?_) rfl (by kernel_rfl) (by kernel_rfl) (by kernel_rfl) (fun _ _ _ h => h) (Or.inl ⟨by rfl, ?_⟩) (by assumption) ?_
  rotate_left
  · (intro w hSw; (try dsimp only at hSw); go_simp); (try with_reducible rfl)
  simp only [Act.put, List.setIfInBounds_toArray, List.set_cons_zero, List.set_cons_succ]
  refine wpAnyH_take (i := 2) (oi := { dst := some 6, op := _, type := _, pos := _, after := _, guard := _ }) (v := ?_) rfl (by kernel_rfl) (by kernel_rfl) (by kernel_rfl) (fun _ _ _ h => h) (Or.inl ⟨by rfl, ?_⟩) (by assumption) ?_
  rotate_left
  · (intro w hSw; (try dsimp only at hSw); go_simp); (try with_reducible rfl)
  simp only [Act.put, List.setIfInBounds_toArray, List.set_cons_zero, List.set_cons_succ]
  refine wpAnyH_take (i := 3) (oi := { dst := some 7, op := _, type := _, pos := _, after := _, guard := _ }) (v := ?_) rfl (by kernel_rfl) (by kernel_rfl) (by kernel_rfl) (fun _ _ _ h => h) (Or.inl ⟨by rfl, ?_⟩) (by assumption) ?_
  rotate_left
  · (intro w hSw; (try dsimp only at hSw); go_simp); (try with_reducible rfl)
  simp only [Act.put, List.setIfInBounds_toArray, List.set_cons_zero, List.set_cons_succ]
  refine wpAnyH_take (i := 5) (oi := { dst := some 9, op := _, type := _, pos := _, after := _, guard := _ }) (v := ?_) rfl (by kernel_rfl) (by kernel_rfl) (by kernel_rfl) (fun _ _ _ h => h) (Or.inl ⟨by rfl, ?_⟩) (by assumption) ?_
  rotate_left
  · (intro w hSw; (try dsimp only at hSw); go_simp); (try with_reducible rfl)
  simp only [Act.put, List.setIfInBounds_toArray, List.set_cons_zero, List.set_cons_succ]
  refine wpAnyH_take (i := 6) (oi := { dst := some 10, op := _, type := _, pos := _, after := _, guard := _ }) (v := ?_) rfl (by kernel_rfl) (by kernel_rfl) (by kernel_rfl) (fun _ _ _ h => h) (Or.inl ⟨by rfl, ?_⟩) (by assumption) ?_
  rotate_left
  · (intro w hSw; (try dsimp only at hSw); go_simp); (try with_reducible rfl)
  simp only [Act.put, List.setIfInBounds_toArray, List.set_cons_zero, List.set_cons_succ]
  refine wpAnyH_take (i := 7) (oi := { dst := some 11, op := _, type := _, pos := _, after := _, guard := _ }) (v := ?_) rfl (by kernel_rfl) (by kernel_rfl) (by kernel_rfl) (fun _ _ _ h => h) (Or.inl ⟨by rfl, ?_⟩) (by assumption) ?_
  rotate_left
  · (intro w hSw; (try dsimp only at hSw); go_simp); (try with_reducible rfl)
  simp only [Act.put, List.setIfInBounds_toArray, List.set_cons_zero, List.set_cons_succ]
  refine wpAnyH_take (i := 8) (oi := { dst := some 12, op := _, type := _, pos := _, after := _, guard := _ }) (v := ?_) rfl (by kernel_rfl) (by kernel_rfl) (by kernel_rfl) (fun _ _ _ h => h) (Or.inl ⟨by rfl, ?_⟩) (by assumption) ?_
  rotate_left
  · (intro w hSw; (try dsimp only at hSw); go_simp); (try with_reducible rfl)
  simp only [Act.put, List.setIfInBounds_toArray, List.set_cons_zero, List.set_cons_succ]
  refine wpAnyH_take (i := 9) (oi := { dst := some 13, op := _, type := _, pos := _, after := _, guard := _ }) (v := ?_) rfl (by kernel_rfl) (by kernel_rfl) (by kernel_rfl) (fun _ _ _ h => h) (Or.inl ⟨by rfl, ?_⟩) (by assumption) ?_
  rotate_left
  · (intro w hSw; (try dsimp only at hSw); go_simp); (try with_reducible rfl)
  simp only [Act.put, List.setIfInBounds_toArray, List.set_cons_zero, List.set_cons_succ]
  refine wpAnyH_ready (rs := [4, 10]) (by kernel_rfl) (by simp) ?_
  refine AllReadyH.cons (o := { dst := some 8, op := _, type := _, pos := _, after := _, guard := _ }) rfl (fun K hK => ?_) (AllReadyH.cons (o := { dst := some 14, op := _, type := _, pos := _, after := _, guard := _ }) rfl (fun K hK => ?_) AllReadyH.nil)
  · go_simp
    refine hK.out _ _ ?_ (fun hH5 => ?_)
    · exact ⟨kf3, kf5⟩
    clear hK K hH0
    try simp only [Act.put, List.setIfInBounds_toArray, List.set_cons_zero, List.set_cons_succ]
    refine wpAnyH_ready (rs := [10]) (by kernel_rfl) (by simp) ?_
    refine AllReadyH.cons (o := { dst := some 14, op := _, type := _, pos := _, after := _, guard := _ }) rfl (fun K hK => ?_) AllReadyH.nil
    go_simp
    refine hK.out _ _ ?_ (fun hH23 => ?_)
    · exact ⟨af3, af5⟩
    clear hK K hH5
    refine wpAnyH_ready (rs := [11]) (by kernel_rfl) (by simp) ?_
    refine AllReadyH.cons (o := { dst := some 15, op := _, type := _, pos := _, after := _, guard := _ }) rfl (fun K hK => ?_) AllReadyH.nil
    refine Rg.step_append_run (by rfl) (.tmp 8) (.tmp 14) 29 (by rfl) _ _ (by rfl) (by rfl) hap.out ?_
    refine hK.out _ _ ?_ (fun hH24 => ?_)
    · exact ⟨ef3, ef5⟩
    clear hK K hH23
    simp only [Act.put, List.setIfInBounds_toArray, List.set_cons_zero, List.set_cons_succ]
    refine wpAnyH_take (i := 12) (oi := { dst := some 16, op := _, type := _, pos := _, after := _, guard := _ }) (v := ?_) rfl (by kernel_rfl) (by kernel_rfl) (by kernel_rfl) (fun _ _ _ h => h) (Or.inl ⟨by rfl, ?_⟩) (by assumption) ?_
    rotate_left
    · (intro w hSw; (try dsimp only at hSw); go_simp); (try with_reducible rfl)
    simp only [Act.put, List.setIfInBounds_toArray, List.set_cons_zero, List.set_cons_succ]
    refine wpAnyH_take (i := 13) (oi := { dst := some 17, op := _, type := _, pos := _, after := _, guard := _ }) (v := ?_) rfl (by kernel_rfl) (by kernel_rfl) (by kernel_rfl) (fun _ _ _ h => h) (Or.inl ⟨by rfl, ?_⟩) (by assumption) ?_
    rotate_left
    · (intro w hSw; (try dsimp only at hSw); go_simp); (try with_reducible rfl)
    simp only [Act.put, List.setIfInBounds_toArray, List.set_cons_zero, List.set_cons_succ]
    refine wpAnyH_ready (rs := [14]) (by kernel_rfl) (by simp) ?_
    refine AllReadyH.cons (o := { dst := none, op := _, type := _, pos := _, after := _, guard := _ }) rfl (fun K hK => ?_) AllReadyH.nil
    go_simp
    refine hK.out _ _ ?_ (fun hH28 => ?_)
    · exact ⟨jf3, jf5⟩
    clear hK K hH24
    refine wpAnyH_done (by kernel_rfl) ?_ _
    clear kf3 kf5 af3 af5 ef3 ef5 jf3 jf5 c20 e20 fz fz3 hap
    generalize World.setCell _ _ _ = w4 at *
    have c10 : w4.cell? ⟨eb, 10, none⟩ = some (.int .i64 wn) := by rw [← hwn.out]; exact hE3.out.bk.cell 10
    have fz := hE3.out.bk.thaw
    have h5 := Rg.hid (hE3.out.upd 10 (.int .i64 wn2) { d with wants := wn2 } rfl rfl rfl rfl rfl)
    have f5 := Rg.hid (f3.out.trans (below_set eb 10 (.int .i64 wn2)))
    clear hE3 f3 hwn
    go_wp2
    generalize World.setCell _ _ _ = w5 at *
    go_end0
    exact ⟨rfl, _, h5.out, f5.out⟩
  · go_simp
    refine hK.out _ _ ?_ (fun hH23 => ?_)
    · exact ⟨af3, af5⟩
    clear hK K hH0
    try simp only [Act.put, List.setIfInBounds_toArray, List.set_cons_zero, List.set_cons_succ]
    refine wpAnyH_ready (rs := [4]) (by kernel_rfl) (by simp) ?_
    refine AllReadyH.cons (o := { dst := some 8, op := _, type := _, pos := _, after := _, guard := _ }) rfl (fun K hK => ?_) AllReadyH.nil
    go_simp
    refine hK.out _ _ ?_ (fun hH5 => ?_)
    · exact ⟨af3, af5⟩
    clear hK K hH23
    refine wpAnyH_ready (rs := [11]) (by kernel_rfl) (by simp) ?_
    refine AllReadyH.cons (o := { dst := some 15, op := _, type := _, pos := _, after := _, guard := _ }) rfl (fun K hK => ?_) AllReadyH.nil
    refine Rg.step_append_run (by rfl) (.tmp 8) (.tmp 14) 29 (by rfl) _ _ (by rfl) (by rfl) hap.out ?_
    refine hK.out _ _ ?_ (fun hH24 => ?_)
    · exact ⟨ef3, ef5⟩
    clear hK K hH5
    simp only [Act.put, List.setIfInBounds_toArray, List.set_cons_zero, List.set_cons_succ]
    refine wpAnyH_take (i := 12) (oi := { dst := some 16, op := _, type := _, pos := _, after := _, guard := _ }) (v := ?_) rfl (by kernel_rfl) (by kernel_rfl) (by kernel_rfl) (fun _ _ _ h => h) (Or.inl ⟨by rfl, ?_⟩) (by assumption) ?_
    rotate_left
    · (intro w hSw; (try dsimp only at hSw); go_simp); (try with_reducible rfl)
    simp only [Act.put, List.setIfInBounds_toArray, List.set_cons_zero, List.set_cons_succ]
    refine wpAnyH_take (i := 13) (oi := { dst := some 17, op := _, type := _, pos := _, after := _, guard := _ }) (v := ?_) rfl (by kernel_rfl) (by kernel_rfl) (by kernel_rfl) (fun _ _ _ h => h) (Or.inl ⟨by rfl, ?_⟩) (by assumption) ?_
    rotate_left
    · (intro w hSw; (try dsimp only at hSw); go_simp); (try with_reducible rfl)
    simp only [Act.put, List.setIfInBounds_toArray, List.set_cons_zero, List.set_cons_succ]
    refine wpAnyH_ready (rs := [14]) (by kernel_rfl) (by simp) ?_
    refine AllReadyH.cons (o := { dst := none, op := _, type := _, pos := _, after := _, guard := _ }) rfl (fun K hK => ?_) AllReadyH.nil
    go_simp
    refine hK.out _ _ ?_ (fun hH28 => ?_)
    · exact ⟨jf3, jf5⟩
    clear hK K hH24
    refine wpAnyH_done (by kernel_rfl) ?_ _
    clear kf3 kf5 af3 af5 ef3 ef5 jf3 jf5 c20 e20 fz fz3 hap
    generalize World.setCell _ _ _ = w4 at *
    have c10 : w4.cell? ⟨eb, 10, none⟩ = some (.int .i64 wn) := by rw [← hwn.out]; exact hE3.out.bk.cell 10
    have fz := hE3.out.bk.thaw
    have h5 := Rg.hid (hE3.out.upd 10 (.int .i64 wn2) { d with wants := wn2 } rfl rfl rfl rfl rfl)
    have f5 := Rg.hid (f3.out.trans (below_set eb 10 (.int .i64 wn2)))
    clear hE3 f3 hwn
    go_wp2
    generalize World.setCell _ _ _ = w5 at *
    go_end0
    exact ⟨rfl, _, h5.out, f5.out⟩
end Go.Proofs.Ytlclfkogbfigbaa
