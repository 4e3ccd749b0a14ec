/-
  Walks of layer 16: what came early is one's own; keep.
-/
import Derived.Test.YtlclfkogbfigbaaCuAZ
namespace Go.Proofs.Ytlclfkogbfigbaa
open Go.RowKit
/-- what came early lies in a block of the end's own, or there is none of it -/
def IOw (d : Gp.Dr) (p : Pl) (q : Qv) : Prop := q.ag = none → d.ahead = [] ∧ p.ac = 0
/-- what came early is told anew, in its block or in a new one -/
theorem IAt.setAhead {W' : World} {Kp : Nat → Prop} {W : World} {eb : Nat} {d : Gp.Dr} {p : Pl} {q : Qv} {S : List UInt8} {C : List Gp.Pc} (h : IAt Kp W eb d p q S C) (hb : Below eb W W') (hk : ∀ k, k < W.heap.size → q.ag ≠ some k → W'.heap[k]? = W.heap[k]?) {g' : Nat} {a' : Option Addr} {c' : Nat} {l' : List Gp.Fi} (hA : AO W' eb g' a' c' l') (hc : l'.length ≤ c') (hg : q.ag = some g' ∨ W.heap.size ≤ g') :
    IAt Kp (W'.setCell ⟨eb, 11, none⟩ (.slice a' l'.length c')) eb { d with ahead := l' } { p with a := a', ac := c' } { q with ag := some g' } S C := by
  have hage : ∀ g, q.ag = some g → eb < g ∧ ∃ cur, W.heap[g]? = some (.cells cur 63 (0, 0)) := fun g e => by
    rcases h.ahead with ⟨e2, _⟩ | ⟨g2, e2, ha⟩
    · rw [e2] at e; cases e
    · rw [e2] at e; cases e
      obtain ⟨h1, o, cur, _, h3, _⟩ := ha
      exact ⟨h1, cur, h3⟩
  have hkb : W'.heap[eb]? = W.heap[eb]? := hk eb h.bk.lt (fun e => by have := (hage eb e).1; omega)
  obtain ⟨w5, hw5⟩ : ∃ w5, w5 = W'.setCell ⟨eb, 11, none⟩ (.slice a' l'.length c') := ⟨_, rfl⟩
  rw [← hw5]
  have hk5 : ∀ k, k ≠ eb → w5.heap[k]? = W'.heap[k]? := fun k hke => by rw [hw5]; exact Below.heap_setCell _ _ _ _ hke
  have hb5 : Below eb W w5 := by rw [hw5]; exact hb.trans (below_set eb 11 _)
  have hkk : ∀ k, k < W.heap.size → k ≠ eb → (∀ v ∈ ivs d p q, v.ownBlock ≠ some k) → w5.heap[k]? = W.heap[k]? := fun k hk1 hke hv => by
    rw [hk5 k hke]
    exact hk k hk1 (fun e => hv (tok q.ag) (by simp [ivs]) ((tok_own _ _).2 e))
  have hvv : ∀ z ∈ ivs { d with ahead := l' } { p with a := a', ac := c' } { q with ag := some g' }, ∀ g, z.ownBlock = some g → (∃ v ∈ ivs d p q, v.ownBlock = some g) ∨ W.heap.size ≤ g := by
    intro z hm g hgz
    simp only [ivs, List.mem_cons, List.not_mem_nil, or_false] at hm
    rcases hm with rfl | rfl | rfl | rfl
    · exact .inl ⟨q.sb, by simp [ivs], hgz⟩
    · exact .inl ⟨q.cv, by simp [ivs], hgz⟩
    · exact .inl ⟨.slice p.t d.took.length p.tc, by simp [ivs], hgz⟩
    · have e : g' = g := by have := (tok_own (some g') g).1 hgz; cases this; rfl
      subst e
      rcases hg with hg | hg
      · exact .inl ⟨tok q.ag, by simp [ivs], (tok_own _ _).2 hg⟩
      · exact .inr hg
  have hbk : Rg.Bk eb (IC { d with ahead := l' } { p with a := a', ac := c' } { q with ag := some g' }) 51 w5 := by
    have := (h.bk.same hkb).set 11 (.slice a' l'.length c')
    rw [hw5]
    have e : IC { d with ahead := l' } { p with a := a', ac := c' } { q with ag := some g' } = (IC d p q).set 11 (.slice a' l'.length c') := by
      unfold IC
      simp [List.set]
    rw [e]; exact this
  have hgk : ∀ {g : Nat} {cs : Array Value} {T : TypeId} {fz : Nat × Nat}, W.heap[g]? = some (.cells cs T fz) → T ≠ 63 → g ≠ eb → w5.heap[g]? = W.heap[g]? := fun {g cs T fz} hgg hT hge => by
    rw [hk5 g hge]
    refine hk g (Array.getElem?_eq_some_iff.1 hgg).1 (fun e => ?_)
    obtain ⟨_, cur, h3⟩ := hage g e
    rw [hgg] at h3
    cases h3
    exact hT rfl
  refine ⟨hbk, h.win.kept hb5 hkk hvv, h.wcap, .inr ⟨g', rfl, ?_⟩, hc, h.queue.kept hb5 hkk hvv, ?_, h.sa, ?_, ?_⟩
  · exact hA.kept (hk5 g' (by have := hA.1; omega))
  · refine own_kept h.took fun g hgt => ?_
    have hlt := h.vs _ (show Value.slice p.t d.took.length p.tc ∈ ivs d p q by simp [ivs]) g hgt
    rcases h.took.2 with ⟨e, _⟩ | ⟨g2, cap, cur, e, _, hgg, _⟩
    · rw [e] at hgt; simp [Value.ownBlock] at hgt
    · rw [e] at hgt
      simp [Value.ownBlock] at hgt
      subst hgt
      exact hgk hgg (by decide) (by omega)
  · refine h.said.kept fun g hgt => ?_
    have hlt := h.vs _ (show q.sb ∈ ivs d p q by simp [ivs]) g hgt
    obtain ⟨cs, fz, hT⟩ := Lib.ownsRowF_kind h.said.own g hgt
    exact hgk hT (by decide) (by omega)
  · refine own_kept h.came fun g hgt => ?_
    have hlt := h.vs _ (show q.cv ∈ ivs d p q by simp [ivs]) g hgt
    rcases h.came.2 with ⟨e, _⟩ | ⟨g2, cap, cur, e, _, hgg, _⟩
    · rw [e] at hgt; simp [Value.ownBlock] at hgt
    · rw [e] at hgt
      simp [Value.ownBlock] at hgt
      subst hgt
      exact hgk hgg (by decide) (by omega)
set_option maxHeartbeats 4000000 in
set_option maxRecDepth 100000 in
theorem ikeep_found (eb n P : Nat) (a : Option Addr) (c : Nat) (kd nm ak ch : Int) (ca : Bool) (D : ByteArray) (W : World) (c11 : W.cell? ⟨eb, 11, none⟩ = some (.slice a n c)) (heb : eb < W.heap.size)
    (HB : Hid (∀ W1 PB, Below W.heap.size W W1 → Rg.Bk PB [.pointer (some ⟨eb, 0, none⟩)] 46 W1 → Calls Try.prog 89 #[.slice a n c, .agg #[.int .i64 kd, .int .i64 nm, .int .i64 ak, .int .i64 ch, .bool ca, .string D], .func (.func 90) #[] #[.pointer (some ⟨PB, 0, none⟩)]] W1 fun e w' => e = .returned (.tuple #[.int .i64 (P : Int), .bool true]) ∧ Below W1.heap.size W1 w')) :
    Calls Try.prog 80 #[.pointer (some ⟨eb, 0, none⟩), .agg #[.int .i64 kd, .int .i64 nm, .int .i64 ak, .int .i64 ch, .bool ca, .string D]] W fun e w' => e = .returned (.tuple #[]) ∧ Below W.heap.size W w' := by
  have b0 := Rg.hid (Rg.al2 W (.cells #[.pointer (some ⟨eb, 0, none⟩)] 46) (.cells #[.int .i64 kd, .int .i64 nm, .int .i64 ak, .int .i64 ch, .bool ca, .string D] 63))
  have kA0 : Hid (Rg.Bk W.heap.size [.pointer (some ⟨eb, 0, none⟩)] 46 ((W.alloc (.cells #[.pointer (some ⟨eb, 0, none⟩)] 46)).alloc (.cells #[.int .i64 kd, .int .i64 nm, .int .i64 ak, .int .i64 ch, .bool ca, .string D] 63))) := (Rg.Bk.new rfl).old _
  have kB0 : Hid (Rg.Bk (W.heap.size + 1) [.int .i64 kd, .int .i64 nm, .int .i64 ak, .int .i64 ch, .bool ca, .string D] 63 ((W.alloc (.cells #[.pointer (some ⟨eb, 0, none⟩)] 46)).alloc (.cells #[.int .i64 kd, .int .i64 nm, .int .i64 ak, .int .i64 ch, .bool ca, .string D] 63))) := Rg.Bk.new (by simp)
  have d11 := ((Rg.bcell b0.out).1 eb 11 heb).trans c11
  clear c11
  go_enter Try.func80, Try.ntmps80
  go_upto_region 1 with fail
  generalize World.alloc _ _ = w1 at *
  obtain ⟨PA, hPA⟩ : ∃ PA, PA = W.heap.size := ⟨_, rfl⟩
  obtain ⟨PB, hPB⟩ : ∃ PB, PB = W.heap.size + 1 := ⟨_, rfl⟩
  rw [← hPB] at kB0 ⊢
  rw [← hPA] at kA0 ⊢
  replace hPA := Rg.hid hPA
  replace hPB := Rg.hid hPB
  have g0 : w1.cell? ⟨PA, 0, none⟩ = some (.pointer (some ⟨eb, 0, none⟩)) := kA0.out.cell 0
  have f0 : w1.cell? ⟨PB, 0, none⟩ = some (.int .i64 kd) := kB0.out.cell 0
  have f1 : w1.cell? ⟨PB, 1, none⟩ = some (.int .i64 nm) := kB0.out.cell 1
  have f2 : w1.cell? ⟨PB, 2, none⟩ = some (.int .i64 ak) := kB0.out.cell 2
  have f3 : w1.cell? ⟨PB, 3, none⟩ = some (.int .i64 ch) := kB0.out.cell 3
  have f4 : w1.cell? ⟨PB, 4, none⟩ = some (.bool ca) := kB0.out.cell 4
  have f5 : w1.cell? ⟨PB, 5, none⟩ = some (.string D) := kB0.out.cell 5
  have HB1 : Hid (Calls Try.prog 89 #[.slice a n c, .agg #[.int .i64 kd, .int .i64 nm, .int .i64 ak, .int .i64 ch, .bool ca, .string D], .func (.func 90) #[] #[.pointer (some ⟨PA, 0, none⟩)]] w1.drew fun e w' => e = .returned (.tuple #[.int .i64 (P : Int), .bool true]) ∧ Hid (Below W.heap.size W w') ∧ Hid (w'.cell? ⟨PA, 0, none⟩ = some (.pointer (some ⟨eb, 0, none⟩)) ∧ w'.cell? ⟨eb, 11, none⟩ = some (.slice a n c) ∧ w'.cell? ⟨PB, 0, none⟩ = some (.int .i64 kd) ∧ w'.cell? ⟨PB, 1, none⟩ = some (.int .i64 nm) ∧ w'.cell? ⟨PB, 2, none⟩ = some (.int .i64 ak) ∧ w'.cell? ⟨PB, 3, none⟩ = some (.int .i64 ch) ∧ w'.cell? ⟨PB, 4, none⟩ = some (.bool ca) ∧ w'.cell? ⟨PB, 5, none⟩ = some (.string D))) := (HB.out w1.drew PA b0.out.drew kA0.out.drew).mono fun e w' ⟨x1, x2'⟩ => by
    have x2 : Below w1.heap.size w1 w' := ((Below.refl w1.heap.size w1).drew).trans x2'
    have hk := (Rg.bcell (W := w1) (w1 := w') x2).1
    have l1 : eb < w1.heap.size := Nat.lt_of_lt_of_le heb b0.out.size
    exact ⟨x1, Rg.chain b0.out x2, (hk _ _ kA0.out.lt).trans g0, (hk _ _ l1).trans d11, (hk _ _ kB0.out.lt).trans f0, (hk _ _ kB0.out.lt).trans f1, (hk _ _ kB0.out.lt).trans f2, (hk _ _ kB0.out.lt).trans f3, (hk _ _ kB0.out.lt).trans f4, (hk _ _ kB0.out.lt).trans f5⟩
  clear HB kA0 kB0 b0 heb
  refine wp_region_held_drew (S := (fun (w' : World) => w'.cell? ⟨PA, 0, none⟩ = some (.pointer (some ⟨eb, 0, none⟩)) ∧ w'.cell? ⟨eb, 11, none⟩ = some (.slice a n c) ∧ w'.cell? ⟨PB, 0, none⟩ = some (.int .i64 kd) ∧ w'.cell? ⟨PB, 1, none⟩ = some (.int .i64 nm) ∧ w'.cell? ⟨PB, 2, none⟩ = some (.int .i64 ak) ∧ w'.cell? ⟨PB, 3, none⟩ = some (.int .i64 ch) ∧ w'.cell? ⟨PB, 4, none⟩ = some (.bool ca) ∧ w'.cell? ⟨PB, 5, none⟩ = some (.string D))) (by kernel_rfl) ?_ (fun hH0 => ?_)
  · exact ⟨g0, d11, f0, f1, f2, f3, f4, f5⟩
  refine wpAnyH_take (i := 0) (oi := { dst := some 7, op := _, type := _, pos := _, after := _, guard := _ }) (v := ?_) rfl (by kernel_rfl) (by kernel_rfl) (by kernel_rfl) (fun _ _ _ h => h) (Or.inl ⟨by rfl, ?_⟩) (by assumption) ?_
  rotate_left
  · (intro w hSw; (try dsimp only at hSw); go_simp); (try with_reducible rfl)
  simp only [Act.put, List.setIfInBounds_toArray, List.set_cons_zero, List.set_cons_succ]
  refine wpAnyH_take (i := 1) (oi := { dst := some 8, op := _, type := _, pos := _, after := _, guard := _ }) (v := ?_) rfl (by kernel_rfl) (by kernel_rfl) (by kernel_rfl) (fun _ _ _ h => h) (Or.inl ⟨by rfl, ?_⟩) (by assumption) ?_
  rotate_left
  · (intro w hSw; (try dsimp only at hSw); go_simp); (try with_reducible rfl)
  simp only [Act.put, List.setIfInBounds_toArray, List.set_cons_zero, List.set_cons_succ]
  refine wpAnyH_take (i := 2) (oi := { dst := some 9, op := _, type := _, pos := _, after := _, guard := _ }) (v := ?_) rfl (by kernel_rfl) (by kernel_rfl) (by kernel_rfl) (fun _ _ _ h => h) (Or.inl ⟨by rfl, ?_⟩) (by assumption) ?_
  rotate_left
  · (intro w hSw; (try dsimp only at hSw); go_simp); (try with_reducible rfl)
  simp only [Act.put, List.setIfInBounds_toArray, List.set_cons_zero, List.set_cons_succ]
  refine wpAnyH_take (i := 3) (oi := { dst := some 10, op := _, type := _, pos := _, after := _, guard := _ }) (v := ?_) rfl (by kernel_rfl) (by kernel_rfl) (by kernel_rfl) (fun _ _ _ h => h) (Or.inl ⟨by rfl, ?_⟩) (by assumption) ?_
  rotate_left
  · (intro w hSw; (try dsimp only at hSw); go_simp); (try with_reducible rfl)
  simp only [Act.put, List.setIfInBounds_toArray, List.set_cons_zero, List.set_cons_succ]
  refine wpAnyH_take (i := 4) (oi := { dst := some 11, op := _, type := _, pos := _, after := _, guard := _ }) (v := ?_) rfl (by kernel_rfl) (by kernel_rfl) (by kernel_rfl) (fun _ _ _ h => h) (Or.inl ⟨by rfl, ?_⟩) (by assumption) ?_
  rotate_left
  · (intro w hSw; (try dsimp only at hSw); go_simp); (try with_reducible rfl)
  simp only [Act.put, List.setIfInBounds_toArray, List.set_cons_zero, List.set_cons_succ]
  refine wpAnyH_take (i := 5) (oi := { dst := some 12, op := _, type := _, pos := _, after := _, guard := _ }) (v := ?_) rfl (by kernel_rfl) (by kernel_rfl) (by kernel_rfl) (fun _ _ _ h => h) (Or.inl ⟨by rfl, ?_⟩) (by assumption) ?_
  rotate_left
  · (intro w hSw; (try dsimp only at hSw); go_simp); (try with_reducible rfl)
  simp only [Act.put, List.setIfInBounds_toArray, List.set_cons_zero, List.set_cons_succ]
  refine wpAnyH_take (i := 6) (oi := { dst := some 13, op := _, type := _, pos := _, after := _, guard := _ }) (v := ?_) rfl (by kernel_rfl) (by kernel_rfl) (by kernel_rfl) (fun _ _ _ h => h) (Or.inl ⟨by rfl, ?_⟩) (by assumption) ?_
  rotate_left
  · (intro w hSw; (try dsimp only at hSw); go_simp); (try with_reducible rfl)
  simp only [Act.put, List.setIfInBounds_toArray, List.set_cons_zero, List.set_cons_succ]
  refine wpAnyH_ready (rs := [7]) (by kernel_rfl) (by simp) ?_
  refine AllReadyH.cons (o := { dst := some 14, op := _, type := _, pos := _, after := _, guard := _ }) rfl (fun K hK => ?_) AllReadyH.nil
  go_simp
  go_at_call 89; refine HB1.out.mono ?_; rintro e w3 ⟨rfl, b3, hS3⟩
  refine hK.out _ _ ?_ (fun hR7 => ?_)
  · exact hS3.out
  clear hK K hH0
  try simp only [Act.put, List.setIfInBounds_toArray, List.set_cons_zero, List.set_cons_succ]
  refine wpAnyH_take (i := 8) (oi := { dst := some 6, op := _, type := _, pos := _, after := _, guard := _ }) (v := ?_) rfl (by kernel_rfl) (by kernel_rfl) (by kernel_rfl) (fun _ _ _ h => h) (Or.inl ⟨by rfl, ?_⟩) (by assumption) ?_
  rotate_left
  · (intro w hSw; (try dsimp only at hSw); go_simp); (try with_reducible rfl)
  simp only [Act.put, List.setIfInBounds_toArray, List.set_cons_zero, List.set_cons_succ]
  refine wpAnyH_take (i := 9) (oi := { dst := some 15, op := _, type := _, pos := _, after := _, guard := _ }) (v := ?_) rfl (by kernel_rfl) (by kernel_rfl) (by kernel_rfl) (fun _ _ _ h => h) (Or.inl ⟨by rfl, ?_⟩) (by assumption) ?_
  rotate_left
  · (intro w hSw; (try dsimp only at hSw); go_simp); (try with_reducible rfl)
  simp only [Act.put, List.setIfInBounds_toArray, List.set_cons_zero, List.set_cons_succ]
  refine wpAnyH_take (i := 10) (oi := { dst := some 16, op := _, type := _, pos := _, after := _, guard := _ }) (v := ?_) rfl (by kernel_rfl) (by kernel_rfl) (by kernel_rfl) (fun _ _ _ h => h) (Or.inl ⟨by rfl, ?_⟩) (by assumption) ?_
  rotate_left
  · (intro w hSw; (try dsimp only at hSw); go_simp); (try with_reducible rfl)
  simp only [Act.put, List.setIfInBounds_toArray, List.set_cons_zero, List.set_cons_succ]
  refine wpAnyH_take (i := 11) (oi := { dst := some 4, op := _, type := _, pos := _, after := _, guard := _ }) (v := ?_) rfl (by kernel_rfl) (by kernel_rfl) (by kernel_rfl) (fun _ _ _ h => h) (Or.inl ⟨by rfl, ?_⟩) (by assumption) ?_
  rotate_left
  · (intro w hSw; (try dsimp only at hSw); go_simp); (try with_reducible rfl)
  simp only [Act.put, List.setIfInBounds_toArray, List.set_cons_zero, List.set_cons_succ]
  refine wpAnyH_take (i := 12) (oi := { dst := some 5, op := _, type := _, pos := _, after := _, guard := _ }) (v := ?_) rfl (by kernel_rfl) (by kernel_rfl) (by kernel_rfl) (fun _ _ _ h => h) (Or.inl ⟨by rfl, ?_⟩) (by assumption) ?_
  rotate_left
  · (intro w hSw; (try dsimp only at hSw); go_simp); (try with_reducible rfl)
  simp only [Act.put, List.setIfInBounds_toArray, List.set_cons_zero, List.set_cons_succ]
  refine wpAnyH_done (by kernel_rfl) ?_ _
  clear hS3 g0 d11 f0 f1 f2 f3 f4 f5
  go_wp2
  go_end0
  exact ⟨rfl, b3.out⟩
set_option maxHeartbeats 4000000 in
set_option maxRecDepth 100000 in
theorem ikeep_new (eb n P : Nat) (a : Option Addr) (c : Nat) (kd nm ak ch : Int) (ca : Bool) (D : ByteArray) (W : World) (Post : Ending → World → Prop) (c11 : W.cell? ⟨eb, 11, none⟩ = some (.slice a n c)) (heb : eb < W.heap.size)
    (HB : Hid (∀ W1 PB, Below W.heap.size W W1 → Rg.Bk PB [.pointer (some ⟨eb, 0, none⟩)] 46 W1 → Calls Try.prog 89 #[.slice a n c, .agg #[.int .i64 kd, .int .i64 nm, .int .i64 ak, .int .i64 ch, .bool ca, .string D], .func (.func 90) #[] #[.pointer (some ⟨PB, 0, none⟩)]] W1 fun e w' => e = .returned (.tuple #[.int .i64 (P : Int), .bool false]) ∧ Below W1.heap.size W1 w'))
    (HI : Hid (∀ W1 vb, Below W.heap.size W W1 → Rg.Bk vb [.int .i64 kd, .int .i64 nm, .int .i64 ak, .int .i64 ch, .bool ca, .string D] 63 W1 → W.heap.size ≤ vb → Calls Try.prog 91 #[.slice a n c, .int .i64 (P : Int), .slice (some ⟨vb, 0, none⟩) 1 1] W1 fun e w' => ∃ a' n1 c', e = .returned (.slice a' n1 c') ∧ Hid (∃ x, w'.cell? ⟨eb, 11, none⟩ = some x) ∧ Hid (∀ i, w'.frozen? ⟨eb, i, none⟩ = false) ∧ Hid (∀ k, W.heap.size ≤ k → k < W1.heap.size → w'.heap[k]? = W1.heap[k]?) ∧ Hid (Post (.returned (.tuple #[])) (w'.setCell ⟨eb, 11, none⟩ (.slice a' n1 c'))))) :
    Calls Try.prog 80 #[.pointer (some ⟨eb, 0, none⟩), .agg #[.int .i64 kd, .int .i64 nm, .int .i64 ak, .int .i64 ch, .bool ca, .string D]] W Post := by
  have b0 := Rg.hid (Rg.al2 W (.cells #[.pointer (some ⟨eb, 0, none⟩)] 46) (.cells #[.int .i64 kd, .int .i64 nm, .int .i64 ak, .int .i64 ch, .bool ca, .string D] 63))
  have kA0 : Hid (Rg.Bk W.heap.size [.pointer (some ⟨eb, 0, none⟩)] 46 ((W.alloc (.cells #[.pointer (some ⟨eb, 0, none⟩)] 46)).alloc (.cells #[.int .i64 kd, .int .i64 nm, .int .i64 ak, .int .i64 ch, .bool ca, .string D] 63))) := (Rg.Bk.new rfl).old _
  have kB0 : Hid (Rg.Bk (W.heap.size + 1) [.int .i64 kd, .int .i64 nm, .int .i64 ak, .int .i64 ch, .bool ca, .string D] 63 ((W.alloc (.cells #[.pointer (some ⟨eb, 0, none⟩)] 46)).alloc (.cells #[.int .i64 kd, .int .i64 nm, .int .i64 ak, .int .i64 ch, .bool ca, .string D] 63))) := Rg.Bk.new (by simp)
  have d11 := ((Rg.bcell b0.out).1 eb 11 heb).trans c11
  clear c11
  go_enter Try.func80, Try.ntmps80
  go_upto_region 1 with fail
  generalize World.alloc _ _ = w1 at *
  obtain ⟨PA, hPA⟩ : ∃ PA, PA = W.heap.size := ⟨_, rfl⟩
  obtain ⟨PB, hPB⟩ : ∃ PB, PB = W.heap.size + 1 := ⟨_, rfl⟩
  rw [← hPB] at kB0 ⊢
  rw [← hPA] at kA0 ⊢
  replace hPA := Rg.hid hPA
  replace hPB := Rg.hid hPB
  have g0 : w1.cell? ⟨PA, 0, none⟩ = some (.pointer (some ⟨eb, 0, none⟩)) := kA0.out.cell 0
  have f0 : w1.cell? ⟨PB, 0, none⟩ = some (.int .i64 kd) := kB0.out.cell 0
  have f1 : w1.cell? ⟨PB, 1, none⟩ = some (.int .i64 nm) := kB0.out.cell 1
  have f2 : w1.cell? ⟨PB, 2, none⟩ = some (.int .i64 ak) := kB0.out.cell 2
  have f3 : w1.cell? ⟨PB, 3, none⟩ = some (.int .i64 ch) := kB0.out.cell 3
  have f4 : w1.cell? ⟨PB, 4, none⟩ = some (.bool ca) := kB0.out.cell 4
  have f5 : w1.cell? ⟨PB, 5, none⟩ = some (.string D) := kB0.out.cell 5
  have HB1 : Hid (Calls Try.prog 89 #[.slice a n c, .agg #[.int .i64 kd, .int .i64 nm, .int .i64 ak, .int .i64 ch, .bool ca, .string D], .func (.func 90) #[] #[.pointer (some ⟨PA, 0, none⟩)]] w1.drew fun e w' => e = .returned (.tuple #[.int .i64 (P : Int), .bool false]) ∧ Hid (Below W.heap.size W w') ∧ Hid (w1.heap.size ≤ w'.heap.size) ∧ Hid (w'.cell? ⟨PA, 0, none⟩ = some (.pointer (some ⟨eb, 0, none⟩)) ∧ w'.cell? ⟨eb, 11, none⟩ = some (.slice a n c) ∧ w'.cell? ⟨PB, 0, none⟩ = some (.int .i64 kd) ∧ w'.cell? ⟨PB, 1, none⟩ = some (.int .i64 nm) ∧ w'.cell? ⟨PB, 2, none⟩ = some (.int .i64 ak) ∧ w'.cell? ⟨PB, 3, none⟩ = some (.int .i64 ch) ∧ w'.cell? ⟨PB, 4, none⟩ = some (.bool ca) ∧ w'.cell? ⟨PB, 5, none⟩ = some (.string D))) := (HB.out w1.drew PA b0.out.drew kA0.out.drew).mono fun e w' ⟨x1, x2'⟩ => by
    have x2 : Below w1.heap.size w1 w' := ((Below.refl w1.heap.size w1).drew).trans x2'
    have hk := (Rg.bcell (W := w1) (w1 := w') x2).1
    have l1 : eb < w1.heap.size := Nat.lt_of_lt_of_le heb b0.out.size
    exact ⟨x1, Rg.chain b0.out x2, x2.size, (hk _ _ kA0.out.lt).trans g0, (hk _ _ l1).trans d11, (hk _ _ kB0.out.lt).trans f0, (hk _ _ kB0.out.lt).trans f1, (hk _ _ kB0.out.lt).trans f2, (hk _ _ kB0.out.lt).trans f3, (hk _ _ kB0.out.lt).trans f4, (hk _ _ kB0.out.lt).trans f5⟩
  have hPAn : Hid (W.heap.size ≤ PA) := Nat.le_of_eq hPA.out.symm
  have hPBn : Hid (W.heap.size ≤ PB) := by show _ ≤ _; rw [hPB.out]; exact Nat.le_succ _
  have hPAe : Hid (PA ≠ eb) := fun e => by rw [hPA.out] at e; exact absurd heb (by rw [← e]; exact Nat.lt_irrefl _)
  have hPBe : Hid (PB ≠ eb) := fun e => by rw [hPB.out] at e; exact absurd heb (by rw [← e]; exact Nat.not_lt.2 (Nat.le_succ _))
  have hlA : PA < w1.heap.size := kA0.out.lt
  have hlB : PB < w1.heap.size := kB0.out.lt
  have hlE : eb < w1.heap.size := Nat.lt_of_lt_of_le heb b0.out.size
  clear HB kA0 kB0 b0 heb
  refine wp_region_held_drew (S := (fun (w' : World) => w'.cell? ⟨PA, 0, none⟩ = some (.pointer (some ⟨eb, 0, none⟩)) ∧ w'.cell? ⟨eb, 11, none⟩ = some (.slice a n c) ∧ w'.cell? ⟨PB, 0, none⟩ = some (.int .i64 kd) ∧ w'.cell? ⟨PB, 1, none⟩ = some (.int .i64 nm) ∧ w'.cell? ⟨PB, 2, none⟩ = some (.int .i64 ak) ∧ w'.cell? ⟨PB, 3, none⟩ = some (.int .i64 ch) ∧ w'.cell? ⟨PB, 4, none⟩ = some (.bool ca) ∧ w'.cell? ⟨PB, 5, none⟩ = some (.string D))) (by kernel_rfl) ?_ (fun hH0 => ?_)
  · exact ⟨g0, d11, f0, f1, f2, f3, f4, f5⟩
  refine wpAnyH_take (i := 0) (oi := { dst := some 7, op := _, type := _, pos := _, after := _, guard := _ }) (v := ?_) rfl (by kernel_rfl) (by kernel_rfl) (by kernel_rfl) (fun _ _ _ h => h) (Or.inl ⟨by rfl, ?_⟩) (by assumption) ?_
  rotate_left
  · (intro w hSw; (try dsimp only at hSw); go_simp); (try with_reducible rfl)
  simp only [Act.put, List.setIfInBounds_toArray, List.set_cons_zero, List.set_cons_succ]
  refine wpAnyH_take (i := 1) (oi := { dst := some 8, op := _, type := _, pos := _, after := _, guard := _ }) (v := ?_) rfl (by kernel_rfl) (by kernel_rfl) (by kernel_rfl) (fun _ _ _ h => h) (Or.inl ⟨by rfl, ?_⟩) (by assumption) ?_
  rotate_left
  · (intro w hSw; (try dsimp only at hSw); go_simp); (try with_reducible rfl)
  simp only [Act.put, List.setIfInBounds_toArray, List.set_cons_zero, List.set_cons_succ]
  refine wpAnyH_take (i := 2) (oi := { dst := some 9, op := _, type := _, pos := _, after := _, guard := _ }) (v := ?_) rfl (by kernel_rfl) (by kernel_rfl) (by kernel_rfl) (fun _ _ _ h => h) (Or.inl ⟨by rfl, ?_⟩) (by assumption) ?_
  rotate_left
  · (intro w hSw; (try dsimp only at hSw); go_simp); (try with_reducible rfl)
  simp only [Act.put, List.setIfInBounds_toArray, List.set_cons_zero, List.set_cons_succ]
  refine wpAnyH_take (i := 3) (oi := { dst := some 10, op := _, type := _, pos := _, after := _, guard := _ }) (v := ?_) rfl (by kernel_rfl) (by kernel_rfl) (by kernel_rfl) (fun _ _ _ h => h) (Or.inl ⟨by rfl, ?_⟩) (by assumption) ?_
  rotate_left
  · (intro w hSw; (try dsimp only at hSw); go_simp); (try with_reducible rfl)
  simp only [Act.put, List.setIfInBounds_toArray, List.set_cons_zero, List.set_cons_succ]
  refine wpAnyH_take (i := 4) (oi := { dst := some 11, op := _, type := _, pos := _, after := _, guard := _ }) (v := ?_) rfl (by kernel_rfl) (by kernel_rfl) (by kernel_rfl) (fun _ _ _ h => h) (Or.inl ⟨by rfl, ?_⟩) (by assumption) ?_
  rotate_left
  · (intro w hSw; (try dsimp only at hSw); go_simp); (try with_reducible rfl)
  simp only [Act.put, List.setIfInBounds_toArray, List.set_cons_zero, List.set_cons_succ]
  refine wpAnyH_take (i := 5) (oi := { dst := some 12, op := _, type := _, pos := _, after := _, guard := _ }) (v := ?_) rfl (by kernel_rfl) (by kernel_rfl) (by kernel_rfl) (fun _ _ _ h => h) (Or.inl ⟨by rfl, ?_⟩) (by assumption) ?_
  rotate_left
  · (intro w hSw; (try dsimp only at hSw); go_simp); (try with_reducible rfl)
  simp only [Act.put, List.setIfInBounds_toArray, List.set_cons_zero, List.set_cons_succ]
  refine wpAnyH_take (i := 6) (oi := { dst := some 13, op := _, type := _, pos := _, after := _, guard := _ }) (v := ?_) rfl (by kernel_rfl) (by kernel_rfl) (by kernel_rfl) (fun _ _ _ h => h) (Or.inl ⟨by rfl, ?_⟩) (by assumption) ?_
  rotate_left
  · (intro w hSw; (try dsimp only at hSw); go_simp); (try with_reducible rfl)
  simp only [Act.put, List.setIfInBounds_toArray, List.set_cons_zero, List.set_cons_succ]
  refine wpAnyH_ready (rs := [7]) (by kernel_rfl) (by simp) ?_
  refine AllReadyH.cons (o := { dst := some 14, op := _, type := _, pos := _, after := _, guard := _ }) rfl (fun K hK => ?_) AllReadyH.nil
  go_simp
  go_at_call 89; refine HB1.out.mono ?_; rintro e w3 ⟨rfl, b3, hsz3, hS3⟩
  refine hK.out _ _ ?_ (fun hR7 => ?_)
  · exact hS3.out
  clear hK K hH0
  try simp only [Act.put, List.setIfInBounds_toArray, List.set_cons_zero, List.set_cons_succ]
  refine wpAnyH_take (i := 8) (oi := { dst := some 6, op := _, type := _, pos := _, after := _, guard := _ }) (v := ?_) rfl (by kernel_rfl) (by kernel_rfl) (by kernel_rfl) (fun _ _ _ h => h) (Or.inl ⟨by rfl, ?_⟩) (by assumption) ?_
  rotate_left
  · (intro w hSw; (try dsimp only at hSw); go_simp); (try with_reducible rfl)
  simp only [Act.put, List.setIfInBounds_toArray, List.set_cons_zero, List.set_cons_succ]
  refine wpAnyH_take (i := 9) (oi := { dst := some 15, op := _, type := _, pos := _, after := _, guard := _ }) (v := ?_) rfl (by kernel_rfl) (by kernel_rfl) (by kernel_rfl) (fun _ _ _ h => h) (Or.inl ⟨by rfl, ?_⟩) (by assumption) ?_
  rotate_left
  · (intro w hSw; (try dsimp only at hSw); go_simp); (try with_reducible rfl)
  simp only [Act.put, List.setIfInBounds_toArray, List.set_cons_zero, List.set_cons_succ]
  refine wpAnyH_take (i := 10) (oi := { dst := some 16, op := _, type := _, pos := _, after := _, guard := _ }) (v := ?_) rfl (by kernel_rfl) (by kernel_rfl) (by kernel_rfl) (fun _ _ _ h => h) (Or.inl ⟨by rfl, ?_⟩) (by assumption) ?_
  rotate_left
  · (intro w hSw; (try dsimp only at hSw); go_simp); (try with_reducible rfl)
  simp only [Act.put, List.setIfInBounds_toArray, List.set_cons_zero, List.set_cons_succ]
  refine wpAnyH_take (i := 11) (oi := { dst := some 4, op := _, type := _, pos := _, after := _, guard := _ }) (v := ?_) rfl (by kernel_rfl) (by kernel_rfl) (by kernel_rfl) (fun _ _ _ h => h) (Or.inl ⟨by rfl, ?_⟩) (by assumption) ?_
  rotate_left
  · (intro w hSw; (try dsimp only at hSw); go_simp); (try with_reducible rfl)
  simp only [Act.put, List.setIfInBounds_toArray, List.set_cons_zero, List.set_cons_succ]
  refine wpAnyH_take (i := 12) (oi := { dst := some 5, op := _, type := _, pos := _, after := _, guard := _ }) (v := ?_) rfl (by kernel_rfl) (by kernel_rfl) (by kernel_rfl) (fun _ _ _ h => h) (Or.inl ⟨by rfl, ?_⟩) (by assumption) ?_
  rotate_left
  · (intro w hSw; (try dsimp only at hSw); go_simp); (try with_reducible rfl)
  simp only [Act.put, List.setIfInBounds_toArray, List.set_cons_zero, List.set_cons_succ]
  refine wpAnyH_done (by kernel_rfl) ?_ _
  obtain ⟨m0, m11, n0, n1, n2, n3, n4, n5⟩ := hS3.out
  clear hS3 g0 d11 f0 f1 f2 f3 f4 f5 HB1
  have hl3A : PA < w3.heap.size := Nat.lt_of_lt_of_le hlA hsz3.out
  have hl3B : PB < w3.heap.size := Nat.lt_of_lt_of_le hlB hsz3.out
  have hl3E : eb < w3.heap.size := Nat.lt_of_lt_of_le hlE hsz3.out
  have kV : Hid (Rg.Bk w3.heap.size [.int .i64 kd, .int .i64 nm, .int .i64 ak, .int .i64 ch, .bool ca, .string D] 63 (w3.alloc (.cells #[.int .i64 kd, .int .i64 nm, .int .i64 ak, .int .i64 ch, .bool ca, .string D] 63)).drew) := Rg.Bk.drew (Rg.Bk.new rfl)
  have bV := Rg.hid (Rg.al1 w3 (.cells #[.int .i64 kd, .int .i64 nm, .int .i64 ak, .int .i64 ch, .bool ca, .string D] 63)).drew
  have hkV := (Rg.bcell bV.out).1
  have a0 := (hkV _ 0 hl3A).trans m0
  have r0 := (hkV _ 0 hl3B).trans n0
  have r1 := (hkV _ 1 hl3B).trans n1
  have r2 := (hkV _ 2 hl3B).trans n2
  have r3 := (hkV _ 3 hl3B).trans n3
  have r4 := (hkV _ 4 hl3B).trans n4
  have r5 := (hkV _ 5 hl3B).trans n5
  have HI1 := Rg.hid ((HI.out _ _ (Rg.chain b3.out bV.out) kV.out b3.out.size).mono (R' := fun e w' => ∃ a' n1 c', e = .returned (.slice a' n1 c') ∧ (∃ x, w'.cell? ⟨eb, 11, none⟩ = some x) ∧ (∀ i, w'.frozen? ⟨eb, i, none⟩ = false) ∧ Hid (Post (.returned (.tuple #[])) (w'.setCell ⟨eb, 11, none⟩ (.slice a' n1 c'))) ∧ Hid (w'.heap[PA]? = (w3.alloc (.cells #[.int .i64 kd, .int .i64 nm, .int .i64 ak, .int .i64 ch, .bool ca, .string D] 63)).drew.heap[PA]? ∧ w'.heap[PB]? = (w3.alloc (.cells #[.int .i64 kd, .int .i64 nm, .int .i64 ak, .int .i64 ch, .bool ca, .string D] 63)).drew.heap[PB]?)) fun e w' ⟨a', n1, c', x1, x2, x3, x4, x5⟩ => ⟨a', n1, c', x1, x2.out, x3.out, x5, x4.out PA hPAn.out (Nat.lt_of_lt_of_le hl3A bV.out.size), x4.out PB hPBn.out (Nat.lt_of_lt_of_le hl3B bV.out.size)⟩)
  clear HI kV hPAn hPBn hlA hlB hlE hsz3 b3 bV hkV hPA hPB
  go_wp2
  refine wp_region_held_drew (S := (fun (w' : World) => w'.cell? ⟨PA, 0, none⟩ = some (.pointer (some ⟨eb, 0, none⟩)) ∧ w'.cell? ⟨PB, 0, none⟩ = some (.int .i64 kd) ∧ w'.cell? ⟨PB, 1, none⟩ = some (.int .i64 nm) ∧ w'.cell? ⟨PB, 2, none⟩ = some (.int .i64 ak) ∧ w'.cell? ⟨PB, 3, none⟩ = some (.int .i64 ch) ∧ w'.cell? ⟨PB, 4, none⟩ = some (.bool ca) ∧ w'.cell? ⟨PB, 5, none⟩ = some (.string D))) (by kernel_rfl) ?_ (fun hH0 => ?_)
  · exact ⟨m0, n0, n1, n2, n3, n4, n5⟩
  refine wpAnyH_take (i := 0) (oi := { dst := some 19, op := _, type := _, pos := _, after := _, guard := _ }) (v := ?_) rfl (by kernel_rfl) (by kernel_rfl) (by kernel_rfl) (fun _ _ _ h => h) (Or.inl ⟨by rfl, ?_⟩) (by assumption) ?_
  rotate_left
  · (intro w hSw; (try dsimp only at hSw); go_simp); (try with_reducible rfl)
  simp only [Act.put, List.setIfInBounds_toArray, List.set_cons_zero, List.set_cons_succ]
  refine wpAnyH_take (i := 1) (oi := { dst := some 20, op := _, type := _, pos := _, after := _, guard := _ }) (v := ?_) rfl (by kernel_rfl) (by kernel_rfl) (by kernel_rfl) (fun _ _ _ h => h) (Or.inl ⟨by rfl, ?_⟩) (by assumption) ?_
  rotate_left
  · (intro w hSw; (try dsimp only at hSw); go_simp); (try with_reducible rfl)
  simp only [Act.put, List.setIfInBounds_toArray, List.set_cons_zero, List.set_cons_succ]
  refine wpAnyH_take (i := 2) (oi := { dst := some 21, op := _, type := _, pos := _, after := _, guard := _ }) (v := ?_) rfl (by kernel_rfl) (by kernel_rfl) (by kernel_rfl) (fun _ _ _ h => h) (Or.inl ⟨by rfl, ?_⟩) (by assumption) ?_
  rotate_left
  · (intro w hSw; (try dsimp only at hSw); go_simp); (try with_reducible rfl)
  simp only [Act.put, List.setIfInBounds_toArray, List.set_cons_zero, List.set_cons_succ]
  refine wpAnyH_take (i := 3) (oi := { dst := some 22, op := _, type := _, pos := _, after := _, guard := _ }) (v := ?_) rfl (by kernel_rfl) (by kernel_rfl) (by kernel_rfl) (fun _ _ _ h => h) (Or.inl ⟨by rfl, ?_⟩) (by assumption) ?_
  rotate_left
  · (intro w hSw; (try dsimp only at hSw); go_simp); (try with_reducible rfl)
  simp only [Act.put, List.setIfInBounds_toArray, List.set_cons_zero, List.set_cons_succ]
  refine wpAnyH_take (i := 4) (oi := { dst := some 23, op := _, type := _, pos := _, after := _, guard := _ }) (v := ?_) rfl (by kernel_rfl) (by kernel_rfl) (by kernel_rfl) (fun _ _ _ h => h) (Or.inl ⟨by rfl, ?_⟩) (by assumption) ?_
  rotate_left
  · (intro w hSw; (try dsimp only at hSw); go_simp); (try with_reducible rfl)
  simp only [Act.put, List.setIfInBounds_toArray, List.set_cons_zero, List.set_cons_succ]
  refine wpAnyH_take (i := 6) (oi := { dst := some 25, op := _, type := _, pos := _, after := _, guard := _ }) (v := ?_) rfl (by kernel_rfl) (by kernel_rfl) (by kernel_rfl) (fun _ _ _ h => h) (Or.inl ⟨by rfl, ?_⟩) (by assumption) ?_
  rotate_left
  · (intro w hSw; (try dsimp only at hSw); go_simp); (try with_reducible rfl)
  simp only [Act.put, List.setIfInBounds_toArray, List.set_cons_zero, List.set_cons_succ]
  refine wpAnyH_take (i := 7) (oi := { dst := some 26, op := _, type := _, pos := _, after := _, guard := _ }) (v := ?_) rfl (by kernel_rfl) (by kernel_rfl) (by kernel_rfl) (fun _ _ _ h => h) (Or.inl ⟨by rfl, ?_⟩) (by assumption) ?_
  rotate_left
  · (intro w hSw; (try dsimp only at hSw); go_simp); (try with_reducible rfl)
  simp only [Act.put, List.setIfInBounds_toArray, List.set_cons_zero, List.set_cons_succ]
  refine wpAnyH_ready (rs := [5, 8]) (by kernel_rfl) (by simp) ?_
  refine AllReadyH.cons (o := { dst := some 24, op := _, type := _, pos := _, after := _, guard := _ }) rfl (fun K hK => ?_) (AllReadyH.cons (o := { dst := some 27, op := _, type := _, pos := _, after := _, guard := _ }) rfl (fun K hK => ?_) AllReadyH.nil)
  · go_simp
    refine hK.out _ _ ?_ (fun hR5 => ?_)
    · exact ⟨m0, n0, n1, n2, n3, n4, n5⟩
    clear hK K hH0
    try simp only [Act.put, List.setIfInBounds_toArray, List.set_cons_zero, List.set_cons_succ]
    refine wpAnyH_ready (rs := [8]) (by kernel_rfl) (by simp) ?_
    refine AllReadyH.cons (o := { dst := some 27, op := _, type := _, pos := _, after := _, guard := _ }) rfl (fun K hK => ?_) AllReadyH.nil
    go_simp
    refine hK.out _ _ ?_ (fun hR8 => ?_)
    · exact ⟨a0, r0, r1, r2, r3, r4, r5⟩
    clear hK K hR5
    try simp only [Act.put, List.setIfInBounds_toArray, List.set_cons_zero, List.set_cons_succ]
    refine wpAnyH_ready (rs := [9]) (by kernel_rfl) (by simp) ?_
    refine AllReadyH.cons (o := { dst := some 28, op := _, type := _, pos := _, after := _, guard := _ }) rfl (fun K hK => ?_) AllReadyH.nil
    go_simp
    go_at_call 91; refine HI1.out.mono ?_; rintro e w5 ⟨a', q1, c', rfl, ⟨x11, e11⟩, fz5, hp, hkp⟩
    refine hK.out _ _ ?_ (fun hR9 => ?_)
    · exact ⟨(World.cell?_of_block (a := ⟨PA, 0, none⟩) hkp.out.1).trans a0, (World.cell?_of_block (a := ⟨PB, 0, none⟩) hkp.out.2).trans r0, (World.cell?_of_block (a := ⟨PB, 1, none⟩) hkp.out.2).trans r1, (World.cell?_of_block (a := ⟨PB, 2, none⟩) hkp.out.2).trans r2, (World.cell?_of_block (a := ⟨PB, 3, none⟩) hkp.out.2).trans r3, (World.cell?_of_block (a := ⟨PB, 4, none⟩) hkp.out.2).trans r4, (World.cell?_of_block (a := ⟨PB, 5, none⟩) hkp.out.2).trans r5⟩
    clear hK K hR8
    try simp only [Act.put, List.setIfInBounds_toArray, List.set_cons_zero, List.set_cons_succ]
    refine wpAnyH_take (i := 10) (oi := { dst := some 29, op := _, type := _, pos := _, after := _, guard := _ }) (v := ?_) rfl (by kernel_rfl) (by kernel_rfl) (by kernel_rfl) (fun _ _ _ h => h) (Or.inl ⟨by rfl, ?_⟩) (by assumption) ?_
    rotate_left
    · (intro w hSw; (try dsimp only at hSw); go_simp); (try with_reducible rfl)
    simp only [Act.put, List.setIfInBounds_toArray, List.set_cons_zero, List.set_cons_succ]
    refine wpAnyH_take (i := 11) (oi := { dst := some 30, op := _, type := _, pos := _, after := _, guard := _ }) (v := ?_) rfl (by kernel_rfl) (by kernel_rfl) (by kernel_rfl) (fun _ _ _ h => h) (Or.inl ⟨by rfl, ?_⟩) (by assumption) ?_
    rotate_left
    · (intro w hSw; (try dsimp only at hSw); go_simp); (try with_reducible rfl)
    simp only [Act.put, List.setIfInBounds_toArray, List.set_cons_zero, List.set_cons_succ]
    refine wpAnyH_take (i := 12) (oi := { dst := some 31, op := _, type := _, pos := _, after := _, guard := _ }) (v := ?_) rfl (by kernel_rfl) (by kernel_rfl) (by kernel_rfl) (fun _ _ _ h => h) (Or.inl ⟨by rfl, ?_⟩) (by assumption) ?_
    rotate_left
    · (intro w hSw; (try dsimp only at hSw); go_simp); (try with_reducible rfl)
    simp only [Act.put, List.setIfInBounds_toArray, List.set_cons_zero, List.set_cons_succ]
    refine wpAnyH_ready (rs := [13]) (by kernel_rfl) (by simp) ?_
    refine AllReadyH.cons (o := { dst := none, op := _, type := _, pos := _, after := _, guard := _ }) rfl (fun K hK => ?_) AllReadyH.nil
    go_simp
    refine hK.out _ _ ?_ (fun hR13 => ?_)
    · exact ⟨(World.cell?_of_block (a := ⟨PA, 0, none⟩) ((Below.heap_setCell _ _ _ _ hPAe.out).trans hkp.out.1)).trans a0, (World.cell?_of_block (a := ⟨PB, 0, none⟩) ((Below.heap_setCell _ _ _ _ hPBe.out).trans hkp.out.2)).trans r0, (World.cell?_of_block (a := ⟨PB, 1, none⟩) ((Below.heap_setCell _ _ _ _ hPBe.out).trans hkp.out.2)).trans r1, (World.cell?_of_block (a := ⟨PB, 2, none⟩) ((Below.heap_setCell _ _ _ _ hPBe.out).trans hkp.out.2)).trans r2, (World.cell?_of_block (a := ⟨PB, 3, none⟩) ((Below.heap_setCell _ _ _ _ hPBe.out).trans hkp.out.2)).trans r3, (World.cell?_of_block (a := ⟨PB, 4, none⟩) ((Below.heap_setCell _ _ _ _ hPBe.out).trans hkp.out.2)).trans r4, (World.cell?_of_block (a := ⟨PB, 5, none⟩) ((Below.heap_setCell _ _ _ _ hPBe.out).trans hkp.out.2)).trans r5⟩
    clear hK K hR9
    try simp only [Act.put, List.setIfInBounds_toArray, List.set_cons_zero, List.set_cons_succ]
    refine wpAnyH_done (by kernel_rfl) ?_ _
    clear m0 m11 n0 n1 n2 n3 n4 n5 a0 r0 r1 r2 r3 r4 r5 e11 fz5 hkp
    go_wp2
    go_end0
    exact hp.out
  · go_simp
    refine hK.out _ _ ?_ (fun hR8 => ?_)
    · exact ⟨a0, r0, r1, r2, r3, r4, r5⟩
    clear hK K hH0
    try simp only [Act.put, List.setIfInBounds_toArray, List.set_cons_zero, List.set_cons_succ]
    refine wpAnyH_ready (rs := [5]) (by kernel_rfl) (by simp) ?_
    refine AllReadyH.cons (o := { dst := some 24, op := _, type := _, pos := _, after := _, guard := _ }) rfl (fun K hK => ?_) AllReadyH.nil
    go_simp
    refine hK.out _ _ ?_ (fun hR5 => ?_)
    · exact ⟨a0, r0, r1, r2, r3, r4, r5⟩
    clear hK K hR8
    try simp only [Act.put, List.setIfInBounds_toArray, List.set_cons_zero, List.set_cons_succ]
    refine wpAnyH_ready (rs := [9]) (by kernel_rfl) (by simp) ?_
    refine AllReadyH.cons (o := { dst := some 28, op := _, type := _, pos := _, after := _, guard := _ }) rfl (fun K hK => ?_) AllReadyH.nil
    go_simp
    go_at_call 91; refine HI1.out.mono ?_; rintro e w5 ⟨a', q1, c', rfl, ⟨x11, e11⟩, fz5, hp, hkp⟩
    refine hK.out _ _ ?_ (fun hR9 => ?_)
    · exact ⟨(World.cell?_of_block (a := ⟨PA, 0, none⟩) hkp.out.1).trans a0, (World.cell?_of_block (a := ⟨PB, 0, none⟩) hkp.out.2).trans r0, (World.cell?_of_block (a := ⟨PB, 1, none⟩) hkp.out.2).trans r1, (World.cell?_of_block (a := ⟨PB, 2, none⟩) hkp.out.2).trans r2, (World.cell?_of_block (a := ⟨PB, 3, none⟩) hkp.out.2).trans r3, (World.cell?_of_block (a := ⟨PB, 4, none⟩) hkp.out.2).trans r4, (World.cell?_of_block (a := ⟨PB, 5, none⟩) hkp.out.2).trans r5⟩
    clear hK K hR5
    try simp only [Act.put, List.setIfInBounds_toArray, List.set_cons_zero, List.set_cons_succ]
    refine wpAnyH_take (i := 10) (oi := { dst := some 29, op := _, type := _, pos := _, after := _, guard := _ }) (v := ?_) rfl (by kernel_rfl) (by kernel_rfl) (by kernel_rfl) (fun _ _ _ h => h) (Or.inl ⟨by rfl, ?_⟩) (by assumption) ?_
    rotate_left
    · (intro w hSw; (try dsimp only at hSw); go_simp); (try with_reducible rfl)
    simp only [Act.put, List.setIfInBounds_toArray, List.set_cons_zero, List.set_cons_succ]
    refine wpAnyH_take (i := 11) (oi := { dst := some 30, op := _, type := _, pos := _, after := _, guard := _ }) (v := ?_) rfl (by kernel_rfl) (by kernel_rfl) (by kernel_rfl) (fun _ _ _ h => h) (Or.inl ⟨by rfl, ?_⟩) (by assumption) ?_
    rotate_left
    · (intro w hSw; (try dsimp only at hSw); go_simp); (try with_reducible rfl)
    simp only [Act.put, List.setIfInBounds_toArray, List.set_cons_zero, List.set_cons_succ]
    refine wpAnyH_take (i := 12) (oi := { dst := some 31, op := _, type := _, pos := _, after := _, guard := _ }) (v := ?_) rfl (by kernel_rfl) (by kernel_rfl) (by kernel_rfl) (fun _ _ _ h => h) (Or.inl ⟨by rfl, ?_⟩) (by assumption) ?_
    rotate_left
    · (intro w hSw; (try dsimp only at hSw); go_simp); (try with_reducible rfl)
    simp only [Act.put, List.setIfInBounds_toArray, List.set_cons_zero, List.set_cons_succ]
    refine wpAnyH_ready (rs := [13]) (by kernel_rfl) (by simp) ?_
    refine AllReadyH.cons (o := { dst := none, op := _, type := _, pos := _, after := _, guard := _ }) rfl (fun K hK => ?_) AllReadyH.nil
    go_simp
    refine hK.out _ _ ?_ (fun hR13 => ?_)
    · exact ⟨(World.cell?_of_block (a := ⟨PA, 0, none⟩) ((Below.heap_setCell _ _ _ _ hPAe.out).trans hkp.out.1)).trans a0, (World.cell?_of_block (a := ⟨PB, 0, none⟩) ((Below.heap_setCell _ _ _ _ hPBe.out).trans hkp.out.2)).trans r0, (World.cell?_of_block (a := ⟨PB, 1, none⟩) ((Below.heap_setCell _ _ _ _ hPBe.out).trans hkp.out.2)).trans r1, (World.cell?_of_block (a := ⟨PB, 2, none⟩) ((Below.heap_setCell _ _ _ _ hPBe.out).trans hkp.out.2)).trans r2, (World.cell?_of_block (a := ⟨PB, 3, none⟩) ((Below.heap_setCell _ _ _ _ hPBe.out).trans hkp.out.2)).trans r3, (World.cell?_of_block (a := ⟨PB, 4, none⟩) ((Below.heap_setCell _ _ _ _ hPBe.out).trans hkp.out.2)).trans r4, (World.cell?_of_block (a := ⟨PB, 5, none⟩) ((Below.heap_setCell _ _ _ _ hPBe.out).trans hkp.out.2)).trans r5⟩
    clear hK K hR9
    try simp only [Act.put, List.setIfInBounds_toArray, List.set_cons_zero, List.set_cons_succ]
    refine wpAnyH_done (by kernel_rfl) ?_ _
    clear m0 m11 n0 n1 n2 n3 n4 n5 a0 r0 r1 r2 r3 r4 r5 e11 fz5 hkp
    go_wp2
    go_end0
    exact hp.out
end Go.Proofs.Ytlclfkogbfigbaa
