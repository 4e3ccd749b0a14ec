/-
  Walks of layer 16: Feed. Layer 16: drives as the laws hold them, and the calls of the package over them. Mathematics of layer 16: what stands ahead is as short as packets are, and what comes.
-/
import Derived.Test.YtlclfkogbfigbaaCuBK
import Derived.Test.YtlclfkogbfigbaaCuAG
namespace Go.Proofs.Ytlclfkogbfigbaa
open Go.RowKit
theorem ierow_only {α : Type} {E : Rg.El α} {R : Nat} {W W' : World} {a : Option Addr} {l : List α} (h : ERow E W a l) (ho : Rg.Only R W W') (hne : ∀ b o, a = some ⟨b, o, none⟩ → b ≠ R) : ERow E W' a l := by
  rcases h with h | ⟨b, o, h1, h2, h3⟩
  · exact .inl h
  · exact .inr ⟨b, o, h1, by rw [ho.size]; exact h2, h3.same (ho.block b (hne b o h1))⟩
theorem came_said {Kp : Nat → Prop} {W : World} {eb : Nat} {d : Gp.Dr} {p : Pl} {q : Qv} {S : List UInt8} {C : List Gp.Pc} (h : IAt Kp W eb d p q S C) (g : Nat) (h1 : q.sb.ownBlock = some g) (h2 : q.cv.ownBlock = some g) : False := by
  obtain ⟨c, fz, hc⟩ := Lib.ownsRowF_kind h.said.own g h1
  exact own_ne h.came hc (by decide) (e := 0) rfl h2
namespace Ip
theorem opens_win (d : Gp.Dr) (data : List UInt8) : (opens d data).1.win = d.win ∨ (opens d data).1.win.l = [] := by
  unfold opens
  repeat' split
  all_goals first | exact .inl rfl | (right; dsimp only; unfold Wn.begin_; split <;> rfl)
theorem closes_win (d : Gp.Dr) : (closes d).1.win = d.win := by
  unfold closes
  repeat' split
  all_goals rfl
theorem orders_win (d : Gp.Dr) (f : If.Fr) : (orders d f).1.win = d.win := by
  unfold orders
  dsimp only
  repeat' split
  · exact (drain_keeps _ _ _).2.2.1
  all_goals rfl
theorem takes_wlen {d : Gp.Dr} (h : right d) (hl : d.win.l.length ≤ 100000) (f : If.Fr) : (takes d f).1.win.l.length ≤ 100000 := by
  rw [takes_1]
  split
  · exact hl
  unfold take1
  split
  · rcases opens_win { d with wait := Gp.or2 d.wait } f.data with e | e
    · rw [e]; exact hl
    · rw [e]; exact Nat.zero_le _
  split
  · rw [closes_win]; exact hl
  unfold takes2
  split
  · exact hl
  split
  · exact hl
  rename_i h3 h2
  have hr2 := right_wait h (Gp.wait2 h.1.wt.1 h.1.wt.2)
  have hp2 : d.phase = 2 := Classical.byContradiction fun x => h2 x
  have hr : runs { d with wait := Gp.or2 d.wait } := by
    rcases hr2.2 with ⟨h, _⟩ | ⟨_, h⟩ | h | h | h
    · have h : d.phase = 1 := h
      omega
    · exact h
    all_goals (first | (have h : d.phase = 3 := h; omega) | (have h : d.phase = 4 := h; omega) | (have h : d.phase = 5 := h; omega))
  obtain ⟨ab, ar⟩ := right_acked hr2.1 hr f.ak
  have hw : (Gp.acked { d with wait := Gp.or2 d.wait } f.ak).win.l.length ≤ 100000 := by
    have h1 := ar.ln
    have h2 := ar.ws
    have h3 := ab.rm
    omega
  generalize Gp.acked { d with wait := Gp.or2 d.wait } f.ak = e at *
  dsimp only
  repeat' split
  all_goals first | exact hw | (rw [orders_win]; exact hw)
theorem feedN_wlen : ∀ (f : Nat) (d : Gp.Dr) (out : List UInt8) (came : List Gp.Pc), right d → d.at_ + d.buf.length ≤ 1099511627776 → d.win.l.length ≤ 100000 → (feedN f d out came).1.win.l.length ≤ 100000
  | 0, _, _, _, _, _, hl => hl
  | f + 1, d, out, came, h, ha, hl => by
    unfold feedN
    dsimp only
    split
    · rename_i hok
      obtain ⟨hr, ho, hle, h6, _⟩ := iright_noted h ha hok
      have hK := takes_keeps (noted d) (If.scan 0 d.buf).f
      have hbl : (noted d).buf.length = d.buf.length - (If.scan 0 d.buf).b := by show (d.buf.drop _).length = _; rw [List.length_drop]
      have hat2 : (noted d).at_ = d.at_ + ((If.scan 0 d.buf).b : Int) := rfl
      exact feedN_wlen f (takes (noted d) (If.scan 0 d.buf).f).1 _ _ (right_takes hr ho) (by rw [hK.1, hK.2.1, hbl, hat2]; omega) (takes_wlen hr hl _)
    · exact hl
theorem right_fed {d : Gp.Dr} (hr : right d) (s : List UInt8) : right { Gp.own d with buf := d.buf ++ s } := by
  have b := hr.1
  exact ⟨⟨b.lt, b.sz, b.rm, b.wn, b.at_, b.wt, b.tr, b.qu, b.wi, b.ah⟩, by
    rcases hr.2 with x | ⟨x, y⟩ | x | x | x
    · exact .inl x
    · exact .inr (.inl ⟨x, ⟨y.st, y.md, y.ws, y.bs, y.ln⟩⟩)
    · exact .inr (.inr (.inl x))
    · exact .inr (.inr (.inr (.inl x)))
    · exact .inr (.inr (.inr (.inr x)))⟩
theorem feed_wlen {d : Gp.Dr} (hr : right d) {s : List UInt8} (hm : d.at_ + d.buf.length + s.length ≤ 1099511627776) (hl : d.win.l.length ≤ 100000) : (feed d s).1.win.l.length ≤ 100000 := by
  have hr2 := right_fed hr s
  have hm2 : ({ Gp.own d with buf := d.buf ++ s } : Gp.Dr).at_ + (({ Gp.own d with buf := d.buf ++ s } : Gp.Dr).buf.length : Int) ≤ 1099511627776 := by
    show d.at_ + ((d.buf ++ s).length : Int) ≤ _
    rw [List.length_append]; omega
  have h1 := feedN_right (d.buf.length + s.length + 1) { Gp.own d with buf := d.buf ++ s } [] [] (by show (d.buf ++ s).length < _; rw [List.length_append]; omega) hr2 hm2
  have h2 := feedN_wlen (d.buf.length + s.length + 1) { Gp.own d with buf := d.buf ++ s } [] [] hr2 hm2 hl
  have h3 := ifill_wlen h1
  show (fill _).1.win.l.length ≤ _
  omega
theorem feed_qlen (d : Gp.Dr) (s : List UInt8) : (feed d s).1.queue.length ≤ d.queue.length := by
  have h1 := (q_fillN 17 (feedN (d.buf.length + s.length + 1) { Gp.own d with buf := d.buf ++ s } [] []).1 []).1
  rw [feedN_queue] at h1
  exact h1
end Ip
/-- what Feed hands back -/
def IYPost (Kp : Nat → Prop) (w : World) (r : Gp.Dr × List UInt8 × List Gp.Pc) (e : Ending) (w' : World) : Prop := ∃ p' ao cap, e = .returned (.tuple #[DV r.1 p', .string ⟨r.2.1.toArray⟩, .slice ao (Ip.join r.2.2).length cap]) ∧ IDR Kp w' r.1 p' ∧ Below w.heap.size w w' ∧ ERow pcE w' ao (Ip.join r.2.2) ∧ ∀ g o, ao = some ⟨g, o, none⟩ → w.heap.size ≤ g
set_option maxHeartbeats 4000000 in
set_option maxRecDepth 100000 in
theorem iFeed_any {Kp : Nat → Prop} (d : Gp.Dr) (p : Pl) (s : List UInt8) (w : World) (hd : IDR Kp w d p) (hr : Ip.right d) (hm : d.at_ + d.buf.length + s.length ≤ 1099511627776) (hl : d.buf.length + s.length ≤ 40000) (hsz : Hid (∀ x ∈ (Ip.feed d s).2.2, x.data.size ≤ 5000)) (hK : Hid (∀ b, w.heap.size ≤ b → Kp b)) :
    Calls Try.prog 6 #[DV d p, .string ⟨s.toArray⟩] w fun e w' => IYPost Kp w (Ip.feed d s) e w' := by
  obtain ⟨CS, hCS⟩ : ∃ CS : Array Value, CS = (DC d p).toArray := ⟨_, rfl⟩
  have eDV : DV d p = .agg CS := by rw [hCS]; rfl
  have hin : (Try.prog.info? 32).map (·.size) = some CS.size := by rw [hCS]; exact iinfoDr2
  have kB0 : Hid (Rg.Bk w.heap.size CS.toList 32 (((w.alloc (.cells CS 32)).alloc (.cells #[.string ⟨s.toArray⟩] 9)).alloc (.cells #[.int .i64 0, .int .i64 0, .bool false, .int .i64 0, .int .i64 0, .int .i64 0, .int .i64 0, .int .i64 0, .int .i64 0, .slice none 0 0, .int .i64 0, .slice none 0 0, .string ⟨#[]⟩, .int .i64 0, .slice none 0 0, .int .i64 0, .int .i64 0, .slice none 0 0] 32))) := ((Rg.Bk.new rfl).old _).old _
  have kR0 : Hid (Rg.Bk (w.heap.size + 1 + 1) [.int .i64 0, .int .i64 0, .bool false, .int .i64 0, .int .i64 0, .int .i64 0, .int .i64 0, .int .i64 0, .int .i64 0, .slice none 0 0, .int .i64 0, .slice none 0 0, .string ⟨#[]⟩, .int .i64 0, .slice none 0 0, .int .i64 0, .int .i64 0, .slice none 0 0] 32 (((w.alloc (.cells CS 32)).alloc (.cells #[.string ⟨s.toArray⟩] 9)).alloc (.cells #[.int .i64 0, .int .i64 0, .bool false, .int .i64 0, .int .i64 0, .int .i64 0, .int .i64 0, .int .i64 0, .int .i64 0, .slice none 0 0, .int .i64 0, .slice none 0 0, .string ⟨#[]⟩, .int .i64 0, .slice none 0 0, .int .i64 0, .int .i64 0, .slice none 0 0] 32))) := Rg.Bk.new (by simp)
  have hb0 := Rg.hid (Rg.al3 w (.cells CS 32) (.cells #[.string ⟨s.toArray⟩] 9) (.cells #[.int .i64 0, .int .i64 0, .bool false, .int .i64 0, .int .i64 0, .int .i64 0, .int .i64 0, .int .i64 0, .int .i64 0, .slice none 0 0, .int .i64 0, .slice none 0 0, .string ⟨#[]⟩, .int .i64 0, .slice none 0 0, .int .i64 0, .int .i64 0, .slice none 0 0] 32))
  have kP0 : Hid (Rg.Bk (w.heap.size + 1) [.string ⟨s.toArray⟩] 9 (((w.alloc (.cells CS 32)).alloc (.cells #[.string ⟨s.toArray⟩] 9)).alloc (.cells #[.int .i64 0, .int .i64 0, .bool false, .int .i64 0, .int .i64 0, .int .i64 0, .int .i64 0, .int .i64 0, .int .i64 0, .slice none 0 0, .int .i64 0, .slice none 0 0, .string ⟨#[]⟩, .int .i64 0, .slice none 0 0, .int .i64 0, .int .i64 0, .slice none 0 0] 32))) := (Rg.Bk.new (by simp)).old _
  obtain ⟨r, hrr⟩ : ∃ r, r = Ip.feed d s := ⟨_, rfl⟩
  have HT : Hid (∀ W, Below w.heap.size w W → ∀ PB, Rg.Bk PB [.string ⟨s.toArray⟩] 9 W → Calls Try.prog 12 #[.agg CS, .func (.func 13) #[] #[.pointer (some ⟨PB, 0, none⟩)]] W fun e w' => ∃ eb, e = .returned (.pointer (some ⟨eb, 0, none⟩)) ∧ Hid (W.heap.size ≤ eb ∧ IS (fun b => Kp b ∧ b < w.heap.size) w' eb r.1 r.2.1 r.2.2 ∧ Below W.heap.size W w' ∧ r.2.2.length ≤ 740000)) := by
    intro W hW PB kPB
    rw [← eDV]
    refine ithrough_feed d p w W (.pointer (some ⟨PB, 0, none⟩)) hW hd.lt hr (fun eb w' => Hid (W.heap.size ≤ eb ∧ IS (fun b => Kp b ∧ b < w.heap.size) w' eb r.1 r.2.1 r.2.2 ∧ Below W.heap.size W w' ∧ r.2.2.length ≤ 740000)) fun W1 p1 q1 eb hE hB hle => ?_
    refine (ifeedC_any hE hr PB s ((kPB.below hB kPB.lt).cell 0) hd.ql hm hl).mono fun e w' hp => ⟨hp.1, hle, ?_, hB.trans (hp.2.2.1.mono hle), ?_⟩
    · rw [hrr]; exact hp.2.1
    · rw [hrr]; exact hp.2.2.2
  have hwr : Hid (r.1.win.l.length ≤ 100000) := by
    rw [hrr]
    exact Ip.feed_wlen hr hm hd.wl
  have hqr : Hid (r.1.queue.length ≤ 100000) := by
    rw [hrr]
    have := Ip.feed_qlen d s; have := hd.ql; show _ ≤ _; omega
  rw [← hrr] at hsz
  replace hrr := Rg.hid hrr
  rw [eDV]
  clear hCS eDV hd hr hm hl
  go_enter Try.func6, Try.ntmps6
  go_upto_region 1 with fail
  generalize World.alloc _ _ = w1 at *
  obtain ⟨B, hB⟩ : ∃ B, B = w.heap.size := ⟨_, rfl⟩
  obtain ⟨R, hR⟩ : ∃ R, R = w.heap.size + 1 + 1 := ⟨_, rfl⟩
  rw [← hR] at kR0 ⊢
  obtain ⟨PB, hPB⟩ : ∃ PB, PB = w.heap.size + 1 := ⟨_, rfl⟩
  rw [← hPB] at kP0 ⊢
  replace hPB := Rg.hid hPB
  rw [← hB] at kB0 ⊢
  have hRw : Hid (w.heap.size ≤ R) := by show _ ≤ _; omega
  replace hB := Rg.hid hB
  replace hR := Rg.hid hR
  have hld := Rg.hid (Rg.row_loadVar (P := Try.prog) (t := 32) (CS := CS) kB0.out Try.underlying32 rfl hin)
  have HT1 := Rg.hid (HT.out w1 hb0.out PB kP0.out)
  clear HT kB0 hin kP0
  go_upto_region 2 with (first | (refine Rg.wpList_load_row rfl (.tmp 2) 32 rfl rfl hld.out ?_) | (go_at_call 12; refine HT1.out.mono ?_; rintro e w3 ⟨eb, rfl, hq⟩))
  obtain ⟨hle, ⟨p1, q1, hE⟩, hb3, hcl⟩ := hq.out
  replace hE := Rg.hid hE
  have kR3 := Rg.hid (kR0.out.below hb3 kR0.out.lt)
  have hRe : Hid (R < eb) := Nat.lt_of_lt_of_le kR0.out.lt hle
  have hRe2 : Hid (eb ≠ R) := fun e => by have := hRe.out; omega
  have hwe : Hid (w.heap.size ≤ eb) := Nat.le_trans hb0.out.size hle
  have hb4 := Rg.hid (Rg.chain hb0.out hb3)
  have HStr := Rg.hid (istr_end hE.out kR3.out)
  obtain ⟨d1, hd1⟩ : ∃ d1, d1 = r.1 := ⟨_, rfl⟩
  obtain ⟨so, hso⟩ : ∃ so, so = r.2.1 := ⟨_, rfl⟩
  obtain ⟨co, hco⟩ : ∃ co, co = r.2.2 := ⟨_, rfl⟩
  rw [← hd1] at hE HStr hqr hwr
  rw [← hso, ← hco] at hE
  rw [← hso] at HStr
  rw [← hco] at hsz hcl
  replace hco := Rg.hid hco
  replace hcl := Rg.hid hcl
  obtain ⟨cn, hcn⟩ : ∃ cn, cn = co.length := ⟨_, rfl⟩
  obtain ⟨ca, cc, hcv⟩ := hE.out.cv_form
  rw [← hcn] at hcv
  replace hcn := Rg.hid hcn
  replace hcv := Rg.hid hcv
  replace hd1 := Rg.hid hd1
  replace hso := Rg.hid hso
  clear HT1 hld hq hb3 kR0 hb0
  refine wp_region_held_drew (S := (fun (w' : World) => Rg.Bk eb (IC d1 p1 q1) 51 w')) (by kernel_rfl) ?_ (fun hH0 => ?_)
  · exact hE.out.bk
  refine wpAnyH_take (i := 0) (oi := { dst := some 11, op := _, type := _, pos := _, after := _, guard := _ }) (v := ?_) rfl (by kernel_rfl) (by kernel_rfl) (by kernel_rfl) (fun _ _ _ h => h) (Or.inl ⟨by rfl, ?_⟩) (by assumption) ?_
  rotate_left
  · (intro w hSw; clear hSw; go_simp); (try with_reducible rfl)
  simp only [Act.put, List.setIfInBounds_toArray, List.set_cons_zero, List.set_cons_succ]
  refine wpAnyH_take (i := 1) (oi := { dst := some 12, op := _, type := _, pos := _, after := _, guard := _ }) (v := ?_) rfl (by kernel_rfl) (by kernel_rfl) (by kernel_rfl) (fun _ _ _ h => h) (Or.inl ⟨by rfl, ?_⟩) (by assumption) ?_
  rotate_left
  · (intro w hSw; clear hSw; go_simp); (try with_reducible rfl)
  simp only [Act.put, List.setIfInBounds_toArray, List.set_cons_zero, List.set_cons_succ]
  refine wpAnyH_take (i := 2) (oi := { dst := some 13, op := _, type := _, pos := _, after := _, guard := _ }) (v := ?_) rfl (by kernel_rfl) (by kernel_rfl) (by kernel_rfl) (fun _ _ _ h => h) (Or.inl ⟨by rfl, ?_⟩) (by assumption) ?_
  rotate_left
  · (intro w hSw; clear hSw; go_simp); (try with_reducible rfl)
  simp only [Act.put, List.setIfInBounds_toArray, List.set_cons_zero, List.set_cons_succ]
  refine wpAnyH_take (i := 3) (oi := { dst := some 14, op := _, type := _, pos := _, after := _, guard := _ }) (v := DV d1 p1) rfl (by kernel_rfl) (by kernel_rfl) (by kernel_rfl) (fun _ _ _ h => h) (Or.inl ⟨by rfl, fun w hSw => iexec_load_row _ _ rfl rfl (iload_end hSw)⟩) (by assumption) ?_
  simp only [Act.put, List.setIfInBounds_toArray, List.set_cons_zero, List.set_cons_succ]
  refine wpAnyH_take (i := 4) (oi := { dst := some 15, op := _, type := _, pos := _, after := _, guard := _ }) (v := ?_) rfl (by kernel_rfl) (by kernel_rfl) (by kernel_rfl) (fun _ _ _ h => h) (Or.inl ⟨by rfl, ?_⟩) (by assumption) ?_
  rotate_left
  · (intro w hSw; clear hSw; go_simp); (try with_reducible rfl)
  simp only [Act.put, List.setIfInBounds_toArray, List.set_cons_zero, List.set_cons_succ]
  refine wpAnyH_take (i := 5) (oi := { dst := some 16, op := _, type := _, pos := _, after := _, guard := _ }) (v := ?_) rfl (by kernel_rfl) (by kernel_rfl) (by kernel_rfl) (fun _ _ _ h => h) (Or.inl ⟨by rfl, ?_⟩) (by assumption) ?_
  rotate_left
  · (intro w hSw; clear hSw; go_simp); (try with_reducible rfl)
  simp only [Act.put, List.setIfInBounds_toArray, List.set_cons_zero, List.set_cons_succ]
  refine wpAnyH_take (i := 6) (oi := { dst := some 17, op := _, type := _, pos := _, after := _, guard := _ }) (v := ?_) rfl (by kernel_rfl) (by kernel_rfl) (by kernel_rfl) (fun _ _ _ h => h) (Or.inl ⟨by rfl, ?_⟩) (by assumption) ?_
  rotate_left
  · (intro w hSw; clear hSw; go_simp); (try with_reducible rfl)
  simp only [Act.put, List.setIfInBounds_toArray, List.set_cons_zero, List.set_cons_succ]
  refine wpAnyH_take (i := 8) (oi := { dst := some 19, op := _, type := _, pos := _, after := _, guard := _ }) (v := ?_) rfl (by kernel_rfl) (by kernel_rfl) (by kernel_rfl) (fun _ _ _ h => h) (Or.inl ⟨by rfl, ?_⟩) (by assumption) ?_
  rotate_left
  · (intro w hSw; clear hSw; go_simp); (try with_reducible rfl)
  simp only [Act.put, List.setIfInBounds_toArray, List.set_cons_zero, List.set_cons_succ]
  refine wpAnyH_take (i := 9) (oi := { dst := some 20, op := _, type := _, pos := _, after := _, guard := _ }) (v := ?_) rfl (by kernel_rfl) (by kernel_rfl) (by kernel_rfl) (fun _ _ _ h => h) (Or.inl ⟨by rfl, ?_⟩) (by assumption) ?_
  rotate_left
  · (intro w hSw; clear hSw; go_simp); (try with_reducible rfl)
  simp only [Act.put, List.setIfInBounds_toArray, List.set_cons_zero, List.set_cons_succ]
  refine wpAnyH_take (i := 10) (oi := { dst := some 21, op := _, type := _, pos := _, after := _, guard := _ }) (v := ?_) rfl (by kernel_rfl) (by kernel_rfl) (by kernel_rfl) (fun _ _ _ h => h) (Or.inl ⟨by rfl, ?_⟩) (by assumption) ?_
  rotate_left
  · (intro w hSw; clear hSw; go_simp); (try with_reducible rfl)
  simp only [Act.put, List.setIfInBounds_toArray, List.set_cons_zero, List.set_cons_succ]
  refine wpAnyH_take (i := 11) (oi := { dst := some 22, op := _, type := _, pos := _, after := _, guard := _ }) (v := .slice ca cn cc) rfl (by kernel_rfl) (by kernel_rfl) (by kernel_rfl) (fun _ _ _ h => h) (Or.inl ⟨by rfl, ?_⟩) (by assumption) ?_
  · (intro w hSw; have e20 : w.cell? ⟨eb, 20, none⟩ = some (.slice ca cn cc) := by { rw [← hcv.out]; exact hSw.cell 20 }; clear hSw; go_simp)
  simp only [Act.put, List.setIfInBounds_toArray, List.set_cons_zero, List.set_cons_succ]
  refine wpAnyH_ready (rs := [7]) (by kernel_rfl) (by simp) ?_
  refine AllReadyH.cons (o := { dst := some 18, op := _, type := _, pos := _, after := _, guard := _ }) rfl (fun K hK => ?_) AllReadyH.nil
  go_simp
  go_at_call 11; refine HStr.out.mono ?_; rintro e w5 ⟨rfl, hb5, kE5, kR5⟩
  have hown5 := own_kept hE.out.came fun g hg => hb5.out.2 g (hE.out.came.lt g hg).2 (fun e => came_said hE.out g e hg)
  rw [hcv.out, ← hcn.out] at hown5
  have HJ := Rg.hid (joined_any co cn hcn.out (by have := hcl.out; have := hcn.out; show _ ≤ _; omega) ca cc w5 (own_row hown5) hsz.out)
  clear hown5
  refine hK.out _ _ ?_ (fun hH7 => ?_)
  · exact kE5.out
  clear hK K hH0
  try simp only [Act.put, List.setIfInBounds_toArray, List.set_cons_zero, List.set_cons_succ]
  refine wpAnyH_ready (rs := [12]) (by kernel_rfl) (by simp) ?_
  refine AllReadyH.cons (o := { dst := some 23, op := _, type := _, pos := _, after := _, guard := _ }) rfl (fun K hK => ?_) AllReadyH.nil
  go_simp
  go_at_call 16; refine HJ.out.mono ?_; rintro e w6 ⟨ja, jc, rfl, hj6, hb6, hjn⟩
  have kE6 : Hid (Rg.Bk eb (IC d1 p1 q1) 51 w6) := kE5.out.below hb6.out kE5.out.lt
  have kR6 := Rg.hid (kR5.out.below hb6.out kR5.out.lt)
  refine hK.out _ _ ?_ (fun hH12 => ?_)
  · exact kE6.out
  clear hK K hH7
  try simp only [Act.put, List.setIfInBounds_toArray, List.set_cons_zero, List.set_cons_succ]
  obtain ⟨w7, hst, kR7, oR7⟩ := Rg.row_storeVar (P := Try.prog) (t := 32) (CS := (DC d1 p1).toArray) kR6.out iinfoDr2 rfl (by simp [DC, Value.oneCell'])
  replace hst : Hid ((storeVar 32 ⟨R, 0, none⟩ (DV d1 p1)).run Try.prog w6 = .ok () w7) := hst
  have kE7 : Hid (Rg.Bk eb (IC d1 p1 q1) 51 w7) := kE6.out.same (oR7.block eb hRe2.out)
  refine wpAnyH_ready (rs := [13]) (by kernel_rfl) (by simp) ?_
  refine AllReadyH.cons (o := { dst := none, op := _, type := _, pos := _, after := _, guard := _ }) rfl (fun K hK => ?_) AllReadyH.nil
  refine istep_store_row (by rfl) (.tmp 4) (.tmp 14) 32 (by rfl) (by rfl) (by rfl) hst.out ?_
  refine hK.out _ _ ?_ (fun hH13 => ?_)
  · exact kE7.out
  clear hK K hH12
  simp only [Act.put]
  refine wpAnyH_take (i := 14) (oi := { dst := some 5, op := _, type := _, pos := _, after := _, guard := _ }) (v := ?_) rfl (by kernel_rfl) (by kernel_rfl) (by kernel_rfl) (fun _ _ _ h => h) (Or.inl ⟨by rfl, ?_⟩) (by assumption) ?_
  rotate_left
  · (intro w hSw; clear hSw; go_simp); (try with_reducible rfl)
  simp only [Act.put, List.setIfInBounds_toArray, List.set_cons_zero, List.set_cons_succ]
  refine wpAnyH_take (i := 15) (oi := { dst := some 6, op := _, type := _, pos := _, after := _, guard := _ }) (v := ?_) rfl (by kernel_rfl) (by kernel_rfl) (by kernel_rfl) (fun _ _ _ h => h) (Or.inl ⟨by rfl, ?_⟩) (by assumption) ?_
  rotate_left
  · (intro w hSw; clear hSw; go_simp); (try with_reducible rfl)
  simp only [Act.put, List.setIfInBounds_toArray, List.set_cons_zero, List.set_cons_succ]
  refine wpAnyH_done (by kernel_rfl) ?_ _
  have hjb : ∀ g o, ja = some ⟨g, o, none⟩ → w.heap.size ≤ g := fun g o e => by have := hjn.out g o e; have := hb5.out.1.size; have := hb4.out.size; omega
  have hjR : ERow pcE w7 ja (Ip.join co) := ierow_only hj6.out oR7 (fun g o e => by have := hjn.out g o e; have := kR5.out.lt; omega)
  have hfin : IDR Kp w7 d1 p1 := hE.out.rest hqr.out hwr.out hwe.out hK.out kR3.out hRe.out (fun k hk h1 h2 h3 => by rw [oR7.block k h2, hb6.out.block k (Nat.lt_of_lt_of_le hk hb5.out.1.size)]; exact hb5.out.2 k hk h3) (((hb5.out.1.mono hwe.out).trans (hb6.out.mono (Nat.le_trans hb4.out.size hb5.out.1.size))).trans (oR7.bel hRw.out))
  have hbel : Below w.heap.size w w7 := ((hb4.out.trans (hb5.out.1.mono hwe.out)).trans (hb6.out.mono (Nat.le_trans hb4.out.size hb5.out.1.size))).trans (oR7.bel hRw.out)
  have hres : (loadVar 32 ⟨R, 0, none⟩).run Try.prog w7 = .ok (DV d1 p1) w7 := Rg.row_loadVar (P := Try.prog) (t := 32) (CS := (DC d1 p1).toArray) kR7 Try.underlying32 rfl iinfoDr2
  have hfe : IYPost Kp w (Ip.feed d s) (.returned (.tuple #[DV d1 p1, .string ⟨so.toArray⟩, .slice ja (Ip.join co).length jc])) w7 := by
    rw [← hrr.out]
    refine ⟨p1, ja, jc, by rw [hd1.out, hso.out, ← hco.out], by rw [← hd1.out]; exact hfin, hbel, by rw [← hco.out]; exact hjR, hjb⟩
  clear hfin hbel hE HStr hb5 kE5 kR5 oR7 kE6 kR6 kE7 kR7 hst hb4 kR3 hH13 HJ hj6 hjn hjR hjb hb6
  go_wp2
  exact bodyPost_ret (v := .tuple #[DV d1 p1, .string ⟨so.toArray⟩, .slice ja (Ip.join co).length jc]) (iresults_row3 rfl rfl rfl rfl hres) rfl hfe
end Go.Proofs.Ytlclfkogbfigbaa

namespace Go.Proofs.Ytlclfkogbfigbaa
open Go.RowKit
/-- a drive, by its cells -/
def IDH (Kp : Nat → Prop) (W : World) (d : Gp.Dr) (CS : Array Value) : Prop := ∃ p, CS = (DC d p).toArray ∧ IDR Kp W d p
theorem IDH.below {Kp : Nat → Prop} {W W' : World} {d : Gp.Dr} {CS : Array Value} (h : IDH Kp W d CS) (hb : Below W.heap.size W W') : IDH Kp W' d CS := by
  obtain ⟨p, e, h⟩ := h
  exact ⟨p, e, h.below hb⟩
theorem IDH.info {Kp : Nat → Prop} {W : World} {d : Gp.Dr} {CS : Array Value} (h : IDH Kp W d CS) : (Try.prog.info? 32).map (·.size) = some CS.size := by
  obtain ⟨p, e, _⟩ := h
  rw [e]
  exact iinfoDr2
theorem IDH.size {Kp : Nat → Prop} {W : World} {d : Gp.Dr} {CS : Array Value} (h : IDH Kp W d CS) : CS.size = 18 := by
  obtain ⟨p, e, _⟩ := h
  rw [e]
  rfl
theorem IDH.one {Kp : Nat → Prop} {W : World} {d : Gp.Dr} {CS : Array Value} (h : IDH Kp W d CS) : CS.all (·.oneCell') = true := by
  obtain ⟨p, e, _⟩ := h
  rw [e]
  simp [DC, Value.oneCell']
/-- a drive without lists, whatever is told of old blocks -/
theorem IDH.any {Kp Kq : Nat → Prop} {W : World} {d : Gp.Dr} {CS : Array Value} (h : IDH Kp W d CS) (h1 : d.win.l = []) (h2 : d.ahead = []) (h3 : d.queue = []) (h4 : d.took = []) : IDH Kq W d CS := by
  obtain ⟨p, e, h⟩ := h
  exact ⟨p, e, h.at_, h.wcap, h.acap, h.ql, h.wl, .inl h1, .inl h2, .inl h3, .inl h4⟩
theorem iarow_only {Kp : Nat → Prop} {α : Type} {E : Rg.El α} {B : Nat} {W W' : World} {a : Option Addr} {l : List α} (h : ERow E W a l) (k : iKRow Kp a l) (hn : ¬ Kp B) (o : Rg.Only B W W') : ERow E W' a l := by
  rcases h with h | ⟨b, i, h1, h2, h3⟩
  · exact .inl h
  · rcases k with k | ⟨b', i', k1, k2⟩
    · exact .inl k
    · rw [h1] at k1
      cases k1
      exact .inr ⟨b, i, h1, by rw [o.size]; exact h2, h3.same (o.block b (fun e => hn (e ▸ k2)))⟩
theorem IDH.only {Kp : Nat → Prop} {B : Nat} {W W' : World} {d : Gp.Dr} {CS : Array Value} (h : IDH Kp W d CS) (hn : ¬ Kp B) (o : Rg.Only B W W') : IDH Kp W' d CS := by
  obtain ⟨p, e, h⟩ := h
  exact ⟨p, e, ⟨iarow_only h.at_.win h.kw hn o, iarow_only h.at_.ahead h.ka hn o, iarow_only h.at_.queue h.kq hn o, iarow_only h.at_.took h.kt hn o⟩, h.wcap, h.acap, h.ql, h.wl, h.kw, h.ka, h.kq, h.kt⟩
/-- a drive's block -/
theorem IDH.load {Kp : Nat → Prop} {W W2 : World} {B : Nat} {d : Gp.Dr} {CS : Array Value} (h : IDH Kp W d CS) (k : Rg.Bk B CS.toList 32 W2) : (loadVar 32 ⟨B, 0, none⟩).run Try.prog W2 = .ok (.agg CS) W2 := Rg.row_loadVar (P := Try.prog) (t := 32) (CS := CS) k Try.underlying32 rfl h.info
/-- a new block for a drive -/
theorem IDH.box {Kp : Nat → Prop} {W : World} {d : Gp.Dr} {CS : Array Value} (h : IDH Kp W d CS) : ∃ W', Hid ((storeVar 32 ⟨W.heap.size, 0, none⟩ (.agg CS)).run Try.prog (W.alloc (.cells #[.int .i64 0, .int .i64 0, .bool false, .int .i64 0, .int .i64 0, .int .i64 0, .int .i64 0, .int .i64 0, .int .i64 0, .slice none 0 0, .int .i64 0, .slice none 0 0, .string ⟨#[]⟩, .int .i64 0, .slice none 0 0, .int .i64 0, .int .i64 0, .slice none 0 0] 32)) = .ok () W') ∧ Hid (Rg.Bk W.heap.size CS.toList 32 W') ∧ Hid (Below W.heap.size W W') ∧ Hid (IDH Kp W' d CS) := by
  have k : Rg.Bk W.heap.size [.int .i64 0, .int .i64 0, .bool false, .int .i64 0, .int .i64 0, .int .i64 0, .int .i64 0, .int .i64 0, .int .i64 0, .slice none 0 0, .int .i64 0, .slice none 0 0, .string ⟨#[]⟩, .int .i64 0, .slice none 0 0, .int .i64 0, .int .i64 0, .slice none 0 0] 32 (W.alloc (.cells #[.int .i64 0, .int .i64 0, .bool false, .int .i64 0, .int .i64 0, .int .i64 0, .int .i64 0, .int .i64 0, .int .i64 0, .slice none 0 0, .int .i64 0, .slice none 0 0, .string ⟨#[]⟩, .int .i64 0, .slice none 0 0, .int .i64 0, .int .i64 0, .slice none 0 0] 32)) := Rg.Bk.new rfl
  obtain ⟨W', h1, h2, h3⟩ := Rg.row_storeVar (P := Try.prog) (t := 32) (CS := CS) k h.info (by rw [h.size]; rfl) h.one
  have hb : Below W.heap.size W W' := (Rg.al1 _ _).trans (h3.bel (Nat.le_refl _))
  exact ⟨W', h1, h2, hb, h.below hb⟩
/-- a drive laid over another one -/
theorem IDH.over {Kp Kq : Nat → Prop} {W W0 : World} {B : Nat} {d d0 : Gp.Dr} {CS C0 : Array Value} (h : IDH Kp W d CS) (h0 : IDH Kq W0 d0 C0) (k : Rg.Bk B C0.toList 32 W) : ∃ W', Hid ((storeVar 32 ⟨B, 0, none⟩ (.agg CS)).run Try.prog W = .ok () W') ∧ Hid (Rg.Bk B CS.toList 32 W') ∧ Hid (Rg.Only B W W') := by
  obtain ⟨W', h1, h2, h3⟩ := Rg.row_storeVar (P := Try.prog) (t := 32) (CS := CS) k h.info (by rw [h.size, Array.length_toList, h0.size]) h.one
  exact ⟨W', h1, h2, h3⟩
/-- what a call that says something leaves -/
def IHPost (Kp : Nat → Prop) (w : World) (r : Gp.Dr × List UInt8) (e : Ending) (w' : World) : Prop := ∃ CS, e = .returned (.tuple #[.agg CS, .string ⟨r.2.toArray⟩]) ∧ Hid (IDH Kp w' r.1 CS) ∧ Hid (Below w.heap.size w w')
theorem ihpost {Kp : Nat → Prop} {w : World} {r : Gp.Dr × List UInt8} {e : Ending} {w' : World} (h : IXPost Kp w r e w') : IHPost Kp w r e w' := by
  obtain ⟨p, h1, h2, h3⟩ := h
  exact ⟨_, h1, ⟨p, rfl, h2⟩, h3⟩
theorem ihsend {Kp : Nat → Prop} {w : World} {d : Gp.Dr} {CS : Array Value} (h : IDH Kp w d CS) (hr : Ip.right d) (x : Gp.Pc) (hq : d.queue.length ≤ 1000) (hK : ∀ b, w.heap.size ≤ b → Kp b) : Calls Try.prog 7 #[.agg CS, .agg #[.int .i64 x.ch, .string x.data]] w fun e w' => IHPost Kp w (Ip.send d x) e w' := by
  obtain ⟨p, rfl, h⟩ := h
  exact (iSend_any d p x w h hr hq hK).mono fun e w' => ihpost
/-- what Begin leaves -/
def IHBPost (Kp : Nat → Prop) (w : World) (d : Gp.Dr) (s : List UInt8) (e : Ending) (w' : World) : Prop := ∃ CS, e = .returned (.tuple #[.agg CS, .string ⟨s.toArray⟩, .int .i64 0]) ∧ Hid (IDH Kp w' d CS) ∧ Hid (Below w.heap.size w w')
theorem ihbegin (Kp : Nat → Prop) (ca : Bool) (z ro : Int) (w : World) (h1 : 1 ≤ z ∧ z ≤ 4095) (h2 : 1 ≤ ro ∧ ro ≤ 16) : Calls Try.prog 5 #[.bool ca, .int .i64 z, .int .i64 ro] w fun e w' => IHBPost Kp w (Ip.begin_ ca z ro) (Ip.sync (Ip.begin_ ca z ro)) e w' := by
  refine (ibegin_yes (Kp := fun _ => True) ca z ro w h1 h2 (fun _ _ => trivial)).mono fun e w' ⟨p, h1, h2, h3⟩ => ⟨_, h1, ?_, h3⟩
  exact IDH.any (Kp := fun _ => True) ⟨p, rfl, h2⟩ rfl rfl rfl rfl
/-- what Feed leaves: its pieces too -/
def IHFPost (Kp : Nat → Prop) (w : World) (r : Gp.Dr × List UInt8 × List Gp.Pc) (e : Ending) (w' : World) : Prop := ∃ CS a c, e = .returned (.tuple #[.agg CS, .string ⟨r.2.1.toArray⟩, .slice a (Ip.join r.2.2).length c]) ∧ Hid (IDH Kp w' r.1 CS) ∧ Hid (Below w.heap.size w w') ∧ Hid (ERow pcE w' a (Ip.join r.2.2) ∧ iKRow Kp a (Ip.join r.2.2))
theorem ihfeed {Kp : Nat → Prop} {w : World} {d : Gp.Dr} {CS : Array Value} (h : IDH Kp w d CS) (hr : Ip.right d) (s : List UInt8) (hm : d.at_ + d.buf.length + s.length ≤ 1099511627776) (hl : d.buf.length + s.length ≤ 40000) (hsz : ∀ x ∈ (Ip.feed d s).2.2, x.data.size ≤ 5000) (hK : ∀ b, w.heap.size ≤ b → Kp b) : Calls Try.prog 6 #[.agg CS, .string ⟨s.toArray⟩] w fun e w' => IHFPost Kp w (Ip.feed d s) e w' := by
  obtain ⟨p, rfl, h⟩ := h
  refine (iFeed_any d p s w h hr hm hl hsz hK).mono fun e w' ⟨p', a, c, h1, h2, h3, h4, h5⟩ => ⟨_, a, c, h1, ⟨p', rfl, h2⟩, h3, h4, ?_⟩
  rcases h4 with h4 | ⟨b, o, e4, _, _⟩
  · exact .inl h4
  · exact .inr ⟨b, o, e4, hK b (h5 b o e4)⟩
end Go.Proofs.Ytlclfkogbfigbaa

namespace Go.Proofs.Ytlclfkogbfigbaa
namespace Ip
open Gp (Dr Pc Fi)
/-- what came early is short -/
def small (d : Dr) : Prop := ∀ f ∈ d.ahead, f.data.size ≤ 4095
def shortP (l : List Pc) : Prop := ∀ x ∈ l, x.data.size ≤ 4095
theorem ins_mem {w : Int} {f g : Fi} : ∀ {l : List Fi}, g ∈ ins w f l → g = f ∨ g ∈ l
  | [], h => by
    unfold ins at h
    exact .inl (List.mem_singleton.1 h)
  | x :: r, h => by
    unfold ins at h
    split at h
    · rcases List.mem_cons.1 h with e | e
      · exact .inr (by simp [e])
      · rcases ins_mem e with e | e
        · exact .inl e
        · exact .inr (by simp [e])
    · split at h
      · exact .inr h
      · rcases List.mem_cons.1 h with e | e
        · exact .inl e
        · exact .inr e
theorem drain_small : ∀ (n : Nat) (d : Dr) (l : List Pc), small d → shortP l → small (drain n d l).1 ∧ shortP (drain n d l).2
  | 0, _, _, h, k => ⟨h, k⟩
  | n + 1, d, l, h, k => by
    unfold drain
    split
    · exact ⟨h, k⟩
    · rename_i g r hg
      split
      · refine drain_small n _ _ (fun f hf => h f (by rw [hg]; simp [show f ∈ r from hf])) (fun x hx => ?_)
        rcases List.mem_append.1 hx with e | e
        · exact k x e
        · rw [List.mem_singleton.1 e]
          exact h g (by rw [hg]; simp)
      · exact ⟨h, k⟩
theorem bytes_len (b : List UInt8) : (⟨b.toArray⟩ : ByteArray).size = b.length := by show b.toArray.size = _; simp
theorem orders_small {d : Dr} (h : small d) {f : If.Fr} (hf : f.data.length ≤ 4095) : small (orders d f).1 ∧ shortP (orders d f).2.2 := by
  unfold orders
  dsimp only
  split
  · refine drain_small _ _ _ h (fun x hx => ?_)
    rw [List.mem_singleton.1 hx]
    show (⟨f.data.toArray⟩ : ByteArray).size ≤ 4095
    rw [bytes_len]; exact hf
  split
  · have hi : small { d with ahead := ins d.wants (toFi f) d.ahead } := fun g hg => by
      rcases ins_mem hg with e | e
      · rw [e]
        show (⟨f.data.toArray⟩ : ByteArray).size ≤ 4095
        rw [bytes_len]; exact hf
      · exact h g e
    split
    · exact ⟨hi, fun x hx => by cases hx⟩
    · exact ⟨hi, fun x hx => by cases hx⟩
  · exact ⟨h, fun x hx => by cases hx⟩
theorem opens_ahead (d : Dr) (data : List UInt8) : (opens d data).1.ahead = d.ahead := by
  unfold opens
  repeat' split
  all_goals rfl
theorem closes_ahead (d : Dr) : (closes d).1.ahead = d.ahead := by
  unfold closes
  repeat' split
  all_goals rfl
theorem takes_small {d : Dr} (h : small d) {f : If.Fr} (hf : f.data.length ≤ 4095) : small (takes d f).1 ∧ shortP (takes d f).2.2 := by
  unfold takes
  split
  · exact ⟨h, fun x hx => by cases hx⟩
  dsimp only
  split
  · exact ⟨fun g hg => h g (by rw [opens_ahead] at hg; exact hg), fun x hx => by cases hx⟩
  split
  · exact ⟨fun g hg => h g (by rw [closes_ahead] at hg; exact hg), fun x hx => by cases hx⟩
  unfold takes2
  split
  · exact ⟨h, fun x hx => by cases hx⟩
  split
  · exact ⟨h, fun x hx => by cases hx⟩
  have ha : small (Gp.acked { d with wait := Gp.or2 d.wait } f.ak) := h
  generalize Gp.acked { d with wait := Gp.or2 d.wait } f.ak = e at *
  dsimp only
  split
  · split
    · exact ⟨ha, fun x hx => by cases hx⟩
    · exact ⟨ha, fun x hx => by cases hx⟩
  split
  · exact orders_small ha hf
  · exact ⟨ha, fun x hx => by cases hx⟩
theorem feedN_small : ∀ (n : Nat) (d : Dr) (out : List UInt8) (came : List Pc), small d → shortP came → small (feedN n d out came).1 ∧ shortP (feedN n d out came).2.2
  | 0, _, _, _, h, k => ⟨h, k⟩
  | n + 1, d, out, came, h, k => by
    unfold feedN
    dsimp only
    split
    · rename_i hok
      obtain ⟨i, m, _, _, h3, _, _⟩ := scan_yes d.buf 0 hok
      have hfr := (If.text_read h3).1
      have ht := takes_small (d := { d with took := d.took ++ [(d.at_ + ((If.scan 0 d.buf).a : Int), d.at_ + ((If.scan 0 d.buf).b : Int))], buf := d.buf.drop (If.scan 0 d.buf).b, at_ := d.at_ + ((If.scan 0 d.buf).b : Int) }) h (f := (If.scan 0 d.buf).f) (Nat.le_of_lt_succ hfr.2)
      refine feedN_small n _ _ _ ht.1 (fun x hx => ?_)
      rcases List.mem_append.1 hx with e | e
      · exact k x e
      · exact ht.2 x e
    · exact ⟨h, k⟩
theorem fillN_ahead : ∀ (n : Nat) (d : Dr) (out : List UInt8), (fillN n d out).1.ahead = d.ahead
  | 0, _, _ => rfl
  | n + 1, d, out => by
    unfold fillN
    split
    · rfl
    · split
      · rw [fillN_ahead n]; rfl
      · rfl
theorem feed_small {d : Dr} (h : small d) (s : List UInt8) : small (feed d s).1 ∧ shortP (feed d s).2.2 := by
  have := feedN_small (d.buf.length + s.length + 1) { Gp.own d with buf := d.buf ++ s } [] [] h (fun x hx => by cases hx)
  refine ⟨fun f hf => this.1 f ?_, this.2⟩
  have e : (feed d s).1.ahead = (feedN (d.buf.length + s.length + 1) { Gp.own d with buf := d.buf ++ s } [] []).1.ahead := fillN_ahead 17 _ []
  rw [← e]; exact hf
theorem send_small {d : Dr} (h : small d) (p : Pc) : small (send d p).1 := by
  unfold send
  split
  · exact h
  · intro f hf
    unfold fill at hf
    rw [fillN_ahead] at hf
    exact h f hf
theorem close_small {d : Dr} (h : small d) : small (close d).1 := by
  unfold close
  split
  · exact h
  · exact h
theorem tick_ahead (d : Dr) : (tick d).1.ahead = d.ahead := by
  unfold tick
  dsimp only
  repeat' split
  all_goals rfl
theorem tick_small {d : Dr} (h : small d) : small (tick d).1 := fun f hf => h f (by rw [tick_ahead] at hf; exact hf)
theorem begin_small (ca : Bool) (z r : Int) : small (begin_ ca z r) := fun f hf => by cases hf
end Ip
end Go.Proofs.Ytlclfkogbfigbaa
