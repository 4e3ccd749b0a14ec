/-
  Mathematics of layer 16: packets that come in another order than they were said in, or twice.
-/
import Derived.Test.YtlclfkogbfigbaaBsMathIu
import Derived.Test.YtlclfkogbfigbaaCuBL
namespace Go.Proofs.Ytlclfkogbfigbaa
namespace Ip
open Gp (Dr Pc Fi)
def tx (i : Nat) : List UInt8 := [UInt8.ofNat (97 + i), UInt8.ofNat (48 + i)]
def pcT (i : Nat) : Pc := ⟨0, ⟨(tx i).toArray⟩⟩
def fr (i : Nat) : If.Fr := ⟨0, (i : Int) + 1, 0, 0, true, tx i⟩
/-- who says them, behind the n-th -/
def aT : Nat → Dr
  | 0 => (feed (begin_ true 3 16) (sync (begin_ false 3 16))).1
  | n + 1 => (send (aT n) (pcT n)).1
def sd (n : Nat) : List UInt8 := (send (aT n) (pcT n)).2
def bT0 : Dr := (feed (begin_ false 3 16) (sync (begin_ true 3 16))).1
set_option maxRecDepth 100000 in
theorem sd_text : ∀ k, k < 8 → sd k = If.text (fr k) := by decide +kernel
set_option maxRecDepth 100000 in
theorem aT_small : ∀ k, k < 9 → (aT k).queue.length ≤ 1000 ∧ (sd k).length ≤ 1000 := by decide +kernel
theorem aT_ok : ∀ k, Ok 13 k (aT k)
  | 0 => by
    have h := (Ok.begin_ true (size := 3) (room := 16) (by decide) (by decide)).feed (sync (begin_ false 3 16)) (by rw [show (sync (begin_ false 3 16)).length = 13 by decide +kernel]; decide)
    rw [show (sync (begin_ false 3 16)).length = 13 by decide +kernel] at h
    exact h.1.mono (by omega) (by omega)
  | n + 1 => (aT_ok n).send (pcT n)
theorem bT_ok : Ok 13 0 bT0 := by
  have h := (Ok.begin_ false (size := 3) (room := 16) (by decide) (by decide)).feed (sync (begin_ true 3 16)) (by rw [show (sync (begin_ true 3 16)).length = 13 by decide +kernel]; decide)
  rw [show (sync (begin_ true 3 16)).length = 13 by decide +kernel] at h
  exact h.1.mono (by omega) (by omega)
theorem fr_ok {k : Nat} (h : k < 8) : If.ok (fr k) := ⟨⟨rfl, by show (0 : Int) ≤ (k : Int) + 1 ∧ (k : Int) + 1 ≤ 31; omega, by show (0 : Int) ≤ 0 ∧ (0 : Int) ≤ 31; omega, by show (0 : Int) ≤ 0 ∧ (0 : Int) ≤ 7; omega⟩, by show 2 < 4096; omega⟩
def wholeN (n : Nat) : List UInt8 := (List.range n).flatMap tx
theorem whole_succ (n : Nat) : wholeN (n + 1) = wholeN n ++ tx n := by simp [wholeN, List.range_succ]
def dat (l : List Pc) : List UInt8 := l.flatMap fun x => x.data.data.toList
theorem dat_app (l k : List Pc) : dat (l ++ k) = dat l ++ dat k := by simp [dat]
theorem dat_pcT (i : Nat) : dat [pcT i] = tx i := by simp [dat, pcT]
theorem dat_join : ∀ l : List Pc, dat (join l) = dat l
  | [] => rfl
  | p :: r => by
    have ih := dat_join r
    have e : dat (p :: r) = p.data.data.toList ++ dat r := by simp [dat]
    unfold join
    cases hj : join r with
    | nil =>
      rw [hj] at ih
      rw [e, ← ih]
      simp [dat]
    | cons q t =>
      rw [hj] at ih
      rw [e, ← ih]
      dsimp only
      split
      · simp [dat, ByteArray.data_append]
      · simp [dat]
theorem join_len : ∀ l : List Pc, (join l).length ≤ l.length
  | [] => Nat.le_refl _
  | p :: r => by
    have ih := join_len r
    unfold join
    cases hj : join r with
    | nil => simp
    | cons q t =>
      rw [hj] at ih
      dsimp only
      split
      · simp at ih ⊢; omega
      · simp at ih ⊢; omega
/-- who hears them: w have come, S stand ahead -/
structure TB (w : Nat) (S : List Nat) (d : Dr) : Prop where
  ca : d.caller = false
  ph : d.phase = 2
  bf : d.buf = []
  qu : d.queue = []
  wi : d.win.l = []
  wa : d.wants = (w : Int) + 1
  ah : d.ahead = S.map fun k => toFi (fr k)
set_option maxRecDepth 100000 in
theorem tb_start : TB 0 [] bT0 := by
  have h : bT0.caller = false ∧ bT0.phase = 2 ∧ bT0.buf = [] ∧ bT0.queue.length = 0 ∧ bT0.win.l.length = 0 ∧ bT0.wants = 1 ∧ bT0.ahead.length = 0 := by decide +kernel
  obtain ⟨h1, h2, h3, h4, h5, h6, h7⟩ := h
  exact ⟨h1, h2, h3, List.length_eq_zero_iff.1 h4, List.length_eq_zero_iff.1 h5, by rw [h6]; rfl, by rw [List.length_eq_zero_iff.1 h7]; rfl⟩
set_option maxRecDepth 100000 in
theorem aT_phase : (aT 0).phase = 2 := by decide +kernel
def srt (w n : Nat) (S : List Nat) : Prop := S.Pairwise (· < ·) ∧ ∀ s ∈ S, w < s ∧ s < n
/-- what stands ready comes -/
def drN : Nat → List Nat → Nat × List Nat
  | w, [] => (w, [])
  | w, s :: r => if s = w then drN (w + 1) r else (w, s :: r)
def drP : Nat → List Nat → List Pc
  | _, [] => []
  | w, s :: r => if s = w then pcT w :: drP (w + 1) r else []
theorem drP_dat : ∀ (S : List Nat) (w : Nat), wholeN w ++ dat (drP w S) = wholeN (drN w S).1
  | [], w => by simp [drP, drN, dat]
  | s :: r, w => by
    unfold drP drN
    split
    · rw [← drP_dat r (w + 1), whole_succ, List.append_assoc]
      congr 1
    · simp [dat]
theorem drP_len : ∀ (S : List Nat) (w : Nat), (drP w S).length ≤ S.length
  | [], _ => Nat.le_refl _
  | s :: r, w => by
    unfold drP
    split
    · have := drP_len r (w + 1); simp; exact this
    · exact Nat.zero_le _
theorem drN_srt {n : Nat} : ∀ (S : List Nat) (w : Nat), S.Pairwise (· < ·) → (∀ s ∈ S, w ≤ s ∧ s < n) → w ≤ n → srt (drN w S).1 n (drN w S).2 ∧ w ≤ (drN w S).1 ∧ (drN w S).1 ≤ n
  | [], w, _, _, h => ⟨⟨List.Pairwise.nil, fun s hs => by cases hs⟩, Nat.le_refl _, h⟩
  | s :: r, w, h1, h2, h3 => by
    obtain ⟨a1, a2⟩ := List.pairwise_cons.1 h1
    have b := h2 s (by simp)
    unfold drN
    split
    · rename_i e
      obtain ⟨k1, k2, k3⟩ := drN_srt r (w + 1) a2 (fun t ht => ⟨by have := a1 t ht; omega, (h2 t (by simp [ht])).2⟩) (by omega)
      exact ⟨k1, by omega, k3⟩
    · rename_i e
      refine ⟨⟨h1, fun t ht => ⟨?_, (h2 t ht).2⟩⟩, Nat.le_refl _, h3⟩
      rcases List.mem_cons.1 ht with rfl | ht
      · show w < t; omega
      · have := a1 t ht; show w < t; omega
theorem drain_N : ∀ (m : Nat) (S : List Nat) (w : Nat) (d : Dr) (l : List Pc), S.length ≤ m → (∀ s ∈ S, s < 8) → d.wants = (w : Int) + 1 → d.ahead = S.map (fun k => toFi (fr k)) → drain m d l = ({ d with wants := ((drN w S).1 : Int) + 1, ahead := (drN w S).2.map fun k => toFi (fr k) }, l ++ drP w S)
  | m, [], w, d, l, _, _, h1, h2 => by
    have e : ({ d with wants := ((drN w []).1 : Int) + 1, ahead := (drN w []).2.map fun k => toFi (fr k) } : Dr) = d := by
      show ({ d with wants := (w : Int) + 1, ahead := [] } : Dr) = d
      have h2' : d.ahead = [] := h2
      rw [← h1, ← h2']
    rw [e]
    show _ = (d, l ++ [])
    rw [List.append_nil]
    cases m with
    | zero => rfl
    | succ m =>
      unfold drain
      rw [h2]
      rfl
  | 0, s :: r, _, _, _, h, _, _, _ => by simp at h
  | m + 1, s :: r, w, d, l, hm, hs, h1, h2 => by
    unfold drain
    rw [h2, List.map_cons]
    dsimp only
    have hs8 := hs s (by simp)
    by_cases c : s = w
    · subst c
      rw [if_pos (show (toFi (fr s)).nm = d.wants from by rw [h1]; rfl)]
      have ih := drain_N m r (s + 1) { d with wants := (d.wants + 1) % 32, ahead := r.map fun k => toFi (fr k) } (l ++ [⟨(toFi (fr s)).ch, (toFi (fr s)).data⟩]) (by simp at hm; omega) (fun t ht => hs t (by simp [ht])) (by show (d.wants + 1) % 32 = _; rw [h1]; omega) rfl
      rw [ih]
      have e1 : drN s (s :: r) = drN (s + 1) r := by unfold drN; rw [if_pos rfl]; cases r <;> rfl
      have e2 : drP s (s :: r) = pcT s :: drP (s + 1) r := by unfold drP; rw [if_pos rfl]; cases r <;> rfl
      rw [e1, e2, List.append_assoc]
      rfl
    · rw [if_neg (show ¬ (toFi (fr s)).nm = d.wants from by rw [h1]; show ¬ (s : Int) + 1 = (w : Int) + 1; omega)]
      have e1 : drN w (s :: r) = (w, s :: r) := by unfold drN; rw [if_neg c]
      have e2 : drP w (s :: r) = [] := by unfold drP; rw [if_neg c]
      rw [e1, e2, List.append_nil]
      dsimp only
      rw [← h1, ← h2]
theorem early_at {w s : Nat} (h : s < 8) (hw : w ≤ 8) : early ((w : Int) + 1) ((s : Int) + 1) = if w ≤ s then (s : Int) - w else (s : Int) - w + 32 := by
  rw [early_eq (by omega) (by omega)]
  split <;> split <;> omega
def insN (k : Nat) : List Nat → List Nat
  | [] => [k]
  | s :: r => if s < k then s :: insN k r else if s = k then s :: r else k :: s :: r
theorem ins_N {w k : Nat} (hw : w < k) (hk : k < 8) : ∀ S : List Nat, (∀ s ∈ S, w < s ∧ s < 8) → ins ((w : Int) + 1) (toFi (fr k)) (S.map fun k => toFi (fr k)) = (insN k S).map fun k => toFi (fr k)
  | [], _ => rfl
  | s :: r, h => by
    have hs := h s (by simp)
    have e1 : early ((w : Int) + 1) (toFi (fr s)).nm = (s : Int) - w := (early_at hs.2 (by omega)).trans (if_pos (by omega))
    have e2 : early ((w : Int) + 1) (toFi (fr k)).nm = (k : Int) - w := (early_at hk (by omega)).trans (if_pos (by omega))
    rw [List.map_cons]
    unfold ins insN
    rw [e1, e2]
    by_cases c1 : s < k
    · rw [if_pos (by omega), if_pos c1, List.map_cons, ins_N hw hk r (fun t ht => h t (by simp [ht]))]
    · rw [if_neg (by omega), if_neg c1]
      by_cases c2 : s = k
      · rw [if_pos (by omega), if_pos c2, List.map_cons]
      · rw [if_neg (by omega), if_neg c2, List.map_cons, List.map_cons]
theorem insN_mem {k : Nat} : ∀ {S : List Nat} {x : Nat}, x ∈ insN k S → x = k ∨ x ∈ S
  | [], x, h => .inl (by simpa [insN] using h)
  | s :: r, x, h => by
    unfold insN at h
    split at h
    · rcases List.mem_cons.1 h with e | e
      · exact .inr (by simp [e])
      · rcases insN_mem e with e | e
        · exact .inl e
        · exact .inr (by simp [e])
    · split at h
      · exact .inr h
      · rcases List.mem_cons.1 h with e | e
        · exact .inl e
        · exact .inr e
theorem insN_pw {k : Nat} : ∀ {S : List Nat}, S.Pairwise (· < ·) → (insN k S).Pairwise (· < ·)
  | [], _ => by simp [insN]
  | s :: r, h => by
    obtain ⟨a1, a2⟩ := List.pairwise_cons.1 h
    unfold insN
    split
    · refine List.pairwise_cons.2 ⟨fun x hx => ?_, insN_pw a2⟩
      rcases insN_mem hx with e | e
      · rw [e]; assumption
      · exact a1 x e
    · split
      · exact h
      · refine List.pairwise_cons.2 ⟨fun x hx => ?_, h⟩
        rcases List.mem_cons.1 hx with e | e
        · show k < x; omega
        · have := a1 x e; show k < x; omega
theorem acked_self {d : Dr} (h : d.win.l = []) (n : Int) : Gp.acked d n = d := by
  have hp : Wn.place d.win n = none := by
    unfold Wn.place
    rw [if_neg]
    rintro ⟨_, h1, h2⟩
    rw [h] at h2
    simp at h2
    omega
  unfold Gp.acked Wn.ack
  rw [hp]
  rfl
/-- What one packet does. -/
theorem takes_T {w n k : Nat} {S : List Nat} {d : Dr} (h : TB w S d) (hs : srt w n S) (hw : w ≤ n) (hn : n ≤ 8) (hk : k < n) :
    ∃ w' S', TB w' S' (takes d (fr k)).1 ∧ srt w' n S' ∧ w ≤ w' ∧ w' ≤ n ∧ (w = k → k < w') ∧ wholeN w ++ dat (takes d (fr k)).2.2 = wholeN w' ∧ (takes d (fr k)).2.2.length ≤ S.length + 1 := by
  have ht : takes d (fr k) = orders { d with wait := Gp.or2 d.wait } (fr k) := by
    unfold takes
    rw [if_neg (show ¬ (fr k).ca = d.caller by rw [h.ca]; show ¬ true = false; decide)]
    dsimp only
    rw [if_neg (show ¬ (fr k).kd = 1 by show ¬ (0 : Int) = 1; decide), if_neg (show ¬ (fr k).kd = 5 by show ¬ (0 : Int) = 5; decide)]
    unfold takes2
    dsimp only
    rw [if_neg (show ¬ d.phase = 3 by rw [h.ph]; decide), if_neg (show ¬ d.phase ≠ 2 by rw [h.ph]; decide), acked_self (by exact h.wi)]
    rw [if_neg (show ¬ (fr k).kd = 3 by show ¬ (0 : Int) = 3; decide), if_pos (show (fr k).kd = 0 ∧ (fr k).data ≠ [] from ⟨rfl, by show tx k ≠ []; unfold tx; simp⟩)]
  rw [ht]
  have h1 : TB w S { d with wait := Gp.or2 d.wait } := ⟨h.ca, h.ph, h.bf, h.qu, h.wi, h.wa, h.ah⟩
  generalize ({ d with wait := Gp.or2 d.wait } : Dr) = e at h1
  clear ht h
  have he : early e.wants (fr k).nm = if w ≤ k then (k : Int) - w else (k : Int) - w + 32 := by rw [h1.wa]; exact early_at (by omega) (by omega)
  unfold orders
  dsimp only
  rw [he]
  by_cases c : w = k
  · subst c
    rw [if_pos (by rw [if_pos (Nat.le_refl _)]; omega)]
    have hl : e.ahead.length = S.length := by rw [h1.ah, List.length_map]
    have hd := drain_N S.length S (w + 1) { e with wants := (e.wants + 1) % 32 } [⟨(fr w).ch, ⟨(fr w).data.toArray⟩⟩] (Nat.le_refl _) (fun s hh => by have := (hs.2 s hh).2; omega) (by show (e.wants + 1) % 32 = _; rw [h1.wa]; omega) h1.ah
    rw [hl, hd]
    obtain ⟨k1, k2, k3⟩ := drN_srt (n := n) S (w + 1) hs.1 (fun s hh => ⟨by have := (hs.2 s hh).1; omega, (hs.2 s hh).2⟩) (by omega)
    refine ⟨(drN (w + 1) S).1, (drN (w + 1) S).2, ⟨h1.ca, h1.ph, h1.bf, h1.qu, h1.wi, rfl, rfl⟩, k1, by omega, k3, fun _ => by omega, ?_, ?_⟩
    · show wholeN w ++ dat ([pcT w] ++ drP (w + 1) S) = _
      rw [dat_app, dat_pcT, ← List.append_assoc, ← whole_succ, drP_dat]
    · show ([pcT w] ++ drP (w + 1) S).length ≤ _
      have := drP_len S (w + 1)
      rw [List.length_append, List.length_singleton]
      omega
  · rw [if_neg (by split <;> omega)]
    by_cases c2 : w < k
    · rw [if_pos (by rw [if_pos (by omega)]; omega)]
      have hi : ins e.wants (toFi (fr k)) e.ahead = (insN k S).map fun k => toFi (fr k) := by
        rw [h1.wa, h1.ah]
        exact ins_N c2 (by omega) S fun s hh => ⟨(hs.2 s hh).1, by have := (hs.2 s hh).2; omega⟩
      have k2 : srt w n (insN k S) := ⟨insN_pw hs.1, fun s hh => by
        rcases insN_mem hh with e1 | e1
        · rw [e1]; exact ⟨c2, hk⟩
        · exact hs.2 s e1⟩
      split
      · exact ⟨w, insN k S, ⟨h1.ca, h1.ph, h1.bf, h1.qu, h1.wi, h1.wa, hi⟩, k2, Nat.le_refl _, hw, fun e => absurd e c, by simp [dat], Nat.zero_le _⟩
      · exact ⟨w, insN k S, ⟨h1.ca, h1.ph, h1.bf, h1.qu, h1.wi, h1.wa, hi⟩, k2, Nat.le_refl _, hw, fun e => absurd e c, by simp [dat], Nat.zero_le _⟩
    · rw [if_neg (by rw [if_neg (by omega)]; omega)]
      exact ⟨w, S, h1, hs, Nat.le_refl _, hw, fun e => absurd e c, by simp [dat], Nat.zero_le _⟩
/-- What stands behind some packets. -/
structure TI (n i w : Nat) (d : Dr) : Prop where
  tb : ∃ S, TB w S d ∧ srt w n S
  le : w ≤ n
  ok : Ok (13 + 12 * i) 0 d
  sm : small d
theorem text_len2 (k : Nat) : (If.text (fr k)).length = 12 := by
  rw [If.text_len]
  show 6 + If.bsz 2 = 12
  decide
theorem TI.step {n i w k : Nat} {d : Dr} (h : TI n i w d) (hn : n ≤ 8) (hk : k < n) (hi : i ≤ 1000) : ∃ w', TI n (i + 1) w' (feed d (If.text (fr k))).1 ∧ w ≤ w' ∧ (w = k → k < w') ∧ wholeN w ++ dat (join (feed d (If.text (fr k))).2.2) = wholeN w' ∧ (join (feed d (If.text (fr k))).2.2).length ≤ 100 := by
  obtain ⟨S, hb, hs⟩ := h.tb
  obtain ⟨a, t, hf⟩ := feed_texts hb.bf [fr k] (fun f hh => by obtain rfl := List.mem_singleton.1 hh; exact fr_ok (by omega))
  obtain ⟨w', S', k1, k2, k3, k4, k5, k6, k7⟩ := takes_T hb hs h.le hn hk
  have ht : texts [fr k] = If.text (fr k) := by simp [texts]
  rw [ht] at hf
  have hl : takesL d [fr k] [] [] = ((takes d (fr k)).1, [] ++ (takes d (fr k)).2.1, [] ++ (takes d (fr k)).2.2) := rfl
  rw [hl] at hf
  dsimp only at hf
  rw [fill_empty (by exact k1.qu)] at hf
  have ho := (h.ok.feed (If.text (fr k)) (by rw [text_len2]; omega)).1
  have hm := (feed_small h.sm (If.text (fr k))).1
  rw [hf] at ho hm ⊢
  refine ⟨w', ⟨⟨S', ⟨k1.ca, k1.ph, rfl, k1.qu, k1.wi, k1.wa, k1.ah⟩, k2⟩, k4, ho.mono (by rw [text_len2]; omega) (Nat.le_refl _), hm⟩, k3, k5, ?_, ?_⟩
  · rw [dat_join]
    exact k6
  · refine Nat.le_trans (join_len _) ?_
    have ha := ok_len (by decide) h.ok.rt.1.ah
    rw [hb.ah, List.length_map] at ha
    show ([] ++ (takes d (fr k)).2.2).length ≤ 100
    rw [List.nil_append]
    omega
theorem ti_start (n : Nat) : TI n 0 0 bT0 := ⟨⟨[], tb_start, List.Pairwise.nil, fun s hs => by cases hs⟩, Nat.zero_le _, bT_ok, (feed_small (begin_small false 3 16) _).1⟩
/-- At the end. -/
theorem TI.done {n i : Nat} {d : Dr} (h : TI n i n d) : d.ahead.length = 0 ∧ d.wants = (n : Int) + 1 := by
  obtain ⟨S, hb, hs⟩ := h.tb
  have : S = [] := by
    cases S with
    | nil => rfl
    | cons s r => have := hs.2 s (by simp); omega
  rw [this] at hb
  exact ⟨by rw [hb.ah]; rfl, hb.wa⟩
theorem whole_front (w : Nat) : ∀ n, w ≤ n → ∃ r, wholeN n = wholeN w ++ r
  | 0, h => ⟨[], by rw [show w = 0 by omega]; simp⟩
  | n + 1, h => by
    by_cases c : w = n + 1
    · exact ⟨[], by rw [c]; simp⟩
    · obtain ⟨r, hr⟩ := whole_front w n (by omega)
      exact ⟨r ++ tx n, by rw [whole_succ, hr, List.append_assoc]⟩
theorem whole_len (n : Nat) : (wholeN n).length = 2 * n := by
  induction n with
  | zero => rfl
  | succ n ih => rw [whole_succ, List.length_append, ih]; show 2 * n + 2 = _; omega
end Ip
end Go.Proofs.Ytlclfkogbfigbaa
