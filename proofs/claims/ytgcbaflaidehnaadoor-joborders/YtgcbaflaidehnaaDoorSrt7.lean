/-
  Layer 5, Order: symMerge.
-/
import Derived.Test.YtgcbaflaidehnaaDoorSrt6
namespace Go.Proofs.YtgcbaflaidehnaaDoor
open Go.RowKit

namespace Job
/-- the search for the place where the rows part -/
structure Par (d : List Jb) (lo hi pp s r : Nat) : Prop where
  lo : s = lo ∨ lt d[pp - (s - 1)]! d[s - 1]! = false
  hi : r = hi ∨ lt d[pp - r]! d[r]! = true
theorem Par.start (d : List Jb) (lo hi pp : Nat) : Par d lo hi pp lo hi := ⟨.inl rfl, .inl rfl⟩
theorem Par.up {d : List Jb} {lo hi pp s r c : Nat} (h : Par d lo hi pp s r) (hl : lt d[pp - c]! d[c]! = false) : Par d lo hi pp (c + 1) r := ⟨.inr (by simpa using hl), h.hi⟩
theorem Par.down {d : List Jb} {lo hi pp s r c : Nat} (h : Par d lo hi pp s r) (hl : lt d[pp - c]! d[c]! = true) : Par d lo hi pp s c := ⟨h.lo, .inr hl⟩
theorem mem_take_le {A : List Jb} (hA : Srt A) {u : Nat} {x : Jb} (h : x ∈ A.take u) (hu : u ≤ A.length) : 1 ≤ u ∧ Le x A[u - 1]! := by
  obtain ⟨k, h1, h2, rfl⟩ := mem_take_bang h
  exact ⟨by omega, srt_le hA (by omega) (by omega)⟩
theorem mem_drop_le {A : List Jb} (hA : Srt A) {u : Nat} {x : Jb} (h : x ∈ A.drop u) : u < A.length ∧ Le A[u]! x := by
  obtain ⟨k, h1, h2, rfl⟩ := mem_drop_bang h
  exact ⟨by omega, srt_le hA h1 h2⟩
/-- what the search has found -/
theorem Par.done {d A B : List Jb} {a m b mid nn pp lo hi s e : Nat} (hA : Srt A) (hB : Srt B) (ham : m = a + A.length) (hmb : b = m + B.length) (hA2 : 2 ≤ A.length) (hB2 : 2 ≤ B.length)
    (hmid : mid = (a + b) / 2) (hnn : nn = mid + m) (hpp : pp + 1 = nn) (hlh : (mid < m ∧ lo = nn - b ∧ hi = mid) ∨ (m ≤ mid ∧ lo = a ∧ hi = m))
    (hdA : ∀ h, a ≤ h → h < m → d[h]! = A[h - a]!) (hdB : ∀ h, m ≤ h → h < b → d[h]! = B[h - m]!) (h1 : lo ≤ s) (h2 : s ≤ hi) (hp : Par d lo hi pp s s) (he : e = nn - s) :
    (∀ x ∈ A.take (s - a), ∀ y ∈ B.drop (e - m), Le x y) ∧ (∀ x ∈ B.take (e - m), ∀ y ∈ A.drop (s - a), lt x y = true) := by
  constructor
  · intro x hx y hy
    obtain ⟨q1, q2⟩ := mem_take_le hA hx (by omega)
    obtain ⟨q3, q4⟩ := mem_drop_le hB hy
    rcases hp.lo with h | h
    · exfalso; omega
    · have e1 := hdA (s - 1) (by omega) (by omega)
      have e2 := hdB (pp - (s - 1)) (by omega) (by omega)
      rw [e1, e2, show s - 1 - a = s - a - 1 by omega, show pp - (s - 1) - m = e - m by omega] at h
      exact q2.trans (((le_iff _ _).1 h).trans q4)
  · intro x hx y hy
    obtain ⟨q1, q2⟩ := mem_take_le hB hx (by omega)
    obtain ⟨q3, q4⟩ := mem_drop_le hA hy
    rcases hp.hi with h | h
    · exfalso; omega
    · have e1 := hdA s (by omega) (by omega)
      have e2 := hdB (pp - s) (by omega) (by omega)
      rw [e1, e2, show pp - s - m = e - m - 1 by omega] at h
      exact le_lt_lt q2 (lt_le_lt h q4)
end Job

set_option maxHeartbeats 8000000 in
set_option maxRecDepth 100000 in
theorem symGen_any (g : Nat) (rest : List Value) (w0 : World) (hB : w0.heap.size ≤ g) (P A B Q : List Job.Jb) (cap : Nat) (hn : (P ++ A ++ B ++ Q).length ≤ 1000) (hAs : Job.Srt A) (hBs : Job.Srt B) (hA2 : 2 ≤ A.length) (hB2 : 2 ≤ B.length)
    (ih : ∀ (P' A' B' Q' : List Job.Jb) (W : World), A'.length + B'.length < A.length + B.length → 1 ≤ A'.length → 1 ≤ B'.length → Job.Srt A' → Job.Srt B' → (P' ++ A' ++ B' ++ Q').length = (P ++ A ++ B ++ Q).length → SW g rest w0 (P' ++ A' ++ B' ++ Q') W →
      Calls Tryd.prog 36 #[.slice (some ⟨g, 0, none⟩) (P ++ A ++ B ++ Q).length cap, .int .i64 P'.length, .int .i64 (P'.length + A'.length : Nat), .int .i64 (P'.length + A'.length + B'.length : Nat), .func (.func 13) #[] #[]] W fun e w' => SegPost g rest w0 P' (A' ++ B') Q' e w')
    (w : World) (hw : SW g rest w0 (P ++ A ++ B ++ Q) w) :
    Calls Tryd.prog 36 #[.slice (some ⟨g, 0, none⟩) (P ++ A ++ B ++ Q).length cap, .int .i64 P.length, .int .i64 (P.length + A.length : Nat), .int .i64 (P.length + A.length + B.length : Nat), .func (.func 13) #[] #[]] w fun e w' => SegPost g rest w0 P (A ++ B) Q e w' := by
  obtain ⟨a, ha⟩ : ∃ a, a = P.length := ⟨_, rfl⟩
  obtain ⟨m, hm⟩ : ∃ m, m = P.length + A.length := ⟨_, rfl⟩
  obtain ⟨b, hb⟩ : ∃ b, b = P.length + A.length + B.length := ⟨_, rfl⟩
  obtain ⟨N, hN⟩ : ∃ N, N = (P ++ A ++ B ++ Q).length := ⟨_, rfl⟩
  obtain ⟨mid, hmid⟩ : ∃ mid, mid = (a + b) / 2 := ⟨_, rfl⟩
  obtain ⟨nn, hnn⟩ : ∃ nn, nn = mid + m := ⟨_, rfl⟩
  obtain ⟨pp, hpp⟩ : ∃ pp, pp + 1 = nn := ⟨nn - 1, by omega⟩
  obtain ⟨lo, hi, hlh⟩ : ∃ lo hi, (mid < m ∧ lo = nn - b ∧ hi = mid) ∨ (m ≤ mid ∧ lo = a ∧ hi = m) := by
    by_cases h : mid < m
    · exact ⟨_, _, .inl ⟨h, rfl, rfl⟩⟩
    · exact ⟨_, _, .inr ⟨by omega, rfl, rfl⟩⟩
  have hN1 : N = P.length + A.length + B.length + Q.length := by rw [hN]; simp; omega
  have hN0 : N ≤ 1000 := by rw [hN]; exact hn
  have hbN : b ≤ N := by omega
  have hma : m = a + A.length := by omega
  have hmb : b = m + B.length := by omega
  have hAx : ∀ h, a ≤ h → h < m → (P ++ A ++ B ++ Q)[h]! = A[h - a]! := fun h h1 h2 => by
    obtain ⟨u, rfl⟩ : ∃ u, h = a + u := ⟨h - a, by omega⟩
    have hu : u < A.length := by omega
    rw [Nat.add_sub_cancel_left, Job.at_bang hu, Job.at_bang (by simp; omega)]
    rw [List.getElem_append_left (by simp; omega), List.getElem_append_left (by simp; omega), List.getElem_append_right (by omega)]
    congr 1; omega
  have hBx : ∀ h, m ≤ h → h < b → (P ++ A ++ B ++ Q)[h]! = B[h - m]! := fun h h1 h2 => by
    obtain ⟨u, rfl⟩ : ∃ u, h = m + u := ⟨h - m, by omega⟩
    have hu : u < B.length := by omega
    rw [Nat.add_sub_cancel_left, Job.at_bang hu, Job.at_bang (by simp; omega)]
    rw [List.getElem_append_left (by simp; omega), List.getElem_append_right (by simp; omega)]
    congr 1; simp; omega
  have hdone : Hid (∀ s e, lo ≤ s → s ≤ hi → Job.Par (P ++ A ++ B ++ Q) lo hi pp s s → e = nn - s → (∀ x ∈ A.take (s - a), ∀ y ∈ B.drop (e - m), Job.Le x y) ∧ (∀ x ∈ B.take (e - m), ∀ y ∈ A.drop (s - a), Job.lt x y = true)) := fun s e h1 h2 h3 h4 =>
    Job.Par.done hAs hBs hma hmb hA2 hB2 hmid hnn hpp hlh hAx hBx h1 h2 h3 h4
  have hlens : Hid (a = P.length ∧ m = a + A.length ∧ b = m + B.length ∧ N = P.length + A.length + B.length + Q.length ∧ 2 ≤ A.length ∧ 2 ≤ B.length) := ⟨ha, hma, hmb, hN1, hA2, hB2⟩
  have hlh' := hide hlh
  have hmidH : Hid (mid = (a + b) / 2 ∧ nn = mid + m ∧ pp + 1 = nn) := ⟨hmid, hnn, hpp⟩
  have hlo : a ≤ lo ∧ lo ≤ hi ∧ hi ≤ m ∧ hi ≤ mid ∧ nn - lo ≤ b ∧ m ≤ nn - hi ∧ hi ≤ nn ∧ nn ≤ 2000 := by omega
  have HW : Hid (SW g rest w0 (P ++ A ++ B ++ Q) w) := hw
  have hdl : Hid ((P ++ A ++ B ++ Q).length = N) := hN.symm
  rw [← hN] at ih
  replace ih := hide ih
  have HRot : Hid (∀ (s e : Nat) (F : List Job.Jb) (W : World), s < m → m < e → Job.Rot F m (m - s) (e - m) (P ++ A ++ B ++ Q) → SW g rest w0 (P ++ A ++ B ++ Q) W → Calls Tryd.prog 45 #[.slice (some ⟨g, 0, none⟩) N cap, .int .i64 s, .int .i64 m, .int .i64 e, .func (.func 13) #[] #[]] W fun e w' => RowPost g rest w0 F e w') := fun s e F W h1 h2 h3 h4 => by
    have := rotate_any (.func (.func 13) #[] #[]) g rest w0 hB (P ++ A ++ B ++ Q) F cap s m e hn h1 h2 h3 W h4
    rw [← hN] at this
    exact this
  have hAs' := hide hAs
  have hBs' := hide hBs
  rw [← hb, ← hm, ← hN, ← ha]
  have z1 : ((m : Int) - (a : Int) == 1) = false := by simp; omega
  have z2 : ¬ ((m : Int) - (a : Int) = 1) := by omega
  have z3 : ((b : Int) - (m : Int) == 1) = false := by simp; omega
  have z4 : ¬ ((b : Int) - (m : Int) = 1) := by omega
  have e1 : ((a : Int) + (b : Int)) / 2 = (mid : Int) := by omega
  have e2 : (mid : Int) + (m : Int) = (nn : Int) := by omega
  have e4 : (nn : Int) - 1 = (pp : Int) := by omega
  have hab : a < m ∧ m < b := by omega
  have hd0 : Hid (∀ s e : Nat, A.take (s - a) ++ A.drop (s - a) = A ∧ B.take (e - m) ++ B.drop (e - m) = B) := fun s e => ⟨List.take_append_drop _ _, List.take_append_drop _ _⟩
  obtain ⟨d, hd⟩ : ∃ d, d = P ++ A ++ B ++ Q := ⟨_, rfl⟩
  rw [← hd] at HW hdl HRot hdone
  replace hd := hide hd
  clear hw hn hN hN1 ha hm hb hAs hBs hAx hBx hma hmb hmid hnn hpp hlh hA2 hB2
  go_enter Tryd.func36, Tryd.ntmps36
  go_upto_if 140 with fail
  go_cut [20, 21] (fun s20 s21 wx => s20 = .int .i64 lo ∧ s21 = .int .i64 hi ∧ wx = w)
  case first =>
    rcases hlh'.out with ⟨h1, h2, h3⟩ | ⟨h1, h2, h3⟩
    · have dm : decide ((mid : Int) < (m : Int)) = true := by simp; omega
      go_wp2_with fail
      go_meet
      exact ⟨by have := hmidH.out; go_num, by rw [h3], rfl⟩
    · have dm : decide ((mid : Int) < (m : Int)) = false := by simp; omega
      go_wp2_with fail
      go_meet
      exact ⟨by rw [h2], by rw [h3], rfl⟩
  case rest =>
    obtain ⟨rfl, rfl, rfl⟩ := hcut
    go_wp2
    go_loopw [20, 21] (fun vi vj wr => ∃ (s r : Nat), lo ≤ s ∧ s ≤ r ∧ r ≤ hi ∧ Hid (Job.Par d lo hi pp s r) ∧ vi = .int .i64 s ∧ vj = .int .i64 r ∧ Hid (SW g rest w0 d wr)) (fun vi vj _ => (intOf vj).toNat - (intOf vi).toNat)
    case atStart => exact ⟨lo, hi, Nat.le_refl _, by omega, Nat.le_refl _, Job.Par.start _ _ _ _, rfl, rfl, HW⟩
    case round =>
      obtain ⟨s, r, hls, hsr, hrh, hp, rfl, rfl, hS⟩ := hrel
      by_cases hlt : s < r
      · obtain ⟨c, hc⟩ : ∃ c : Nat, c = (s + r) / 2 := ⟨_, rfl⟩
        obtain ⟨pc, hpc⟩ : ∃ pc : Nat, pc = pp - c := ⟨_, rfl⟩
        have e6 : ((s : Int) + (r : Int)) / 2 = (c : Int) := by omega
        have hc1 : s ≤ c := by omega
        have hc2 : c < r := by omega
        have hpc1 : m ≤ pc := by have := hmidH.out; omega
        have hpc2 : pc < b := by have := hmidH.out; omega
        have e7 : IntKind.i64.wrap ((pp : Int) - (c : Int)) = (pc : Int) := by have := hmidH.out; rw [IntKind.wrap_i64]; omega
        have hup : Hid (Job.lt d[pc]! d[c]! = false → Job.Par d lo hi pp (c + 1) r) := fun hl => hp.out.up (by rw [← hpc]; exact hl)
        have hdn : Hid (Job.lt d[pc]! d[c]! = true → Job.Par d lo hi pp s c) := fun hl => hp.out.down (by rw [← hpc]; exact hl)
        have Hpc : d[pc]! = d[pc]! := rfl
        have Hc : d[c]! = d[c]! := rfl
        clear hc hpc
        have pcl : pc < d.length := by rw [hdl.out]; omega
        have cl : c < d.length := by rw [hdl.out]; omega
        have jpc := hS.out.job pcl
        have jc := hS.out.job cl
        rw [← Job.at_bang pcl, Hpc] at jpc
        rw [← Job.at_bang cl, Hc] at jc
        have pcz0 : (0 : Int) ≤ (pc : Int) := by omega
        have pcz1 : (pc : Int) < (N : Int) := by omega
        have pcz2 : pc < N := by omega
        have cz0 : (0 : Int) ≤ (c : Int) := by omega
        have cz1 : (c : Int) < (N : Int) := by omega
        have cz2 : c < N := by omega
        have HC : Hid (∀ W, SW g rest w0 d W → Calls Tryd.prog 13 #[jv d[pc]!, jv d[c]!] W fun e w' => e = .returned (.int .i64 (Job.cf d[pc]! d[c]!)) ∧ SW g rest w0 d w' ∧ JAt w' g (pc * 8) d[pc]! ∧ JAt w' g (c * 8) d[c]!) := fun W hW => by
          have := cmp_any d[pc]! d[c]! g rest w0 d pc c pcl cl W hW
          rw [Hpc, Hc] at this
          exact this
        have hcf := Job.cf_neg d[pc]! d[c]!
        generalize Job.cf d[pc]! d[c]! = cv at *
        generalize Job.lt d[pc]! d[c]! = lv at *
        obtain ⟨X0, hX0⟩ : ∃ X0, X0 = d[pc]! := ⟨_, rfl⟩
        obtain ⟨Y0, hY0⟩ : ∃ Y0, Y0 = d[c]! := ⟨_, rfl⟩
        rw [← hX0] at jpc HC
        rw [← hY0] at jc HC
        clear Hpc Hc pcl cl hX0 hY0
        obtain ⟨xg, xn, xk, xu, xf, xt, xc, xz⟩ := X0
        obtain ⟨yg, yn, yk, yu, yf, yt, yc, yz⟩ := Y0
        obtain ⟨a0, a1, a2, a3, a4, a5, a6, a7⟩ := jpc
        obtain ⟨b0, b1, b2, b3, b4, b5, b6, b7⟩ := jc
        dsimp only at a0 a1 a2 a3 a4 a5 a6 a7 b0 b1 b2 b3 b4 b5 b6 b7
        unfold jv JAt at HC
        dsimp only at HC
        cases lv
        · have hc0 : decide (cv < 0) = false := hcf
          go_wp2
          go_region_held3 (fun w' => w'.cell? ⟨g, pc * 8, none⟩ = some (.int .i64 xg) ∧ w'.cell? ⟨g, pc * 8 + 1, none⟩ = some (.int .i64 xn) ∧ w'.cell? ⟨g, pc * 8 + 2, none⟩ = some (.int .i64 xk) ∧ w'.cell? ⟨g, pc * 8 + 3, none⟩ = some (.string xu) ∧ w'.cell? ⟨g, pc * 8 + 4, none⟩ = some (.string xf) ∧ w'.cell? ⟨g, pc * 8 + 5, none⟩ = some (.string xt) ∧ w'.cell? ⟨g, pc * 8 + 6, none⟩ = some (.string xc) ∧ w'.cell? ⟨g, pc * 8 + 7, none⟩ = some (.int .i64 xz) ∧ w'.cell? ⟨g, c * 8, none⟩ = some (.int .i64 yg) ∧ w'.cell? ⟨g, c * 8 + 1, none⟩ = some (.int .i64 yn) ∧ w'.cell? ⟨g, c * 8 + 2, none⟩ = some (.int .i64 yk) ∧ w'.cell? ⟨g, c * 8 + 3, none⟩ = some (.string yu) ∧ w'.cell? ⟨g, c * 8 + 4, none⟩ = some (.string yf) ∧ w'.cell? ⟨g, c * 8 + 5, none⟩ = some (.string yt) ∧ w'.cell? ⟨g, c * 8 + 6, none⟩ = some (.string yc) ∧ w'.cell? ⟨g, c * 8 + 7, none⟩ = some (.int .i64 yz)) (go_keep) (first
            | (go_at_call 13; refine (HC.out _ ?_).mono ?_; (first | exact hS.out | exact hS.out.drew); rintro e w' ⟨rfl, hS', ⟨c0, c1, c2, c3, c4, c5, c6, c7⟩, ⟨d0, d1, d2, d3, d4, d5, d6, d7⟩⟩))
          replace hS' := hide hS'
          clear a0 a1 a2 a3 a4 a5 a6 a7 b0 b1 b2 b3 b4 b5 b6 b7 c0 c1 c2 c3 c4 c5 c6 c7 d0 d1 d2 d3 d4 d5 d6 d7 HC
          go_wp2
          go_roundw
          case rel => exact ⟨c + 1, r, by omega, by omega, by omega, hup.out (by first | rfl | trivial), by go_num, rfl, hS'⟩
          case measure => simp [intOf]; omega
        · have hc0 : decide (cv < 0) = true := hcf
          go_wp2
          go_region_held3 (fun w' => w'.cell? ⟨g, pc * 8, none⟩ = some (.int .i64 xg) ∧ w'.cell? ⟨g, pc * 8 + 1, none⟩ = some (.int .i64 xn) ∧ w'.cell? ⟨g, pc * 8 + 2, none⟩ = some (.int .i64 xk) ∧ w'.cell? ⟨g, pc * 8 + 3, none⟩ = some (.string xu) ∧ w'.cell? ⟨g, pc * 8 + 4, none⟩ = some (.string xf) ∧ w'.cell? ⟨g, pc * 8 + 5, none⟩ = some (.string xt) ∧ w'.cell? ⟨g, pc * 8 + 6, none⟩ = some (.string xc) ∧ w'.cell? ⟨g, pc * 8 + 7, none⟩ = some (.int .i64 xz) ∧ w'.cell? ⟨g, c * 8, none⟩ = some (.int .i64 yg) ∧ w'.cell? ⟨g, c * 8 + 1, none⟩ = some (.int .i64 yn) ∧ w'.cell? ⟨g, c * 8 + 2, none⟩ = some (.int .i64 yk) ∧ w'.cell? ⟨g, c * 8 + 3, none⟩ = some (.string yu) ∧ w'.cell? ⟨g, c * 8 + 4, none⟩ = some (.string yf) ∧ w'.cell? ⟨g, c * 8 + 5, none⟩ = some (.string yt) ∧ w'.cell? ⟨g, c * 8 + 6, none⟩ = some (.string yc) ∧ w'.cell? ⟨g, c * 8 + 7, none⟩ = some (.int .i64 yz)) (go_keep) (first
            | (go_at_call 13; refine (HC.out _ ?_).mono ?_; (first | exact hS.out | exact hS.out.drew); rintro e w' ⟨rfl, hS', ⟨c0, c1, c2, c3, c4, c5, c6, c7⟩, ⟨d0, d1, d2, d3, d4, d5, d6, d7⟩⟩))
          replace hS' := hide hS'
          clear a0 a1 a2 a3 a4 a5 a6 a7 b0 b1 b2 b3 b4 b5 b6 b7 c0 c1 c2 c3 c4 c5 c6 c7 d0 d1 d2 d3 d4 d5 d6 d7 HC
          go_wp2
          go_roundw
          case rel => exact ⟨s, c, by omega, by omega, by omega, hdn.out (by first | rfl | trivial), rfl, rfl, hS'⟩
          case measure => simp [intOf]; omega
      · obtain rfl : s = r := by omega
        obtain ⟨e, he⟩ : ∃ e : Nat, e = nn - s := ⟨_, rfl⟩
        have e8 : (nn : Int) - (s : Int) = (e : Int) := by omega
        obtain ⟨cc1, cc2⟩ := hdone.out s e hls hrh hp.out he
        have hme : m ≤ e ∧ e ≤ b := by omega
        obtain ⟨t1, t2⟩ := hd0.out s e
        have hl := hlens.out
        have hmh := hmidH.out
        obtain ⟨A1, hA1⟩ : ∃ A1, A1 = A.take (s - a) := ⟨_, rfl⟩
        obtain ⟨A2, hA2⟩ : ∃ A2, A2 = A.drop (s - a) := ⟨_, rfl⟩
        obtain ⟨B1, hB1⟩ : ∃ B1, B1 = B.take (e - m) := ⟨_, rfl⟩
        obtain ⟨B2, hB2⟩ : ∃ B2, B2 = B.drop (e - m) := ⟨_, rfl⟩
        have l1 : A1.length = s - a := by rw [hA1, List.length_take]; omega
        have l2 : A2.length = m - s := by rw [hA2, List.length_drop]; omega
        have l3 : B1.length = e - m := by rw [hB1, List.length_take]; omega
        have l4 : B2.length = b - e := by rw [hB2, List.length_drop]; omega
        rw [← hA1, ← hB2] at cc1
        rw [← hB1, ← hA2] at cc2
        rw [← hA1, ← hA2] at t1
        rw [← hB1, ← hB2] at t2
        have sA : Job.Srt (A1 ++ A2) := by rw [t1]; exact hAs'.out
        have sB : Job.Srt (B1 ++ B2) := by rw [t2]; exact hBs'.out
        have sA1 := (List.pairwise_append.1 sA).1
        have sA2 := (List.pairwise_append.1 sA).2.1
        have sB1 := (List.pairwise_append.1 sB).1
        have sB2 := (List.pairwise_append.1 sB).2.1
        have hdd : d = P ++ A1 ++ A2 ++ (B1 ++ B2) ++ Q := by rw [hd.out, ← t1, ← t2]; simp
        have hfin : Hid (∀ S1 S2 w', Job.St (A1 ++ B1) S1 → Job.St (A2 ++ B2) S2 → SW g rest w0 (P ++ S1 ++ S2 ++ Q) w' → SegPost g rest w0 P (A ++ B) Q (.returned (.tuple #[])) w') := fun S1 S2 w' h1 h2 h3 => by
          have := Job.St.join sA sB h1 h2 cc1 cc2
          rw [t1, t2] at this
          exact ⟨rfl, _, this, by rw [show P ++ (S1 ++ S2) ++ Q = P ++ S1 ++ S2 ++ Q by simp]; exact h3⟩
        have hrot : Hid (Job.Rot (P ++ A1 ++ B1 ++ (A2 ++ B2 ++ Q)) m (m - s) (e - m) d) := ⟨P ++ A1, A2, B1, B2 ++ Q, by rw [hdd]; simp, by simp, l2, l3, by simp; omega⟩
        have hno : Hid (¬ (s < m ∧ m < e) → d = P ++ A1 ++ B1 ++ (A2 ++ B2 ++ Q)) := fun h => by
          rw [hdd]
          rcases Nat.lt_or_ge s m with h' | h'
          · have : B1 = [] := List.eq_nil_of_length_eq_zero (by omega)
            rw [this]; simp
          · have : A2 = [] := List.eq_nil_of_length_eq_zero (by omega)
            rw [this]; simp
        have hin1 : Hid (a < s → s < mid → ∀ W, SW g rest w0 (P ++ A1 ++ B1 ++ (A2 ++ B2 ++ Q)) W → Calls Tryd.prog 36 #[.slice (some ⟨g, 0, none⟩) N cap, .int .i64 a, .int .i64 s, .int .i64 mid, .func (.func 13) #[] #[]] W fun e w' => SegPost g rest w0 P (A1 ++ B1) (A2 ++ B2 ++ Q) e w') := fun h1 h2 W hW => by
          have := ih.out P A1 B1 (A2 ++ B2 ++ Q) W (by omega) (by omega) (by omega) sA1 sB1 (by simp; omega) hW
          rw [show P.length + A1.length + B1.length = mid by omega, show P.length + A1.length = s by omega, show P.length = a by omega] at this
          exact this
        have hin1' : Hid (¬ (a < s ∧ s < mid) → Job.St (A1 ++ B1) (A1 ++ B1)) := fun h => Job.St.refl (by
          rcases Nat.lt_or_ge a s with h' | h'
          · have : B1 = [] := List.eq_nil_of_length_eq_zero (by omega)
            rw [this, List.append_nil]; exact sA1
          · have : A1 = [] := List.eq_nil_of_length_eq_zero (by omega)
            rw [this, List.nil_append]; exact sB1)
        have hin2 : Hid (mid < e → e < b → ∀ S1 W, Job.St (A1 ++ B1) S1 → SW g rest w0 (P ++ S1 ++ (A2 ++ B2 ++ Q)) W → Calls Tryd.prog 36 #[.slice (some ⟨g, 0, none⟩) N cap, .int .i64 mid, .int .i64 e, .int .i64 b, .func (.func 13) #[] #[]] W fun e w' => SegPost g rest w0 (P ++ S1) (A2 ++ B2) Q e w') := fun h1 h2 S1 W hS1 hW => by
          have hl1 := hS1.len
          rw [List.length_append] at hl1
          have := ih.out (P ++ S1) A2 B2 Q W (by omega) (by omega) (by omega) sA2 sB2 (by simp; omega) (by rw [show P ++ S1 ++ A2 ++ B2 ++ Q = P ++ S1 ++ (A2 ++ B2 ++ Q) by simp]; exact hW)
          rw [List.length_append] at this
          rw [show P.length + S1.length + A2.length + B2.length = b by omega, show P.length + S1.length + A2.length = e by omega, show P.length + S1.length = mid by omega] at this
          exact this
        have hin2' : Hid (¬ (mid < e ∧ e < b) → Job.St (A2 ++ B2) (A2 ++ B2)) := fun h => Job.St.refl (by
          rcases Nat.lt_or_ge mid e with h' | h'
          · have : B2 = [] := List.eq_nil_of_length_eq_zero (by omega)
            rw [this, List.append_nil]; exact sA2
          · have : A2 = [] := List.eq_nil_of_length_eq_zero (by omega)
            rw [this, List.nil_append]; exact sB2)
        have hsm : s ≤ mid ∧ s ≤ m ∧ a ≤ s ∧ mid ≤ e := by omega
        clear cc1 cc2 t1 t2 hl hmh hA1 hA2 hB1 hB2 l1 l2 l3 l4 sA sB sA1 sA2 sB1 sB2 hdd he hp
        have hassoc : Hid (P ++ A1 ++ B1 ++ (A2 ++ B2 ++ Q) = P ++ (A1 ++ B1) ++ (A2 ++ B2 ++ Q)) := by show _ = _; simp
        by_cases h1 : s < m
        · have y1 : decide ((s : Int) < (m : Int)) = true := by simp; omega
          by_cases h2 : m < e
          · have y2 : decide ((m : Int) < (e : Int)) = true := by simp; omega
            have HR0 := hide (HRot.out s e _ _ h1 h2 hrot.out hS.out)
            go_upto_region 41 with (go_at_call 45; refine HR0.out.mono ?_; rintro e' w2 ⟨rfl, hSW0⟩; replace hSW0 := hide hSW0)
            by_cases h3 : a < s
            · have y3 : decide ((a : Int) < (s : Int)) = true := by simp; omega
              by_cases h4 : s < mid
              · have y4 : decide ((s : Int) < (mid : Int)) = true := by simp; omega
                have HR1 := hide (hin1.out h3 h4 _ hSW0.out)
                go_upto_region 43 with (go_at_call 36; refine HR1.out.mono ?_; rintro e' w3 ⟨rfl, S1, hS1, hSW1⟩; replace hS1 := hide hS1; replace hSW1 := hide hSW1)
                by_cases h5 : mid < e
                · have y5 : decide ((mid : Int) < (e : Int)) = true := by simp; omega
                  by_cases h6 : e < b
                  · have y6 : decide ((e : Int) < (b : Int)) = true := by simp; omega
                    have HR := hide (hin2.out h5 h6 S1 _ hS1.out hSW1.out)
                    go_wp2_with (go_at_call 36; refine HR.out.mono ?_; rintro e' w4 ⟨rfl, S2, h7, h8⟩; replace h7 := hide h7; replace h8 := hide h8)
                    go_end0
                    exact hfin.out S1 S2 _ hS1.out h7.out h8.out
                  · have y6 : decide ((e : Int) < (b : Int)) = false := by simp; omega
                    have h7 := hide (hin2'.out (fun h => h6 h.2))
                    go_wp2
                    go_end0
                    exact hfin.out S1 _ _ hS1.out h7.out (by rw [show P ++ S1 ++ (A2 ++ B2) ++ Q = P ++ S1 ++ (A2 ++ B2 ++ Q) by simp]; exact hSW1.out)
                · have y5 : decide ((mid : Int) < (e : Int)) = false := by simp; omega
                  have h7 := hide (hin2'.out (fun h => h5 h.1))
                  go_wp2
                  go_end0
                  exact hfin.out S1 _ _ hS1.out h7.out (by rw [show P ++ S1 ++ (A2 ++ B2) ++ Q = P ++ S1 ++ (A2 ++ B2 ++ Q) by simp]; exact hSW1.out)
              · have y4 : decide ((s : Int) < (mid : Int)) = false := by simp; omega
                have hS1 := hide (hin1'.out (fun h => h4 h.2))
                have hSW1 := hSW0
                rw [hassoc.out] at hSW1
                obtain ⟨S1, hS1e⟩ : ∃ S1, S1 = A1 ++ B1 := ⟨_, rfl⟩
                rw [← hS1e] at hSW1
                have hS1 : Hid (Job.St (A1 ++ B1) S1) := by rw [hS1e]; exact hS1
                clear hS1e
                by_cases h5 : mid < e
                · have y5 : decide ((mid : Int) < (e : Int)) = true := by simp; omega
                  by_cases h6 : e < b
                  · have y6 : decide ((e : Int) < (b : Int)) = true := by simp; omega
                    have HR := hide (hin2.out h5 h6 S1 _ hS1.out hSW1.out)
                    go_wp2_with (go_at_call 36; refine HR.out.mono ?_; rintro e' w4 ⟨rfl, S2, h7, h8⟩; replace h7 := hide h7; replace h8 := hide h8)
                    go_end0
                    exact hfin.out S1 S2 _ hS1.out h7.out h8.out
                  · have y6 : decide ((e : Int) < (b : Int)) = false := by simp; omega
                    have h7 := hide (hin2'.out (fun h => h6 h.2))
                    go_wp2
                    go_end0
                    exact hfin.out S1 _ _ hS1.out h7.out (by rw [show P ++ S1 ++ (A2 ++ B2) ++ Q = P ++ S1 ++ (A2 ++ B2 ++ Q) by simp]; exact hSW1.out)
                · have y5 : decide ((mid : Int) < (e : Int)) = false := by simp; omega
                  have h7 := hide (hin2'.out (fun h => h5 h.1))
                  go_wp2
                  go_end0
                  exact hfin.out S1 _ _ hS1.out h7.out (by rw [show P ++ S1 ++ (A2 ++ B2) ++ Q = P ++ S1 ++ (A2 ++ B2 ++ Q) by simp]; exact hSW1.out)
            · have y3 : decide ((a : Int) < (s : Int)) = false := by simp; omega
              have hS1 := hide (hin1'.out (fun h => h3 h.1))
              have hSW1 := hSW0
              rw [hassoc.out] at hSW1
              obtain ⟨S1, hS1e⟩ : ∃ S1, S1 = A1 ++ B1 := ⟨_, rfl⟩
              rw [← hS1e] at hSW1
              have hS1 : Hid (Job.St (A1 ++ B1) S1) := by rw [hS1e]; exact hS1
              clear hS1e
              by_cases h5 : mid < e
              · have y5 : decide ((mid : Int) < (e : Int)) = true := by simp; omega
                by_cases h6 : e < b
                · have y6 : decide ((e : Int) < (b : Int)) = true := by simp; omega
                  have HR := hide (hin2.out h5 h6 S1 _ hS1.out hSW1.out)
                  go_wp2_with (go_at_call 36; refine HR.out.mono ?_; rintro e' w4 ⟨rfl, S2, h7, h8⟩; replace h7 := hide h7; replace h8 := hide h8)
                  go_end0
                  exact hfin.out S1 S2 _ hS1.out h7.out h8.out
                · have y6 : decide ((e : Int) < (b : Int)) = false := by simp; omega
                  have h7 := hide (hin2'.out (fun h => h6 h.2))
                  go_wp2
                  go_end0
                  exact hfin.out S1 _ _ hS1.out h7.out (by rw [show P ++ S1 ++ (A2 ++ B2) ++ Q = P ++ S1 ++ (A2 ++ B2 ++ Q) by simp]; exact hSW1.out)
              · have y5 : decide ((mid : Int) < (e : Int)) = false := by simp; omega
                have h7 := hide (hin2'.out (fun h => h5 h.1))
                go_wp2
                go_end0
                exact hfin.out S1 _ _ hS1.out h7.out (by rw [show P ++ S1 ++ (A2 ++ B2) ++ Q = P ++ S1 ++ (A2 ++ B2 ++ Q) by simp]; exact hSW1.out)
          · have y2 : decide ((m : Int) < (e : Int)) = false := by simp; omega
            have hSW0 := hS.out
            rw [hno.out (fun h => h2 h.2)] at hSW0
            replace hSW0 := hide hSW0
            by_cases h3 : a < s
            · have y3 : decide ((a : Int) < (s : Int)) = true := by simp; omega
              by_cases h4 : s < mid
              · have y4 : decide ((s : Int) < (mid : Int)) = true := by simp; omega
                have HR1 := hide (hin1.out h3 h4 _ hSW0.out)
                go_upto_region 43 with (go_at_call 36; refine HR1.out.mono ?_; rintro e' w3 ⟨rfl, S1, hS1, hSW1⟩; replace hS1 := hide hS1; replace hSW1 := hide hSW1)
                by_cases h5 : mid < e
                · have y5 : decide ((mid : Int) < (e : Int)) = true := by simp; omega
                  by_cases h6 : e < b
                  · have y6 : decide ((e : Int) < (b : Int)) = true := by simp; omega
                    have HR := hide (hin2.out h5 h6 S1 _ hS1.out hSW1.out)
                    go_wp2_with (go_at_call 36; refine HR.out.mono ?_; rintro e' w4 ⟨rfl, S2, h7, h8⟩; replace h7 := hide h7; replace h8 := hide h8)
                    go_end0
                    exact hfin.out S1 S2 _ hS1.out h7.out h8.out
                  · have y6 : decide ((e : Int) < (b : Int)) = false := by simp; omega
                    have h7 := hide (hin2'.out (fun h => h6 h.2))
                    go_wp2
                    go_end0
                    exact hfin.out S1 _ _ hS1.out h7.out (by rw [show P ++ S1 ++ (A2 ++ B2) ++ Q = P ++ S1 ++ (A2 ++ B2 ++ Q) by simp]; exact hSW1.out)
                · have y5 : decide ((mid : Int) < (e : Int)) = false := by simp; omega
                  have h7 := hide (hin2'.out (fun h => h5 h.1))
                  go_wp2
                  go_end0
                  exact hfin.out S1 _ _ hS1.out h7.out (by rw [show P ++ S1 ++ (A2 ++ B2) ++ Q = P ++ S1 ++ (A2 ++ B2 ++ Q) by simp]; exact hSW1.out)
              · have y4 : decide ((s : Int) < (mid : Int)) = false := by simp; omega
                have hS1 := hide (hin1'.out (fun h => h4 h.2))
                have hSW1 := hSW0
                rw [hassoc.out] at hSW1
                obtain ⟨S1, hS1e⟩ : ∃ S1, S1 = A1 ++ B1 := ⟨_, rfl⟩
                rw [← hS1e] at hSW1
                have hS1 : Hid (Job.St (A1 ++ B1) S1) := by rw [hS1e]; exact hS1
                clear hS1e
                by_cases h5 : mid < e
                · have y5 : decide ((mid : Int) < (e : Int)) = true := by simp; omega
                  by_cases h6 : e < b
                  · have y6 : decide ((e : Int) < (b : Int)) = true := by simp; omega
                    have HR := hide (hin2.out h5 h6 S1 _ hS1.out hSW1.out)
                    go_wp2_with (go_at_call 36; refine HR.out.mono ?_; rintro e' w4 ⟨rfl, S2, h7, h8⟩; replace h7 := hide h7; replace h8 := hide h8)
                    go_end0
                    exact hfin.out S1 S2 _ hS1.out h7.out h8.out
                  · have y6 : decide ((e : Int) < (b : Int)) = false := by simp; omega
                    have h7 := hide (hin2'.out (fun h => h6 h.2))
                    go_wp2
                    go_end0
                    exact hfin.out S1 _ _ hS1.out h7.out (by rw [show P ++ S1 ++ (A2 ++ B2) ++ Q = P ++ S1 ++ (A2 ++ B2 ++ Q) by simp]; exact hSW1.out)
                · have y5 : decide ((mid : Int) < (e : Int)) = false := by simp; omega
                  have h7 := hide (hin2'.out (fun h => h5 h.1))
                  go_wp2
                  go_end0
                  exact hfin.out S1 _ _ hS1.out h7.out (by rw [show P ++ S1 ++ (A2 ++ B2) ++ Q = P ++ S1 ++ (A2 ++ B2 ++ Q) by simp]; exact hSW1.out)
            · have y3 : decide ((a : Int) < (s : Int)) = false := by simp; omega
              have hS1 := hide (hin1'.out (fun h => h3 h.1))
              have hSW1 := hSW0
              rw [hassoc.out] at hSW1
              obtain ⟨S1, hS1e⟩ : ∃ S1, S1 = A1 ++ B1 := ⟨_, rfl⟩
              rw [← hS1e] at hSW1
              have hS1 : Hid (Job.St (A1 ++ B1) S1) := by rw [hS1e]; exact hS1
              clear hS1e
              by_cases h5 : mid < e
              · have y5 : decide ((mid : Int) < (e : Int)) = true := by simp; omega
                by_cases h6 : e < b
                · have y6 : decide ((e : Int) < (b : Int)) = true := by simp; omega
                  have HR := hide (hin2.out h5 h6 S1 _ hS1.out hSW1.out)
                  go_wp2_with (go_at_call 36; refine HR.out.mono ?_; rintro e' w4 ⟨rfl, S2, h7, h8⟩; replace h7 := hide h7; replace h8 := hide h8)
                  go_end0
                  exact hfin.out S1 S2 _ hS1.out h7.out h8.out
                · have y6 : decide ((e : Int) < (b : Int)) = false := by simp; omega
                  have h7 := hide (hin2'.out (fun h => h6 h.2))
                  go_wp2
                  go_end0
                  exact hfin.out S1 _ _ hS1.out h7.out (by rw [show P ++ S1 ++ (A2 ++ B2) ++ Q = P ++ S1 ++ (A2 ++ B2 ++ Q) by simp]; exact hSW1.out)
              · have y5 : decide ((mid : Int) < (e : Int)) = false := by simp; omega
                have h7 := hide (hin2'.out (fun h => h5 h.1))
                go_wp2
                go_end0
                exact hfin.out S1 _ _ hS1.out h7.out (by rw [show P ++ S1 ++ (A2 ++ B2) ++ Q = P ++ S1 ++ (A2 ++ B2 ++ Q) by simp]; exact hSW1.out)
        · have y1 : decide ((s : Int) < (m : Int)) = false := by simp; omega
          have hSW0 := hS.out
          rw [hno.out (fun h => h1 h.1)] at hSW0
          replace hSW0 := hide hSW0
          by_cases h3 : a < s
          · have y3 : decide ((a : Int) < (s : Int)) = true := by simp; omega
            by_cases h4 : s < mid
            · have y4 : decide ((s : Int) < (mid : Int)) = true := by simp; omega
              have HR1 := hide (hin1.out h3 h4 _ hSW0.out)
              go_upto_region 43 with (go_at_call 36; refine HR1.out.mono ?_; rintro e' w3 ⟨rfl, S1, hS1, hSW1⟩; replace hS1 := hide hS1; replace hSW1 := hide hSW1)
              by_cases h5 : mid < e
              · have y5 : decide ((mid : Int) < (e : Int)) = true := by simp; omega
                by_cases h6 : e < b
                · have y6 : decide ((e : Int) < (b : Int)) = true := by simp; omega
                  have HR := hide (hin2.out h5 h6 S1 _ hS1.out hSW1.out)
                  go_wp2_with (go_at_call 36; refine HR.out.mono ?_; rintro e' w4 ⟨rfl, S2, h7, h8⟩; replace h7 := hide h7; replace h8 := hide h8)
                  go_end0
                  exact hfin.out S1 S2 _ hS1.out h7.out h8.out
                · have y6 : decide ((e : Int) < (b : Int)) = false := by simp; omega
                  have h7 := hide (hin2'.out (fun h => h6 h.2))
                  go_wp2
                  go_end0
                  exact hfin.out S1 _ _ hS1.out h7.out (by rw [show P ++ S1 ++ (A2 ++ B2) ++ Q = P ++ S1 ++ (A2 ++ B2 ++ Q) by simp]; exact hSW1.out)
              · have y5 : decide ((mid : Int) < (e : Int)) = false := by simp; omega
                have h7 := hide (hin2'.out (fun h => h5 h.1))
                go_wp2
                go_end0
                exact hfin.out S1 _ _ hS1.out h7.out (by rw [show P ++ S1 ++ (A2 ++ B2) ++ Q = P ++ S1 ++ (A2 ++ B2 ++ Q) by simp]; exact hSW1.out)
            · have y4 : decide ((s : Int) < (mid : Int)) = false := by simp; omega
              have hS1 := hide (hin1'.out (fun h => h4 h.2))
              have hSW1 := hSW0
              rw [hassoc.out] at hSW1
              obtain ⟨S1, hS1e⟩ : ∃ S1, S1 = A1 ++ B1 := ⟨_, rfl⟩
              rw [← hS1e] at hSW1
              have hS1 : Hid (Job.St (A1 ++ B1) S1) := by rw [hS1e]; exact hS1
              clear hS1e
              by_cases h5 : mid < e
              · have y5 : decide ((mid : Int) < (e : Int)) = true := by simp; omega
                by_cases h6 : e < b
                · have y6 : decide ((e : Int) < (b : Int)) = true := by simp; omega
                  have HR := hide (hin2.out h5 h6 S1 _ hS1.out hSW1.out)
                  go_wp2_with (go_at_call 36; refine HR.out.mono ?_; rintro e' w4 ⟨rfl, S2, h7, h8⟩; replace h7 := hide h7; replace h8 := hide h8)
                  go_end0
                  exact hfin.out S1 S2 _ hS1.out h7.out h8.out
                · have y6 : decide ((e : Int) < (b : Int)) = false := by simp; omega
                  have h7 := hide (hin2'.out (fun h => h6 h.2))
                  go_wp2
                  go_end0
                  exact hfin.out S1 _ _ hS1.out h7.out (by rw [show P ++ S1 ++ (A2 ++ B2) ++ Q = P ++ S1 ++ (A2 ++ B2 ++ Q) by simp]; exact hSW1.out)
              · have y5 : decide ((mid : Int) < (e : Int)) = false := by simp; omega
                have h7 := hide (hin2'.out (fun h => h5 h.1))
                go_wp2
                go_end0
                exact hfin.out S1 _ _ hS1.out h7.out (by rw [show P ++ S1 ++ (A2 ++ B2) ++ Q = P ++ S1 ++ (A2 ++ B2 ++ Q) by simp]; exact hSW1.out)
          · have y3 : decide ((a : Int) < (s : Int)) = false := by simp; omega
            have hS1 := hide (hin1'.out (fun h => h3 h.1))
            have hSW1 := hSW0
            rw [hassoc.out] at hSW1
            obtain ⟨S1, hS1e⟩ : ∃ S1, S1 = A1 ++ B1 := ⟨_, rfl⟩
            rw [← hS1e] at hSW1
            have hS1 : Hid (Job.St (A1 ++ B1) S1) := by rw [hS1e]; exact hS1
            clear hS1e
            by_cases h5 : mid < e
            · have y5 : decide ((mid : Int) < (e : Int)) = true := by simp; omega
              by_cases h6 : e < b
              · have y6 : decide ((e : Int) < (b : Int)) = true := by simp; omega
                have HR := hide (hin2.out h5 h6 S1 _ hS1.out hSW1.out)
                go_wp2_with (go_at_call 36; refine HR.out.mono ?_; rintro e' w4 ⟨rfl, S2, h7, h8⟩; replace h7 := hide h7; replace h8 := hide h8)
                go_end0
                exact hfin.out S1 S2 _ hS1.out h7.out h8.out
              · have y6 : decide ((e : Int) < (b : Int)) = false := by simp; omega
                have h7 := hide (hin2'.out (fun h => h6 h.2))
                go_wp2
                go_end0
                exact hfin.out S1 _ _ hS1.out h7.out (by rw [show P ++ S1 ++ (A2 ++ B2) ++ Q = P ++ S1 ++ (A2 ++ B2 ++ Q) by simp]; exact hSW1.out)
            · have y5 : decide ((mid : Int) < (e : Int)) = false := by simp; omega
              have h7 := hide (hin2'.out (fun h => h5 h.1))
              go_wp2
              go_end0
              exact hfin.out S1 _ _ hS1.out h7.out (by rw [show P ++ S1 ++ (A2 ++ B2) ++ Q = P ++ S1 ++ (A2 ++ B2 ++ Q) by simp]; exact hSW1.out)
end Go.Proofs.YtgcbaflaidehnaaDoor
