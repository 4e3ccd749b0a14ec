/-
  Layer 5, Order: symMerge at a row and one job.
-/
import Derived.Test.YtgcbaflaidehnaaDoorSrt5
namespace Go.Proofs.YtgcbaflaidehnaaDoor
open Go.RowKit

namespace Job
/-- the search in the row: what lies before u may stand ahead of y, from v on it is truly greater -/
structure Seb (A : List Jb) (y : Jb) (u v : Nat) : Prop where
  le : u ≤ v
  ub : v ≤ A.length
  lo : ∀ k, k < u → Le A[k]! y
  hi : ∀ k, v ≤ k → k < A.length → lt y A[k]! = true
theorem Seb.start (A : List Jb) (y : Jb) : Seb A y 0 A.length := ⟨Nat.zero_le _, Nat.le_refl _, fun k h => by omega, fun k h h' => by omega⟩
theorem Seb.up {A : List Jb} {y : Jb} {u v h : Nat} (hs : Seb A y u v) (hA : Srt A) (h2 : h < v) (hl : lt y A[h]! = false) : Seb A y (h + 1) v :=
  ⟨h2, hs.ub, fun k hk => (srt_le hA (by omega) (by have := hs.ub; omega)).trans ((le_iff A[h]! y).1 hl), hs.hi⟩
theorem Seb.down {A : List Jb} {y : Jb} {u v h : Nat} (hs : Seb A y u v) (hA : Srt A) (h1 : u ≤ h) (h2 : h < v) (hl : lt y A[h]! = true) : Seb A y u h :=
  ⟨h1, by have := hs.ub; omega, hs.lo, fun k hk hk' => lt_le_lt hl (srt_le hA hk hk')⟩
theorem Seb.done {A : List Jb} {y : Jb} {u : Nat} (hs : Seb A y u u) (hA : Srt A) : St (A ++ [y]) (A.take u ++ ([y] ++ A.drop u)) := by
  have h0 : St A (A.take u ++ A.drop u) := by rw [List.take_append_drop]; exact St.refl hA
  have := h0.ins (x := y) (fun a ha => by
    obtain ⟨k, h1, _, rfl⟩ := mem_take_bang ha
    exact hs.lo k h1) (fun a ha => by
    obtain ⟨k, h1, h2, rfl⟩ := mem_drop_bang ha
    exact hs.hi k h1 h2)
  simpa using this
theorem walk_back (P A Q : List Jb) (y : Jb) (t k k' : Nat) (ht : t < A.length) (hk : k = P.length + t + 1) (hk' : k = k' + 1) : swp (P ++ (A.take (t + 1) ++ ([y] ++ A.drop (t + 1))) ++ Q) k k' = P ++ (A.take t ++ ([y] ++ A.drop t)) ++ Q := by
  have e1 : P ++ (A.take t ++ ([y] ++ A.drop t)) ++ Q = (P ++ A.take t) ++ y :: A[t] :: (A.drop (t + 1) ++ Q) := by
    conv => lhs; rw [List.drop_eq_getElem_cons ht]
    simp only [List.append_assoc, List.cons_append, List.nil_append]
  have e2 : P ++ (A.take (t + 1) ++ ([y] ++ A.drop (t + 1))) ++ Q = (P ++ A.take t) ++ A[t] :: y :: (A.drop (t + 1) ++ Q) := by
    conv => lhs; rw [List.take_succ_eq_append_getElem ht]
    simp only [List.append_assoc, List.cons_append, List.nil_append]
  have hl : (P ++ A.take t).length = k' := by simp; omega
  rw [e1, e2]
  exact swp_adj _ _ _ _ k k' hl.symm hk'
end Job

set_option maxHeartbeats 4000000 in
set_option maxRecDepth 100000 in
theorem symLast_any (g : Nat) (rest : List Value) (w0 : World) (hB : w0.heap.size ≤ g) (P A Q : List Job.Jb) (y : Job.Jb) (cap : Nat) (hn : (P ++ A ++ [y] ++ Q).length ≤ 1000) (hAs : Job.Srt A) (hA2 : 2 ≤ A.length) (w : World) (hw : SW g rest w0 (P ++ A ++ [y] ++ Q) w) :
    Calls Tryd.prog 36 #[.slice (some ⟨g, 0, none⟩) (P ++ A ++ [y] ++ Q).length cap, .int .i64 P.length, .int .i64 (P.length + A.length : Nat), .int .i64 (P.length + A.length + 1 : Nat), .func (.func 13) #[] #[]] w fun e w' => SegPost g rest w0 P (A ++ [y]) Q e w' := by
  obtain ⟨a, ha⟩ : ∃ a, a = P.length := ⟨_, rfl⟩
  obtain ⟨m, hm⟩ : ∃ m, m = P.length + A.length := ⟨_, rfl⟩
  obtain ⟨b, hb⟩ : ∃ b, b = P.length + A.length + 1 := ⟨_, rfl⟩
  obtain ⟨N, hN⟩ : ∃ N, N = (P ++ A ++ [y] ++ Q).length := ⟨_, rfl⟩
  have hN1 : N = P.length + A.length + 1 + Q.length := by rw [hN]; simp; omega
  have hN0 : N ≤ 1000 := by rw [hN]; exact hn
  have hbN : b ≤ N := by omega
  have hmx : Hid ((P ++ A ++ [y] ++ Q)[m]! = y) := by
    show _ = _
    rw [hm, Job.at_bang (by simp), List.getElem_append_left (by simp), List.getElem_append_right (by simp)]
    simp
  have hbx : Hid (∀ h, a ≤ h → h < m → (P ++ A ++ [y] ++ Q)[h]! = A[h - a]!) := fun h h1 h2 => by
    obtain ⟨u, rfl⟩ : ∃ u, h = a + u := ⟨h - a, by omega⟩
    have hu : u < A.length := by omega
    rw [Nat.add_sub_cancel_left, Job.at_bang hu, Job.at_bang (by simp; omega)]
    rw [List.getElem_append_left (by simp; omega), List.getElem_append_left (by simp; omega), List.getElem_append_right (by omega)]
    congr 1; omega
  have HW : Hid (SW g rest w0 (P ++ A ++ [y] ++ Q) w) := hw
  have hma : Hid (m = a + A.length ∧ b = m + 1) := ⟨by omega, by omega⟩
  have hmb : m < b := by omega
  have ham : a < m := by omega
  have hwalk : Hid (∀ t k k', t < A.length → k = a + t + 1 → k = k' + 1 → Job.swp (P ++ (A.take (t + 1) ++ ([y] ++ A.drop (t + 1))) ++ Q) k k' = P ++ (A.take t ++ ([y] ++ A.drop t)) ++ Q) := fun t k k' h1 h2 h3 => Job.walk_back P A Q y t k k' h1 (by rw [h2, ha]) h3
  have hwl : Hid (∀ t, t ≤ A.length → (P ++ (A.take t ++ ([y] ++ A.drop t)) ++ Q).length = N) := fun t ht => by rw [hN1]; simp; omega
  have hS0 : Hid (P ++ (A.take A.length ++ ([y] ++ A.drop A.length)) ++ Q = P ++ A ++ [y] ++ Q) := by show _ = _; simp
  have hfin : Hid (∀ u w', Job.Seb A y u u → SW g rest w0 (P ++ (A.take u ++ ([y] ++ A.drop u)) ++ Q) w' → SegPost g rest w0 P (A ++ [y]) Q (.returned (.tuple #[])) w') := fun u w' h1 h2 => ⟨rfl, _, h1.done hAs, h2⟩
  rw [← hb, ← hm, ← hN, ← ha]
  have hdl : Hid ((P ++ A ++ [y] ++ Q).length = N) := hN.symm
  generalize P ++ A ++ [y] ++ Q = d at *
  have c1 : (b : Int) - (m : Int) = 1 := by omega
  have c2 : ((m : Int) - (a : Int) == 1) = false := by simp; omega
  have c3 : ¬ ((m : Int) - (a : Int) = 1) := by omega
  have hAs' := hide hAs
  have hst : Hid (Job.Seb A y (a - a) (m - a)) := by
    show Job.Seb A y _ _
    rw [Nat.sub_self, show m - a = A.length by omega]; exact Job.Seb.start A y
  clear hw hn hN hN1 ha hm hb hAs
  go_enter Tryd.func36, Tryd.ntmps36
  go_wp2
  go_loopw [14, 15] (fun vi vj wr => ∃ (i j : Nat), a ≤ i ∧ i ≤ j ∧ j ≤ m ∧ Hid (Job.Seb A y (i - a) (j - a)) ∧ vi = .int .i64 i ∧ vj = .int .i64 j ∧ Hid (SW g rest w0 d wr)) (fun vi vj _ => (intOf vj).toNat - (intOf vi).toNat)
  case atStart => exact ⟨a, m, Nat.le_refl _, by omega, Nat.le_refl _, hst, rfl, rfl, HW⟩
  case round =>
    obtain ⟨i, j, hmi, hij, hjb, hs, rfl, rfl, hS⟩ := hrel
    by_cases hlt : i < j
    · obtain ⟨h, hh⟩ : ∃ h : Nat, h = (i + j) / 2 := ⟨_, rfl⟩
      have e1 : ((i : Int) + (j : Int)) / 2 = (h : Int) := by omega
      have hm1 : i ≤ h := by omega
      have hm2 : h < j := by omega
      have Hh := hbx.out h (by omega) (by omega)
      have Hm := hmx.out
      have hup : Hid (Job.lt y A[h - a]! = false → Job.Seb A y (h + 1 - a) (j - a)) := fun hl => by
        have := hs.out.up hAs'.out (h := h - a) (by omega) hl
        rw [show h - a + 1 = h + 1 - a by omega] at this; exact this
      have hdn : Hid (Job.lt y A[h - a]! = true → Job.Seb A y (i - a) (h - a)) := fun hl => hs.out.down hAs'.out (by omega) (by omega) hl
      clear hh
      have ml : m < d.length := by rw [hdl.out]; omega
      have hl : h < d.length := by rw [hdl.out]; omega
      have jm := hS.out.job ml
      have jh := hS.out.job hl
      rw [← Job.at_bang ml, Hm] at jm
      rw [← Job.at_bang hl, Hh] at jh
      have mz0 : (0 : Int) ≤ (m : Int) := by omega
      have mz1 : (m : Int) < (N : Int) := by omega
      have mz2 : m < N := by omega
      have hz0 : (0 : Int) ≤ (h : Int) := by omega
      have hz1 : (h : Int) < (N : Int) := by omega
      have hz2 : h < N := by omega
      have HC : Hid (∀ W, SW g rest w0 d W → Calls Tryd.prog 13 #[jv y, jv A[h - a]!] W fun e w' => e = .returned (.int .i64 (Job.cf y A[h - a]!)) ∧ SW g rest w0 d w' ∧ JAt w' g (m * 8) y ∧ JAt w' g (h * 8) A[h - a]!) := fun W hW => by
        have := cmp_any y A[h - a]! g rest w0 d m h ml hl W hW
        rw [Hm, Hh] at this
        exact this
      have hcf := Job.cf_neg y A[h - a]!
      generalize Job.cf y A[h - a]! = cv at *
      generalize Job.lt y A[h - a]! = lv at *
      obtain ⟨X0, hX0⟩ : ∃ X0, X0 = y := ⟨_, rfl⟩
      obtain ⟨Y0, hY0⟩ : ∃ Y0, Y0 = A[h - a]! := ⟨_, rfl⟩
      rw [← hX0] at jm HC
      rw [← hY0] at jh HC
      clear Hm Hh ml hl hX0 hY0
      obtain ⟨xg, xn, xk, xu, xf, xt, xc, xz⟩ := X0
      obtain ⟨yg, yn, yk, yu, yf, yt, yc, yz⟩ := Y0
      obtain ⟨a0, a1, a2, a3, a4, a5, a6, a7⟩ := jm
      obtain ⟨b0, b1, b2, b3, b4, b5, b6, b7⟩ := jh
      dsimp only at a0 a1 a2 a3 a4 a5 a6 a7 b0 b1 b2 b3 b4 b5 b6 b7
      unfold jv JAt at HC
      dsimp only at HC
      cases lv
      · have hc0 : decide (cv < 0) = false := hcf
        go_wp2
        go_region_held3 (fun w' => w'.cell? ⟨g, m * 8, none⟩ = some (.int .i64 xg) ∧ w'.cell? ⟨g, m * 8 + 1, none⟩ = some (.int .i64 xn) ∧ w'.cell? ⟨g, m * 8 + 2, none⟩ = some (.int .i64 xk) ∧ w'.cell? ⟨g, m * 8 + 3, none⟩ = some (.string xu) ∧ w'.cell? ⟨g, m * 8 + 4, none⟩ = some (.string xf) ∧ w'.cell? ⟨g, m * 8 + 5, none⟩ = some (.string xt) ∧ w'.cell? ⟨g, m * 8 + 6, none⟩ = some (.string xc) ∧ w'.cell? ⟨g, m * 8 + 7, none⟩ = some (.int .i64 xz) ∧ w'.cell? ⟨g, h * 8, none⟩ = some (.int .i64 yg) ∧ w'.cell? ⟨g, h * 8 + 1, none⟩ = some (.int .i64 yn) ∧ w'.cell? ⟨g, h * 8 + 2, none⟩ = some (.int .i64 yk) ∧ w'.cell? ⟨g, h * 8 + 3, none⟩ = some (.string yu) ∧ w'.cell? ⟨g, h * 8 + 4, none⟩ = some (.string yf) ∧ w'.cell? ⟨g, h * 8 + 5, none⟩ = some (.string yt) ∧ w'.cell? ⟨g, h * 8 + 6, none⟩ = some (.string yc) ∧ w'.cell? ⟨g, h * 8 + 7, none⟩ = some (.int .i64 yz)) (go_keep) (first
          | (go_at_call 13; refine (HC.out _ ?_).mono ?_; (first | exact hS.out | exact hS.out.drew); rintro e w' ⟨rfl, hS', ⟨c0, c1, c2, c3, c4, c5, c6, c7⟩, ⟨d0, d1, d2, d3, d4, d5, d6, d7⟩⟩))
        replace hS' := hide hS'
        clear a0 a1 a2 a3 a4 a5 a6 a7 b0 b1 b2 b3 b4 b5 b6 b7 c0 c1 c2 c3 c4 c5 c6 c7 d0 d1 d2 d3 d4 d5 d6 d7 HC
        go_wp2
        go_roundw
        case rel => exact ⟨h + 1, j, by omega, by omega, by omega, hup.out (by first | rfl | trivial), by go_num, rfl, hS'⟩
        case measure => simp [intOf]; omega
      · have hc0 : decide (cv < 0) = true := hcf
        go_wp2
        go_region_held3 (fun w' => w'.cell? ⟨g, m * 8, none⟩ = some (.int .i64 xg) ∧ w'.cell? ⟨g, m * 8 + 1, none⟩ = some (.int .i64 xn) ∧ w'.cell? ⟨g, m * 8 + 2, none⟩ = some (.int .i64 xk) ∧ w'.cell? ⟨g, m * 8 + 3, none⟩ = some (.string xu) ∧ w'.cell? ⟨g, m * 8 + 4, none⟩ = some (.string xf) ∧ w'.cell? ⟨g, m * 8 + 5, none⟩ = some (.string xt) ∧ w'.cell? ⟨g, m * 8 + 6, none⟩ = some (.string xc) ∧ w'.cell? ⟨g, m * 8 + 7, none⟩ = some (.int .i64 xz) ∧ w'.cell? ⟨g, h * 8, none⟩ = some (.int .i64 yg) ∧ w'.cell? ⟨g, h * 8 + 1, none⟩ = some (.int .i64 yn) ∧ w'.cell? ⟨g, h * 8 + 2, none⟩ = some (.int .i64 yk) ∧ w'.cell? ⟨g, h * 8 + 3, none⟩ = some (.string yu) ∧ w'.cell? ⟨g, h * 8 + 4, none⟩ = some (.string yf) ∧ w'.cell? ⟨g, h * 8 + 5, none⟩ = some (.string yt) ∧ w'.cell? ⟨g, h * 8 + 6, none⟩ = some (.string yc) ∧ w'.cell? ⟨g, h * 8 + 7, none⟩ = some (.int .i64 yz)) (go_keep) (first
          | (go_at_call 13; refine (HC.out _ ?_).mono ?_; (first | exact hS.out | exact hS.out.drew); rintro e w' ⟨rfl, hS', ⟨c0, c1, c2, c3, c4, c5, c6, c7⟩, ⟨d0, d1, d2, d3, d4, d5, d6, d7⟩⟩))
        replace hS' := hide hS'
        clear a0 a1 a2 a3 a4 a5 a6 a7 b0 b1 b2 b3 b4 b5 b6 b7 c0 c1 c2 c3 c4 c5 c6 c7 d0 d1 d2 d3 d4 d5 d6 d7 HC
        go_wp2
        go_roundw
        case rel => exact ⟨i, h, hmi, by omega, by omega, hdn.out (by first | rfl | trivial), rfl, rfl, hS'⟩
        case measure => simp [intOf]; omega
    · obtain rfl : i = j := by omega
      go_wp2
      go_loopw [17] (fun vk wr => ∃ (k t : Nat), k = a + t ∧ i - a ≤ t ∧ t ≤ A.length ∧ vk = .int .i64 k ∧ Hid (SW g rest w0 (P ++ (A.take t ++ ([y] ++ A.drop t)) ++ Q) wr)) (fun vk _ => (intOf vk).toNat)
      case atStart => exact ⟨m, A.length, hma.out.1, by have := hma.out.1; omega, Nat.le_refl _, rfl, by have := hS; rw [← hS0.out] at this; exact this⟩
      case round =>
        obtain ⟨k, t, hk, hti, htA, rfl, hS2⟩ := hrel
        have hdl2 := hwl.out t htA
        by_cases hlt2 : i - a < t
        · obtain ⟨k2, hk2⟩ : ∃ k2 : Nat, k = k2 + 1 := ⟨k - 1, by omega⟩
          obtain ⟨t2, ht2⟩ : ∃ t2 : Nat, t = t2 + 1 := ⟨t - 1, by omega⟩
          have hkm : k ≤ m := by have := hma.out.1; omega
          have hik : i < k := by omega
          have hkk : k2 < k := by omega
          have hk1 : k ≤ 1000 := by omega
          have e2 : IntKind.i64.wrap ((k : Int) - 1) = (k2 : Int) := by rw [IntKind.wrap_i64]; omega
          have dk : decide ((i : Int) < (k : Int)) = true := by simp; omega
          have hw2 := hwalk.out t2 k k2 (by omega) (by omega) hk2
          rw [← ht2] at hw2
          have hkt : Hid (k = a + t ∧ k = k2 + 1 ∧ t = t2 + 1 ∧ i - a < t ∧ t ≤ A.length) := ⟨hk, hk2, ht2, hlt2, htA⟩
          replace hw2 := hide hw2
          obtain ⟨dt, hdt⟩ : ∃ dt, dt = P ++ (A.take t ++ ([y] ++ A.drop t)) ++ Q := ⟨_, rfl⟩
          rw [← hdt] at hS2 hdl2 hw2
          clear hdt hk hk2 hlt2 ht2 htA hti
          have kl : k < dt.length := by rw [hdl2]; omega
          have k2l : k2 < dt.length := by rw [hdl2]; omega
          have jk := hS2.out.job kl
          have jk2 := hS2.out.job k2l
          rw [← Job.at_bang kl] at jk
          rw [← Job.at_bang k2l] at jk2
          have kz0 : (0 : Int) ≤ (k : Int) := by omega
          have kz1 : (k : Int) < (N : Int) := by omega
          have kz2 : k < N := by omega
          have k2z0 : (0 : Int) ≤ (k2 : Int) := by omega
          have k2z1 : (k2 : Int) < (N : Int) := by omega
          have k2z2 : k2 < N := by omega
          have r1 : ∀ o, o < 8 → ¬ (k * 8 = k2 * 8 + o) := fun o ho => by omega
          have r2 : ∀ o, o < 8 → ¬ (k2 * 8 = k * 8 + o) := fun o ho => by omega
          have r3 : ∀ o, o < 8 → ¬ (k * 8 + o = k2 * 8) := fun o ho => by omega
          have r4 : ∀ o, o < 8 → ¬ (k2 * 8 + o = k * 8) := fun o ho => by omega
          have r5 : ¬ (k * 8 = k2 * 8) := by omega
          have r6 : ¬ (k2 * 8 = k * 8) := by omega
          have r7 : ¬ (k = k2) := by omega
          have r8 : ¬ (k2 = k) := by omega
          have fz := hS2.out.thaw
          have zg := hS2.out.lt
          obtain ⟨X0, hX0⟩ : ∃ X0, dt[k]! = X0 := ⟨_, rfl⟩
          obtain ⟨Y0, hY0⟩ : ∃ Y0, dt[k2]! = Y0 := ⟨_, rfl⟩
          have hE := hS2.out.swap hB kl k2l hX0 hY0
          rw [hX0] at jk
          rw [hY0] at jk2
          clear hX0 hY0 kl k2l
          obtain ⟨xg, xn, xk, xu, xf, xt, xc, xz⟩ := X0
          obtain ⟨yg, yn, yk, yu, yf, yt, yc, yz⟩ := Y0
          obtain ⟨a0, a1, a2, a3, a4, a5, a6, a7⟩ := jk
          obtain ⟨b0, b1, b2, b3, b4, b5, b6, b7⟩ := jk2
          dsimp only at a0 a1 a2 a3 a4 a5 a6 a7 b0 b1 b2 b3 b4 b5 b6 b7 hE
          replace hE := hide hE
          go_wp2
          go_big_region
          generalize World.drew _ = WE at *
          clear a0 a1 a2 a3 a4 a5 a6 a7 b0 b1 b2 b3 b4 b5 b6 b7 r1 r2 r3 r4 fz zg
          go_wp2
          go_roundw
          case rel => exact ⟨k2, t2, by have := hkt.out; omega, by have := hkt.out; omega, by have := hkt.out; omega, by have := hkt.out; go_num, by have := hE.out; rw [hw2.out] at this; exact this⟩
          case measure => have := hkt.out; simp [intOf]; omega
        · have dk : decide ((i : Int) < (k : Int)) = false := by simp; omega
          obtain rfl : t = i - a := by omega
          go_wp2
          go_end0
          exact hfin.out _ _ hs.out hS2.out
end Go.Proofs.YtgcbaflaidehnaaDoor
