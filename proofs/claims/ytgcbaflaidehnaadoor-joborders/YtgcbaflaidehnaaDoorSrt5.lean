/-
  Layer 5, Order: symMerge at one job and a row.
-/
import Derived.Test.YtgcbaflaidehnaaDoorSrt3
import Derived.Test.YtgcbaflaidehnaaDoorSrt4
namespace Go.Proofs.YtgcbaflaidehnaaDoor
open Go.RowKit

namespace Job
theorem srt_at {B : List Jb} (h : Srt B) {i j : Nat} (hij : i < j) (hj : j < B.length) : Le B[i]! B[j]! := by
  have hi : i < B.length := by omega
  rw [at_bang hi, at_bang hj]
  exact List.pairwise_iff_getElem.1 h i j hi hj hij
theorem le_refl (x : Jb) : Le x x := by unfold Le; omega
theorem srt_le {B : List Jb} (h : Srt B) {i j : Nat} (hij : i ≤ j) (hj : j < B.length) : Le B[i]! B[j]! := by
  rcases Nat.lt_or_ge i j with h' | h'
  · exact srt_at h h' hj
  · obtain rfl : i = j := by omega
    exact le_refl _
/-- the search in the row: what lies before u is truly less, from v on it is not -/
structure Sea (B : List Jb) (x : Jb) (u v : Nat) : Prop where
  le : u ≤ v
  ub : v ≤ B.length
  lo : ∀ k, k < u → lt B[k]! x = true
  hi : ∀ k, v ≤ k → k < B.length → Le x B[k]!
theorem Sea.start (B : List Jb) (x : Jb) : Sea B x 0 B.length := ⟨Nat.zero_le _, Nat.le_refl _, fun k h => by omega, fun k h h' => by omega⟩
theorem Sea.up {B : List Jb} {x : Jb} {u v h : Nat} (hs : Sea B x u v) (hB : Srt B) (h2 : h < v) (hl : lt B[h]! x = true) : Sea B x (h + 1) v :=
  ⟨h2, hs.ub, fun k hk => le_lt_lt (srt_le hB (by omega) (by have := hs.ub; omega)) hl, hs.hi⟩
theorem Sea.down {B : List Jb} {x : Jb} {u v h : Nat} (hs : Sea B x u v) (hB : Srt B) (h1 : u ≤ h) (h2 : h < v) (hl : lt B[h]! x = false) : Sea B x u h :=
  ⟨h1, by have := hs.ub; omega, hs.lo, fun k hk hk' => ((le_iff x B[h]!).1 hl).trans (srt_le hB hk hk')⟩
theorem mem_take_bang {B : List Jb} {u : Nat} {y : Jb} (h : y ∈ B.take u) : ∃ k, k < u ∧ k < B.length ∧ B[k]! = y := by
  obtain ⟨k, hk, rfl⟩ := List.getElem_of_mem h
  rw [List.length_take] at hk
  exact ⟨k, by omega, by omega, by rw [at_bang (by omega), List.getElem_take]⟩
theorem mem_drop_bang {B : List Jb} {u : Nat} {y : Jb} (h : y ∈ B.drop u) : ∃ k, u ≤ k ∧ k < B.length ∧ B[k]! = y := by
  obtain ⟨k, hk, rfl⟩ := List.getElem_of_mem h
  rw [List.length_drop] at hk
  exact ⟨u + k, by omega, by omega, by rw [at_bang (by omega), List.getElem_drop]⟩
theorem Sea.done {B : List Jb} {x : Jb} {u : Nat} (hs : Sea B x u u) (hB : Srt B) : St ([x] ++ B) (B.take u ++ ([x] ++ B.drop u)) := by
  have hB' : Srt (B.take u ++ B.drop u) := by rw [List.take_append_drop]; exact hB
  have hd : Srt ([x] ++ B.drop u) := by
    rw [Srt, List.singleton_append, List.pairwise_cons]
    refine ⟨fun y hy => ?_, (List.pairwise_append.1 hB').2.1⟩
    obtain ⟨k, h1, h2, rfl⟩ := mem_drop_bang hy
    exact hs.hi k h1 h2
  have := St.join (A1 := []) (A2 := [x]) (B1 := B.take u) (B2 := B.drop u) (S1 := B.take u) (S2 := [x] ++ B.drop u) (by simp [Srt]) hB' (by simpa using St.refl (List.pairwise_append.1 hB').1) (St.refl hd) (fun a ha => by cases ha) (fun b hb a ha => by
    rw [List.mem_singleton.1 ha]
    obtain ⟨k, h1, _, rfl⟩ := mem_take_bang hb
    exact hs.lo k h1)
  simpa using this
/-- the job on its way to its place -/
theorem walk_step (P B Q : List Jb) (x : Jb) (t k k' : Nat) (ht : t < B.length) (hk : k = P.length + t) (hk' : k' = k + 1) : swp (P ++ (B.take t ++ ([x] ++ B.drop t)) ++ Q) k k' = P ++ (B.take (t + 1) ++ ([x] ++ B.drop (t + 1))) ++ Q := by
  have e1 : P ++ (B.take t ++ ([x] ++ B.drop t)) ++ Q = (P ++ B.take t) ++ x :: B[t] :: (B.drop (t + 1) ++ Q) := by
    conv => lhs; rw [List.drop_eq_getElem_cons ht]
    simp only [List.append_assoc, List.cons_append, List.nil_append]
  have e2 : P ++ (B.take (t + 1) ++ ([x] ++ B.drop (t + 1))) ++ Q = (P ++ B.take t) ++ B[t] :: x :: (B.drop (t + 1) ++ Q) := by
    conv => lhs; rw [List.take_succ_eq_append_getElem ht]
    simp only [List.append_assoc, List.cons_append, List.nil_append]
  have hl : (P ++ B.take t).length = k := by simp; omega
  rw [e1, e2]
  generalize P ++ B.take t = L at *
  generalize B.drop (t + 1) ++ Q = R at *
  subst hl hk'
  unfold swp
  have h1 : (L ++ x :: B[t] :: R)[L.length + 1]! = B[t] := by simp
  have h2 : (L ++ x :: B[t] :: R)[L.length]! = x := by simp
  rw [h1, h2]
  simp
end Job

set_option maxHeartbeats 4000000 in
set_option maxRecDepth 100000 in
theorem symOne_any (g : Nat) (rest : List Value) (w0 : World) (hB : w0.heap.size ≤ g) (P B Q : List Job.Jb) (x : Job.Jb) (cap : Nat) (hn : (P ++ [x] ++ B ++ Q).length ≤ 1000) (hBs : Job.Srt B) (hB1 : 1 ≤ B.length) (w : World) (hw : SW g rest w0 (P ++ [x] ++ B ++ Q) w) :
    Calls Tryd.prog 36 #[.slice (some ⟨g, 0, none⟩) (P ++ [x] ++ B ++ Q).length cap, .int .i64 P.length, .int .i64 (P.length + 1 : Nat), .int .i64 (P.length + 1 + B.length : Nat), .func (.func 13) #[] #[]] w fun e w' => SegPost g rest w0 P ([x] ++ B) Q e w' := by
  obtain ⟨a, ha⟩ : ∃ a, a = P.length := ⟨_, rfl⟩
  obtain ⟨m, hm⟩ : ∃ m, m = P.length + 1 := ⟨_, rfl⟩
  obtain ⟨b, hb⟩ : ∃ b, b = P.length + 1 + B.length := ⟨_, rfl⟩
  obtain ⟨N, hN⟩ : ∃ N, N = (P ++ [x] ++ B ++ Q).length := ⟨_, rfl⟩
  have hN1 : N = P.length + 1 + B.length + Q.length := by rw [hN]; simp; omega
  have hN0 : N ≤ 1000 := by rw [hN]; exact hn
  have hbN : b ≤ N := by omega
  have hax : Hid ((P ++ [x] ++ B ++ Q)[a]! = x) := by show _ = _; rw [ha]; simp
  have hbx : Hid (∀ h, m ≤ h → h < b → (P ++ [x] ++ B ++ Q)[h]! = B[h - m]!) := fun h h1 h2 => by
    obtain ⟨u, rfl⟩ : ∃ u, h = m + u := ⟨h - m, by omega⟩
    have hu : u < B.length := by omega
    rw [Nat.add_sub_cancel_left, Job.at_bang hu, Job.at_bang (by simp; omega)]
    rw [List.getElem_append_left (by simp; omega), List.getElem_append_right (by simp; omega)]
    congr 1; simp; omega
  have HW : Hid (SW g rest w0 (P ++ [x] ++ B ++ Q) w) := hw
  have hma : Hid (m = a + 1 ∧ b = m + B.length) := ⟨by omega, by omega⟩
  have hmb : m < b := by omega
  have ham : a < m := by omega
  have hwalk : Hid (∀ t k k', t < B.length → k = a + t → k' = k + 1 → Job.swp (P ++ (B.take t ++ ([x] ++ B.drop t)) ++ Q) k k' = P ++ (B.take (t + 1) ++ ([x] ++ B.drop (t + 1))) ++ Q) := fun t k k' h1 h2 h3 => Job.walk_step P B Q x t k k' h1 (by rw [h2, ha]) h3
  have hwl : Hid (∀ t, t ≤ B.length → (P ++ (B.take t ++ ([x] ++ B.drop t)) ++ Q).length = N) := fun t ht => by rw [hN1]; simp; omega
  have hS0 : Hid (P ++ (B.take 0 ++ ([x] ++ B.drop 0)) ++ Q = P ++ [x] ++ B ++ Q) := by show _ = _; simp
  have hfin : Hid (∀ u w', Job.Sea B x u u → SW g rest w0 (P ++ (B.take u ++ ([x] ++ B.drop u)) ++ Q) w' → SegPost g rest w0 P ([x] ++ B) Q (.returned (.tuple #[])) w') := fun u w' h1 h2 => ⟨rfl, _, h1.done hBs, h2⟩
  rw [← hb, ← hm, ← hN, ← ha]
  have hdl : Hid ((P ++ [x] ++ B ++ Q).length = N) := hN.symm
  generalize P ++ [x] ++ B ++ Q = d at *
  have c1 : (m : Int) - (a : Int) = 1 := by omega
  have hBs' := hide hBs
  have hst : Hid (Job.Sea B x (m - m) (b - m)) := by
    show Job.Sea B x _ _
    rw [Nat.sub_self, show b - m = B.length by omega]; exact Job.Sea.start B x
  clear hw hn hN hN1 ha hm hb hBs
  go_enter Tryd.func36, Tryd.ntmps36
  go_wp2
  go_loopw [10, 11] (fun vi vj wr => ∃ (i j : Nat), m ≤ i ∧ i ≤ j ∧ j ≤ b ∧ Hid (Job.Sea B x (i - m) (j - m)) ∧ vi = .int .i64 i ∧ vj = .int .i64 j ∧ Hid (SW g rest w0 d wr)) (fun vi vj _ => (intOf vj).toNat - (intOf vi).toNat)
  case atStart => exact ⟨m, b, Nat.le_refl _, by omega, Nat.le_refl _, hst, rfl, rfl, HW⟩
  case round =>
    obtain ⟨i, j, hmi, hij, hjb, hs, rfl, rfl, hS⟩ := hrel
    by_cases hlt : i < j
    · obtain ⟨h, hh⟩ : ∃ h : Nat, h = (i + j) / 2 := ⟨_, rfl⟩
      have e1 : ((i : Int) + (j : Int)) / 2 = (h : Int) := by omega
      have hm1 : i ≤ h := by omega
      have hm2 : h < j := by omega
      have Hh := hbx.out h (by omega) (by omega)
      have Ha := hax.out
      have hup : Hid (Job.lt B[h - m]! x = true → Job.Sea B x (h + 1 - m) (j - m)) := fun hl => by
        have := hs.out.up hBs'.out (h := h - m) (by omega) hl
        rw [show h - m + 1 = h + 1 - m by omega] at this; exact this
      have hdn : Hid (Job.lt B[h - m]! x = false → Job.Sea B x (i - m) (h - m)) := fun hl => hs.out.down hBs'.out (by omega) (by omega) hl
      clear hh
      have hl : h < d.length := by rw [hdl.out]; omega
      have al : a < d.length := by rw [hdl.out]; omega
      have jh := hS.out.job hl
      have ja := hS.out.job al
      rw [← Job.at_bang hl, Hh] at jh
      rw [← Job.at_bang al, Ha] at ja
      have hz0 : (0 : Int) ≤ (h : Int) := by omega
      have hz1 : (h : Int) < (N : Int) := by omega
      have hz2 : h < N := by omega
      have az0 : (0 : Int) ≤ (a : Int) := by omega
      have az1 : (a : Int) < (N : Int) := by omega
      have az2 : a < N := by omega
      have HC : Hid (∀ W, SW g rest w0 d W → Calls Tryd.prog 13 #[jv B[h - m]!, jv x] W fun e w' => e = .returned (.int .i64 (Job.cf B[h - m]! x)) ∧ SW g rest w0 d w' ∧ JAt w' g (h * 8) B[h - m]! ∧ JAt w' g (a * 8) x) := fun W hW => by
        have := cmp_any B[h - m]! x g rest w0 d h a hl al W hW
        rw [Hh, Ha] at this
        exact this
      have hcf := Job.cf_neg B[h - m]! x
      generalize Job.cf B[h - m]! x = cv at *
      generalize Job.lt B[h - m]! x = lv at *
      obtain ⟨X0, hX0⟩ : ∃ X0, X0 = B[h - m]! := ⟨_, rfl⟩
      obtain ⟨Y0, hY0⟩ : ∃ Y0, Y0 = x := ⟨_, rfl⟩
      rw [← hX0] at jh HC
      rw [← hY0] at ja HC
      clear Hh Ha hl al hX0 hY0
      obtain ⟨xg, xn, xk, xu, xf, xt, xc, xz⟩ := X0
      obtain ⟨yg, yn, yk, yu, yf, yt, yc, yz⟩ := Y0
      obtain ⟨a0, a1, a2, a3, a4, a5, a6, a7⟩ := jh
      obtain ⟨b0, b1, b2, b3, b4, b5, b6, b7⟩ := ja
      dsimp only at a0 a1 a2 a3 a4 a5 a6 a7 b0 b1 b2 b3 b4 b5 b6 b7
      unfold jv JAt at HC
      dsimp only at HC
      cases lv
      · have hc0 : decide (cv < 0) = false := hcf
        go_wp2
        go_region_held3 (fun w' => w'.cell? ⟨g, h * 8, none⟩ = some (.int .i64 xg) ∧ w'.cell? ⟨g, h * 8 + 1, none⟩ = some (.int .i64 xn) ∧ w'.cell? ⟨g, h * 8 + 2, none⟩ = some (.int .i64 xk) ∧ w'.cell? ⟨g, h * 8 + 3, none⟩ = some (.string xu) ∧ w'.cell? ⟨g, h * 8 + 4, none⟩ = some (.string xf) ∧ w'.cell? ⟨g, h * 8 + 5, none⟩ = some (.string xt) ∧ w'.cell? ⟨g, h * 8 + 6, none⟩ = some (.string xc) ∧ w'.cell? ⟨g, h * 8 + 7, none⟩ = some (.int .i64 xz) ∧ w'.cell? ⟨g, a * 8, none⟩ = some (.int .i64 yg) ∧ w'.cell? ⟨g, a * 8 + 1, none⟩ = some (.int .i64 yn) ∧ w'.cell? ⟨g, a * 8 + 2, none⟩ = some (.int .i64 yk) ∧ w'.cell? ⟨g, a * 8 + 3, none⟩ = some (.string yu) ∧ w'.cell? ⟨g, a * 8 + 4, none⟩ = some (.string yf) ∧ w'.cell? ⟨g, a * 8 + 5, none⟩ = some (.string yt) ∧ w'.cell? ⟨g, a * 8 + 6, none⟩ = some (.string yc) ∧ w'.cell? ⟨g, a * 8 + 7, none⟩ = some (.int .i64 yz)) (go_keep) (first
          | (go_at_call 13; refine (HC.out _ ?_).mono ?_; (first | exact hS.out | exact hS.out.drew); rintro e w' ⟨rfl, hS', ⟨c0, c1, c2, c3, c4, c5, c6, c7⟩, ⟨d0, d1, d2, d3, d4, d5, d6, d7⟩⟩))
        replace hS' := hide hS'
        clear a0 a1 a2 a3 a4 a5 a6 a7 b0 b1 b2 b3 b4 b5 b6 b7 c0 c1 c2 c3 c4 c5 c6 c7 d0 d1 d2 d3 d4 d5 d6 d7 HC
        go_wp2
        go_roundw
        case rel => exact ⟨i, h, hmi, by omega, by omega, hdn.out (by first | rfl | trivial), rfl, rfl, hS'⟩
        case measure => simp [intOf]; omega
      · have hc0 : decide (cv < 0) = true := hcf
        go_wp2
        go_region_held3 (fun w' => w'.cell? ⟨g, h * 8, none⟩ = some (.int .i64 xg) ∧ w'.cell? ⟨g, h * 8 + 1, none⟩ = some (.int .i64 xn) ∧ w'.cell? ⟨g, h * 8 + 2, none⟩ = some (.int .i64 xk) ∧ w'.cell? ⟨g, h * 8 + 3, none⟩ = some (.string xu) ∧ w'.cell? ⟨g, h * 8 + 4, none⟩ = some (.string xf) ∧ w'.cell? ⟨g, h * 8 + 5, none⟩ = some (.string xt) ∧ w'.cell? ⟨g, h * 8 + 6, none⟩ = some (.string xc) ∧ w'.cell? ⟨g, h * 8 + 7, none⟩ = some (.int .i64 xz) ∧ w'.cell? ⟨g, a * 8, none⟩ = some (.int .i64 yg) ∧ w'.cell? ⟨g, a * 8 + 1, none⟩ = some (.int .i64 yn) ∧ w'.cell? ⟨g, a * 8 + 2, none⟩ = some (.int .i64 yk) ∧ w'.cell? ⟨g, a * 8 + 3, none⟩ = some (.string yu) ∧ w'.cell? ⟨g, a * 8 + 4, none⟩ = some (.string yf) ∧ w'.cell? ⟨g, a * 8 + 5, none⟩ = some (.string yt) ∧ w'.cell? ⟨g, a * 8 + 6, none⟩ = some (.string yc) ∧ w'.cell? ⟨g, a * 8 + 7, none⟩ = some (.int .i64 yz)) (go_keep) (first
          | (go_at_call 13; refine (HC.out _ ?_).mono ?_; (first | exact hS.out | exact hS.out.drew); rintro e w' ⟨rfl, hS', ⟨c0, c1, c2, c3, c4, c5, c6, c7⟩, ⟨d0, d1, d2, d3, d4, d5, d6, d7⟩⟩))
        replace hS' := hide hS'
        clear a0 a1 a2 a3 a4 a5 a6 a7 b0 b1 b2 b3 b4 b5 b6 b7 c0 c1 c2 c3 c4 c5 c6 c7 d0 d1 d2 d3 d4 d5 d6 d7 HC
        go_wp2
        go_roundw
        case rel => exact ⟨h + 1, j, by omega, by omega, by omega, hup.out (by first | rfl | trivial), by go_num, rfl, hS'⟩
        case measure => simp [intOf]; omega
    · obtain rfl : i = j := by omega
      go_wp2
      go_loopw [13] (fun vk wr => ∃ (k t : Nat), k = a + t ∧ t ≤ i - m ∧ vk = .int .i64 k ∧ Hid (SW g rest w0 (P ++ (B.take t ++ ([x] ++ B.drop t)) ++ Q) wr)) (fun vk _ => i - (intOf vk).toNat)
      case atStart => exact ⟨a, 0, rfl, Nat.zero_le _, rfl, by have := hS; rw [← hS0.out] at this; exact this⟩
      case round =>
        obtain ⟨k, t, hk, ht, rfl, hS2⟩ := hrel
        have htB : t ≤ B.length := by have := hma.out.2; omega
        have hdl2 := hwl.out t htB
        by_cases hlt2 : t < i - m
        · obtain ⟨k2, hk2⟩ : ∃ k2 : Nat, k2 = k + 1 := ⟨_, rfl⟩
          have hki : k2 < i := by have := hma.out.1; omega
          have hkk : k < k2 := by omega
          have hk1 : k2 ≤ 1000 := by omega
          have e2 : IntKind.i64.wrap ((k : Int) + 1) = (k2 : Int) := by rw [IntKind.wrap_i64]; omega
          have dk : decide ((k : Int) < (i : Int) - 1) = true := by have := hma.out.1; simp; omega
          have hw2 := hwalk.out t k k2 (by have := hma.out.2; omega) hk hk2
          have hkt : Hid (k = a + t ∧ k2 = k + 1) := ⟨hk, hk2⟩
          replace hw2 := hide hw2
          have htt : Hid (t < i - m) := hlt2
          obtain ⟨dt, hdt⟩ : ∃ dt, dt = P ++ (B.take t ++ ([x] ++ B.drop t)) ++ Q := ⟨_, rfl⟩
          rw [← hdt] at hS2 hdl2 hw2
          clear hdt hk hk2 hlt2
          have kl : k < dt.length := by rw [hdl2]; omega
          have k2l : k2 < dt.length := by rw [hdl2]; omega
          have jk := hS2.out.job kl
          have jk2 := hS2.out.job k2l
          rw [← Job.at_bang kl] at jk
          rw [← Job.at_bang k2l] at jk2
          have kz0 : (0 : Int) ≤ (k : Int) := by omega
          have kz1 : (k : Int) < (N : Int) := by omega
          have kz2 : k < N := by omega
          have k2z0 : (0 : Int) ≤ (k2 : Int) := by omega
          have k2z1 : (k2 : Int) < (N : Int) := by omega
          have k2z2 : k2 < N := by omega
          have r1 : ∀ o, o < 8 → ¬ (k * 8 = k2 * 8 + o) := fun o ho => by omega
          have r2 : ∀ o, o < 8 → ¬ (k2 * 8 = k * 8 + o) := fun o ho => by omega
          have r3 : ∀ o, o < 8 → ¬ (k * 8 + o = k2 * 8) := fun o ho => by omega
          have r4 : ∀ o, o < 8 → ¬ (k2 * 8 + o = k * 8) := fun o ho => by omega
          have r5 : ¬ (k * 8 = k2 * 8) := by omega
          have r6 : ¬ (k2 * 8 = k * 8) := by omega
          have r7 : ¬ (k = k2) := by omega
          have r8 : ¬ (k2 = k) := by omega
          have fz := hS2.out.thaw
          have zg := hS2.out.lt
          obtain ⟨X0, hX0⟩ : ∃ X0, dt[k]! = X0 := ⟨_, rfl⟩
          obtain ⟨Y0, hY0⟩ : ∃ Y0, dt[k2]! = Y0 := ⟨_, rfl⟩
          have hE := hS2.out.swap hB kl k2l hX0 hY0
          rw [hX0] at jk
          rw [hY0] at jk2
          clear hX0 hY0 kl k2l
          obtain ⟨xg, xn, xk, xu, xf, xt, xc, xz⟩ := X0
          obtain ⟨yg, yn, yk, yu, yf, yt, yc, yz⟩ := Y0
          obtain ⟨a0, a1, a2, a3, a4, a5, a6, a7⟩ := jk
          obtain ⟨b0, b1, b2, b3, b4, b5, b6, b7⟩ := jk2
          dsimp only at a0 a1 a2 a3 a4 a5 a6 a7 b0 b1 b2 b3 b4 b5 b6 b7 hE
          replace hE := hide hE
          go_wp2
          go_big_region
          generalize World.drew _ = WE at *
          clear a0 a1 a2 a3 a4 a5 a6 a7 b0 b1 b2 b3 b4 b5 b6 b7 r1 r2 r3 r4 fz zg
          go_wp2
          go_roundw
          case rel => exact ⟨k2, t + 1, by have := hkt.out; omega, by have := htt.out; omega, by have := hkt.out; go_num, by have := hE.out; rw [hw2.out] at this; exact this⟩
          case measure => have := hkt.out; have := htt.out; simp [intOf]; omega
        · have dk : decide ((k : Int) < (i : Int) - 1) = false := by have := hma.out.1; simp; omega
          obtain rfl : t = i - m := by omega
          go_wp2
          go_end0
          exact hfin.out _ _ hs.out hS2.out
end Go.Proofs.YtgcbaflaidehnaaDoor
