/-
  Layer 5, Order: insertionSort.
-/
import Derived.Test.YtgcbaflaidehnaaDoorSrtBun
namespace Go.Proofs.YtgcbaflaidehnaaDoor
open Go.RowKit

namespace Job
theorem swp_adj (L R : List Jb) (u x : Jb) (j q : Nat) (hq : q = L.length) (hj : j = q + 1) : swp (L ++ u :: x :: R) j q = L ++ x :: u :: R := by
  subst hq hj
  unfold swp
  have e1 : (L ++ u :: x :: R)[L.length + 1]! = x := by simp
  have e2 : (L ++ u :: x :: R)[L.length]! = u := by simp
  rw [e1, e2]
  simp
/-- the inner loop's state -/
structure In (P U Y : List Jb) (x : Jb) (j : Nat) (dk : List Jb) : Prop where
  ex : ∃ U1 U2, U1 ++ U2 = U ∧ dk = (P ++ U1) ++ x :: (U2 ++ Y) ∧ P.length + U1.length = j ∧ ∀ u ∈ U2, lt x u = true
theorem In.start (P U Y : List Jb) (x : Jb) : In P U Y x (P.length + U.length) (P ++ U ++ x :: Y) := ⟨U, [], by simp, by simp, rfl, by simp⟩
theorem In.len {P U Y : List Jb} {x : Jb} {j : Nat} {dk : List Jb} (h : In P U Y x j dk) : dk.length = P.length + U.length + 1 + Y.length ∧ P.length ≤ j ∧ j ≤ P.length + U.length := by
  obtain ⟨U1, U2, rfl, rfl, h3, _⟩ := h.ex
  simp; omega
theorem In.at {P U Y : List Jb} {x : Jb} {j : Nat} {dk : List Jb} (h : In P U Y x j dk) : dk[j]! = x := by
  obtain ⟨U1, U2, rfl, rfl, rfl, _⟩ := h.ex
  have : P.length + U1.length = (P ++ U1).length := by simp
  rw [this]; simp
theorem In.step {P U Y : List Jb} {x : Jb} {j q : Nat} {dk : List Jb} (h : In P U Y x j dk) (hj : P.length < j) (hq : j = q + 1) (hl : lt x dk[q]! = true) : In P U Y x q (swp dk j q) := by
  obtain ⟨U1, U2, rfl, rfl, h3, h4⟩ := h.ex
  have hne : U1 ≠ [] := by intro e; rw [e] at h3; simp at h3; omega
  obtain ⟨U1, u, rfl⟩ : ∃ V v, U1 = V ++ [v] := ⟨U1.dropLast, U1.getLast hne, (List.dropLast_concat_getLast hne).symm⟩
  have e : (P ++ (U1 ++ [u])) ++ x :: (U2 ++ Y) = (P ++ U1) ++ u :: x :: (U2 ++ Y) := by simp
  have hq' : q = (P ++ U1).length := by simp at h3 ⊢; omega
  have eu : ((P ++ (U1 ++ [u])) ++ x :: (U2 ++ Y))[q]! = u := by rw [e, hq']; simp
  rw [eu] at hl
  refine ⟨U1, u :: U2, by simp, ?_, by rw [hq']; simp, ?_⟩
  · rw [e, swp_adj _ _ _ _ j q hq' hq]; simp
  · intro v hv
    rcases List.mem_cons.1 hv with rfl | hv
    · exact hl
    · exact h4 v hv
theorem In.stop {P U Y X : List Jb} {x : Jb} {j : Nat} {dk : List Jb} (h : In P U Y x j dk) (hU : St X U) (hs : j = P.length ∨ ∃ q, j = q + 1 ∧ lt x dk[q]! = false) : ∃ U', dk = P ++ U' ++ Y ∧ St (X ++ [x]) U' ∧ U'.length = U.length + 1 := by
  obtain ⟨U1, U2, rfl, rfl, h3, h4⟩ := h.ex
  refine ⟨U1 ++ [x] ++ U2, by simp, hU.ins ?_ h4, by simp; omega⟩
  rcases hs with hs | ⟨q, hq, hl⟩
  · have : U1 = [] := by
      rcases U1 with _ | ⟨a, r⟩
      · rfl
      · simp at h3; omega
    rw [this]; intro u hu; cases hu
  · by_cases hne : U1 = []
    · rw [hne]; intro u hu; cases hu
    · obtain ⟨U1, u, rfl⟩ : ∃ V v, U1 = V ++ [v] := ⟨U1.dropLast, U1.getLast hne, (List.dropLast_concat_getLast hne).symm⟩
      have e : (P ++ (U1 ++ [u])) ++ x :: (U2 ++ Y) = (P ++ U1) ++ u :: x :: (U2 ++ Y) := by simp
      have hq' : q = (P ++ U1).length := by simp at h3 ⊢; omega
      have eu : ((P ++ (U1 ++ [u])) ++ x :: (U2 ++ Y))[q]! = u := by rw [e, hq']; simp
      rw [eu] at hl
      have hle := (le_iff u x).1 hl
      have hS := List.pairwise_append.1 (List.pairwise_append.1 hU.srt).1
      intro v hv
      rcases List.mem_append.1 hv with hv | hv
      · exact (hS.2.2 v hv u (by simp)).trans hle
      · rw [List.mem_singleton.1 hv]; exact hle
/-- the outer loop's state -/
structure Out (P X Q : List Jb) (i : Nat) (dk : List Jb) : Prop where
  ex : ∃ X1 V U, X = X1 ++ V ∧ St X1 U ∧ dk = P ++ U ++ (V ++ Q) ∧ P.length + U.length = i ∧ 1 ≤ U.length
end Job

/-- what the sort asks of 'cmp' -/
theorem cmp_any (x y : Job.Jb) (g : Nat) (rest : List Value) (w0 : World) (d : List Job.Jb) (p q : Nat) (hp : p < d.length) (hq : q < d.length) (W : World) (hS : SW g rest w0 d W) :
    Calls Tryd.prog 13 #[jv x, jv y] W fun e w' => e = .returned (.int .i64 (Job.cf x y)) ∧ SW g rest w0 d w' ∧ JAt w' g (p * 8) d[p]! ∧ JAt w' g (q * 8) d[q]! :=
  (byId_any x y W).mono fun e w' ⟨h1, h2⟩ => ⟨h1, hS.below h2, by rw [Job.at_bang hp]; exact (hS.below h2).job hp, by rw [Job.at_bang hq]; exact (hS.below h2).job hq⟩

/-- the segment X is in its order, the rest as it was -/
def SegPost (g : Nat) (rest : List Value) (w0 : World) (P X Q : List Job.Jb) (e : Ending) (w' : World) : Prop := e = .returned (.tuple #[]) ∧ ∃ S, Job.St X S ∧ SW g rest w0 (P ++ S ++ Q) w'

set_option maxHeartbeats 4000000 in
set_option maxRecDepth 100000 in
theorem insertion_any (g : Nat) (rest : List Value) (w0 : World) (hB : w0.heap.size ≤ g) (P X Q : List Job.Jb) (cap : Nat) (hn : (P ++ X ++ Q).length ≤ 1000) (w : World) (hw : SW g rest w0 (P ++ X ++ Q) w) :
    Calls Tryd.prog 35 #[.slice (some ⟨g, 0, none⟩) (P ++ X ++ Q).length cap, .int .i64 P.length, .int .i64 (P.length + X.length : Nat), .func (.func 13) #[] #[]] w fun e w' => SegPost g rest w0 P X Q e w' := by
  have hlen : (P ++ X ++ Q).length = P.length + X.length + Q.length := by simp; omega
  rcases X with _ | ⟨x0, X'⟩
  · have HW : Hid (SW g rest w0 (P ++ [] ++ Q) w) := hw
    have HE : Hid (∀ w', SW g rest w0 (P ++ [] ++ Q) w' → SegPost g rest w0 P [] Q (.returned (.tuple #[])) w') := fun w' h => ⟨rfl, [], Job.St.refl List.Pairwise.nil, h⟩
    generalize (P ++ [] ++ Q).length = N at *
    simp only [List.length_nil, Nat.add_zero] at hlen ⊢
    obtain ⟨a, ha⟩ : ∃ a, a = P.length := ⟨_, rfl⟩
    rw [← ha] at hlen ⊢
    clear hw
    go_enter Tryd.func35, Tryd.ntmps35
    go_wp2
    go_loopw [8] (fun i wr => i = .int .i64 (a + 1 : Nat) ∧ wr = w) (fun _ _ => 0)
    case atStart => exact ⟨by go_num, rfl⟩
    case round =>
      obtain ⟨rfl, rfl⟩ := hrel
      have hd : decide (((a : Int) + 1) < (a : Int)) = false := by simp; omega
      have hd' : ¬ ((a : Int) + 1 < (a : Int)) := by omega
      go_wp2
      go_end0
      exact HE.out _ HW.out
  · obtain ⟨a, ha⟩ : ∃ a, a = P.length := ⟨_, rfl⟩
    obtain ⟨b, hb⟩ : ∃ b, b = P.length + (x0 :: X').length := ⟨_, rfl⟩
    obtain ⟨N, hN⟩ : ∃ N, N = (P ++ (x0 :: X') ++ Q).length := ⟨_, rfl⟩
    have hN1 : N = P.length + (x0 :: X').length + Q.length := by rw [hN, hlen]
    have hbN : b ≤ N := by omega
    have hN0 : N ≤ 1000 := by rw [hN]; exact hn
    have hab : a < b := by rw [ha, hb]; simp
    have hst : Hid (Job.Out P (x0 :: X') Q (a + 1) (P ++ (x0 :: X') ++ Q)) := ⟨[x0], X', [x0], rfl, Job.St.refl (by simp [Job.Srt]), by simp, by rw [ha]; rfl, Nat.le_refl _⟩
    have hfin : Hid (∀ i dk w', b ≤ i → Job.Out P (x0 :: X') Q i dk → SW g rest w0 dk w' → SegPost g rest w0 P (x0 :: X') Q (.returned (.tuple #[])) w') := fun i dk w' hi h hs => by
      obtain ⟨X1, V, U, hX, hU, rfl, h4, _⟩ := h.ex
      have hV : V = [] := by
        have := congrArg List.length hX
        have := hU.len
        rcases V with _ | ⟨v, V⟩
        · rfl
        · simp at *; omega
      subst hV
      rw [List.append_nil] at hX
      subst hX
      exact ⟨rfl, U, hU, by simpa using hs⟩
    have hlenO : Hid (∀ i dk, Job.Out P (x0 :: X') Q i dk → dk.length = N) := fun i dk h => by
      obtain ⟨X1, V, U, hX, hU, rfl, h4, _⟩ := h.ex
      have := congrArg List.length hX
      have := hU.len
      simp at *; omega
    have hnext : Hid (∀ i dk, i < b → Job.Out P (x0 :: X') Q i dk → ∃ (X1 U Y : List Job.Jb) (x : Job.Jb), Job.St X1 U ∧ P.length + U.length = i ∧ Job.In P U Y x i dk ∧ ∀ dk' U', dk' = P ++ U' ++ Y → Job.St (X1 ++ [x]) U' → U'.length = U.length + 1 → Job.Out P (x0 :: X') Q (i + 1) dk') := fun i dk hi h => by
      obtain ⟨X1, V, U, hX, hU, rfl, h4, _⟩ := h.ex
      have e1 := congrArg List.length hX
      have e2 := hU.len
      rcases V with _ | ⟨x, V⟩
      · simp at *; omega
      · refine ⟨X1, U, V ++ Q, x, hU, h4, ?_, ?_⟩
        · rw [← h4]; simpa using Job.In.start P U (V ++ Q) x
        · intro dk' U' h1 h2 h3
          exact ⟨X1 ++ [x], V, U', by rw [hX]; simp, h2, h1, by omega, by omega⟩
    have HW : Hid (SW g rest w0 (P ++ (x0 :: X') ++ Q) w) := hw
    rw [← hb, ← hN, ← ha]
    have ha' : Hid (a = P.length) := ha
    generalize P ++ (x0 :: X') ++ Q = d0 at *
    clear hw hlen ha hb hN hN1
    go_enter Tryd.func35, Tryd.ntmps35
    go_wp2
    go_loopw [8] (fun vi wr => ∃ (i : Nat) (dk : List Job.Jb), a + 1 ≤ i ∧ i ≤ b ∧ vi = .int .i64 i ∧ Hid (Job.Out P (x0 :: X') Q i dk) ∧ Hid (SW g rest w0 dk wr)) (fun vi _ => b - (intOf vi).toNat)
    case atStart => exact ⟨a + 1, d0, Nat.le_refl _, by omega, by go_num, hst, HW⟩
    case round =>
      obtain ⟨i, di, hai, hib, rfl, hO, hSi⟩ := hrel
      by_cases hlt : i < b
      · obtain ⟨X1, U, Y, x, hU, hUi, hIn, hnx⟩ := hnext.out i di hlt hO.out
        have hU' : Hid (Job.St X1 U) := hU
        have hIn' : Hid (Job.In P U Y x i di) := hIn
        have hnx' : Hid (∀ dk' U', dk' = P ++ U' ++ Y → Job.St (X1 ++ [x]) U' → U'.length = U.length + 1 → Job.Out P (x0 :: X') Q (i + 1) dk') := hnx
        have hUi' : Hid (P.length + U.length = i ∧ P.length + U.length + 1 + Y.length = N) := ⟨hUi, by have := hIn.len.1; have := hlenO.out i di hO.out; omega⟩
        clear hU hIn hnx hUi
        go_wp2
        go_loopw [9] (fun vj wr2 => ∃ (j : Nat) (dj : List Job.Jb), a ≤ j ∧ j ≤ i ∧ vj = .int .i64 j ∧ Hid (Job.In P U Y x j dj) ∧ Hid (SW g rest w0 dj wr2)) (fun vj _ => (intOf vj).toNat)
        case atStart => exact ⟨i, di, by omega, Nat.le_refl _, rfl, hIn', hSi⟩
        case round =>
          obtain ⟨j, dj, haj, hji, rfl, hI, hS⟩ := hrel
          have hdl : dj.length = N := by rw [hI.out.len.1]; exact hUi'.out.2
          by_cases hja : a < j
          · obtain ⟨q, hq⟩ : ∃ q, j = q + 1 := ⟨j - 1, by omega⟩
            have hjl : j < dj.length := by omega
            have hql : q < dj.length := by omega
            have jj := hS.out.job hjl
            have jq := hS.out.job hql
            rw [← Job.at_bang hjl, hI.out.at] at jj
            rw [← Job.at_bang hql] at jq
            obtain ⟨y, hy⟩ : ∃ y, dj[q]! = y := ⟨_, rfl⟩
            rw [hy] at jq
            have e1 : IntKind.i64.wrap ((j : Int) - 1) = (q : Int) := by rw [IntKind.wrap_i64]; omega
            have p0 : (0 : Int) ≤ (j : Int) := by omega
            have q0 : (0 : Int) ≤ (q : Int) := by omega
            have p1 : (j : Int) < (N : Int) := by omega
            have q1 : (q : Int) < (N : Int) := by omega
            have p2 : j < N := by omega
            have q2 : q < N := by omega
            have g1 : (a : Int) < (j : Int) := by omega
            have g2 : decide ((a : Int) < (j : Int)) = true := by simp; omega
            have fz := hS.out.thaw
            have zg := hS.out.lt
            have r1 : ∀ o, o < 8 → ¬ (j * 8 = q * 8 + o) := fun o ho => by omega
            have r2 : ∀ o, o < 8 → ¬ (q * 8 = j * 8 + o) := fun o ho => by omega
            have r3 : ∀ o, o < 8 → ¬ (j * 8 + o = q * 8) := fun o ho => by omega
            have r4 : ∀ o, o < 8 → ¬ (q * 8 + o = j * 8) := fun o ho => by omega
            have r5 : ¬ (j * 8 = q * 8) := by omega
            have r6 : ¬ (q * 8 = j * 8) := by omega
            have r7 : ¬ (j = q) := by omega
            have r8 : ¬ (q = j) := by omega
            have HC : Hid (∀ W, SW g rest w0 dj W → Calls Tryd.prog 13 #[jv x, jv y] W fun e w' => e = .returned (.int .i64 (Job.cf x y)) ∧ SW g rest w0 dj w' ∧ JAt w' g (j * 8) x ∧ JAt w' g (q * 8) y) := fun W hW => by
              have := cmp_any x y g rest w0 dj j q hjl hql W hW
              rw [hI.out.at, hy] at this
              exact this
            have hcf := Job.cf_neg x y
            have hgo : Hid (Job.lt x y = true → Job.In P U Y x q (Job.swp dj j q)) := fun h => hI.out.step (by rw [← ha'.out]; exact hja) hq (by rw [hy]; exact h)
            have hstop : Hid (Job.lt x y = false → ∃ U', dj = P ++ U' ++ Y ∧ Job.St (X1 ++ [x]) U' ∧ U'.length = U.length + 1) := fun h => hI.out.stop hU'.out (.inr ⟨q, hq, by rw [hy]; exact h⟩)
            have hswap : Hid (∀ W, SW g rest w0 dj W → SW g rest w0 (Job.swp dj j q) ((((((((((((((((W.setCell ⟨g, j * 8, none⟩ (.int .i64 y.g)).setCell ⟨g, j * 8 + 1, none⟩ (.int .i64 y.n)).setCell ⟨g, j * 8 + 2, none⟩ (.int .i64 y.k)).setCell ⟨g, j * 8 + 3, none⟩ (.string y.u)).setCell ⟨g, j * 8 + 4, none⟩ (.string y.f)).setCell ⟨g, j * 8 + 5, none⟩ (.string y.t)).setCell ⟨g, j * 8 + 6, none⟩ (.string y.c)).setCell ⟨g, j * 8 + 7, none⟩ (.int .i64 y.z)).setCell ⟨g, q * 8, none⟩ (.int .i64 x.g)).setCell ⟨g, q * 8 + 1, none⟩ (.int .i64 x.n)).setCell ⟨g, q * 8 + 2, none⟩ (.int .i64 x.k)).setCell ⟨g, q * 8 + 3, none⟩ (.string x.u)).setCell ⟨g, q * 8 + 4, none⟩ (.string x.f)).setCell ⟨g, q * 8 + 5, none⟩ (.string x.t)).setCell ⟨g, q * 8 + 6, none⟩ (.string x.c)).setCell ⟨g, q * 8 + 7, none⟩ (.int .i64 x.z)).drew) := fun W hW => hW.swap hB hjl hql hI.out.at hy
            have hqj : Hid (j = q + 1) := hq
            generalize Job.cf x y = cv at *
            generalize Job.lt x y = lv at *
            clear hI hq hy hjl hql hdl
            obtain ⟨xg, xn, xk, xu, xf, xt, xc, xz⟩ := x
            obtain ⟨yg, yn, yk, yu, yf, yt, yc, yz⟩ := y
            obtain ⟨a0, a1, a2, a3, a4, a5, a6, a7⟩ := jj
            obtain ⟨b0, b1, b2, b3, b4, b5, b6, b7⟩ := jq
            dsimp only at a0 a1 a2 a3 a4 a5 a6 a7 b0 b1 b2 b3 b4 b5 b6 b7 hswap
            unfold jv JAt at HC
            dsimp only at HC
            cases lv
            · have hc0 : decide (cv < 0) = false := hcf
              go_wp2
              go_region_held3 (fun w' => w'.cell? ⟨g, j * 8, none⟩ = some (.int .i64 xg) ∧ w'.cell? ⟨g, j * 8 + 1, none⟩ = some (.int .i64 xn) ∧ w'.cell? ⟨g, j * 8 + 2, none⟩ = some (.int .i64 xk) ∧ w'.cell? ⟨g, j * 8 + 3, none⟩ = some (.string xu) ∧ w'.cell? ⟨g, j * 8 + 4, none⟩ = some (.string xf) ∧ w'.cell? ⟨g, j * 8 + 5, none⟩ = some (.string xt) ∧ w'.cell? ⟨g, j * 8 + 6, none⟩ = some (.string xc) ∧ w'.cell? ⟨g, j * 8 + 7, none⟩ = some (.int .i64 xz) ∧ w'.cell? ⟨g, q * 8, none⟩ = some (.int .i64 yg) ∧ w'.cell? ⟨g, q * 8 + 1, none⟩ = some (.int .i64 yn) ∧ w'.cell? ⟨g, q * 8 + 2, none⟩ = some (.int .i64 yk) ∧ w'.cell? ⟨g, q * 8 + 3, none⟩ = some (.string yu) ∧ w'.cell? ⟨g, q * 8 + 4, none⟩ = some (.string yf) ∧ w'.cell? ⟨g, q * 8 + 5, none⟩ = some (.string yt) ∧ w'.cell? ⟨g, q * 8 + 6, none⟩ = some (.string yc) ∧ w'.cell? ⟨g, q * 8 + 7, none⟩ = some (.int .i64 yz)) (go_keep) (first
                | (go_at_call 13; refine (HC.out _ ?_).mono ?_; (first | exact hS.out | exact hS.out.drew); rintro e w' ⟨rfl, hS', ⟨c0, c1, c2, c3, c4, c5, c6, c7⟩, ⟨d0, d1, d2, d3, d4, d5, d6, d7⟩⟩))
              replace hS' : Hid (SW g rest w0 dj w') := hS'
              clear hswap hgo a0 a1 a2 a3 a4 a5 a6 a7 b0 b1 b2 b3 b4 b5 b6 b7 fz zg c0 c1 c2 c3 c4 c5 c6 c7 d0 d1 d2 d3 d4 d5 d6 d7 r1 r2 r3 r4 e1
              go_wp2
              go_roundw
              case rel =>
                obtain ⟨U', h1, h2, h3⟩ := hstop.out (by first | rfl | trivial)
                exact ⟨i + 1, dj, by omega, by omega, by go_num, hnx'.out dj U' h1 h2 h3, hS'⟩
              case measure => simp [intOf]; omega
            · have hc0 : decide (cv < 0) = true := hcf
              go_wp2
              go_region_held3 (fun w' => w'.cell? ⟨g, j * 8, none⟩ = some (.int .i64 xg) ∧ w'.cell? ⟨g, j * 8 + 1, none⟩ = some (.int .i64 xn) ∧ w'.cell? ⟨g, j * 8 + 2, none⟩ = some (.int .i64 xk) ∧ w'.cell? ⟨g, j * 8 + 3, none⟩ = some (.string xu) ∧ w'.cell? ⟨g, j * 8 + 4, none⟩ = some (.string xf) ∧ w'.cell? ⟨g, j * 8 + 5, none⟩ = some (.string xt) ∧ w'.cell? ⟨g, j * 8 + 6, none⟩ = some (.string xc) ∧ w'.cell? ⟨g, j * 8 + 7, none⟩ = some (.int .i64 xz) ∧ w'.cell? ⟨g, q * 8, none⟩ = some (.int .i64 yg) ∧ w'.cell? ⟨g, q * 8 + 1, none⟩ = some (.int .i64 yn) ∧ w'.cell? ⟨g, q * 8 + 2, none⟩ = some (.int .i64 yk) ∧ w'.cell? ⟨g, q * 8 + 3, none⟩ = some (.string yu) ∧ w'.cell? ⟨g, q * 8 + 4, none⟩ = some (.string yf) ∧ w'.cell? ⟨g, q * 8 + 5, none⟩ = some (.string yt) ∧ w'.cell? ⟨g, q * 8 + 6, none⟩ = some (.string yc) ∧ w'.cell? ⟨g, q * 8 + 7, none⟩ = some (.int .i64 yz)) (go_keep) (first
                | (go_at_call 13; refine (HC.out _ ?_).mono ?_; (first | exact hS.out | exact hS.out.drew); rintro e w' ⟨rfl, hS', ⟨c0, c1, c2, c3, c4, c5, c6, c7⟩, ⟨d0, d1, d2, d3, d4, d5, d6, d7⟩⟩))
              have hE := hswap.out _ hS'
              replace hE : Hid _ := hE
              have fz' := hS'.thaw
              have zg' := hS'.lt
              clear hswap a0 a1 a2 a3 a4 a5 a6 a7 b0 b1 b2 b3 b4 b5 b6 b7 fz zg
              go_wp2
              go_big_region
              generalize World.drew _ = WE at *
              clear fz' zg' c0 c1 c2 c3 c4 c5 c6 c7 d0 d1 d2 d3 d4 d5 d6 d7 r1 r2 r3 r4 e1
              go_wp2
              go_roundw
              case rel =>
                have := hqj.out
                exact ⟨q, Job.swp dj j q, by omega, by omega, by go_num, hgo.out (by first | rfl | trivial), hE⟩
              case measure => have := hqj.out; simp [intOf]; omega
          · have hj : j = a := by omega
            have g1 : ¬ ((a : Int) < (j : Int)) := by omega
            have g2 : decide ((a : Int) < (j : Int)) = false := by simp; omega
            have hstop : Hid (∃ U', dj = P ++ U' ++ Y ∧ Job.St (X1 ++ [x]) U' ∧ U'.length = U.length + 1) := hI.out.stop hU'.out (.inl (by rw [hj, ha'.out]))
            have hSd := hS.out.drew
            replace hSd : Hid _ := hSd
            clear hI
            go_wp2
            go_big_region
            all_goals go_wp2
            go_roundw
            case rel =>
              obtain ⟨U', h1, h2, h3⟩ := hstop.out
              exact ⟨i + 1, dj, by omega, by omega, by go_num, hnx'.out dj U' h1 h2 h3, hSd⟩
            case measure => simp [intOf]; omega
      · obtain rfl : i = b := by omega
        go_wp2
        go_end0
        exact hfin.out _ _ _ (Nat.le_refl _) hO.out hSi.out
end Go.Proofs.YtgcbaflaidehnaaDoor
