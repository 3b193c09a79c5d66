/- The contracts of add, differ and level. -/
import Derived.Test.YtmfbfcknnjbabaaB2
set_option linter.unusedSimpArgs false
set_option linter.unusedVariables false
namespace Go.Proofs.Ytmfbfcknnjbabaa
open Go.RowKit

def addW (M : List Int) (f t : Nat) (lo hi : Int) : Bool × List Int :=
  let r := bnd M f t hi
  if r.1 then bnd r.2 t f (wrap64 (-lo)) else (false, r.2)

theorem gcell {w w' : World} {g : Nat} (h : w.grownBy w' (some g)) {b o : Nat} (hb : b < w.heap.size) (hne : b ≠ g) : w'.cell? ⟨b, o, none⟩ = w.cell? ⟨b, o, none⟩ :=
  World.cell?_of_block (h.block b hb (by simpa using hne))

theorem box_word (w : World) (f t lo hi : Int) :
    ∃ w1, w.alloc (Obj.cells #[.int .i64 f, .int .i64 t, .int .i64 lo, .int .i64 hi] 111) = w1 ∧ Below w.heap.size w w1 ∧ w1.heap.size = w.heap.size + 1 ∧
      w1.cell? ⟨w.heap.size, 0, none⟩ = some (.int .i64 f) ∧ w1.cell? ⟨w.heap.size, 1, none⟩ = some (.int .i64 t) ∧ w1.cell? ⟨w.heap.size, 2, none⟩ = some (.int .i64 lo) ∧ w1.cell? ⟨w.heap.size, 3, none⟩ = some (.int .i64 hi) :=
  ⟨_, rfl, bA (Below.refl _ _) _, by simp, by go_simp, by go_simp, by go_simp, by go_simp⟩

set_option maxRecDepth 100000 in
set_option maxHeartbeats 1000000 in
theorem add_any (n : Int) (M : List Int) (g f t : Nat) (lo hi : Int) (w : World) (hf : f < 7) (ht : t < 7) (hr : RowAt w g n M) :
    Calls Try.prog 95 #[.pointer (some ⟨g, 0, none⟩), .agg #[.int .i64 f, .int .i64 t, .int .i64 lo, .int .i64 hi]] w fun e w' =>
      e = .returned (.bool (addW M f t lo hi).1) ∧ RowAt w' g n (addW M f t lo hi).2 ∧ w.grownBy w' (some g) := by
  obtain ⟨w1, hw1, hb1, hz, k0, k1, k2, k3⟩ := box_word w f t lo hi
  have hgl := hr.lt
  have hr1 := hr.below hb1 hgl
  have hc := bound_any n M g f t hi w1 hf ht hr1
  have hg0 : w.grownBy w1 (some g) := gB (gR w _) hb1
  have hl : w.heap.size < w1.heap.size := by omega
  have hne : w.heap.size ≠ g := by omega
  cases hbn : bnd M f t hi with
  | mk b1 M1 =>
    rw [hbn] at hc
    dsimp only at hc
    cases b1 with
    | false =>
      have e : addW M f t lo hi = (false, M1) := by simp [addW, hbn]
      have HE := Lib.hid e; have HC := Lib.hid hc; have HG0 := Lib.hid hg0
      clear hbn hc hg0 hb1 hr1 hr e hz hgl
      go_enter Try.func95, Try.ntmps95
      go_wp2_with (go_at_call 102; refine HC.out.mono ?_; rintro e w2 ⟨rfl, hr2, hg2⟩; have HR2 := Lib.hid hr2; have HG2 := Lib.hid hg2; clear hr2 hg2)
      go_ret
      rw [HE.out]
      exact ⟨rfl, HR2.out, gT HG0.out HG2.out⟩
    | true =>
      have hc2 : ∀ w2, RowAt w2 g n M1 → Calls Try.prog 102 #[.pointer (some ⟨g, 0, none⟩), .int .i64 t, .int .i64 f, .int .i64 (wrap64 (-lo))] w2 fun e w' => e = .returned (.bool (bnd M1 t f (wrap64 (-lo))).1) ∧ RowAt w' g n (bnd M1 t f (wrap64 (-lo))).2 ∧ w2.grownBy w' (some g) := fun w2 h2 => bound_any n M1 g t f _ w2 ht hf h2
      have e : addW M f t lo hi = bnd M1 t f (wrap64 (-lo)) := by simp [addW, hbn]
      cases hb2 : bnd M1 t f (wrap64 (-lo)) with
      | mk b2 M2 =>
        rw [hb2] at hc2 e
        dsimp only at hc2
        have HE := Lib.hid e; have HC := Lib.hid hc; have HC2 := Lib.hid hc2; have HG0 := Lib.hid hg0
        clear hbn hb2 hc hc2 hg0 hb1 hr1 hr e hz hgl
        have tok1 : True := trivial
        go_enter Try.func95, Try.ntmps95
        go_wp2_with (first
          | (go_at_call 102; have _t := tok1; clear tok1 _t; refine HC.out.mono ?_; rintro e w2 ⟨rfl, hr2, hg2⟩; have c0 := (gcell (o := 0) hg2 hl hne).trans k0; have c1 := (gcell (o := 1) hg2 hl hne).trans k1; have c2 := (gcell (o := 2) hg2 hl hne).trans k2; have HR2 := Lib.hid hr2; have HG2 := Lib.hid hg2; clear hr2 hg2)
          | (go_at_call 102; refine (HC2.out _ HR2.out).mono ?_; rintro e w3 ⟨rfl, hr3, hg3⟩; have HR3 := Lib.hid hr3; have HG3 := Lib.hid hg3; clear hr3 hg3))
        go_ret
        rw [HE.out]
        exact ⟨rfl, HR3.out, gT HG0.out (gT HG2.out HG3.out)⟩

def dif (M : List Int) (p q : Nat) : Int × Int := (wrap64 (-gt M (q * 7 + p)), gt M (p * 7 + q))

set_option maxRecDepth 100000 in
set_option maxHeartbeats 1000000 in
theorem differ_any (n : Int) (M : List Int) (g p q : Nat) (w : World) (hp : p < 7) (hq : q < 7) (hr : RowAt w g n M) :
    Calls Try.prog 62 #[.pointer (some ⟨g, 0, none⟩), .int .i64 p, .int .i64 q] w fun e w' =>
      e = .returned (.agg #[.int .i64 (dif M p q).1, .int .i64 (dif M p q).2]) ∧ Below w.heap.size w w' := by
  unfold dif
  have p0 : (0 : Int) ≤ (p : Int) := by omega
  have p1 : (p : Int) < 7 := by omega
  have q0 : (0 : Int) ≤ (q : Int) := by omega
  have q1 : (q : Int) < 7 := by omega
  obtain ⟨x1, hx1⟩ : ∃ x, gt M (q * 7 + p) = x := ⟨_, rfl⟩
  obtain ⟨x2, hx2⟩ : ∃ x, gt M (p * 7 + q) = x := ⟨_, rfl⟩
  have c1 := hr.at q p hq hp
  have c2 := hr.at p q hp hq
  rw [hx1] at c1 ⊢; rw [hx2] at c2 ⊢
  have hl := hr.lt
  clear hx1 hx2 hr
  go_enter Try.func62, Try.ntmps62
  go_wp2
  go_region
  go_wp2
  exact bodyPost_ret (v := .agg #[.int .i64 (wrap64 (-x1)), .int .i64 x2]) (by simp [results, Try.results62, go_sem]) rfl ⟨rfl, by repeat (first | exact Below.refl _ _ | refine bA ?_ _ | refine bd ?_)⟩

set_option maxRecDepth 100000 in
set_option maxHeartbeats 1000000 in
theorem level_any (n : Int) (M : List Int) (g q : Nat) (w : World) (hq : q < 6) (hr : RowAt w g n M) :
    Calls Try.prog 59 #[.pointer (some ⟨g, 0, none⟩), .int .i64 q] w fun e w' =>
      e = .returned (.agg #[.int .i64 (dif M 0 (q + 1)).1, .int .i64 (dif M 0 (q + 1)).2]) ∧ Below w.heap.size w w' := by
  have hd : ∀ w2, Below w.heap.size w w2 → Calls Try.prog 62 #[.pointer (some ⟨g, 0, none⟩), .int .i64 0, .int .i64 ((q : Int) + 1)] w2 fun e w' =>
      e = .returned (.agg #[.int .i64 (dif M 0 (q + 1)).1, .int .i64 (dif M 0 (q + 1)).2]) ∧ Below w2.heap.size w2 w' := fun w2 h2 => differ_any n M g 0 (q + 1) w2 (by omega) (by omega) (hr.below h2 hr.lt)
  obtain ⟨⟨y1, y2⟩, hy⟩ : ∃ y, dif M 0 (q + 1) = y := ⟨_, rfl⟩
  rw [hy] at hd ⊢
  have HD := Lib.hid hd
  clear hd hy hr
  go_enter Try.func59, Try.ntmps59
  go_wp2_with (first
    | (go_at_call 63; refine (point_ex _ _ (by omega) (by omega)).mono ?_; rintro e w2 ⟨rfl, rfl⟩)
    | (go_at_call 62; refine (HD.out _ (bA (Below.refl _ _) _)).mono ?_; rintro e w2 ⟨rfl, hb2⟩; have c0 : w2.cell? ⟨w.heap.size, 0, none⟩ = some (.int .i64 0) := (hb2.cell (by simp)).trans (by go_simp); have c1 : w2.cell? ⟨w.heap.size, 1, none⟩ = some (.int .i64 0) := (hb2.cell (by simp)).trans (by go_simp); have d0 : ∀ i, w2.frozen? ⟨w.heap.size, i, none⟩ = false := fun i => (hb2.frozen (by simp)).trans (by go_simp)))
  exact bodyPost_ret (v := .agg #[.int .i64 y1, .int .i64 y2]) (by simp [results, Try.results59, go_sem, c0, c1]) rfl ⟨rfl, bS (bS (bT (bA (Below.refl _ _) _) hb2) (Nat.le_refl _) _) (Nat.le_refl _) _⟩
end Go.Proofs.Ytmfbfcknnjbabaa
