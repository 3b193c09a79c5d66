/- Lines of an aqueduct: whether there is a truth, in the specification's words. -/
import Derived.Test.YtkdlppekjjbgoaaC2

import Derived.Test.YtkdlppekjjbgoaaD1

set_option linter.unusedSimpArgs false

set_option linter.unusedVariables false

namespace Go.Proofs.Ytkdlppekjjbgoaa

open Go.RowKit

def row1 (f : Nat → Int) : Nat → List Value
  | 0 => []
  | k + 1 => row1 f k ++ [.int .i64 (f k)]
theorem row1_len (f : Nat → Int) : ∀ k, (row1 f k).length = k
  | 0 => rfl
  | k + 1 => by unfold row1; rw [List.length_append, row1_len f k]; rfl
theorem row1_at {f : Nat → Int} : ∀ {n k : Nat}, k < n → (row1 f n)[k]? = some (.int .i64 (f k))
  | 0, k, hk => absurd hk (Nat.not_lt_zero _)
  | n + 1, k, hk => by
    unfold row1
    have hl := row1_len f n
    rcases Nat.lt_succ_iff_lt_or_eq.1 hk with h1 | rfl
    · rw [List.getElem?_append_left (by omega)]
      exact row1_at h1
    · rw [List.getElem?_append_right (by omega), hl]
      simp
theorem lit_cells1 (w : World) (x : Value) (e : TypeId) : ∀ (j : Nat) (u : Value), [x][j]? = some u → (w.alloc (.cells #[x] e)).cell? ((⟨w.heap.size, 0, none⟩ : Addr).add j) = some u := fun j u h => by
  cases j with
  | zero =>
    simp only [List.getElem?_cons_zero, Option.some.injEq] at h
    subst h
    rw [add_at'']
    go_simp
  | succ j => simp at h
theorem num_own {w : World} {base : Nat} {v : Value} {n : Nat} {f : Nat → Int} (h : w.ownsRow base 3 1 v n (row1 f n)) : ∃ p c, v = .slice p n c ∧ NumIn w w.heap.size n f p := by
  obtain ⟨p, c, rfl, hf⟩ := own_form h
  refine ⟨p, c, rfl, fun h0 => ?_⟩
  obtain ⟨g, rfl, _, hl, hc, _⟩ := hf h0
  exact ⟨g, 0, rfl, hl, fun k hk => by rw [Nat.zero_add, hc k (by omega), row1_at hk]⟩
set_option maxRecDepth 100000 in
set_option maxHeartbeats 4000000 in
theorem one_any (D : Duct) (p q : Option Addr) (c d : Nat) (w : World) (hn : D.n ≤ 40) (hm : D.m ≤ 40) (hi : DuctIn w w.heap.size D p q) :
    Calls Try.prog 26 #[.agg #[.slice p D.n c, .slice q D.m d]] w fun e w' => e = .returned (.bool D.one) ∧ Below w.heap.size w w' := by
  obtain ⟨i0, hi0, hz0, hz1, hz2⟩ := info_parts infoI
  have I1 := Lib.hid hi0; have I2 := Lib.hid hz0; have I3 := Lib.hid hz1; have I4 := Lib.hid hz2; clear hi0 hz0 hz1 hz2
  obtain ⟨w1, x, hw1, hb1, hz1, F0, F1⟩ := box_line w p q D.n D.m c d
  have HB := Lib.hid hb1
  have HI : Hid (∀ x : Ext w1, DuctIn x.v x.v.heap.size D p q) := fun x => (hi.bel hb1).bel x.b
  clear hb1 hz1 hi
  go_enter Try.func26, Try.ntmps26
  go_wp2
  go_loopw [3, 4] (fun v i wr => ∃ k : Nat, i = .int .i64 k ∧ k ≤ D.n ∧ ∃ x : Ext w1, wr = x.v ∧ x.v.ownsRow w1.heap.size 3 1 v k (row1 (fh D) k)) (fun _ i _ => D.n - (intOf i).toNat)
  case atStart => exact ⟨0, rfl, Nat.zero_le _, x, rfl, World.ownsRow_nil _ _ _ _⟩
  case round =>
    obtain ⟨k, rfl, hk, y, rfl, ho⟩ := hrel
    have HO := Lib.hid ho; clear ho hw1 x
    by_cases hlt : k < D.n
    · obtain ⟨b, o, rfl, hbl, hc⟩ := (HI.out y).pt (by omega)
      have e1 := hc.c1 k hlt
      clear hc
      have j : decide ((k : Int) < (D.n : Int)) = true := by simp; omega
      have j2 : (k : Int) < (D.n : Int) := by omega
      obtain ⟨pr, cr, rfl, hform⟩ := own_form HO.out
      rcases Nat.eq_zero_or_pos k with hk0 | hk0
      · have d0 : decide (0 < (k : Int)) = false := by simp; omega
        have d0n : decide (0 < k) = false := by simp; omega
        have hfk : D.hi k = fh D k := by subst hk0; rfl
        clear hk0 hform
        go_wp2_with (at_builtin; refine wpList_append_own _ rfl _ _ 23 rfl w1.heap.size 3 i0 _ 1 8 Try.underlying23 I1.out I2.out I3.out I4.out rfl (by decide) _ _ _ rfl (HO.out.alloc _) ⟨y.v.heap.size, 0, none⟩ 1 1 [.int .i64 (fh D k)] rfl rfl (lit_cells1 _ _ _) ?c2 ?c3 ?c4 ?c5 ?_)
        case c2 => simp [Value.oneCell']
        case c3 => unfold maxLen; omega
        case c4 => omega
        case c5 => have := y.b.size; first | omega | (simp; omega)
        intro v' w4 hown hgrow _
        have HB4 := Lib.hid (below_grown (bA y.b _) (HO.out.alloc _) (Nat.le_refl _) hgrow)
        have HOW := Lib.hid hown
        clear hown hgrow
        go_wp2
        go_roundw
        case rel => exact ⟨k + 1, by go_num, hlt, ⟨w4, HB4.out⟩, rfl, HOW.out⟩
        case measure => first | (simp [intOf]; done) | (simp [intOf]; omega)
      · have d0 : decide (0 < (k : Int)) = true := by simp; omega
        have d0n : decide (0 < k) = true := by simp; omega
        obtain ⟨j', hkj⟩ : ∃ j, k = j + 1 := ⟨k - 1, by omega⟩
        obtain ⟨g, rfl, _, hgl, hgc, _⟩ := hform hk0
        have f1 : y.v.cell? ⟨g, j', none⟩ = some (.int .i64 (fh D j')) := by rw [hgc _ (by omega), row1_at (by omega)]
        have hk1 : (k : Int) - 1 = (j' : Int) := by omega
        have hk2 : IntKind.i64.wrap (j' : Int) = (j' : Int) := IntWalk.i64_in _ (by omega)
        have hj3 : (j' : Int) < (k : Int) := by omega
        have hm : (if fh D j' < D.hi k then fh D j' else D.hi k) = fh D k := by subst hkj; show _ = min _ _; rw [Int.min_def]; split <;> split <;> omega
        clear hkj hform hgc hk0
        go_wp2_with (at_builtin; refine wpList_append_own _ rfl _ _ 23 rfl w1.heap.size 3 i0 _ 1 8 Try.underlying23 I1.out I2.out I3.out I4.out rfl (by decide) _ _ _ rfl (HO.out.alloc _) ⟨y.v.heap.size, 0, none⟩ 1 1 [.int .i64 (fh D k)] rfl rfl (lit_cells1 _ _ _) ?c2 ?c3 ?c4 ?c5 ?_)
        case c2 => simp [Value.oneCell']
        case c3 => unfold maxLen; omega
        case c4 => omega
        case c5 => have := y.b.size; first | omega | (simp; omega)
        intro v' w4 hown hgrow _
        have HB4 := Lib.hid (below_grown (bA y.b _) (HO.out.alloc _) (Nat.le_refl _) hgrow)
        have HOW := Lib.hid hown
        clear hown hgrow
        go_wp2
        go_roundw
        case rel => exact ⟨k + 1, by go_num, hlt, ⟨w4, HB4.out⟩, rfl, HOW.out⟩
        case measure => first | (simp [intOf]; done) | (simp [intOf]; omega)
    · obtain rfl : k = D.n := by omega
      obtain ⟨pr, cr, rfl, hnum⟩ := num_own HO.out
      have HN := Lib.hid hnum
      have HIT := Lib.hid (show Calls Try.prog 20 #[.agg #[.slice p D.n c, .slice q D.m d], .slice pr D.n cr] y.v fun e w' => e = .returned (.bool D.one) ∧ Below y.v.heap.size y.v w' from by
        have := isTruth_any D p q c d D.n (fh D) pr cr y.v hn hm hn (HI.out y) HN.out
        rw [truth_fh] at this
        exact this)
      have j : decide ((D.n : Int) < (D.n : Int)) = false := by simp
      clear hnum hlt
      go_wp2_with fail
      refine (quiet_x HIT.out).mono ?_
      rintro e w' ⟨rfl, y2, rfl⟩
      go_wp2
      go_ret
      exact ⟨rfl, bT HB.out y2.b⟩
end Go.Proofs.Ytkdlppekjjbgoaa
