/- Lines of an aqueduct: whether flows are a truth, in the specification's words. -/
import Derived.Test.YtkdlppekjjbgoaaA8

set_option linter.unusedSimpArgs false

set_option linter.unusedVariables false

namespace Go.Proofs.Ytkdlppekjjbgoaa

open Go.RowKit

theorem truth_len {D : Duct} {tl : Nat} {t : Nat → Int} (h : tl ≠ D.n) : D.truth tl t = false := by unfold Duct.truth; simp [h]
theorem truth_bad {D : Duct} {tl k : Nat} {t : Nat → Int} (hk : k < D.n) (h : truthAt D t k = false) : D.truth tl t = false := by unfold Duct.truth; rw [allN_bad hk h]; simp
theorem truth_mk {D : Duct} {tl : Nat} {t : Nat → Int} (h1 : tl = D.n) (h : allN (truthAt D t) D.n = true) : D.truth tl t = true := by unfold Duct.truth; simp [h1, h]
set_option maxRecDepth 100000 in
set_option maxHeartbeats 4000000 in
theorem isTruth_any (D : Duct) (p q : Option Addr) (c d : Nat) (tl : Nat) (t : Nat → Int) (r : Option Addr) (tc : Nat) (w : World) (hn : D.n ≤ 40) (hm : D.m ≤ 40) (htl : tl ≤ 40) (hi : DuctIn w w.heap.size D p q) (hr : NumIn w w.heap.size tl t r) :
    Calls Try.prog 20 #[.agg #[.slice p D.n c, .slice q D.m d], .slice r tl tc] w fun e w' => e = .returned (.bool (D.truth tl t)) ∧ Below w.heap.size w w' := by
  have HT : Hid (∀ w1, Below w.heap.size w w1 → NumIn w1 w1.heap.size tl t r) := fun w1 hb => hr.bel hb
  obtain ⟨w1, x, hw1, hb1, hz1, F0, F1⟩ := box_line w p q D.n D.m c d
  have HB := Lib.hid hb1
  have HI : Hid (∀ x : Ext w1, DuctIn x.v x.v.heap.size D p q) := fun x => (hi.bel hb1).bel x.b
  have HTI : Hid (∀ x : Ext w1, NumIn x.v x.v.heap.size tl t r) := fun x => HT.out _ (bT hb1 x.b)
  clear hb1 hz1 hi HT hr
  by_cases hl : tl = D.n
  case neg =>
    have HR := Lib.hid (truth_len (t := t) hl)
    have d1 : ((tl : Int) != (D.n : Int)) = true := by simp; omega
    go_enter Try.func20, Try.ntmps20
    go_wp2
    go_ret
    exact ⟨ret_b HR.out.symm, bT HB.out x.b⟩
  have d1 : ((tl : Int) != (D.n : Int)) = false := by simp; omega
  have HL := Lib.hid hl
  clear hl
  go_enter Try.func20, Try.ntmps20
  go_wp2
  clear d1
  go_loopw [5] (fun i wr => ∃ k : Nat, i = .int .i64 k ∧ k ≤ tl ∧ allN (truthAt D t) k = true ∧ ∃ x : Ext w1, wr = x.v) (fun i _ => tl - (intOf i).toNat)
  case atStart => exact ⟨0, rfl, Nat.zero_le _, rfl, x, rfl⟩
  case round =>
    obtain ⟨k, rfl, hk, hp, y, rfl⟩ := hrel
    have HP := Lib.hid hp; clear hp hw1 x
    by_cases hlt : k < tl
    · have hkn : k < D.n := by have := HL.out; omega
      obtain ⟨b, o, rfl, hbl, hc⟩ := (HI.out y).pt (by omega)
      obtain ⟨b2, o2, rfl, hbl2, hc2⟩ := HTI.out y (by omega)
      have E0 : ∀ z : Ext w1, z.v.cell? ⟨b, o + k * 3, none⟩ = some (.int .i64 (D.lo k)) := fun z => by
        obtain ⟨b', o', e, _, h⟩ := (HI.out z).pt (by omega)
        cases e; exact h.c0 k hkn
      have E1 : ∀ z : Ext w1, z.v.cell? ⟨b, o + k * 3 + 1, none⟩ = some (.int .i64 (D.hi k)) := fun z => by
        obtain ⟨b', o', e, _, h⟩ := (HI.out z).pt (by omega)
        cases e; exact h.c1 k hkn
      have E2 : ∀ z : Ext w1, z.v.cell? ⟨b2, o2 + k, none⟩ = some (.int .i64 (t k)) := fun z => ((HTI.out z).cell hlt).2
      clear hc hc2
      have j : decide ((k : Int) < (tl : Int)) = true := by simp; omega
      have j1 : (k : Int) < (tl : Int) := by omega
      have j2 : (k : Int) < (D.n : Int) := by omega
      cases hw : within (t k) (D.lo k) (D.hi k) with
      | false =>
        have HR := Lib.hid (truth_bad (tl := tl) hkn (show truthAt D t k = false by simp [truthAt, hw]))
        go_wp2
        refine quiet_e (by kernel_rfl) (by kernel_rfl) ?_
        repeat (first | go_big_quiet_step ((go_at_call 61; exact quiet_s (within_any _ _ _ _))) | quiet_step ((go_at_call 61; exact quiet_s (within_any _ _ _ _))))
        refine wpQuiet_nil ?_
        intro w6 hw6
        obtain ⟨y2, rfl⟩ := hw6
        go_wp2
        go_ret
        exact ⟨ret_b HR.out.symm, bT HB.out y2.b⟩
      | true =>
      rcases Nat.eq_zero_or_pos k with hk0 | hk0
      · have d0 : decide (0 < (k : Int)) = false := by simp; omega
        have d0n : decide (0 < k) = false := by simp; omega
        have HA := Lib.hid (show truthAt D t k = true by subst hk0; simp [truthAt, hw])
        clear hk0
        go_wp2
        refine quiet_e (by kernel_rfl) (by kernel_rfl) ?_
        repeat (first | go_big_quiet_step ((go_at_call 61; exact quiet_s (within_any _ _ _ _))) | quiet_step ((go_at_call 61; exact quiet_s (within_any _ _ _ _))))
        refine wpQuiet_nil ?_
        intro w6 hw6
        obtain ⟨y2, rfl⟩ := hw6
        go_wp2
        go_roundw
        case rel => exact ⟨k + 1, by go_num, hlt, allN_succ HP.out HA.out, y2, rfl⟩
        case measure => first | (simp [intOf]; done) | (simp [intOf]; omega)
      · have d0 : decide (0 < (k : Int)) = true := by simp; omega
        have d0n : decide (0 < k) = true := by simp; omega
        obtain ⟨j', hkj⟩ : ∃ j, k = j + 1 := ⟨k - 1, by omega⟩
        have hk1 : (k : Int) - 1 = (j' : Int) := by omega
        have hk2 : IntKind.i64.wrap (j' : Int) = (j' : Int) := IntWalk.i64_in _ (by omega)
        have j3 : (j' : Int) < (tl : Int) := by omega
        have E3 : ∀ z : Ext w1, z.v.cell? ⟨b2, o2 + j', none⟩ = some (.int .i64 (t j')) := fun z => ((HTI.out z).cell (by omega)).2
        have hat : truthAt D t k = !(decide (t j' < t k)) := by subst hkj; simp [truthAt, hw]
        have HK := Lib.hid hkj; clear hkj
        cases hd : decide (t j' < t k) with
        | true =>
          have HR := Lib.hid (truth_bad (tl := tl) hkn (by rw [hat, hd]; rfl))
          clear hat
          go_wp2
          refine quiet_e (by kernel_rfl) (by kernel_rfl) ?_
          repeat (first | go_big_quiet_step ((go_at_call 61; exact quiet_s (within_any _ _ _ _))) | quiet_step ((go_at_call 61; exact quiet_s (within_any _ _ _ _))))
          refine wpQuiet_nil ?_
          intro w6 hw6
          obtain ⟨y2, rfl⟩ := hw6
          go_wp2
          go_ret
          exact ⟨ret_b HR.out.symm, bT HB.out y2.b⟩
        | false =>
          have HA := Lib.hid (show truthAt D t k = true by rw [hat, hd]; rfl)
          clear hat
          go_wp2
          refine quiet_e (by kernel_rfl) (by kernel_rfl) ?_
          repeat (first | go_big_quiet_step ((go_at_call 61; exact quiet_s (within_any _ _ _ _))) | quiet_step ((go_at_call 61; exact quiet_s (within_any _ _ _ _))))
          refine wpQuiet_nil ?_
          intro w6 hw6
          obtain ⟨y2, rfl⟩ := hw6
          clear hk1 hk2
          go_wp2
          go_roundw
          case rel => exact ⟨k + 1, by go_num, hlt, allN_succ HP.out HA.out, y2, rfl⟩
          case measure => first | (simp [intOf]; done) | (simp [intOf]; omega)
    · have HR := Lib.hid (truth_mk (tl := tl) HL.out (show allN (truthAt D t) D.n = true by have := HP.out; rwa [show k = D.n by have := HL.out; omega] at this))
      have j : decide ((k : Int) < (tl : Int)) = false := by simp; omega
      go_wp2
      go_ret
      exact ⟨ret_b HR.out.symm, bT HB.out y.b⟩
end Go.Proofs.Ytkdlppekjjbgoaa
