/- MouthsRounding returns true in every walk. -/
import Derived.Test.YthbicbmlbblflaaC11

import Derived.Test.YthbicbmlbblflaaM7

import Derived.Test.YthbicbmlbblflaaD2

set_option linter.unusedSimpArgs false

set_option linter.unusedVariables false

namespace Go.Proofs.Ythbicbmlbblflaa

open Go.RowKit

theorem neq_pair (a b : Int) (w : World) : (binOp .neq 63 (.agg #[.int .i64 a, .int .i64 b]) (.agg #[.int .i64 a, .int .i64 b])).run Try.prog w = .ok (.bool false) w := by
  go_simp
set_option maxRecDepth 100000 in
set_option maxHeartbeats 4000000 in
theorem rounding_out (D : Bx) (p q : Option Addr) (c d : Nat) (fl : Int) (w : World) (hn : D.n ≤ maxLen) (hm : D.m ≤ maxLen) (hi : BxIn w w.heap.size D p q) (hr : rdy D fl = false) :
    Calls Try.prog 12 #[.agg #[.slice p D.n c, .slice q D.m d], .int .i64 fl] w fun e w' => e = .returned (.bool true) ∧ Below w.heap.size w w' := by
  obtain ⟨w1, x1, hw1, hb, hB, hI⟩ := start_b D p q c d w hi
  have HB := Lib.hid hb; have HI := Lib.hid hI; have HR := Lib.hid hr
  have F0 := fun y => (hB y).c0; have F1 := fun y => (hB y).c1
  clear hb hB hI hi hr
  go_enter Try.func12, Try.ntmps12
  go_wp2_with fail
  refine (quiet_x (ready_is HR.out hn hm (HI.out _))).mono ?_
  rintro e w' ⟨rfl, y, rfl⟩
  go_wp2_with fail
  refine (quiet_x (works_ex _)).mono ?_
  rintro e w' ⟨rfl, y2, rfl⟩
  go_wp2
  go_ret
  exact ⟨rfl, bT HB.out y2.b⟩
set_option maxRecDepth 100000 in
set_option maxHeartbeats 16000000 in
theorem rounding_in (D : Bx) (p q : Option Addr) (c d F : Nat) (w : World) (hi : BxIn w w.heap.size D p q) (hr : rdy D (F : Int) = true) (hok : D.ok = true) (hF : F ≤ 40) :
    Calls Try.prog 12 #[.agg #[.slice p D.n c, .slice q D.m d], .int .i64 (F : Int)] w fun e w' => e = .returned (.bool true) ∧ Below w.heap.size w w' := by
  obtain ⟨w2, x2, hw1, hb, hB, hI⟩ := start_b D p q c d w hi
  obtain ⟨n4, m4, _, _⟩ := rdy_parts hr
  obtain ⟨o1, o2, o3, o4⟩ := Bx.ok_parts hok
  have hn : D.n ≤ maxLen := by unfold maxLen; omega
  have hm : D.m ≤ maxLen := by unfold maxLen; omega
  have HB := Lib.hid hb; have HI_0 := Lib.hid hI; have HR := Lib.hid hr; have HOK := Lib.hid hok
  have HBX_0 := Lib.hid hB
  have HO3 := Lib.hid o3
  clear hI hB hb hi hr o2 o3 o4
  have F0_0 : ∀ z : Ext w2, z.v.cell? ⟨w.heap.size, 0, none⟩ = some (.slice p D.n c) := fun z => (HBX_0.out z).c0
  have F1_0 : ∀ z : Ext w2, z.v.cell? ⟨w.heap.size, 1, none⟩ = some (.slice q D.m d) := fun z => (HBX_0.out z).c1
  have HW_0 : Hid (∀ z : Ext w2, Below w.heap.size w z.v) := fun z => bT HB.out z.b
  have hab := allS_bd hok
  obtain ⟨A, hA⟩ : ∃ A, allS D = A := ⟨_, rfl⟩
  obtain ⟨M, hM⟩ : ∃ M, mxA D = M := ⟨_, rfl⟩
  have HS := Lib.hid (show ∀ V : World, BxIn V V.heap.size D p q → Calls Try.prog 49 #[.slice p D.n c] V fun e w' => e = .returned (.int .i64 A) ∧ V = w' from fun V h => by
    have := sumR_any D.n c D.sh p V (by omega) (sh_1000 hok) h.s
    rw [show sumN D.sh D.n = A from hA] at this
    exact this)
  rw [hA] at hab
  have hMA : M = if A < 1 then 1 else A := by rw [← hM, ← hA]; rfl
  have hMb : 1 ≤ M ∧ M ≤ 100 := by rw [hMA]; split <;> omega
  have HMM := Lib.hid hM; have HAA := Lib.hid hA; have HMb := Lib.hid hMb; have HMA := Lib.hid hMA
  clear hab hA hM hMb hMA hok
  go_enter Try.func12, Try.ntmps12
  go_wp2_with fail
  refine (quiet_x (ready_is HR.out hn hm (HI_0.out _))).mono ?_
  rintro e w' ⟨rfl, y, rfl⟩
  go_wp2_with fail
  refine (remP_ok D p q c d F _ HOK.out hF (HI_0.out _)).mono ?_
  rintro e wa ⟨gr, grc, rfl, hcgr⟩
  have HXwa := Lib.hid (bT y.b hcgr.below); have HNgr0 := Lib.hid hcgr.num
  obtain ⟨zwa, hzwa⟩ := rebase wa
  clear hcgr
  have HI_1 : Hid (∀ z : Ext wa, BxIn z.v z.v.heap.size D p q) := fun z => HI_0.out (z.up HXwa.out)
  have F0_1 : ∀ z : Ext wa, z.v.cell? ⟨w.heap.size, 0, none⟩ = some (.slice p D.n c) := fun z => F0_0 (z.up HXwa.out)
  have F1_1 : ∀ z : Ext wa, z.v.cell? ⟨w.heap.size, 1, none⟩ = some (.slice q D.m d) := fun z => F1_0 (z.up HXwa.out)
  have HW_1 : Hid (∀ z : Ext wa, Below w.heap.size w z.v) := fun z => HW_0.out (z.up HXwa.out)
  clear HI_0 F0_0 F1_0 HW_0
  have Ngr_1 : Hid (∀ z : Ext wa, NumIn z.v z.v.heap.size D.n (RM D F) gr) := fun z => HNgr0.out.bel z.b
  rw [hzwa]; clear hzwa
  clear hw1
  go_wp2_with fail
  refine (exactP_ok D p q c d F _ HOK.out hF (HI_1.out _)).mono ?_
  rintro e wx ⟨gx, gxc, rfl, hbx, hpx⟩
  have HXwx := Lib.hid (bT zwa.b hbx); have HPX0 := Lib.hid hpx
  obtain ⟨zwx, hzwx⟩ := rebase wx
  clear hbx hpx
  have HI_2 : Hid (∀ z : Ext wx, BxIn z.v z.v.heap.size D p q) := fun z => HI_1.out (z.up HXwx.out)
  have F0_2 : ∀ z : Ext wx, z.v.cell? ⟨w.heap.size, 0, none⟩ = some (.slice p D.n c) := fun z => F0_1 (z.up HXwx.out)
  have F1_2 : ∀ z : Ext wx, z.v.cell? ⟨w.heap.size, 1, none⟩ = some (.slice q D.m d) := fun z => F1_1 (z.up HXwx.out)
  have HW_2 : Hid (∀ z : Ext wx, Below w.heap.size w z.v) := fun z => HW_1.out (z.up HXwx.out)
  have Ngr_2 : Hid (∀ z : Ext wx, NumIn z.v z.v.heap.size D.n (RM D F) gr) := fun z => Ngr_1.out (z.up HXwx.out)
  clear HI_1 F0_1 F1_1 HW_1 Ngr_1
  have HP_2 : Hid (∀ z : Ext wx, PairIn z.v z.v.heap.size D.n (exN D F) (exD D F) gx) := fun z => HPX0.out.bel z.b
  rw [hzwx]; clear hzwx
  go_wp2_with fail
  refine (HS.out _ (HI_2.out _)).mono ?_
  rintro e w' ⟨rfl, rfl⟩
  go_wp2
  go_loopw [10, 11] (fun s i wr => ∃ k : Nat, i = .int .i64 k ∧ s = .int .i64 (sumN (RM D F) k) ∧ k ≤ D.n ∧ ∃ z : Ext wx, wr = z.v) (fun _ i _ => D.n - (intOf i).toNat)
  case atStart => exact ⟨0, rfl, rfl, Nat.zero_le _, zwx, rfl⟩
  case round =>
    obtain ⟨k, rfl, rfl, hk, z, rfl⟩ := hrel
    by_cases hlt : k < D.n
    · obtain ⟨b1, of1, rfl, _, _⟩ := (HI_2.out z).s (by omega)
      obtain ⟨gg, rfl, _, _⟩ := (HP_2.out z) (by omega)
      obtain ⟨gr0, gro, rfl, _, _⟩ := (Ngr_2.out z) (by omega)
      obtain ⟨a, b, ea, eb, hb0, hbM, ha8, hl1, hl2, hcr, hrm⟩ := ex_part (D := D) (F := F) HOK.out hF hlt
      rw [HMM.out] at hbM hcr
      have E0 : ∀ z : Ext wx, z.v.cell? ⟨b1, of1 + k, none⟩ = some (.int .i64 (D.sh k)) := fun z => ((HI_2.out z).s.cell hlt).2
      have E1 : ∀ z : Ext wx, z.v.cell? ⟨gr0, gro + k, none⟩ = some (.int .i64 (RM D F k)) := fun z => ((Ngr_2.out z).cell hlt).2
      have E2 : ∀ z : Ext wx, z.v.cell? ⟨gg, k * 2, none⟩ = some (.int .i64 (a : Int)) ∧ z.v.cell? ⟨gg, k * 2 + 1, none⟩ = some (.int .i64 (b : Int)) := fun z => by
        obtain ⟨g', e, _, hc⟩ := (HP_2.out z) (by omega)
        have e2 : gg = g' := by simpa using e
        subst e2
        have := hc k hlt
        rw [ea, eb] at this
        exact this
      have E3 : ∀ z : Ext wx, z.v.cell? ⟨gg, k * 2, none⟩ = some (.int .i64 (a : Int)) := fun z => (E2 z).1
      have E4 : ∀ z : Ext wx, z.v.cell? ⟨gg, k * 2 + 1, none⟩ = some (.int .i64 (b : Int)) := fun z => (E2 z).2
      have hkm : (k : Int) < (D.n : Int) := by omega
      have v1 := HO3.out k hlt
      have v2 := RM_bd (fl := (F : Int)) HOK.out ⟨by omega, by omega⟩ k
      have v3 := sumN_bd (f := RM D F) (l := D.n) (fun i _ => by have := RM_bd (fl := (F : Int)) HOK.out ⟨by omega, by omega⟩ i; omega) k hk
      have hMb := HMb.out
      have hRED := Lib.hid (show ∀ V : World, Calls Try.prog 56 #[.int .i64 (a : Int), .int .i64 (b : Int)] V fun e w' => e = .returned (.agg #[.int .i64 (a : Int), .int .i64 (b : Int)]) ∧ Below V.heap.size V w' from fun V => by
        have := reduced_any a b V (by omega) hb0 (by omega)
        rw [hl1, hl2] at this
        exact this)
      have j1 : decide ((b : Int) < 1) = false := by simp; omega
      have j2 : decide (M < (b : Int)) = false := by simp; omega
      have j3 : decide ((a : Int) < 0) = false := by simp
      have j4 : decide (1000 < (a : Int)) = false := by simp; omega
      have m1 := mul_bd (a := (a : Int)) (b := M) (A := 800) (B := 100) ⟨by omega, by omega⟩ ⟨by omega, by omega⟩ (by omega)
      have m2 := mul_bd (a := (F : Int)) (b := D.sh k) (A := 40) (B := 20) ⟨by omega, by omega⟩ v1 (by omega)
      have e1 : IntKind.i64.wrap ((a : Int) * M) = (a : Int) * M := IntWalk.i64_in _ (by omega)
      have e2 : IntKind.i64.wrap ((F : Int) * D.sh k) = (F : Int) * D.sh k := IntWalk.i64_in _ (by omega)
      have e3 : IntKind.i64.wrap ((F : Int) * D.sh k * (b : Int)) = (F : Int) * D.sh k * (b : Int) := by rw [← hcr]; exact e1
      have j5 : ((a : Int) * M != (F : Int) * D.sh k * (b : Int)) = false := by simpa using hcr
      have hb1 : ¬ (b : Int) = 0 := by omega
      obtain ⟨nq, hnq⟩ : ∃ nq : Nat, a / b = nq := ⟨_, rfl⟩
      have hq8 : nq ≤ 800 := by rw [← hnq]; exact Nat.le_trans (Nat.div_le_self _ _) ha8
      have t1 : (a : Int).tdiv (b : Int) = (nq : Int) := by rw [tdiv_nat, hnq]
      have t2 : (a : Int) / (b : Int) = (nq : Int) := by rw [← hnq]; rfl
      rw [hnq] at hrm
      have e4 : IntKind.i64.wrap (nq : Int) = (nq : Int) := IntWalk.i64_in _ (by omega)
      have e5 : IntKind.i64.wrap ((nq : Int) + 1) = (nq : Int) + 1 := IntWalk.i64_in _ (by omega)
      have j6 : decide (RM D F k < (nq : Int)) = false := by simp; omega
      have j7 : decide ((nq : Int) + 1 < RM D F k) = false := by simp; omega
      have e6 : IntKind.i64.wrap (sumN (RM D F) k + RM D F k) = sumN (RM D F) (k + 1) := IntWalk.i64_in _ (by omega)
      have hMA := HMA.out
      have hMx : (if A < 1 then 1 else A) = M := hMA.symm
      have hMx2 : (if 1 < A then A else 1) = M := by rw [hMA]; split <;> split <;> omega
      have HNP := Lib.hid (fun w => neq_pair (a : Int) (b : Int) w)
      have hnp := HNP.out
      clear ea eb hbM ha8 hl1 hl2 hcr hrm v1 v2 v3 hMb m1 m2 hb0 hq8 hMA hnq
      go_wp2
      refine quiet_e (by kernel_rfl) (by kernel_rfl) ?_
      repeat (first | go_big_quiet_step ((first | (go_at_call 56; exact quiet_x (hRED.out _)))) | quiet_step ((first | (go_at_call 56; exact quiet_x (hRED.out _)))))
      refine wpQuiet_nil ?_
      intro w6 hw6
      obtain ⟨y2, rfl⟩ := hw6
      go_wp2
      refine quiet_e (by kernel_rfl) (by kernel_rfl) ?_
      repeat (first | go_big_quiet_step (fail) | quiet_step (fail))
      refine wpQuiet_nil ?_
      intro w6 hw6
      obtain ⟨y3, rfl⟩ := hw6
      go_wp2
      go_roundw
      case rel => exact ⟨k + 1, by go_num, rfl, hlt, y3, rfl⟩
      case measure => first | (simp [intOf]; done) | (simp [intOf]; omega)
    · have hkn : k = D.n := by omega
      have j : decide ((k : Int) < (D.n : Int)) = false := by simp; omega
      by_cases ha : A = 0
      · have hs : sumN (RM D F) k = 0 := sum_RM0 (HAA.out.trans ha) k
        have ja : (A == 0) = true := by simpa using ha
        have HRS := Lib.hid hs
        rw [hs]
        clear hs ha hkn
        go_wp2_with fail
        refine (quiet_x (works_ex _)).mono ?_
        rintro e w' ⟨rfl, y9, rfl⟩
        go_wp2
        go_ret
        exact ⟨rfl, HW_2.out y9⟩
      · have hs : sumN (RM D F) k = (F : Int) := by rw [hkn]; exact sum_RM HOK.out (by rw [HAA.out]; exact ha)
        have ja : (A == 0) = false := by simpa using ha
        rw [hs]
        clear hs ha hkn
        go_wp2_with fail
        refine (quiet_x (works_ex _)).mono ?_
        rintro e w' ⟨rfl, y9, rfl⟩
        go_wp2
        go_ret
        exact ⟨rfl, HW_2.out y9⟩
theorem rounding_law (D : Bx) (p q : Option Addr) (c d : Nat) (fl : Int) (w : World) (hn : D.n ≤ maxLen) (hm : D.m ≤ maxLen) (hi : BxIn w w.heap.size D p q) :
    Calls Try.prog 12 #[.agg #[.slice p D.n c, .slice q D.m d], .int .i64 fl] w fun e w' => e = .returned (.bool true) ∧ Below w.heap.size w w' := by
  cases hr : rdy D fl with
  | false => exact rounding_out D p q c d fl w hn hm hi hr
  | true =>
    obtain ⟨_, _, hok, F, rfl, hF⟩ := rdy_parts hr
    exact rounding_in D p q c d F w hi hr hok hF
end Go.Proofs.Ythbicbmlbblflaa
