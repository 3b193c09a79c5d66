/- Towns with worlds: with, and the worlds that are left, by the program. -/
import Derived.Test.YtdjkbpenppdnlaaDoorE6

set_option linter.unusedSimpArgs false

set_option linter.unusedVariables false

namespace Go.Proofs.YtdjkbpenppdnlaaDoor

open Go.RowKit

theorem or_bits : ∀ k, k < 6 → ∀ m, m < 64 → bits BinOp.or IntKind.u64 ((m : Nat) : Int) (IntKind.u64.wrap ((2 : Int) ^ (min k 64))) = ((m ||| 2 ^ k : Nat) : Int) := by decide +kernel
theorem ret_u {a b : Int} (h : a = b) : Ending.returned (.int .u64 a) = .returned (.int .u64 b) := by rw [h]
theorem with_any (m k : Nat) (hk : k < 6) (hm : m < 64) (w : World) : Calls Tryd.prog 111 #[.int .u64 (m : Int), .int .i64 (k : Int)] w fun e w' => e = .returned (.int .u64 ((m ||| 2 ^ k : Nat) : Int)) ∧ w = w' := by
  have j : ((k : Int) < 0) = False := by simp
  have HB := Lib.hid (or_bits k hk m hm)
  clear hk hm
  go_enter Tryd.func111, Tryd.ntmps111
  go_wp2
  go_ret
  exact ⟨ret_u HB.out, rfl⟩
set_option maxRecDepth 100000 in
set_option maxHeartbeats 4000000 in
theorem leftOf_any (T : Tn) (A : Adr) (w : World) (hok : T.ok = true) (hi : TnIn w w.heap.size T A) :
    Calls Tryd.prog 72 #[A.val T] w fun e w' => e = .returned (.int .u64 (mk T.lft T.nw : Nat)) ∧ Below w.heap.size w w' := by
  obtain ⟨_, hnw, hnf, _, _⟩ := T.ok_parts hok
  obtain ⟨w1, x, hw1, hb1, hz1, F0, F1, F2, _⟩ := box_tn w T.wn A.wp A.fp T.nw A.wc T.nf A.fc
  have HI : Hid (∀ z : Ext w1, TnIn z.v z.v.heap.size T A) := fun z => (hi.bel hb1).bel z.b
  have HB := Lib.hid hb1
  have HO := Lib.hid hok
  clear hb1 hz1 hi hok F0
  unfold Adr.val
  go_enter Tryd.func72, Tryd.ntmps72
  go_wp2
  go_loopw [3, 9] (fun m i wr => ∃ k : Nat, m = .int .u64 ((mk T.lft k : Nat) : Int) ∧ i = .int .i64 k ∧ k ≤ T.nw ∧ ∃ x : Ext w1, wr = x.v) (fun _ i _ => T.nw - (intOf i).toNat)
  case atStart => exact ⟨0, rfl, rfl, Nat.zero_le _, x, rfl⟩
  case round =>
    clear hw1 x
    obtain ⟨k, rfl, rfl, hk, y, rfl⟩ := hrel
    by_cases hlt : k < T.nw
    · obtain ⟨q, o, hr, _, hc⟩ := (HI.out y).ws (by omega)
      have c0 : y.v.cell? ⟨q, o + k, none⟩ = some (.slice (A.rp k) (T.rl k) (A.rc k)) := hc k (by omega)
      obtain ⟨w2, z0, hw2, hb2, hz2, G0, _⟩ := box_wd y.v (A.rp k) (T.rl k) (A.rc k)
      have hbz := bT hb2 z0.b
      have HBZ := Lib.hid (bT y.b hbz)
      have f2 : z0.v.cell? ⟨w.heap.size, 2, none⟩ = some (.slice A.fp T.nf A.fc) := F2 ⟨z0.v, bT y.b hbz⟩
      have hlg : y.v.heap.size < z0.v.heap.size := by have := z0.b.size; omega
      have HC := isEachF_any T.nf A.fc T (T.agr k) A.fp 109 #[.pointer (some ⟨y.v.heap.size, 0, none⟩)] z0.v (by unfold maxLen; omega) ((HI.out y).bel hbz).fs (enters_of Tryd.func109 (by kernel_rfl) rfl)
        (fun V hV f hf => left1_any T A k f y.v.heap.size HO.out hlt hf V (((HI.out y).bel hbz).bel hV) (Nat.lt_of_lt_of_le hlg hV.size) (G0 ⟨V, bT z0.b hV⟩))
      rw [hr]
      have j : decide ((k : Int) < (T.nw : Int)) = true := by simp; omega
      clear hc hb2 hz2 hbz hlg G0 hr
      have HM := Lib.hid (show mk T.lft k < 64 from mk_64 (by omega))
      have hk6 : k < 6 := by omega
      cases hl : T.lft k with
      | true =>
        have HS := Lib.hid (show mk T.lft k ||| 2 ^ k = mk T.lft (k + 1) from mk_or hk6 hl)
        rw [show allN (T.agr k) T.nf = true from hl] at HC
        replace HC := Lib.hid HC
        clear hl
        go_wp2_with fail
        refine (HC.out).mono ?_
        rintro e w3 ⟨rfl, hb3⟩
        obtain ⟨z, rfl⟩ : ∃ z : Ext w1, w3 = z.v := ⟨⟨w3, bT HBZ.out hb3⟩, rfl⟩
        clear hb3
        go_wp2_with fail
        refine (with_any _ _ hk6 HM.out _).mono ?_
        rintro e w4 ⟨rfl, rfl⟩
        go_wp2
        go_roundw
        case rel => exact ⟨k + 1, by rw [HS.out], by go_num, hlt, z, rfl⟩
        case measure => first | (simp [intOf]; done) | (simp [intOf]; omega)
      | false =>
        have HS := Lib.hid (mk_skip hl)
        rw [show allN (T.agr k) T.nf = false from hl] at HC
        replace HC := Lib.hid HC
        clear hl
        go_wp2_with fail
        refine (HC.out).mono ?_
        rintro e w3 ⟨rfl, hb3⟩
        obtain ⟨z, rfl⟩ : ∃ z : Ext w1, w3 = z.v := ⟨⟨w3, bT HBZ.out hb3⟩, rfl⟩
        clear hb3
        go_wp2
        go_roundw
        case rel => exact ⟨k + 1, by rw [HS.out], by go_num, hlt, z, rfl⟩
        case measure => first | (simp [intOf]; done) | (simp [intOf]; omega)
    · have HE := Lib.hid (show k = T.nw by omega)
      have j : decide ((k : Int) < (T.nw : Int)) = false := by simp; omega
      go_wp2
      go_ret
      exact ⟨ret_u (by rw [HE.out]), bT HB.out y.b⟩
end Go.Proofs.YtdjkbpenppdnlaaDoor
