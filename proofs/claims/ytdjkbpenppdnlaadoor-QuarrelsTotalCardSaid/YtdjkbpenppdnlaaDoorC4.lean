/- Towns with worlds: what a statement does not examine. -/
import Derived.Test.YtdjkbpenppdnlaaDoorE4

set_option linter.unusedSimpArgs false

set_option linter.unusedVariables false

namespace Go.Proofs.YtdjkbpenppdnlaaDoor

open Go.RowKit

def Tn.rowsB (T : Tn) (k : Nat) : Bool := decide (T.rl k ≤ 40) && allN (fun i => decide (T.cl k i ≤ 40)) (T.rl k)
def Tn.sizedB (T : Tn) : Bool := decide (T.nw ≤ 40) && (decide (T.nf ≤ 40) && allN T.rowsB T.nw)
theorem sizedB_iff {T : Tn} : T.sizedB = true ↔ T.sized := by
  constructor
  · intro h
    simp only [Tn.sizedB, Bool.and_eq_true, decide_eq_true_eq] at h
    refine ⟨h.1, h.2.1, fun k hk => ?_, fun k hk i hi => ?_⟩ <;>
      (have := allN_iff.1 h.2.2 k hk; simp only [Tn.rowsB, Bool.and_eq_true, decide_eq_true_eq] at this)
    · exact this.1
    · have := allN_iff.1 this.2 i hi; simpa using this
  · intro h
    simp only [Tn.sizedB, Bool.and_eq_true, decide_eq_true_eq]
    refine ⟨h.w, h.f, allN_iff.2 fun k hk => ?_⟩
    simp only [Tn.rowsB, Bool.and_eq_true, decide_eq_true_eq]
    exact ⟨h.r k hk, allN_iff.2 fun i hi => by simpa using h.c k hk i hi⟩
set_option maxRecDepth 100000 in
set_option maxHeartbeats 4000000 in
theorem huge_any (T : Tn) (A : Adr) (w : World) (hnw : T.nw ≤ maxLen) (hnf : T.nf ≤ maxLen) (hrl : ∀ k, k < T.nw → T.rl k ≤ maxLen ∧ ∀ i, i < T.rl k → T.cl k i ≤ maxLen) (hi : TnIn w w.heap.size T A) :
    Calls Tryd.prog 15 #[A.val T] w fun e w' => e = .returned (.bool (!T.sizedB)) ∧ Below w.heap.size w w' := by
  obtain ⟨w1, x, hw1, hb1, hz1, F0, F1, F2, _⟩ := box_tn w T.wn A.wp A.fp T.nw A.wc T.nf A.fc
  have HB := Lib.hid hb1
  have HI : Hid (∀ z : Ext w1, TnIn z.v z.v.heap.size T A) := fun z => (hi.bel hb1).bel z.b
  have HRL := Lib.hid hrl
  unfold maxLen at hnw hnf
  clear hb1 hz1 hi hrl F0
  unfold Adr.val
  by_cases h1 : 40 < T.nw
  · have j1 : decide (40 < (T.nw : Int)) = true := by simp; omega
    have HR := Lib.hid (show true = !T.sizedB by simp [Tn.sizedB]; omega)
    have f1 := F1 x; have f2 := F2 x
    clear h1 F1 F2
    go_enter Tryd.func15, Tryd.ntmps15
    go_wp2
    go_ret
    exact ⟨ret_b HR.out, bT HB.out x.b⟩
  have j1 : decide (40 < (T.nw : Int)) = false := by simp; omega
  by_cases h2 : 40 < T.nf
  · have j2 : decide (40 < (T.nf : Int)) = true := by simp; omega
    have HR := Lib.hid (show true = !T.sizedB by simp [Tn.sizedB]; omega)
    have f1 := F1 x; have f2 := F2 x
    clear h1 h2 F1 F2
    go_enter Tryd.func15, Tryd.ntmps15
    go_wp2
    go_ret
    exact ⟨ret_b HR.out, bT HB.out x.b⟩
  have j2 : decide (40 < (T.nf : Int)) = false := by simp; omega
  have f1 := F1 x; have f2 := F2 x
  have H1 := Lib.hid h1; have H2 := Lib.hid h2
  clear F2 h1 h2
  go_enter Tryd.func15, Tryd.ntmps15
  go_wp2
  clear j1 j2 hw1 f1 f2
  go_loopw [3] (fun i wr => ∃ k : Nat, i = .int .i64 k ∧ k ≤ T.nw ∧ allN T.rowsB k = true ∧ ∃ x : Ext w1, wr = x.v) (fun i _ => T.nw - (intOf i).toNat)
  case atStart => exact ⟨0, rfl, Nat.zero_le _, rfl, x, rfl⟩
  case round =>
    clear x
    obtain ⟨q, rfl, hq, ha, z, rfl⟩ := hrel
    have HA := Lib.hid ha
    clear ha
    by_cases hlq : q < T.nw
    · obtain ⟨b1, o1, hr1, -, -⟩ := (HI.out z).ws (by omega)
      have c0 : ∀ z : Ext w1, z.v.cell? ⟨b1, o1 + q, none⟩ = some (.slice (A.rp q) (T.rl q) (A.rc q)) := fun z => At.cell (f := fun i => .slice (A.rp i) (T.rl i) (A.rc i)) (by have := (HI.out z).ws; rwa [hr1] at this) (by omega)
      rw [hr1] at F1
      have a1 := F1 z; have a2 := c0 z
      have HL := Lib.hid hlq
      obtain ⟨hr, hc⟩ := HRL.out q hlq
      have HC := Lib.hid hc
      obtain ⟨n, hn⟩ : ∃ n, T.rl q = n := ⟨_, rfl⟩
      have HN := Lib.hid hn
      rw [hn] at c0 a2 hr
      unfold maxLen at hr
      have j : decide ((q : Int) < (T.nw : Int)) = true := by simp; omega
      clear hr1 hn hc
      by_cases h3 : 40 < n
      · have j3 : decide (40 < (n : Int)) = true := by simp; omega
        have i3 : decide (40 < n) = true := by simpa using h3
        have HR := Lib.hid (show true = !T.sizedB by
          rw [show T.sizedB = false from ?_]; rfl
          have : allN T.rowsB T.nw = false := allN_bad hlq (by simp [Tn.rowsB, HN.out]; omega)
          simp [Tn.sizedB, this])
        go_wp2
        go_ret
        exact ⟨ret_b HR.out, bT HB.out z.b⟩
      · have j3 : decide (40 < (n : Int)) = false := by simp; omega
        have i3 : decide (40 < n) = false := by simpa using h3
        have i3' : True := trivial
        have hn40 : n ≤ 40 := by omega
        go_wp2
        clear j j3 i3 i3' hlq hq a1 a2
        go_loopw [4] (fun i wr => ∃ k : Nat, i = .int .i64 k ∧ k ≤ n ∧ allN (fun i => decide (T.cl q i ≤ 40)) k = true ∧ ∃ x : Ext w1, wr = x.v) (fun i _ => n - (intOf i).toNat)
        case atStart => exact ⟨0, rfl, Nat.zero_le _, rfl, z, rfl⟩
        case round =>
          obtain ⟨i, rfl, hi, hal, y, rfl⟩ := hrel
          have HAL := Lib.hid hal
          clear hal
          have a1 := F1 y
          have a2 := c0 y
          by_cases hli : i < n
          · obtain ⟨b3, o3, hr3, -, -⟩ := (HI.out y).rs q HL.out (by rw [HN.out]; omega)
            have g0 : ∀ z : Ext w1, z.v.cell? ⟨b3, o3 + i, none⟩ = some (.slice (A.ip q i) (T.cl q i) (A.ic q i)) := fun z => At.cell (f := fun i => .slice (A.ip q i) (T.cl q i) (A.ic q i)) (by have := (HI.out z).rs q HL.out; rwa [hr3, HN.out] at this) (by omega)
            have a3 := g0 y
            have hcl := HC.out i (by rw [HN.out]; exact hli)
            rw [hr3] at c0 a2
            have j : decide ((i : Int) < (n : Int)) = true := by simp; omega
            clear hr3
            obtain ⟨m, hm⟩ : ∃ m, T.cl q i = m := ⟨_, rfl⟩
            have HM := Lib.hid hm
            rw [hm] at g0 a3 hcl
            unfold maxLen at hcl
            clear hm
            by_cases h4 : 40 < m
            · have j4 : decide (40 < (m : Int)) = true := by simp; omega
              have i4 : decide (40 < m) = true := by simpa using h4
              have HR := Lib.hid (show true = !T.sizedB by
                rw [show T.sizedB = false from ?_]; rfl
                have h5 : allN (fun i => decide (T.cl q i ≤ 40)) (T.rl q) = false := allN_bad (by rw [HN.out]; exact hli) (by simp [HM.out]; omega)
                have : allN T.rowsB T.nw = false := allN_bad HL.out (by simp [Tn.rowsB, h5])
                simp [Tn.sizedB, this])
              go_wp2
              go_ret
              exact ⟨ret_b HR.out, bT HB.out y.b⟩
            · have j4 : decide (40 < (m : Int)) = false := by simp; omega
              have i4 : decide (40 < m) = false := by simpa using h4
              have HN4 := Lib.hid (allN_succ HAL.out (show (fun i => decide (T.cl q i ≤ 40)) i = true by simp [HM.out]; omega))
              go_wp2
              go_roundw
              case rel => exact ⟨i + 1, by go_num, hli, HN4.out, y, rfl⟩
              case measure => first | (simp [intOf]; done) | (simp [intOf]; omega)
          · have j : decide ((i : Int) < (n : Int)) = false := by simp; omega
            have HN5 := Lib.hid (allN_succ HA.out (show T.rowsB q = true by
              have : i = n := by omega
              simp only [Tn.rowsB, Bool.and_eq_true, decide_eq_true_eq]
              rw [HN.out, ← this]
              exact ⟨by omega, HAL.out⟩))
            go_wp2
            go_roundw
            case rel => exact ⟨q + 1, by go_num, HL.out, HN5.out, y, rfl⟩
            case measure => have := HL.out; simp [intOf]; omega
    · have j : decide ((q : Int) < (T.nw : Int)) = false := by simp; omega
      have HR := Lib.hid (show false = !T.sizedB by
        have h1 := H1.out; have h2 := H2.out
        rw [show T.sizedB = true from ?_]; rfl
        simp only [Tn.sizedB, Bool.and_eq_true, decide_eq_true_eq]
        refine ⟨by omega, by omega, ?_⟩
        have := HA.out
        rwa [show q = T.nw by omega] at this)
      have f1 := F1 z
      go_wp2
      go_ret
      exact ⟨ret_b HR.out, bT HB.out z.b⟩
end Go.Proofs.YtdjkbpenppdnlaaDoor
