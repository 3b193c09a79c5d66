/- Worlds as bits: the lowest bit. -/
import Derived.Test.YtdjkbpenppdnlaaDoorE7

import Derived.Test.YtdjkbpenppdnlaaDoorB1

set_option linter.unusedSimpArgs false

set_option linter.unusedVariables false

namespace Go.Proofs.YtdjkbpenppdnlaaDoor

open Go.RowKit

def tzE (m : Nat) : Int := IntKind.u64.wrap (bits BinOp.and IntKind.u64 ((m : Nat) : Int) (IntKind.u64.wrap (-((m : Nat) : Int))) * 285870213051353865) / 288230376151711744
theorem tzE_ok : ∀ m, m < 64 → m ≠ 0 → tzE m = ((tzE m).toNat : Int) ∧ (tzE m).toNat < 64 ∧ tab64.getD (tzE m).toNat 0 = ((tz m : Nat) : Int) := by decide +kernel
set_option maxRecDepth 100000 in
set_option maxHeartbeats 1000000 in
theorem tz64_any (m : Nat) (hm : m < 64) (h0 : m ≠ 0) (w : World) (hg : GlobsOk laid w) :
    Calls Tryd.prog 134 #[.int .u64 (m : Int)] w fun e w' => e = .returned (.int .i64 (tz m : Nat)) ∧ w = w' := by
  have j : ((m : Int) == 0) = false := by simp; omega
  obtain ⟨h1, h2, h3⟩ := tzE_ok m hm h0
  have hC := (laid_tab64 hg).2 _ h2
  rw [h3] at hC
  have ht := (bits_less m hm h0).2
  obtain ⟨i, hi⟩ : ∃ i, (tzE m).toNat = i := ⟨_, rfl⟩
  rw [hi] at h1 h2 hC
  unfold tzE at h1
  obtain ⟨t, htz⟩ : ∃ t, tz m = t := ⟨_, rfl⟩
  rw [htz] at hC ht ⊢
  have hi2 : (i : Int) < 64 := by omega
  have ht2 : IntKind.i64.wrap (t : Int) = (t : Int) := IntWalk.i64_in _ (by omega)
  clear hg hi htz h3
  go_enter Tryd.func134, Tryd.ntmps134
  go_wp2
  go_ret
  exact ⟨rfl, rfl⟩
theorem tz_any (m : Nat) (hm : m < 64) (h0 : m ≠ 0) (w : World) (hg : GlobsOk laid w) :
    Calls Tryd.prog 112 #[.int .u64 (m : Int)] w fun e w' => e = .returned (.int .i64 (tz m : Nat)) ∧ w = w' := by
  have HZ := Lib.hid (tz64_any m hm h0 w hg)
  clear hm h0 hg
  go_enter Tryd.func112, Tryd.ntmps112
  go_wp2_with fail
  refine HZ.out.mono ?_
  rintro e w' ⟨rfl, rfl⟩
  go_wp2
  go_ret
  exact ⟨rfl, rfl⟩
end Go.Proofs.YtdjkbpenppdnlaaDoor
