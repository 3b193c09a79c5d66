/- The contracts of numbers, and of what it returns. -/
import Derived.Test.YtmfbfcknnjbabaaD3
set_option linter.unusedSimpArgs false
set_option linter.unusedVariables false
namespace Go.Proofs.Ytmfbfcknnjbabaa
open Go.RowKit Go.Shelf
attribute [local go_sem] Oper.semAt_some

/-- the numbers from lo on, k of them -/
def nums (lo : Int) (k : Nat) : List Int := (List.range k).map fun i : Nat => lo + (i : Int)
theorem nums_succ (lo : Int) (k : Nat) : nums lo (k + 1) = nums lo k ++ [lo + k] := by simp [nums, List.range_succ]
theorem nums_pre (lo : Int) {k n : Nat} (h : k ≤ n) : nums lo k <+: nums lo n := by
  induction n with
  | zero => obtain rfl : k = 0 := by omega
            exact List.prefix_refl _
  | succ n ih =>
    rcases Nat.lt_or_ge n k with h1 | h1
    · obtain rfl : k = n + 1 := by omega
      exact List.prefix_refl _
    · rw [nums_succ]; exact (ih h1).trans ⟨_, rfl⟩

/-- numbers -/
theorem numbers_ex (lo hi : Int) (w : World) :
    Calls Try.prog 96 #[.agg #[.int .i64 lo, .int .i64 hi]] w fun e w' => e = .returned (.func (.func 103) #[] #[.pointer (some ⟨w.heap.size, 0, none⟩)]) ∧ w.alloc (.cells #[.int .i64 lo, .int .i64 hi] 38) = w' := by
  go_enter Try.func96, Try.ntmps96
  go_wp2
  go_ret
  exact ⟨rfl, rfl⟩

set_option maxRecDepth 100000 in
set_option maxHeartbeats 2000000 in
/-- what the iterator does -/
theorem numbers1_any (m l b : Nat) (lo hi : Int) (N B : Nat) (J Jx : List Int → World → Prop) (W : World) (hlo : -10000000 ≤ lo) (hlo2 : lo ≤ 10000000) (hN : N ≤ 10000000) (hh : lo + N = hi + 1) (hB : B ≤ W.heap.size)
    (hJ : ∀ s A A', J s A → Below B A A' → J s A')
    (hY : ∀ m pre x A, J pre A → lo ≤ x ∧ x ≤ hi → YieldAt Fence.wide m Try.prog l #[.int .i64 x] A fun e A' => (e = .returned (.bool true) ∧ J (pre ++ [x]) A' ∧ Kp B A A') ∨ (e = .returned (.bool false) ∧ Jx (pre ++ [x]) A'))
    (hC : ∀ s A, J s A ∨ Jx s A → A.cell? ⟨b, 0, none⟩ = some (.int .i64 lo) ∧ A.cell? ⟨b, 1, none⟩ = some (.int .i64 hi)) (h0 : J [] W) :
    CallsIn Fence.wide m Try.prog 103 #[.func (.yield l) #[] #[], .pointer (some ⟨b, 0, none⟩)] W fun e A' => (∃ v, e = .returned v) ∧
      ((∃ xs : List Int, xs = nums lo N ∧ J xs A') ∨ (∃ pre : List Int, pre <+: nums lo N ∧ Jx pre A')) := by
  obtain ⟨c0, c1⟩ := hC [] W (.inl h0)
  have H0 := Lib.hid h0; clear h0
  refine callsIn_of_wp Try.func103 rfl trivial ?_ rfl
  simp only [Try.ntmps103, List.size_toArray, List.length_cons, List.length_nil, Nat.reduceAdd, Nat.reduceSub, Array.replicate_succ, Array.replicate_zero, List.push_toArray, List.append_toArray, List.nil_append, List.cons_append]
  gi_wp2
  gi_loopw [3] (fun i wr => ∃ k : Nat, i = .int .i64 (lo + k) ∧ k ≤ N ∧ J (nums lo k) wr) (fun i _ => (hi + 1 - intOf i).toNat)
  case atStart => exact ⟨0, by simp, Nat.zero_le _, by simpa [nums] using H0.out⟩
  case round =>
    obtain ⟨k, rfl, hk, hj⟩ := hrel
    obtain ⟨d0, d1⟩ := hC _ _ (.inl hj)
    by_cases hlt : k < N
    · obtain ⟨fn, tmps, assign, body, hy, hR⟩ := hY (m - 1) _ (lo + k) wr hj ⟨by omega, by omega⟩
      have hle : lo + k ≤ hi := by omega
      have HRR := Lib.hid hR; have HC := Lib.hid hC; have HY := Lib.hid hY
      clear hR hC hY hj c0 c1
      gi_wp2
      refine ⟨(fun h => by cases h), ?_⟩
      refine HRR.out.mono ?_
      rintro e W' (⟨rfl, hj2, hk2⟩ | ⟨rfl, hx2⟩)
      · have HJ2 := Lib.hid hj2; clear hj2 hk2
        gi_wp2
        go_roundw
        case rel => exact ⟨k + 1, by go_num, hlt, by rw [nums_succ]; exact HJ2.out⟩
        case measure => simp [intOf]; go_num
      · have HX2 := Lib.hid hx2; clear hx2
        gi_wp2
        refine bodyPost_ret (results_none rfl _ _ _) rfl ?_
        exact ⟨⟨_, rfl⟩, .inr ⟨_, by rw [← nums_succ]; exact nums_pre lo hlt, HX2.out⟩⟩
    · obtain rfl : k = N := by omega
      have HJK := Lib.hid hj
      have hle : ¬ (lo + (k : Int) ≤ hi) := by omega
      clear hC hY hj c0 c1
      gi_wp2
      go_end0
      exact ⟨⟨_, rfl⟩, .inl HJK.out⟩
end Go.Proofs.Ytmfbfcknnjbabaa
