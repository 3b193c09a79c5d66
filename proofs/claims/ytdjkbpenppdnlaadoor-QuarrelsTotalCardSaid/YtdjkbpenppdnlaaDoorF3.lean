/- Worlds as bits: each of them, one after the other; what is collected of them. -/
import Derived.Test.YtdjkbpenppdnlaaDoorF1

import Derived.Test.YtdjkbpenppdnlaaDoorF2

import Derived.Sort.BigQuietIn

import Derived.Sort.QuietTacIn

set_option linter.unusedSimpArgs false

set_option linter.unusedVariables false

namespace Go.Proofs.YtdjkbpenppdnlaaDoor

open Go.RowKit Go.Shelf
attribute [local go_sem] Oper.semAt_some

theorem bits_and : ∀ m, m < 64 → m ≠ 0 → bits BinOp.and IntKind.u64 ((m : Nat) : Int) (IntKind.u64.wrap (((m : Nat) : Int) - 1)) = ((m &&& (m - 1) : Nat) : Int) := by decide +kernel
def natV (v : Value) : Nat := match v with | .int _ i => i.toNat | _ => 0
set_option maxRecDepth 100000 in
set_option maxHeartbeats 2000000 in
theorem each_any (m l n : Nat) (J Jx : List Nat → World → Prop) (W : World) (hm : m < 64) (hJ : ∀ s A B, J s A → Below A.heap.size A B → J s B) (hK : ∀ s A, J s A → GlobsOk laid A)
    (hY : ∀ n' pre (x : Nat) A, J pre A → pre ++ [x] <+: bitsM m → YieldAt Fence.wide n' Tryd.prog l #[.int .i64 (x : Int)] A fun e A' => (e = .returned (.bool true) ∧ J (pre ++ [x]) A') ∨ (e = .returned (.bool false) ∧ Jx (pre ++ [x]) A')) (h0 : J [] W) :
    CallsIn Fence.wide n Tryd.prog 73 #[.int .u64 (m : Int), .func (.yield l) #[] #[]] W fun e A' => (∃ v, e = .returned v) ∧ ((∃ xs, xs = bitsM m ∧ J xs A') ∨ (∃ pre, pre <+: bitsM m ∧ Jx pre A')) := by
  have HJ := Lib.hid hJ; have HY := Lib.hid hY; have HK := Lib.hid hK
  have HJ0 := Lib.hid h0
  have HM := Lib.hid hm
  clear hJ hY hK h0
  refine callsIn_of_wp Tryd.func73 rfl trivial ?_ rfl
  simp only [Tryd.ntmps73, List.size_toArray, List.length_cons, List.length_nil, Nat.reduceAdd, Nat.reduceSub, Array.replicate_succ, Array.replicate_zero, List.push_toArray, List.append_toArray, List.nil_append, List.cons_append]
  gi_wp2
  gi_loopw [0] (fun s wr => ∃ (k : Nat) (pre : List Nat), s = .int .u64 (k : Int) ∧ k < 64 ∧ pre ++ bitsM k = bitsM m ∧ J pre wr) (fun s _ => natV s)
  case atStart => exact ⟨m, [], rfl, HM.out, rfl, HJ0.out⟩
  case round =>
    obtain ⟨k, pre, rfl, hk, hpre, hj⟩ := hrel
    have HJJ := Lib.hid hj; have HP := Lib.hid hpre; have HK64 := Lib.hid hk
    clear hj hpre
    by_cases hz : k = 0
    · subst hz
      have HE := Lib.hid (show pre = bitsM m by have := HP.out; rwa [bits_zero, List.append_nil] at this)
      have j : ((0 : Int) != 0) = false := by simp
      gi_wp2
      go_end0
      exact ⟨⟨_, rfl⟩, .inl ⟨_, HE.out, HJJ.out⟩⟩
    · have j : ((k : Int) != 0) = true := by simp; omega
      have HT := Lib.hid (tz_any k hk hz wr (HK.out _ _ HJJ.out))
      have hb := bits_less k hk hz
      have HS := Lib.hid (show (pre ++ [tz k]) ++ bitsM (k &&& (k - 1)) = bitsM m by rw [← HP.out, bits_step k hk hz]; simp)
      have HL := Lib.hid hb
      have e1 := bits_and k hk hz
      obtain ⟨t, ht⟩ : ∃ t, tz k = t := ⟨_, rfl⟩
      obtain ⟨k2, hk2⟩ : ∃ k2, k &&& (k - 1) = k2 := ⟨_, rfl⟩
      rw [ht] at HS HT HL
      rw [hk2] at HS HL e1
      clear ht hk2 hb hz
      gi_wp2
      refine ⟨trivial, (fun h => by cases h), ?_⟩
      refine (callsIn_wide.2 HT.out).mono ?_
      rintro e w3 ⟨rfl, rfl⟩
      have hyy := HY.out (n - 1) _ t wr HJJ.out ⟨_, HS.out⟩
      obtain ⟨fn, tmps, assign, body, hy, hR⟩ := hyy
      have HRR := Lib.hid hR; clear hR
      gi_wp2
      refine ⟨(fun h => by cases h), ?_⟩
      refine HRR.out.mono ?_
      rintro e W' (⟨rfl, hj4⟩ | ⟨rfl, hx4⟩)
      · have HJ4 := Lib.hid hj4
        clear hj4 hy
        gi_wp2
        go_roundw
        case rel => exact ⟨k2, pre ++ [t], rfl, by have := HL.out; have := HK64.out; omega, HS.out, HJ4.out⟩
        case measure => have := HL.out; simp [natV]; omega
      · have HX4 := Lib.hid hx4; clear hx4
        gi_wp2
        refine bodyPost_ret (results_none rfl _ _ _) rfl ?_
        exact ⟨⟨_, rfl⟩, .inr ⟨_, ⟨_, HS.out⟩, HX4.out⟩⟩
theorem bits_len (m : Nat) : (bitsM m).length ≤ 6 := pick_len
theorem bits_pre {m : Nat} {l : List Nat} (h : l <+: bitsM m) : l.length ≤ 6 := Nat.le_trans h.length_le (bits_len m)
theorem bits_lt {m x : Nat} {l : List Nat} (h : l ++ [x] <+: bitsM m) : x < 6 := by
  have : x ∈ bitsM m := h.subset (by simp)
  exact (pick_mem.1 this).1
end Go.Proofs.YtdjkbpenppdnlaaDoor
