/- The contract of SameInts: it says whether two lists of numbers are equal, for any two. -/
import Derived.Test.YtmfbfcknnjbabaaA1
set_option linter.unusedSimpArgs false
set_option linter.unusedVariables false
namespace Go.Proofs.Ytmfbfcknnjbabaa
open Go.RowKit

/-- the slice value v reads as the ints xs, in blocks below B -/
structure IntsAt (w : World) (B : Nat) (b o : Nat) (xs : List Int) : Prop where
  lt : b < B
  cell : ∀ k, k < xs.length → w.cell? ⟨b, o + k, none⟩ = some (.int .i64 (xs[k]?.getD 0))

def Pre (xs ys : List Int) (k : Nat) : Prop := xs.take k = ys.take k
theorem pre_succ {xs ys : List Int} {k : Nat} (h : Pre xs ys k) (hx : k < xs.length) (hy : k < ys.length) (e : xs[k] = ys[k]) : Pre xs ys (k+1) := by
  unfold Pre at *
  rw [List.take_add_one, List.take_add_one, h, List.getElem?_eq_getElem hx, List.getElem?_eq_getElem hy, e]
theorem pre_all {xs ys : List Int} {k : Nat} (h : Pre xs ys k) (hx : xs.length ≤ k) (hy : ys.length ≤ k) : decide (xs = ys) = true := by
  unfold Pre at h
  rw [List.take_of_length_le hx, List.take_of_length_le hy] at h
  simp [h]
theorem ne_all {xs ys : List Int} {k : Nat} (hx : k < xs.length) (hy : k < ys.length) (e : (xs[k] != ys[k]) = true) : false = decide (xs = ys) := by
  symm; apply decide_eq_false; rintro rfl; simp at e

theorem sameInts_any (xs ys : List Int) (p q : Option Addr) (c d : Nat) (w : World) (hx : xs.length ≤ 1000000) (hy : ys.length ≤ 1000000)
    (h1 : 0 < xs.length → ∃ b o, p = some ⟨b, o, none⟩ ∧ IntsAt w w.heap.size b o xs) (h2 : 0 < ys.length → ∃ b o, q = some ⟨b, o, none⟩ ∧ IntsAt w w.heap.size b o ys) :
    Calls Try.prog 23 #[.slice p xs.length c, .slice q ys.length d] w fun e w' => e = .returned (.bool (decide (xs = ys))) ∧ ∃ n, w' = w.drewN n := by
  by_cases hl : xs.length = ys.length
  · have hd : ((xs.length : Int) != (ys.length : Int)) = false := by rw [bne_eq_false_iff_eq]; omega
    have H1 := Lib.hid h1; have H2 := Lib.hid h2; have HL := Lib.hid hl; clear h1 h2 hl
    go_enter Try.func23, Try.ntmps23
    go_wp2
    go_loopw [5] (fun i wr => ∃ k n : Nat, i = .int .i64 k ∧ k ≤ xs.length ∧ Pre xs ys k ∧ wr = w.drewN n) (fun i _ => xs.length - (intOf i).toNat)
    case atStart => exact ⟨0, 0, rfl, Nat.zero_le _, rfl, rfl⟩
    case round =>
      obtain ⟨k, n, rfl, hk, hp, rfl⟩ := hrel
      have HP := Lib.hid hp; clear hp
      by_cases hlt : k < xs.length
      · obtain ⟨b1, o1, rfl, ⟨_, hc1⟩⟩ := H1.out (by omega)
        have hlt2 : k < ys.length := by have := HL.out; omega
        obtain ⟨b2, o2, rfl, ⟨_, hc2⟩⟩ := H2.out (by omega)
        have e1 := hc1 k hlt
        have e2 := hc2 k hlt2
        clear hc1 hc2 H1 H2
        go_wp2
        go_quiet (fail)
        go_wp2
        · go_ret
          exact ⟨ret_b (ne_all hlt hlt2 (by assumption)), _, World.drewN_drewN _ _ _⟩
        · have hb : (xs[k] != ys[k]) = false := by assumption
          go_roundw
          case rel => exact ⟨k + 1, _, by go_num, hlt, pre_succ HP.out hlt hlt2 (by simpa using hb), rfl⟩
          case measure => simp [intOf]; omega
      · go_wp2
        go_ret
        have := HL.out
        exact ⟨ret_b (pre_all HP.out (by omega) (by omega)).symm, _, rfl⟩
  · have hd : ((xs.length : Int) != (ys.length : Int)) = true := by rw [bne_iff_ne]; omega
    go_enter Try.func23, Try.ntmps23
    go_wp2
    go_ret
    exact ⟨ret_b (by symm; apply decide_eq_false; rintro rfl; exact hl rfl), 0, rfl⟩
end Go.Proofs.Ytmfbfcknnjbabaa
