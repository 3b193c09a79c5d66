/- The contract of own. -/
import Derived.Test.YtmfbfcknnjbabaaB4
set_option linter.unusedSimpArgs false
set_option linter.unusedVariables false
namespace Go.Proofs.Ytmfbfcknnjbabaa
open Go.RowKit

def mn (a b : Int) : Int := if b < a then b else a
def ownTo (T : Town) (u : Int) : Nat → Int
  | 0 => 99
  | k + 1 => match T.s[k]? with
    | none => ownTo T u k
    | some s => if s.well = u then mn (ownTo T u k) s.high else ownTo T u k
def ownOf (T : Town) (u : Int) : Int := ownTo T u T.s.length

set_option maxRecDepth 100000 in
set_option maxHeartbeats 1000000 in
theorem own_any (T : Town) (u : Int) (p q : Option Addr) (c d : Nat) (w : World) (hs : T.s.length ≤ 1000000) (ht : TownIn w w.heap.size T p q) :
    Calls Try.prog 97 #[.agg #[.int .i64 T.W, .slice p T.s.length c, .slice q T.r.length d], .int .i64 u] w fun e w' => e = .returned (.int .i64 (ownOf T u)) ∧ Below w.heap.size w w' := by
  obtain ⟨w1, hw1, hb1, hz1, k0, k1, k2⟩ := box_town w T.W p q T.s.length T.r.length c d
  have HT := Lib.hid ((ht.below hb1).mono (B' := w1.heap.size) (by omega))
  have HB1 := Lib.hid hb1
  clear ht hb1 hz1
  go_enter Try.func97, Try.ntmps97
  go_wp2
  clear hw1
  go_loopw [5, 11] (fun a i wr => ∃ k : Nat, i = .int .i64 k ∧ k ≤ T.s.length ∧ a = .int .i64 (ownTo T u k) ∧ Below w1.heap.size w1 wr) (fun _ i _ => T.s.length - (intOf i).toNat)
  case atStart => exact ⟨0, rfl, Nat.zero_le _, rfl, Below.refl _ _⟩
  case round =>
    obtain ⟨k, rfl, hk, rfl, hb⟩ := hrel
    have HB := Lib.hid hb; clear hb
    obtain ⟨acc, hacc⟩ : ∃ y, ownTo T u k = y := ⟨_, rfl⟩
    by_cases hlt : k < T.s.length
    · obtain ⟨b, o, rfl, hbl, hsn⟩ := (HT.out.below HB.out).s (by omega)
      have e0 := hsn.c0 k hlt
      have e1 := hsn.c1 k hlt
      have e2 := hsn.c2 k hlt
      obtain ⟨s0, hs0⟩ : ∃ s, T.s[k].well = s := ⟨_, rfl⟩
      obtain ⟨s2, hs2⟩ : ∃ s, T.s[k].high = s := ⟨_, rfl⟩
      rw [hs0] at e0; rw [hs2] at e2
      have hst : ownTo T u (k + 1) = if s0 = u then mn acc s2 else acc := by simp only [ownTo, List.getElem?_eq_getElem hlt, hs0, hs2, hacc]
      rw [hacc]
      clear hsn hs0 hs2 hacc
      by_cases he : s0 = u
      · have hb : (s0 == u) = true := by simp [he]
        rw [if_pos he] at hst
        unfold mn at hst
        have HS := Lib.hid hst
        clear hst he
        go_wp2_with (fail)
        by_cases hc : s2 < acc
        · go_wp2
          go_roundw
          case rel => exact ⟨k + 1, by go_num, hlt, by rw [HS.out, if_pos hc], bA HB.out _⟩
          case measure => simp [intOf]; omega
        · go_wp2
          go_roundw
          case rel => exact ⟨k + 1, by go_num, hlt, by rw [HS.out, if_neg (by omega)], bA HB.out _⟩
          case measure => simp [intOf]; omega
      · have hb : (s0 == u) = false := by simp [he]
        rw [if_neg he] at hst
        have HS := Lib.hid hst
        clear hst he
        go_wp2
        go_roundw
        case rel => exact ⟨k + 1, by go_num, hlt, by rw [HS.out], bA HB.out _⟩
        case measure => simp [intOf]; omega
    · obtain rfl : k = T.s.length := by omega
      clear hacc
      go_wp2
      go_ret
      exact ⟨rfl, bT HB1.out HB.out⟩
end Go.Proofs.Ytmfbfcknnjbabaa
